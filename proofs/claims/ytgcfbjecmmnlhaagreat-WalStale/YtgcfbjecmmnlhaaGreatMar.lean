/- WalStale: the walk, more than 15 records ahead, more than 15 behind. WalStale: the walk. -/
import Derived.Test.YtgcfbjecmmnlhaaGreatMao
import Derived.Test.YtgcfbjecmmnlhaaGreatMap
import Derived.Test.YtgcfbjecmmnlhaaGreatMaq
namespace Go.Proofs.YtgcfbjecmmnlhaaGreat
open Go.RowKit Go.Maps Go.ChangeMaps
set_option linter.unusedVariables false
set_option linter.unusedSimpArgs false
set_option maxRecDepth 100000

section
variable {w : World}
set_option maxHeartbeats 16000000 in
theorem stale_mm {aa ab : Option Addr} {na ca nb cb : Nat} {ma mb : List Rm} (hRa : RsV w aa na ma) (hna : na ≤ 9223372036854775807) (hRb : RsV w ab nb mb) (hnb : nb ≤ 9223372036854775807) (hc1 : 15 < na) (hc2 : 15 < nb) (keep : Int) : Calls Tryz.prog 8 #[.slice aa na ca, .int .i64 keep, .slice ab nb cb] w fun e w' => e = .returned (.bool true) ∧ Below w.heap.size w w' := by
  have CA : Hid (∀ wx, Calls Tryz.prog 17 #[] wx fun e w' => e = .returned (.bool true) ∧ Below wx.heap.size wx w') := awake8
  have CN : Hid (Calls Tryz.prog 9 #[.int .i64 31] w fun e w' => ∃ db, e = .returned (.tuple #[.pointer (some ⟨db, 0, none⟩), .int .i64 0]) ∧ Ds w.heap.size w' db 0 (newDk 31) ∧ Below w.heap.size w w') := sl_new w
  have CO : Hid (∀ wx db, Ds w.heap.size wx db 0 (newDk 31) → Below w.heap.size w wx → Calls Tryz.prog 10 #[.pointer (some ⟨db, 0, none⟩), .int .i64 1, .int .i64 30, .int .i64 1] wx fun e w' => ∃ S' l, e = .returned (.tuple #[.pointer (some ⟨l, 0, none⟩), .int .i64 0]) ∧ SlS w w' l 31 S' db 1 [] 0) := fun wx db q1 q2 => sl_open q1 q2
  have CFl : Hid (∀ wx l k S db run fs sure, k ≤ 1000 → SlS w wx l k S db run fs sure → Calls Tryz.prog 21 #[.pointer (some ⟨l, 0, none⟩)] wx fun e w' => ∃ S', e = .returned (.int .i64 0) ∧ SlS w w' l (k + 31) S' db run fs fs.length ∧ Kp isA w.heap.size wx w') := fun wx l k S db run fs sure q1 q2 => q2.flush q1
  have HRa : Hid (RsV w aa na ma) := hRa
  have HRb : Hid (RsV w ab nb mb) := hRb
  have hlena := hRa.len
  have hlenb := hRb.len
  clear hRa hRb
  go_enter Tryz.func8, Tryz.ntmps8
  go_wp2_with (first
    | (go_at_call 9; refine CN.out.mono ?_; rintro e w1 ⟨db, rfl, D1, b1⟩)
    | (go_at_call 10; refine (CO.out _ _ D1 b1).mono ?_; rintro e w2 ⟨S2, l, rfl, A2⟩))
  have HA : Hid _ := A2
  clear A2 CN CO D1
  go_loopw [11, 13] (fun av iv wr => ∃ (j : Nat) (fs : List ByteArray), j ≤ 15 ∧ iv = .int .i64 (j : Int) ∧ OwnS w.heap.size wr av fs ∧ SlS w wr l 31 S2 db 1 fs 0) (fun _ iv _ => 15 - (intOf iv).toNat)
  case atStart => exact ⟨0, [], Nat.zero_le _, rfl, OwnS.nil _ _, HA.out⟩
  case round =>
    obtain ⟨j, fs, hj, rfl, hO, hS⟩ := hrel
    by_cases hlt : j < 15
    · obtain ⟨g, o, I, T, ha, hg, hrg, hv, hh⟩ := HRa.out.at_ j (by omega)
      subst ha
      have CFw : Hid (∀ wx, Calls Tryz.prog 19 #[.agg (ma[j].s.A I T)] wx fun e w' => (∃ v', e = .returned v' ∧ RecV w v' (few8M ma[j])) ∧ Below wx.heap.size wx w') := fun wx => few8_any hv hh.im hh.tb
      have hsm : Hid (Small (few8M ma[j])) := hh.few8
      have CFr : Hid (∀ wx v', Below w.heap.size w wx → RecV w v' (few8M ma[j]) → Calls Tryz.prog 18 #[v'] wx fun r w' => r = .returned (.tuple #[.string (frameM (few8M ma[j])).1, .int .i64 (frameM (few8M ma[j])).2]) ∧ Below wx.heap.size wx w') := fun wx v' q1 q2 => Frame_any (q2.below q1) hsm.out
      have CAp : Hid (∀ wx v', SlS w wx l 31 S2 db 1 fs 0 → RecV w v' (few8M ma[j]) → Calls Tryz.prog 20 #[.pointer (some ⟨l, 0, none⟩), v'] wx fun e w' => ∃ x y fs', e = .returned (.tuple #[.int .i64 x, .int .i64 y]) ∧ SlS w w' l 31 S2 db 1 fs' 0 ∧ Kp isA w.heap.size wx w' ∧ ((y = 0 ∧ (frameM (few8M ma[j])).2 = 0 ∧ fs' = fs ++ [(frameM (few8M ma[j])).1]) ∨ (y ≠ 0 ∧ fs' = fs))) := fun wx v' q1 q2 => q1.append (q2.below q1.bel) hsm.out
      have HRg : Hid (∀ wx, Below w.heap.size w wx → wx.rangeAt g (o + j * 13) ((ma[j].s.A I T).toList)) := fun wx q => rangeAt_below hrg hg q
      have hr1 := HRg.out _ hS.bel
      have hsl := hS.len
      obtain ⟨ao, co, rfl⟩ := hO.ex
      have hi3 : j < na := by omega
      have hi2 : (j : Int) < (na : Int) := by omega
      have hi4 : (j : Int) < 15 := by omega
      clear hrg hv hh hsm hg
      generalize ma[j].s = sm at *
      generalize few8M ma[j] = fm at *
      generalize (frameM fm).1 = F at *
      generalize (frameM fm).2 = E at *
      have hfl : fs.length ≤ 100000 := by omega
      by_cases hE0 : E = 0
      · subst hE0
        go_wp2_with (first
          | (refine wpList_load_rcs (s := sm) (I := I) (T := T) _ rfl (.tmp 65) rfl rfl hr1 ?_; clear hr1)
          | (refine wpList_load_rcs (s := sm) (I := I) (T := T) _ rfl (.tmp 75) rfl rfl hr2 ?_)
          | (go_at_call 19; refine (CFw.out _).mono ?_; rintro e w3 ⟨⟨v', rfl, hv'⟩, b3⟩; have hn3 := hS.below b3; have hO3 := hO.below b3; clear hS hO; have hS := hn3; have hO := hO3; clear hn3 hO3)
          | (go_at_call 18; refine (CFr.out _ _ hS.bel hv').mono ?_; rintro e w4 ⟨rfl, b4⟩; have hn4 := hS.below b4; have hO4 := hO.below b4; clear hS hO; have hS := hn4; have hO := hO4; clear hn4 hO4; have hr2 := HRg.out _ hS.bel)
          | (go_at_call 20; refine (CAp.out _ _ hS hv').mono ?_; clear hS; rintro e w5 ⟨x, y, fs', rfl, hS, k5, hor⟩; have O5 := hO.kept k5; clear hO; have bA : Below w5.heap.size w5 (w5.alloc (.cells #[.string F] 9)) := (Below.refl _ _).alloc (Nat.le_refl _) _; have c0 : (w5.alloc (.cells #[.string F] 9)).cell? ⟨w5.heap.size, 0, none⟩ = some (.string F) := cell_new1 w5 _ 9; have O6 := O5.below bA; have S6 := hS.below bA; have hz6 := S6.bel.size; clear bA)
          | (at_builtin; refine wpList_append_str (B := w.heap.size) rfl (.tmp 87) (.tmp 89) rfl rfl O6 rfl c0 hz6 hfl ?_; intro v7 w7 O7 k7; have S7 := S6.keptS k7; obtain ⟨N7, HN7⟩ : ∃ N7, Hid (N7 = fs ++ [F]) := ⟨_, rfl⟩; rw [← HN7.out] at O7; obtain ⟨a7, c7, rfl⟩ := O7.ex))
        all_goals first
          | (have hy1 : (y == 0) = true := by assumption
             have hy : y = 0 := by simpa using hy1
             rcases hor with ⟨_, _, rfl⟩ | ⟨q, _⟩
             · go_roundw
               case rel => exact ⟨j + 1, fs ++ [F], by omega, by go_num, by rw [← HN7.out]; exact O7, S7⟩
               case measure => simp [intOf]; omega
             · exact absurd hy q)
          | (have hy1 : (y == 0) = false := by assumption
             have hy : y ≠ 0 := by simpa using hy1
             rcases hor with ⟨q, _⟩ | ⟨_, rfl⟩
             · exact absurd q hy
             · go_roundw
               case rel => exact ⟨j + 1, _, by omega, by go_num, O5, hS⟩
               case measure => simp [intOf]; omega)
      · have hE1 : (E == 0) = false := by simpa using hE0
        go_wp2_with (first
          | (refine wpList_load_rcs (s := sm) (I := I) (T := T) _ rfl (.tmp 65) rfl rfl hr1 ?_; clear hr1)
          | (refine wpList_load_rcs (s := sm) (I := I) (T := T) _ rfl (.tmp 75) rfl rfl hr2 ?_)
          | (go_at_call 19; refine (CFw.out _).mono ?_; rintro e w3 ⟨⟨v', rfl, hv'⟩, b3⟩; have hn3 := hS.below b3; have hO3 := hO.below b3; clear hS hO; have hS := hn3; have hO := hO3; clear hn3 hO3)
          | (go_at_call 18; refine (CFr.out _ _ hS.bel hv').mono ?_; rintro e w4 ⟨rfl, b4⟩; have hn4 := hS.below b4; have hO4 := hO.below b4; clear hS hO; have hS := hn4; have hO := hO4; clear hn4 hO4; have hr2 := HRg.out _ hS.bel)
          | (go_at_call 20; refine (CAp.out _ _ hS hv').mono ?_; clear hS; rintro e w5 ⟨x, y, fs', rfl, hS, k5, hor⟩; have O5 := hO.kept k5; clear hO; have bA : Below w5.heap.size w5 (w5.alloc (.cells #[.string F] 9)) := (Below.refl _ _).alloc (Nat.le_refl _) _; have c0 : (w5.alloc (.cells #[.string F] 9)).cell? ⟨w5.heap.size, 0, none⟩ = some (.string F) := cell_new1 w5 _ 9; have O6 := O5.below bA; have S6 := hS.below bA; have hz6 := S6.bel.size; clear bA)
          | (at_builtin; refine wpList_append_str (B := w.heap.size) rfl (.tmp 87) (.tmp 89) rfl rfl O6 rfl c0 hz6 hfl ?_; intro v7 w7 O7 k7; have S7 := S6.keptS k7; obtain ⟨N7, HN7⟩ : ∃ N7, Hid (N7 = fs ++ [F]) := ⟨_, rfl⟩; rw [← HN7.out] at O7; obtain ⟨a7, c7, rfl⟩ := O7.ex))
        rcases hor with ⟨_, q, _⟩ | ⟨_, rfl⟩
        · exact absurd q hE0
        · go_roundw
          case rel => exact ⟨j + 1, _, by omega, by go_num, O5, hS⟩
          case measure => simp [intOf]; omega
    · obtain rfl : j = 15 := by omega
      have hi2 : (15 : Int) < (na : Int) := by omega
      have HS : Hid (SlS w wr l 31 S2 db 1 fs 0) := hS
      obtain ⟨ao, co, rfl⟩ := hO.ex
      have HO : Hid (OwnS w.heap.size wr (.slice ao fs.length co) fs) := hO
      have hflen := hS.len
      have hfm := hS.lv.fit.frm
      have HFm : Hid _ := hfm
      clear hS hO HRa HA hfm hlt
      by_cases hk0 : keep < 0
      · go_wp2_with (first
          | (go_at_call 21; refine (CFl.out _ _ _ _ _ _ _ _ (by omega) HS.out).mono ?_; rintro e w6 ⟨S6, rfl, S6', k6⟩)
          | (go_at_call 17; refine (CA.out _).mono ?_; rintro e w9 ⟨rfl, b9⟩))
        go_ret
        exact ⟨rfl, thn S6'.bel b9⟩
      by_cases hk1 : (fs.length : Int) < keep
      · go_wp2_with (first
          | (go_at_call 21; refine (CFl.out _ _ _ _ _ _ _ _ (by omega) HS.out).mono ?_; rintro e w6 ⟨S6, rfl, S6', k6⟩)
          | (go_at_call 17; refine (CA.out _).mono ?_; rintro e w9 ⟨rfl, b9⟩))
        go_ret
        exact ⟨rfl, thn S6'.bel b9⟩
      obtain ⟨kp, rfl⟩ : ∃ m : Nat, keep = m := ⟨keep.toNat, by omega⟩
      have hkp : kp ≤ fs.length := by omega
      obtain ⟨_, hsc, hsp⟩ := HO.out.take hkp
      have hsl := fun W => sliceS_to (n := fs.length) kp hsc hsp W
      have CCu : Hid (∀ wx S6, SlS w wx l 62 S6 db 1 fs fs.length → Calls Tryz.prog 36 #[.pointer (some ⟨l, 0, none⟩), .int .i64 (1 + (off fs kp : Int)), .int .i64 2] wx fun e w' => ∃ S', e = .returned (.int .i64 0) ∧ SlS w w' l 93 S' db 2 (fs.take kp) kp ∧ Kp isA w.heap.size wx w') := fun wx S6 q => q.cut (r' := 2) (by omega) kp hkp _ (by omega) (by omega) (by omega)
      have hoz : (off fs fs.length : Int) ≤ 1740 := by have := HS.out.size; rw [off_all]; omega
      clear hsc hsp
      go_wp2_with (go_at_call 21; refine (CFl.out _ _ _ _ _ _ _ _ (by omega) HS.out).mono ?_; rintro e w6 ⟨S6, rfl, S6', k6⟩)
      have O6 := (HO.out.kept k6).take hkp
      have HO6 : Hid (OwnS w.heap.size w6 (.slice ao kp co) (fs.take kp)) := O6.1
      have HS6 : Hid _ := S6'
      clear O6 S6' HO HS k6 hsl
      go_loopw [12, 18] (fun pl ix wr => ∃ i : Nat, i ≤ kp ∧ ix = .int .i64 (i : Int) ∧ pl = .int .i64 (1 + (off fs i : Int)) ∧ wr = w6) (fun _ ix _ => kp - (intOf ix).toNat)
      case atStart => exact ⟨0, Nat.zero_le _, rfl, rfl, rfl⟩
      case round =>
        obtain ⟨i, hi, rfl, rfl, rfl⟩ := hrel
        by_cases hlt : i < kp
        · obtain ⟨g, ha, hcell⟩ := HO6.out.at_ (i := i) (by rw [List.length_take]; omega)
          subst ha
          have hgi : (fs.take kp)[i]'(by rw [List.length_take]; omega) = fs[i]'(by omega) := by simp
          rw [hgi] at hcell
          have hos := off_succ (l := fs) (i := i) (by omega)
          have hom := off_mono (l := fs) (i := i + 1) (j := fs.length) (by omega)
          have hi2 : (i : Int) < (kp : Int) := by omega
          have hq0 : (0 : Int) ≤ (off fs i : Int) := by omega
          have hq1 : (off fs i : Int) + (fs[i].size : Int) ≤ 1740 := by omega
          have HQ : Hid ((off fs (i + 1) : Int) = (off fs i : Int) + (fs[i].size : Int)) := (by omega : (off fs (i + 1) : Int) = (off fs i : Int) + (fs[i].size : Int))
          have hik : (i : Int) ≤ 300 := by omega
          clear hos hom hgi
          generalize fs[i] = f at *
          go_wp2
          go_roundw
          case rel => exact ⟨i + 1, by omega, by go_num, by rw [HQ.out]; congr 1; omega, by first | rfl | trivial⟩
          case measure => simp [intOf]; omega
        · obtain rfl : i = kp := by omega
          have hi2 : ¬ (i : Int) < (i : Int) := by omega
          clear hlt
          generalize hP : 1 + (off fs i : Int) = P at *
          clear hP
          go_wp2_with (go_at_call 36; refine (CCu.out _ _ HS6.out).mono ?_; rintro e w7 ⟨S7, rfl, S7', k7⟩)
          have HO7 : Hid (OwnS w.heap.size w7 (.slice ao i co) (fs.take i)) := HO6.out.kept k7
          have HS7 : Hid _ := S7'
          clear S7' HO6 HS6 CCu k7
          go_loopw [11, 19] (fun av iv wr => ∃ (j : Nat) (hs : List ByteArray), j ≤ 15 ∧ iv = .int .i64 (j : Int) ∧ OwnS w.heap.size wr av hs ∧ SlS w wr l 93 S7 db 2 hs i) (fun _ iv _ => 15 - (intOf iv).toNat)
          case atStart => exact ⟨0, _, Nat.zero_le _, rfl, HO7.out, HS7.out⟩
          case round =>
            obtain ⟨j, hs, hj, rfl, hO, hS⟩ := hrel
            by_cases hlt : j < 15
            · obtain ⟨g, o, I, T, ha, hg, hrg, hv, hh⟩ := HRb.out.at_ j (by omega)
              subst ha
              have CFw : Hid (∀ wx, Calls Tryz.prog 19 #[.agg (mb[j].s.A I T)] wx fun e w' => (∃ v', e = .returned v' ∧ RecV w v' (few8M mb[j])) ∧ Below wx.heap.size wx w') := fun wx => few8_any hv hh.im hh.tb
              have hsm : Hid (Small (few8M mb[j])) := hh.few8
              have CFr : Hid (∀ wx v', Below w.heap.size w wx → RecV w v' (few8M mb[j]) → Calls Tryz.prog 18 #[v'] wx fun r w' => r = .returned (.tuple #[.string (frameM (few8M mb[j])).1, .int .i64 (frameM (few8M mb[j])).2]) ∧ Below wx.heap.size wx w') := fun wx v' q1 q2 => Frame_any (q2.below q1) hsm.out
              have CAp : Hid (∀ wx v', SlS w wx l 93 S7 db 2 hs i → RecV w v' (few8M mb[j]) → Calls Tryz.prog 20 #[.pointer (some ⟨l, 0, none⟩), v'] wx fun e w' => ∃ x y fs', e = .returned (.tuple #[.int .i64 x, .int .i64 y]) ∧ SlS w w' l 93 S7 db 2 fs' i ∧ Kp isA w.heap.size wx w' ∧ ((y = 0 ∧ (frameM (few8M mb[j])).2 = 0 ∧ fs' = hs ++ [(frameM (few8M mb[j])).1]) ∨ (y ≠ 0 ∧ fs' = hs))) := fun wx v' q1 q2 => q1.append (q2.below q1.bel) hsm.out
              have HRg : Hid (∀ wx, Below w.heap.size w wx → wx.rangeAt g (o + j * 13) ((mb[j].s.A I T).toList)) := fun wx q => rangeAt_below hrg hg q
              have hr1 := HRg.out _ hS.bel
              have hsl := hS.len
              obtain ⟨ao, co, rfl⟩ := hO.ex
              have hi3 : j < nb := by omega
              have hi2 : (j : Int) < (nb : Int) := by omega
              have hi4 : (j : Int) < 15 := by omega
              clear hrg hv hh hsm hg
              generalize mb[j].s = sm at *
              generalize few8M mb[j] = fm at *
              generalize (frameM fm).1 = F at *
              generalize (frameM fm).2 = E at *
              have hfl : hs.length ≤ 100000 := by omega
              by_cases hE0 : E = 0
              · subst hE0
                go_wp2_with (first
                  | (refine wpList_load_rcs (s := sm) (I := I) (T := T) _ rfl (.tmp 138) rfl rfl hr1 ?_; clear hr1)
                  | (refine wpList_load_rcs (s := sm) (I := I) (T := T) _ rfl (.tmp 148) rfl rfl hr2 ?_)
                  | (go_at_call 19; refine (CFw.out _).mono ?_; rintro e w3 ⟨⟨v', rfl, hv'⟩, b3⟩; have hn3 := hS.below b3; have hO3 := hO.below b3; clear hS hO; have hS := hn3; have hO := hO3; clear hn3 hO3)
                  | (go_at_call 18; refine (CFr.out _ _ hS.bel hv').mono ?_; rintro e w4 ⟨rfl, b4⟩; have hn4 := hS.below b4; have hO4 := hO.below b4; clear hS hO; have hS := hn4; have hO := hO4; clear hn4 hO4; have hr2 := HRg.out _ hS.bel)
                  | (go_at_call 20; refine (CAp.out _ _ hS hv').mono ?_; clear hS; rintro e w5 ⟨x, y, fs', rfl, hS, k5, hor⟩; have O5 := hO.kept k5; clear hO; have bA : Below w5.heap.size w5 (w5.alloc (.cells #[.string F] 9)) := (Below.refl _ _).alloc (Nat.le_refl _) _; have c0 : (w5.alloc (.cells #[.string F] 9)).cell? ⟨w5.heap.size, 0, none⟩ = some (.string F) := cell_new1 w5 _ 9; have O6 := O5.below bA; have S6 := hS.below bA; have hz6 := S6.bel.size; clear bA)
                  | (at_builtin; refine wpList_append_str (B := w.heap.size) rfl (.tmp 160) (.tmp 162) rfl rfl O6 rfl c0 hz6 hfl ?_; intro v7 w7 O7 k7; have S7 := S6.keptS k7; obtain ⟨N7, HN7⟩ : ∃ N7, Hid (N7 = hs ++ [F]) := ⟨_, rfl⟩; rw [← HN7.out] at O7; obtain ⟨a7, c7, rfl⟩ := O7.ex))
                all_goals first
                  | (have hy1 : (y == 0) = true := by assumption
                     have hy : y = 0 := by simpa using hy1
                     rcases hor with ⟨_, _, rfl⟩ | ⟨q, _⟩
                     · go_roundw
                       case rel => exact ⟨j + 1, hs ++ [F], by omega, by go_num, by rw [← HN7.out]; exact O7, S7⟩
                       case measure => simp [intOf]; omega
                     · exact absurd hy q)
                  | (have hy1 : (y == 0) = false := by assumption
                     have hy : y ≠ 0 := by simpa using hy1
                     rcases hor with ⟨q, _⟩ | ⟨_, rfl⟩
                     · exact absurd q hy
                     · go_roundw
                       case rel => exact ⟨j + 1, _, by omega, by go_num, O5, hS⟩
                       case measure => simp [intOf]; omega)
              · have hE1 : (E == 0) = false := by simpa using hE0
                go_wp2_with (first
                  | (refine wpList_load_rcs (s := sm) (I := I) (T := T) _ rfl (.tmp 138) rfl rfl hr1 ?_; clear hr1)
                  | (refine wpList_load_rcs (s := sm) (I := I) (T := T) _ rfl (.tmp 148) rfl rfl hr2 ?_)
                  | (go_at_call 19; refine (CFw.out _).mono ?_; rintro e w3 ⟨⟨v', rfl, hv'⟩, b3⟩; have hn3 := hS.below b3; have hO3 := hO.below b3; clear hS hO; have hS := hn3; have hO := hO3; clear hn3 hO3)
                  | (go_at_call 18; refine (CFr.out _ _ hS.bel hv').mono ?_; rintro e w4 ⟨rfl, b4⟩; have hn4 := hS.below b4; have hO4 := hO.below b4; clear hS hO; have hS := hn4; have hO := hO4; clear hn4 hO4; have hr2 := HRg.out _ hS.bel)
                  | (go_at_call 20; refine (CAp.out _ _ hS hv').mono ?_; clear hS; rintro e w5 ⟨x, y, fs', rfl, hS, k5, hor⟩; have O5 := hO.kept k5; clear hO; have bA : Below w5.heap.size w5 (w5.alloc (.cells #[.string F] 9)) := (Below.refl _ _).alloc (Nat.le_refl _) _; have c0 : (w5.alloc (.cells #[.string F] 9)).cell? ⟨w5.heap.size, 0, none⟩ = some (.string F) := cell_new1 w5 _ 9; have O6 := O5.below bA; have S6 := hS.below bA; have hz6 := S6.bel.size; clear bA)
                  | (at_builtin; refine wpList_append_str (B := w.heap.size) rfl (.tmp 160) (.tmp 162) rfl rfl O6 rfl c0 hz6 hfl ?_; intro v7 w7 O7 k7; have S7 := S6.keptS k7; obtain ⟨N7, HN7⟩ : ∃ N7, Hid (N7 = hs ++ [F]) := ⟨_, rfl⟩; rw [← HN7.out] at O7; obtain ⟨a7, c7, rfl⟩ := O7.ex))
                rcases hor with ⟨_, q, _⟩ | ⟨_, rfl⟩
                · exact absurd q hE0
                · go_roundw
                  case rel => exact ⟨j + 1, _, by omega, by go_num, O5, hS⟩
                  case measure => simp [intOf]; omega
            · obtain rfl : j = 15 := by omega
              have hi2 : (15 : Int) < (nb : Int) := by omega
              have HS : Hid (SlS w wr l 93 S7 db 2 hs i) := hS
              obtain ⟨ah, ch, rfl⟩ := hO.ex
              have HO : Hid (OwnS w.heap.size wr (.slice ah hs.length ch) hs) := hO
              have CFl2 : Hid (Calls Tryz.prog 21 #[.pointer (some ⟨l, 0, none⟩)] wr fun e w' => ∃ S', e = .returned (.int .i64 0) ∧ SlS w w' l 124 S' db 2 hs hs.length ∧ Kp isA w.heap.size wr w') := HS.out.flush (by omega)
              have COp : Hid (∀ wx S8, SlS w wx l 124 S8 db 2 hs hs.length → Calls Tryz.prog 10 #[.pointer (some ⟨db, 0, none⟩), .int .i64 1, .int .i64 30, .int .i64 3] wx fun e w' => ∃ S' l', e = .returned (.tuple #[.pointer (some ⟨l', 0, none⟩), .int .i64 0]) ∧ SlS w w' l' 155 S' db 3 hs hs.length ∧ Kp isA w.heap.size wx w') := fun wx S8 q => q.again (r' := 3) (by omega) rfl (by omega) (by omega)
              have CRe : Hid (∀ wx l' S8, SlS w wx l' 155 S8 db 3 hs hs.length → Calls Tryz.prog 30 #[.pointer (some ⟨l', 0, none⟩)] wx fun e w' => (∃ a c v2, e = .returned (.tuple #[.slice a hs.length c, v2]) ∧ Rcs wx.heap.size w' (.slice a hs.length c) (hs.map recF)) ∧ SlS w w' l' 155 S8 db 3 hs hs.length ∧ Kp isA w.heap.size wx w') := fun wx l' S8 q => q.records
              have hfl : hs.length ≤ 300 := hS.len
              have HFr : Hid (∀ f ∈ hs, Frm f) := hS.lv.fit.frm
              clear hS hO HRb HO7 HS7 hlt CFl
              have hnn : ((hs.length : Int) != (hs.length : Int)) = false := by simp
              go_wp2_with (first
                | (go_at_call 21; refine CFl2.out.mono ?_; clear CFl2; rintro e w8 ⟨S8, rfl, S8', k8⟩)
                | (go_at_call 10; refine (COp.out _ _ S8').mono ?_; rintro e w9 ⟨S9, l9, rfl, S9', k9⟩)
                | (go_at_call 30; refine (CRe.out _ _ _ S9').mono ?_; rintro e w10 ⟨⟨ar, cr, v2, rfl, hR⟩, S10, k10⟩))
              have HO10 : Hid (OwnS w.heap.size w10 (.slice ah hs.length ch) hs) := ((HO.out.kept k8).kept k9).kept k10
              have HR10 : Hid _ := hR
              have HB10 : Hid (Below w.heap.size w w10) := S10.bel
              clear S10 hR HO k8 k9 k10 S8' S9' COp CRe
              go_loopw [28] (fun ix wr => ∃ q : Nat, q ≤ hs.length ∧ ix = .int .i64 (q : Int) ∧ Below w10.heap.size w10 wr) (fun ix _ => hs.length - (intOf ix).toNat)
              case atStart => exact ⟨0, Nat.zero_le _, rfl, Below.refl _ _⟩
              case round =>
                obtain ⟨q, hq, rfl, hb⟩ := hrel
                by_cases hlt : q < hs.length
                · obtain ⟨g, ha, hcell⟩ := (HO10.out.below hb).at_ (i := q) hlt
                  subst ha
                  obtain ⟨gr, I, T, hra, hrg, hrv⟩ := (HR10.out.below hb).at_ (i := q) (by rw [List.length_map]; exact hlt)
                  subst hra
                  have hfq := HFr.out hs[q] (List.getElem_mem _)
                  have hm : (hs.map recF)[q]'(by rw [List.length_map]; exact hlt) = recF hs[q] := by simp
                  rw [hm] at hrg hrv
                  have CFr : Hid (Calls Tryz.prog 18 #[.agg ((recF hs[q]).s.A I T)] wr fun r w' => r = .returned (.tuple #[.string hs[q], .int .i64 0]) ∧ Below wr.heap.size wr w') := by
                    have := Frame_any hrv.recV (small_recF hfq)
                    rw [hfq.back] at this
                    exact this
                  have HC : Hid (∀ wx, Below wr.heap.size wr wx → wx.cell? ⟨g, q, none⟩ = some (.string hs[q])) := fun wx qb => by
                    have hgl : g < wr.heap.size := by
                      rcases Nat.lt_or_ge g wr.heap.size with hh | hh
                      · exact hh
                      · simp [World.cell?, Array.getElem?_eq_none hh] at hcell
                    exact (World.cell?_of_block (qb.block g hgl)).trans hcell
                  have hi2 : (q : Int) < (hs.length : Int) := by omega
                  have HBr : Hid _ := hb
                  clear hrv hm hfq hcell hb
                  generalize (recF hs[q]).s = sm at *
                  generalize hs[q] = f at *
                  go_wp2_with (first
                    | (refine wpList_load_rcs (s := sm) (I := I) (T := T) _ rfl (.tmp 197) rfl rfl hrg ?_)
                    | (go_at_call 18; refine CFr.out.mono ?_; rintro e w11 ⟨rfl, b11⟩; have hc11 := HC.out _ b11))
                  go_roundw
                  case rel => exact ⟨q + 1, by omega, by go_num, thn HBr.out b11⟩
                  case measure => simp [intOf]; omega
                · obtain rfl : q = hs.length := by omega
                  have hi2 : ¬ (hs.length : Int) < (hs.length : Int) := by omega
                  have HBr : Hid _ := hb
                  clear hb hlt
                  go_wp2_with (go_at_call 17; refine (CA.out _).mono ?_; rintro e w12 ⟨rfl, b12⟩)
                  go_ret
                  exact ⟨rfl, thn (thn HB10.out HBr.out) b12⟩
end
end Go.Proofs.YtgcfbjecmmnlhaaGreat

namespace Go.Proofs.YtgcfbjecmmnlhaaGreat
open Go.RowKit Go.Maps Go.ChangeMaps
theorem stale8_walk {w : World} {aa ab : Option Addr} {na ca nb cb : Nat} {ma mb : List Rm} (hRa : RsV w aa na ma) (hna : na ≤ 9223372036854775807) (hRb : RsV w ab nb mb) (hnb : nb ≤ 9223372036854775807) (keep : Int) : Calls Tryz.prog 8 #[.slice aa na ca, .int .i64 keep, .slice ab nb cb] w fun e w' => e = .returned (.bool true) ∧ Below w.heap.size w w' := by
  rcases Nat.lt_or_ge 15 na with h1 | h1
  · rcases Nat.lt_or_ge 15 nb with h2 | h2
    · exact stale_mm hRa hna hRb hnb h1 h2 keep
    · exact stale_mf hRa hna hRb hnb h1 h2 keep
  · rcases Nat.lt_or_ge 15 nb with h2 | h2
    · exact stale_fm hRa hna hRb hnb h1 h2 keep
    · exact stale_ff hRa hna hRb hnb h1 h2 keep
end Go.Proofs.YtgcfbjecmmnlhaaGreat
