/- WalReads: the walk, more than 20 records. WalReads: the walk. -/
import Derived.Test.YtgcfbjecmmnlhaaGreatMal
import Derived.Test.YtgcfbjecmmnlhaaGreatMam
namespace Go.Proofs.YtgcfbjecmmnlhaaGreat
open Go.RowKit Go.Maps Go.ChangeMaps
set_option linter.unusedVariables false
set_option linter.unusedSimpArgs false
set_option maxRecDepth 100000

section
variable {w : World}
set_option maxHeartbeats 16000000 in
theorem reads_m {aa : Option Addr} {na ca : Nat} {ma : List Rm} (hRa : RsV w aa na ma) (hna : na ≤ 9223372036854775807) (hc : 20 < na) (flushed x m : Int) (hx0 : -9223372036854775808 ≤ x) (hx9 : x ≤ 9223372036854775807) (hmb : m ≤ 9223372036854775807) : Calls Tryz.prog 7 #[.slice aa na ca, .int .i64 flushed, .int .i64 x, .int .i64 m] w fun e w' => e = .returned (.bool true) ∧ Below w.heap.size w w' := by
  have CA : Hid (∀ wx, Calls Tryz.prog 17 #[] wx fun e w' => e = .returned (.bool true) ∧ Below wx.heap.size wx w') := awake8
  have CN : Hid (Calls Tryz.prog 9 #[.int .i64 31] w fun e w' => ∃ db, e = .returned (.tuple #[.pointer (some ⟨db, 0, none⟩), .int .i64 0]) ∧ Ds w.heap.size w' db 0 (newDk 31) ∧ Below w.heap.size w w') := sl_new w
  have CO : Hid (∀ wx db, Ds w.heap.size wx db 0 (newDk 31) → Below w.heap.size w wx → Calls Tryz.prog 10 #[.pointer (some ⟨db, 0, none⟩), .int .i64 1, .int .i64 30, .int .i64 1] wx fun e w' => ∃ S' l, e = .returned (.tuple #[.pointer (some ⟨l, 0, none⟩), .int .i64 0]) ∧ SlS w w' l 31 S' db 1 [] 0) := fun wx db q1 q2 => sl_open q1 q2
  have HRa : Hid (RsV w aa na ma) := hRa
  have hlena := hRa.len
  clear hRa
  go_enter Tryz.func7, Tryz.ntmps7
  go_wp2_with (first
    | (go_at_call 9; refine CN.out.mono ?_; rintro e w1 ⟨db, rfl, D1, b1⟩)
    | (go_at_call 10; refine (CO.out _ _ D1 b1).mono ?_; rintro e w2 ⟨S2, l, rfl, A2⟩))
  have hz2 := A2.bel.size
  have bP : Below w2.heap.size w2 (w2.alloc (.cells #[.slice none 0 0, .int .i64 0, .int .i64 1, .int .i64 1740] 33)) := (Below.refl _ _).alloc (Nat.le_refl _) _
  have HA : Hid (SlS w (w2.alloc (.cells #[.slice none 0 0, .int .i64 0, .int .i64 1, .int .i64 1740] 33)) l 31 S2 db 1 [] 0) := A2.below bP
  have HP0 : Hid (Pl w.heap.size (w2.alloc (.cells #[.slice none 0 0, .int .i64 0, .int .i64 1, .int .i64 1740] 33)) w2.heap.size (.slice none 0 0) 0) := ⟨(MapKept.heap_alloc w2 _).1, hz2⟩
  clear A2 CN CO D1 bP
  go_loopw [14] (fun iv wr => ∃ (j k : Nat) (S : Dk) (fs : List ByteArray) (sure : Nat) (av : Value), j ≤ 20 ∧ k ≤ 31 + 31 * j ∧ iv = .int .i64 (j : Int) ∧ Pl w.heap.size wr w2.heap.size av sure ∧ OwnS w.heap.size wr av fs ∧ SlS w wr l k S db 1 fs sure) (fun iv _ => 20 - (intOf iv).toNat)
  case atStart => exact ⟨0, 31, S2, [], 0, .slice none 0 0, Nat.zero_le _, by omega, rfl, HP0.out, OwnS.nil _ _, HA.out⟩
  case round =>
    obtain ⟨j, k, S, fs, sure, av, hj, hk, rfl, hP, hO, hS⟩ := hrel
    by_cases hlt : j < 20
    · obtain ⟨g, o, I, T, ha, hg, hrg, hv, hh⟩ := HRa.out.at_ j (by omega)
      subst ha
      have CFw : Hid (∀ wx, Calls Tryz.prog 19 #[.agg (ma[j].s.A I T)] wx fun e w' => (∃ v', e = .returned v' ∧ RecV w v' (few8M ma[j])) ∧ Below wx.heap.size wx w') := fun wx => few8_any hv hh.im hh.tb
      have hsm : Hid (Small (few8M ma[j])) := hh.few8
      have CFr : Hid (∀ wx v', Below w.heap.size w wx → RecV w v' (few8M ma[j]) → Calls Tryz.prog 18 #[v'] wx fun r w' => r = .returned (.tuple #[.string (frameM (few8M ma[j])).1, .int .i64 (frameM (few8M ma[j])).2]) ∧ Below wx.heap.size wx w') := fun wx v' q1 q2 => Frame_any (q2.below q1) hsm.out
      have CAp : Hid (∀ wx v', SlS w wx l k S db 1 fs sure → RecV w v' (few8M ma[j]) → Calls Tryz.prog 20 #[.pointer (some ⟨l, 0, none⟩), v'] wx fun e w' => ∃ x y fs', e = .returned (.tuple #[.int .i64 x, .int .i64 y]) ∧ SlS w w' l k S db 1 fs' sure ∧ Kp isA w.heap.size wx w' ∧ ((y = 0 ∧ (frameM (few8M ma[j])).2 = 0 ∧ fs' = fs ++ [(frameM (few8M ma[j])).1]) ∨ (y ≠ 0 ∧ fs' = fs))) := fun wx v' q1 q2 => q1.append (q2.below q1.bel) hsm.out
      have CFl : Hid (∀ wx S fs sure, k ≤ 1000 → SlS w wx l k S db 1 fs sure → Calls Tryz.prog 21 #[.pointer (some ⟨l, 0, none⟩)] wx fun e w' => ∃ S', e = .returned (.int .i64 0) ∧ SlS w w' l (k + 31) S' db 1 fs fs.length ∧ Kp isA w.heap.size wx w') := fun wx S fs sure q1 q2 => q2.flush q1
      have hkb : k ≤ 1000 := by omega
      have HRg : Hid (∀ wx, Below w.heap.size w wx → wx.rangeAt g (o + j * 13) ((ma[j].s.A I T).toList)) := fun wx q => rangeAt_below hrg hg q
      have hr1 := HRg.out _ hS.bel
      have hsl := hS.len
      obtain ⟨ao, co, rfl⟩ := hO.ex
      have hi3 : j < na := by omega
      have hi2 : (j : Int) < (na : Int) := by omega
      have hi4 : (j : Int) < 20 := by omega
      clear hrg hv hh hsm hg
      generalize ma[j].s = sm at *
      generalize few8M ma[j] = fm at *
      generalize (frameM fm).1 = F at *
      generalize (frameM fm).2 = E at *
      have hfl : fs.length ≤ 100000 := by omega
      have hfl3 : (fs.length : Int) ≤ 300 := by omega
      by_cases hfd : (j : Int) = flushed
      · have hfe : ((j : Int) == flushed) = true := by simpa using hfd
        clear hfd
        by_cases hE0 : E = 0
        · subst hE0
          go_wp2_with (first
            | (refine wpList_load_rcs (s := sm) (I := I) (T := T) _ rfl (.tmp 62) rfl rfl hr1 ?_; clear hr1)
            | (refine wpList_load_rcs (s := sm) (I := I) (T := T) _ rfl (.tmp 72) rfl rfl hr2 ?_)
            | (go_at_call 19; refine (CFw.out _).mono ?_; rintro e w3 ⟨⟨v', rfl, hv'⟩, b3⟩; have hn3 := hS.below b3; have hO3 := hO.below b3; have hP3 := hP.below b3; clear hS hO hP; have hS := hn3; have hO := hO3; have hP := hP3; clear hn3 hO3 hP3)
            | (go_at_call 18; refine (CFr.out _ _ hS.bel hv').mono ?_; rintro e w4 ⟨rfl, b4⟩; have hn4 := hS.below b4; have hO4 := hO.below b4; have hP4 := hP.below b4; clear hS hO hP; have hS := hn4; have hO := hO4; have hP := hP4; clear hn4 hO4 hP4; have hr2 := HRg.out _ hS.bel)
            | (go_at_call 20; refine (CAp.out _ _ hS hv').mono ?_; clear hS; rintro e w5 ⟨x5, y, fs', rfl, hS, k5, hor⟩; have O5 := hO.kept k5; have P5 := hP.kept k5; have c05 := P5.c0; clear hO hP; have bA : Below w5.heap.size w5 (w5.alloc (.cells #[.string F] 9)) := (Below.refl _ _).alloc (Nat.le_refl _) _; have ca : (w5.alloc (.cells #[.string F] 9)).cell? ⟨w5.heap.size, 0, none⟩ = some (.string F) := cell_new1 w5 _ 9; have O6 := O5.below bA; have S6 := hS.below bA; have P6 := P5.below bA; have hz6 := S6.bel.size; clear bA)
            | (at_builtin; refine wpList_append_str (B := w.heap.size) rfl (.tmp 88) (.tmp 90) rfl rfl O6 rfl ca hz6 hfl ?_; intro v7 w7 O7 k7; have S7 := S6.keptS k7; have P7 := P6.keptS k7; obtain ⟨N7, HN7⟩ : ∃ N7, Hid (N7 = fs ++ [F]) := ⟨_, rfl⟩; rw [← HN7.out] at O7; obtain ⟨a7, c7, rfl⟩ := O7.ex; have c07 := P7.c0; have f07 := P7.f 0; have S8 := S7.keptP (P7.kp 0 (.slice a7 N7.length c7)); have O8 := O7.keptP (P7.kp 0 (.slice a7 N7.length c7)); have P8 := P7.set0 (.slice a7 N7.length c7); clear O6 S6 P6 S7 O7 k7)
            | (go_at_call 21; first
                | (refine (CFl.out _ _ _ _ hkb S8).mono ?_; clear hS S8; rintro e w9 ⟨S9, rfl, T9, k9⟩; have P9 := P8.kept k9; have O9 := O8.kept k9; have c09 := P9.c0; have c19 := P9.c1; have f19 := P9.f 1; have TA := T9.keptP (P9.kp 1 (.int .i64 (N7.length : Int))); have OA := O9.keptP (P9.kp 1 (.int .i64 (N7.length : Int))); have PA := P9.set1 N7.length; clear P9 O9 T9 k9)
                | (refine (CFl.out _ _ _ _ hkb hS).mono ?_; clear hS; rintro e w9 ⟨S9, rfl, T9, k9⟩; have P9 := P5.kept k9; have O9 := O5.kept k9; have c09 := P9.c0; have c19 := P9.c1; have f19 := P9.f 1; have TA := T9.keptP (P9.kp 1 (.int .i64 (fs.length : Int))); have OA := O9.keptP (P9.kp 1 (.int .i64 (fs.length : Int))); have PA := P9.set1 fs.length; clear P9 O9 T9 k9)))
          all_goals first
            | (have hy1 : (y == 0) = true := by assumption
               have hy : y = 0 := by simpa using hy1
               rcases hor with ⟨_, _, rfl⟩ | ⟨q, _⟩
               · go_roundw
                 case rel => exact ⟨j + 1, k + 31, S9, _, _, _, by omega, by omega, by go_num, PA, OA, by have := TA; rw [← HN7.out] at this; exact this⟩
                 case measure => simp [intOf]; omega
               · exact absurd hy q)
            | (have hy1 : (y == 0) = false := by assumption
               have hy : y ≠ 0 := by simpa using hy1
               rcases hor with ⟨q, _⟩ | ⟨_, rfl⟩
               · exact absurd q hy
               · go_roundw
                 case rel => exact ⟨j + 1, k + 31, S9, _, _, _, by omega, by omega, by go_num, PA, OA, TA⟩
                 case measure => simp [intOf]; omega)
        · have hE1 : (E == 0) = false := by simpa using hE0
          go_wp2_with (first
            | (refine wpList_load_rcs (s := sm) (I := I) (T := T) _ rfl (.tmp 62) rfl rfl hr1 ?_; clear hr1)
            | (refine wpList_load_rcs (s := sm) (I := I) (T := T) _ rfl (.tmp 72) rfl rfl hr2 ?_)
            | (go_at_call 19; refine (CFw.out _).mono ?_; rintro e w3 ⟨⟨v', rfl, hv'⟩, b3⟩; have hn3 := hS.below b3; have hO3 := hO.below b3; have hP3 := hP.below b3; clear hS hO hP; have hS := hn3; have hO := hO3; have hP := hP3; clear hn3 hO3 hP3)
            | (go_at_call 18; refine (CFr.out _ _ hS.bel hv').mono ?_; rintro e w4 ⟨rfl, b4⟩; have hn4 := hS.below b4; have hO4 := hO.below b4; have hP4 := hP.below b4; clear hS hO hP; have hS := hn4; have hO := hO4; have hP := hP4; clear hn4 hO4 hP4; have hr2 := HRg.out _ hS.bel)
            | (go_at_call 20; refine (CAp.out _ _ hS hv').mono ?_; clear hS; rintro e w5 ⟨x5, y, fs', rfl, hS, k5, hor⟩; have O5 := hO.kept k5; have P5 := hP.kept k5; have c05 := P5.c0; clear hO hP; have bA : Below w5.heap.size w5 (w5.alloc (.cells #[.string F] 9)) := (Below.refl _ _).alloc (Nat.le_refl _) _; have ca : (w5.alloc (.cells #[.string F] 9)).cell? ⟨w5.heap.size, 0, none⟩ = some (.string F) := cell_new1 w5 _ 9; have O6 := O5.below bA; have S6 := hS.below bA; have P6 := P5.below bA; have hz6 := S6.bel.size; clear bA)
            | (at_builtin; refine wpList_append_str (B := w.heap.size) rfl (.tmp 88) (.tmp 90) rfl rfl O6 rfl ca hz6 hfl ?_; intro v7 w7 O7 k7; have S7 := S6.keptS k7; have P7 := P6.keptS k7; obtain ⟨N7, HN7⟩ : ∃ N7, Hid (N7 = fs ++ [F]) := ⟨_, rfl⟩; rw [← HN7.out] at O7; obtain ⟨a7, c7, rfl⟩ := O7.ex; have c07 := P7.c0; have f07 := P7.f 0; have S8 := S7.keptP (P7.kp 0 (.slice a7 N7.length c7)); have O8 := O7.keptP (P7.kp 0 (.slice a7 N7.length c7)); have P8 := P7.set0 (.slice a7 N7.length c7); clear O6 S6 P6 S7 O7 k7)
            | (go_at_call 21; first
                | (refine (CFl.out _ _ _ _ hkb S8).mono ?_; clear hS S8; rintro e w9 ⟨S9, rfl, T9, k9⟩; have P9 := P8.kept k9; have O9 := O8.kept k9; have c09 := P9.c0; have c19 := P9.c1; have f19 := P9.f 1; have TA := T9.keptP (P9.kp 1 (.int .i64 (N7.length : Int))); have OA := O9.keptP (P9.kp 1 (.int .i64 (N7.length : Int))); have PA := P9.set1 N7.length; clear P9 O9 T9 k9)
                | (refine (CFl.out _ _ _ _ hkb hS).mono ?_; clear hS; rintro e w9 ⟨S9, rfl, T9, k9⟩; have P9 := P5.kept k9; have O9 := O5.kept k9; have c09 := P9.c0; have c19 := P9.c1; have f19 := P9.f 1; have TA := T9.keptP (P9.kp 1 (.int .i64 (fs.length : Int))); have OA := O9.keptP (P9.kp 1 (.int .i64 (fs.length : Int))); have PA := P9.set1 fs.length; clear P9 O9 T9 k9)))
          rcases hor with ⟨_, q, _⟩ | ⟨_, rfl⟩
          · exact absurd q hE0
          · go_roundw
            case rel => exact ⟨j + 1, k + 31, S9, _, _, _, by omega, by omega, by go_num, PA, OA, TA⟩
            case measure => simp [intOf]; omega
      · have hfe : ((j : Int) == flushed) = false := by simpa using hfd
        clear hfd
        by_cases hE0 : E = 0
        · subst hE0
          go_wp2_with (first
            | (refine wpList_load_rcs (s := sm) (I := I) (T := T) _ rfl (.tmp 62) rfl rfl hr1 ?_; clear hr1)
            | (refine wpList_load_rcs (s := sm) (I := I) (T := T) _ rfl (.tmp 72) rfl rfl hr2 ?_)
            | (go_at_call 19; refine (CFw.out _).mono ?_; rintro e w3 ⟨⟨v', rfl, hv'⟩, b3⟩; have hn3 := hS.below b3; have hO3 := hO.below b3; have hP3 := hP.below b3; clear hS hO hP; have hS := hn3; have hO := hO3; have hP := hP3; clear hn3 hO3 hP3)
            | (go_at_call 18; refine (CFr.out _ _ hS.bel hv').mono ?_; rintro e w4 ⟨rfl, b4⟩; have hn4 := hS.below b4; have hO4 := hO.below b4; have hP4 := hP.below b4; clear hS hO hP; have hS := hn4; have hO := hO4; have hP := hP4; clear hn4 hO4 hP4; have hr2 := HRg.out _ hS.bel)
            | (go_at_call 20; refine (CAp.out _ _ hS hv').mono ?_; clear hS; rintro e w5 ⟨x5, y, fs', rfl, hS, k5, hor⟩; have O5 := hO.kept k5; have P5 := hP.kept k5; have c05 := P5.c0; clear hO hP; have bA : Below w5.heap.size w5 (w5.alloc (.cells #[.string F] 9)) := (Below.refl _ _).alloc (Nat.le_refl _) _; have ca : (w5.alloc (.cells #[.string F] 9)).cell? ⟨w5.heap.size, 0, none⟩ = some (.string F) := cell_new1 w5 _ 9; have O6 := O5.below bA; have S6 := hS.below bA; have P6 := P5.below bA; have hz6 := S6.bel.size; clear bA)
            | (at_builtin; refine wpList_append_str (B := w.heap.size) rfl (.tmp 88) (.tmp 90) rfl rfl O6 rfl ca hz6 hfl ?_; intro v7 w7 O7 k7; have S7 := S6.keptS k7; have P7 := P6.keptS k7; obtain ⟨N7, HN7⟩ : ∃ N7, Hid (N7 = fs ++ [F]) := ⟨_, rfl⟩; rw [← HN7.out] at O7; obtain ⟨a7, c7, rfl⟩ := O7.ex; have c07 := P7.c0; have f07 := P7.f 0; have S8 := S7.keptP (P7.kp 0 (.slice a7 N7.length c7)); have O8 := O7.keptP (P7.kp 0 (.slice a7 N7.length c7)); have P8 := P7.set0 (.slice a7 N7.length c7); clear O6 S6 P6 S7 O7 k7)
            | (go_at_call 21; fail))
          all_goals first
            | (have hy1 : (y == 0) = true := by assumption
               have hy : y = 0 := by simpa using hy1
               rcases hor with ⟨_, _, rfl⟩ | ⟨q, _⟩
               · go_roundw
                 case rel => exact ⟨j + 1, k, S, fs ++ [F], sure, _, by omega, by omega, by go_num, P8, by rw [← HN7.out]; exact O8, S8⟩
                 case measure => simp [intOf]; omega
               · exact absurd hy q)
            | (have hy1 : (y == 0) = false := by assumption
               have hy : y ≠ 0 := by simpa using hy1
               rcases hor with ⟨q, _⟩ | ⟨_, rfl⟩
               · exact absurd q hy
               · go_roundw
                 case rel => exact ⟨j + 1, k, S, _, sure, _, by omega, by omega, by go_num, P5, O5, hS⟩
                 case measure => simp [intOf]; omega)
        · have hE1 : (E == 0) = false := by simpa using hE0
          go_wp2_with (first
            | (refine wpList_load_rcs (s := sm) (I := I) (T := T) _ rfl (.tmp 62) rfl rfl hr1 ?_; clear hr1)
            | (refine wpList_load_rcs (s := sm) (I := I) (T := T) _ rfl (.tmp 72) rfl rfl hr2 ?_)
            | (go_at_call 19; refine (CFw.out _).mono ?_; rintro e w3 ⟨⟨v', rfl, hv'⟩, b3⟩; have hn3 := hS.below b3; have hO3 := hO.below b3; have hP3 := hP.below b3; clear hS hO hP; have hS := hn3; have hO := hO3; have hP := hP3; clear hn3 hO3 hP3)
            | (go_at_call 18; refine (CFr.out _ _ hS.bel hv').mono ?_; rintro e w4 ⟨rfl, b4⟩; have hn4 := hS.below b4; have hO4 := hO.below b4; have hP4 := hP.below b4; clear hS hO hP; have hS := hn4; have hO := hO4; have hP := hP4; clear hn4 hO4 hP4; have hr2 := HRg.out _ hS.bel)
            | (go_at_call 20; refine (CAp.out _ _ hS hv').mono ?_; clear hS; rintro e w5 ⟨x5, y, fs', rfl, hS, k5, hor⟩; have O5 := hO.kept k5; have P5 := hP.kept k5; have c05 := P5.c0; clear hO hP; have bA : Below w5.heap.size w5 (w5.alloc (.cells #[.string F] 9)) := (Below.refl _ _).alloc (Nat.le_refl _) _; have ca : (w5.alloc (.cells #[.string F] 9)).cell? ⟨w5.heap.size, 0, none⟩ = some (.string F) := cell_new1 w5 _ 9; have O6 := O5.below bA; have S6 := hS.below bA; have P6 := P5.below bA; have hz6 := S6.bel.size; clear bA)
            | (at_builtin; refine wpList_append_str (B := w.heap.size) rfl (.tmp 88) (.tmp 90) rfl rfl O6 rfl ca hz6 hfl ?_; intro v7 w7 O7 k7; have S7 := S6.keptS k7; have P7 := P6.keptS k7; obtain ⟨N7, HN7⟩ : ∃ N7, Hid (N7 = fs ++ [F]) := ⟨_, rfl⟩; rw [← HN7.out] at O7; obtain ⟨a7, c7, rfl⟩ := O7.ex; have c07 := P7.c0; have f07 := P7.f 0; have S8 := S7.keptP (P7.kp 0 (.slice a7 N7.length c7)); have O8 := O7.keptP (P7.kp 0 (.slice a7 N7.length c7)); have P8 := P7.set0 (.slice a7 N7.length c7); clear O6 S6 P6 S7 O7 k7)
            | (go_at_call 21; fail))
          rcases hor with ⟨_, q, _⟩ | ⟨_, rfl⟩
          · exact absurd q hE0
          · go_roundw
            case rel => exact ⟨j + 1, k, S, _, sure, _, by omega, by omega, by go_num, P5, O5, hS⟩
            case measure => simp [intOf]; omega
    · obtain rfl : j = 20 := by omega
      have hi2 : ((20 : Nat) : Int) < (na : Int) := by omega
      have hsl := hS.len
      have hsz := hS.size
      have hfrm := hS.lv.fit.frm
      have HFm : Hid _ := hfrm
      obtain ⟨ao, co, rfl⟩ := hO.ex
      have c0 := hP.c0
      have CPs : Hid (∀ i : Nat, i ≤ fs.length → Calls Tryz.prog 33 #[.pointer (some ⟨w2.heap.size, 0, none⟩), .int .i64 (i : Int)] wr fun e w' => e = .returned (.int .i64 (off fs i : Int)) ∧ w' = wr) := fun i hi => psize_any hP hO hsz hsl i hi
      have CBd : Hid (Calls Tryz.prog 28 #[.pointer (some ⟨l, 0, none⟩), .int .i64 x] wr fun e w' => e = .returned (.bool (bnd fs x)) ∧ Below wr.heap.size wr w') := hS.bound x
      have CEn : Hid (∀ wy, SlS w wy l k S db 1 fs sure → Calls Tryz.prog 24 #[.pointer (some ⟨l, 0, none⟩)] wy fun e w' => e = .returned (.int .i64 (((cat fs).size : Int) + 1)) ∧ w' = wy) := fun wy q => q.end_
      have HS : Hid (SlS w wr l k S db 1 fs sure) := hS
      have HO : Hid (OwnS w.heap.size wr (.slice ao fs.length co) fs) := hO
      have HP : Hid (Pl w.heap.size wr w2.heap.size (.slice ao fs.length co) sure) := hP
      have hln : (fs.length : Int) ≤ 300 := by omega
      clear hS hO hP hfrm HRa HA HP0 hlt
      go_wp2
      go_loopw [19, 20] (fun kv iv wq => ∃ (i : Nat) (kz : Int), i ≤ fs.length + 1 ∧ iv = .int .i64 (i : Int) ∧ kv = .int .i64 kz ∧ Hid ((kz = -1 ∧ ∀ q, q < i → x ≠ 1 + (off fs q : Int)) ∨ (∃ kk : Nat, kk < i ∧ kz = (kk : Int) ∧ x = 1 + (off fs kk : Int))) ∧ wq = wr) (fun _ iv _ => fs.length + 1 - (intOf iv).toNat)
      case atStart => exact ⟨0, -1, Nat.zero_le _, rfl, rfl, Or.inl ⟨rfl, fun q hq => absurd hq (Nat.not_lt_zero _)⟩, rfl⟩
      case round =>
        obtain ⟨i, kz, hi, rfl, rfl, hkz, rfl⟩ := hrel
        by_cases hle : i ≤ fs.length
        · have CP1 := CPs.out i hle
          have hom := off_mono (l := fs) hle
          rw [off_all] at hom
          have ho0 : (0 : Int) ≤ (off fs i : Int) := by omega
          have ho9 : (off fs i : Int) ≤ 1740 := by omega
          have hle2 : (i : Int) ≤ (fs.length : Int) := by omega
          have hib : (i : Int) ≤ 300 := by omega
          by_cases he : x = 1 + (off fs i : Int)
          · have he2 : (1 + (off fs i : Int) == x) = true := by simp; omega
            have HE : Hid (x = 1 + (off fs i : Int)) := he
            clear he hom
            go_wp2_with (go_at_call 33; refine CP1.mono ?_; rintro e w6 ⟨rfl, rfl⟩)
            go_roundw
            case rel => exact ⟨i + 1, i, by omega, by go_num, rfl, Or.inr ⟨i, by omega, rfl, HE.out⟩, by first | rfl | trivial⟩
            case measure => simp [intOf]; omega
          · have he2 : (1 + (off fs i : Int) == x) = false := by simp; omega
            have HE : Hid (x ≠ 1 + (off fs i : Int)) := he
            clear he hom
            go_wp2_with (go_at_call 33; refine CP1.mono ?_; rintro e w6 ⟨rfl, rfl⟩)
            go_roundw
            case rel => exact ⟨i + 1, kz, by omega, by go_num, rfl, (by
                rcases hkz.out with ⟨h1, h2⟩ | ⟨kk, h1, h2, h3⟩
                · refine Or.inl ⟨h1, fun q hq => ?_⟩
                  rcases Nat.lt_or_ge q i with r | r
                  · exact h2 q r
                  · have : q = i := by omega
                    subst this; exact HE.out
                · exact Or.inr ⟨kk, by omega, h2, h3⟩), by first | rfl | trivial⟩
            case measure => simp [intOf]; omega
        · obtain rfl : i = fs.length + 1 := by omega
          have hle2 : ¬ ((fs.length + 1 : Nat) : Int) ≤ (fs.length : Int) := by omega
          have hKV : KV fs x kz := by
            rcases hkz.out with ⟨h1, h2⟩ | ⟨kk, h1, h2, h3⟩
            · refine Or.inl ⟨h1, ?_⟩
              cases hb : bnd fs x
              · rfl
              · obtain ⟨q, q1, q2⟩ := bnd_iff.1 hb
                exact absurd (by omega) (h2 q (by omega))
            · exact Or.inr ⟨kk, by omega, h2, h3⟩
          have CFi : Hid (∀ wy, SlS w wy l k S db 1 fs sure → Pl w.heap.size wy w2.heap.size (.slice ao fs.length co) sure → OwnS w.heap.size wy (.slice ao fs.length co) fs → Calls Tryz.prog 35 #[.pointer (some ⟨l, 0, none⟩), .pointer (some ⟨w2.heap.size, 0, none⟩), .int .i64 kz, .int .i64 x, .int .i64 m] wy fun e w' => e = .returned (.bool true) ∧ Below w.heap.size w w') := fun wy q1 q2 q3 => fromIs_any q1 q2 q3 kz x m hmb hKV
          clear hkz CPs hle
          have hxe : Hid (KV fs x kz) := hKV
          rcases hKV with ⟨rfl, hb⟩ | ⟨kk, hkk, rfl, hxk⟩
          · rw [hb] at CBd
            by_cases hr : x < 1 ∨ ((cat fs).size : Int) + 1 ≤ x
            · have CRd : Hid (∀ wy, SlS w wy l k S db 1 fs sure → Calls Tryz.prog 34 #[.pointer (some ⟨l, 0, none⟩), .int .i64 x] wy fun e w' => (∃ v m, e = .returned (.tuple #[v, .int .i64 0, .int .i64 8]) ∧ RecF w' v m wy.heap.size) ∧ SlS w w' l k S db 1 fs sure ∧ Kp isA w.heap.size wy w') := fun wy q => q.readOut x hr
              by_cases hr1 : x < 1
              · clear hr
                go_wp2_with (first
                  | (go_at_call 28; refine CBd.out.mono ?_; clear CBd; rintro e w6 ⟨rfl, b6⟩; have S6 := HS.out.below b6; have O6 := HO.out.below b6; have P6 := HP.out.below b6; have hz6 := S6.bel.size)
                  | (go_at_call 34; refine (CRd.out _ S6).mono ?_; clear CRd; rintro e w7 ⟨⟨v, m7, rfl, hv⟩, S7, k7⟩; have O7 := O6.kept k7; have P7 := P6.kept k7; clear S6 O6 P6 k7; obtain ⟨I, T, rfl, hI, hT⟩ := hv.ex; obtain ⟨s9, l9, g9⟩ := m7; dsimp only at hI hT)
                  | (refine wpList_new_rc _ rfl rfl ?_; intro w8 b8 N8)
                  | (refine wpList_at (Op.store 37 (.tmp 21) (.tmp 134)) rfl ?_; refine wpList_put_rc (s' := s9) (I' := I) (T' := T) _ rfl (.tmp 21) (.tmp 134) rfl rfl rfl N8.rc hI.slI.one hT.slT.one ?_; intro w9 P9; have b79 : Below w7.heap.size w7 w9 := N8.below.trans (P9.below (by have := N8.eq; omega) N8.below.size); have S9 := S7.below b79; have O9 := O7.below b79; have Q9 := P7.below b79; skip)
                  | (go_at_call 24; refine (CEn.out _ S9).mono ?_; rintro e wE ⟨rfl, rfl⟩)
                  | (go_at_call 35; refine (CFi.out _ S9 Q9 O9).mono ?_; rintro e wF ⟨rfl, bF⟩)
                  | (go_at_call 17; refine (CA.out _).mono ?_; rintro e wG ⟨rfl, bG⟩))
                go_ret
                exact ⟨rfl, thn bF bG⟩
              · have hr2 : ((cat fs).size : Int) + 1 ≤ x := by omega
                clear hr
                go_wp2_with (first
                  | (go_at_call 28; refine CBd.out.mono ?_; clear CBd; rintro e w6 ⟨rfl, b6⟩; have S6 := HS.out.below b6; have O6 := HO.out.below b6; have P6 := HP.out.below b6; have hz6 := S6.bel.size)
                  | (go_at_call 34; refine (CRd.out _ S6).mono ?_; clear CRd; rintro e w7 ⟨⟨v, m7, rfl, hv⟩, S7, k7⟩; have O7 := O6.kept k7; have P7 := P6.kept k7; clear S6 O6 P6 k7; obtain ⟨I, T, rfl, hI, hT⟩ := hv.ex; obtain ⟨s9, l9, g9⟩ := m7; dsimp only at hI hT)
                  | (refine wpList_new_rc _ rfl rfl ?_; intro w8 b8 N8)
                  | (refine wpList_at (Op.store 37 (.tmp 21) (.tmp 134)) rfl ?_; refine wpList_put_rc (s' := s9) (I' := I) (T' := T) _ rfl (.tmp 21) (.tmp 134) rfl rfl rfl N8.rc hI.slI.one hT.slT.one ?_; intro w9 P9; have b79 : Below w7.heap.size w7 w9 := N8.below.trans (P9.below (by have := N8.eq; omega) N8.below.size); have S9 := S7.below b79; have O9 := O7.below b79; have Q9 := P7.below b79; skip)
                  | (go_at_call 24; refine (CEn.out _ S9).mono ?_; rintro e wE ⟨rfl, rfl⟩)
                  | (go_at_call 35; refine (CFi.out _ S9 Q9 O9).mono ?_; rintro e wF ⟨rfl, bF⟩)
                  | (go_at_call 17; refine (CA.out _).mono ?_; rintro e wG ⟨rfl, bG⟩))
                go_ret
                exact ⟨rfl, thn bF bG⟩
            · have hr1 : ¬ x < 1 := by omega
              have hr2 : ¬ ((cat fs).size : Int) + 1 ≤ x := by omega
              have CRd : Hid (∀ wy, SlS w wy l k S db 1 fs sure → Calls Tryz.prog 34 #[.pointer (some ⟨l, 0, none⟩), .int .i64 x] wy fun e w' => (∃ v m n g, e = .returned (.tuple #[v, .int .i64 n, .int .i64 g]) ∧ RecF w' v m wy.heap.size) ∧ SlS w w' l k S db 1 fs sure ∧ Kp isA w.heap.size wy w') := fun wy q => q.readIn x (by omega) (by omega)
              clear hr
              go_wp2_with (first
                | (go_at_call 28; refine CBd.out.mono ?_; clear CBd; rintro e w6 ⟨rfl, b6⟩; have S6 := HS.out.below b6; have O6 := HO.out.below b6; have P6 := HP.out.below b6; have hz6 := S6.bel.size)
                | (go_at_call 34; refine (CRd.out _ S6).mono ?_; clear CRd; rintro e w7 ⟨⟨v, m7, n7, g7, rfl, hv⟩, S7, k7⟩; have O7 := O6.kept k7; have P7 := P6.kept k7; clear S6 O6 P6 k7; obtain ⟨I, T, rfl, hI, hT⟩ := hv.ex; obtain ⟨s9, l9, g9⟩ := m7; dsimp only at hI hT)
                | (refine wpList_new_rc _ rfl rfl ?_; intro w8 b8 N8)
                | (refine wpList_at (Op.store 37 (.tmp 21) (.tmp 134)) rfl ?_; refine wpList_put_rc (s' := s9) (I' := I) (T' := T) _ rfl (.tmp 21) (.tmp 134) rfl rfl rfl N8.rc hI.slI.one hT.slT.one ?_; intro w9 P9; have b79 : Below w7.heap.size w7 w9 := N8.below.trans (P9.below (by have := N8.eq; omega) N8.below.size); have S9 := S7.below b79; have O9 := O7.below b79; have Q9 := P7.below b79; skip)
                | (go_at_call 24; refine (CEn.out _ S9).mono ?_; rintro e wE ⟨rfl, rfl⟩)
                | (go_at_call 35; refine (CFi.out _ S9 Q9 O9).mono ?_; rintro e wF ⟨rfl, bF⟩)
                | (go_at_call 17; refine (CA.out _).mono ?_; rintro e wG ⟨rfl, bG⟩))
              go_ret
              exact ⟨rfl, thn bF bG⟩
          · have hb : bnd fs x = true := bnd_iff.2 ⟨kk, hkk, by omega⟩
            rw [hb] at CBd
            have hk0 : (0 : Int) ≤ (kk : Int) := by omega
            have hom := off_mono (l := fs) hkk
            rw [off_all] at hom
            have hr1 : ¬ x < 1 := by omega
            by_cases hr2 : ((cat fs).size : Int) + 1 ≤ x
            · have CRd : Hid (∀ wy, SlS w wy l k S db 1 fs sure → Calls Tryz.prog 34 #[.pointer (some ⟨l, 0, none⟩), .int .i64 x] wy fun e w' => (∃ v m, e = .returned (.tuple #[v, .int .i64 0, .int .i64 8]) ∧ RecF w' v m wy.heap.size) ∧ SlS w w' l k S db 1 fs sure ∧ Kp isA w.heap.size wy w') := fun wy q => q.readOut x (Or.inr hr2)
              clear hom hxk
              go_wp2_with (first
                | (go_at_call 28; refine CBd.out.mono ?_; clear CBd; rintro e w6 ⟨rfl, b6⟩; have S6 := HS.out.below b6; have O6 := HO.out.below b6; have P6 := HP.out.below b6; have hz6 := S6.bel.size)
                | (go_at_call 34; refine (CRd.out _ S6).mono ?_; clear CRd; rintro e w7 ⟨⟨v, m7, rfl, hv⟩, S7, k7⟩; have O7 := O6.kept k7; have P7 := P6.kept k7; clear S6 O6 P6 k7; obtain ⟨I, T, rfl, hI, hT⟩ := hv.ex; obtain ⟨s9, l9, g9⟩ := m7; dsimp only at hI hT)
                | (refine wpList_new_rc _ rfl rfl ?_; intro w8 b8 N8)
                | (refine wpList_at (Op.store 37 (.tmp 21) (.tmp 134)) rfl ?_; refine wpList_put_rc (s' := s9) (I' := I) (T' := T) _ rfl (.tmp 21) (.tmp 134) rfl rfl rfl N8.rc hI.slI.one hT.slT.one ?_; intro w9 P9; have b79 : Below w7.heap.size w7 w9 := N8.below.trans (P9.below (by have := N8.eq; omega) N8.below.size); have S9 := S7.below b79; have O9 := O7.below b79; have Q9 := P7.below b79; skip)
                | (go_at_call 24; refine (CEn.out _ S9).mono ?_; rintro e wE ⟨rfl, rfl⟩)
                | (go_at_call 35; refine (CFi.out _ S9 Q9 O9).mono ?_; rintro e wF ⟨rfl, bF⟩)
                | (go_at_call 17; refine (CA.out _).mono ?_; rintro e wG ⟨rfl, bG⟩))
              go_ret
              exact ⟨rfl, thn bF bG⟩
            · have hkl : kk < fs.length := by
                rcases Nat.lt_or_ge kk fs.length with q | q
                · exact q
                · have : kk = fs.length := by omega
                  subst this
                  rw [off_all] at hxk
                  omega
              have CRd : Hid (∀ wy, SlS w wy l k S db 1 fs sure → Calls Tryz.prog 34 #[.pointer (some ⟨l, 0, none⟩), .int .i64 x] wy fun e w' => (∃ v, e = .returned (.tuple #[v, .int .i64 (x + (fs[kk].size : Int)), .int .i64 0]) ∧ RecF w' v (recF fs[kk]) wy.heap.size) ∧ SlS w w' l k S db 1 fs sure ∧ Kp isA w.heap.size wy w') := fun wy q => q.readAt kk hkl x hxk
              have hFr := HFm.out fs[kk] (List.getElem_mem hkl)
              have hbk := hFr.back
              have CFm : Hid (∀ wy v, RecV wy v (recF fs[kk]) → Calls Tryz.prog 18 #[v] wy fun r w' => r = .returned (.tuple #[.string fs[kk], .int .i64 0]) ∧ Below wy.heap.size wy w') := fun wy v q => by
                have := Frame_any q (small_recF hFr)
                rw [hbk] at this
                exact this
              have hos := off_succ hkl
              have hom2 := off_mono (l := fs) (i := kk + 1) (j := fs.length) hkl
              rw [off_all] at hom2
              have hfz : (fs[kk].size : Int) ≤ 1740 := by omega
              have hxz : x ≤ 1741 := by omega
              have hkk3 : (kk : Int) ≤ 300 := by omega
              clear hom hxk hos hom2 hFr hbk
              generalize hM9 : recF fs[kk] = M9 at *
              generalize hFk : fs[kk] = F9 at *
              clear hM9
              obtain ⟨s9, l9, g9⟩ := M9
              go_wp2_with (first
                | (go_at_call 28; refine CBd.out.mono ?_; clear CBd; rintro e w6 ⟨rfl, b6⟩; have S6 := HS.out.below b6; have O6 := HO.out.below b6; have P6 := HP.out.below b6; have hz6 := S6.bel.size)
                | (go_at_call 34; refine (CRd.out _ S6).mono ?_; clear CRd; rintro e w7 ⟨⟨v, rfl, hv⟩, S7, k7⟩; have O7 := O6.kept k7; have P7 := P6.kept k7; clear S6 O6 P6 k7; obtain ⟨I, T, rfl, hI, hT⟩ := hv.ex;  dsimp only at hI hT)
                | (refine wpList_new_rc _ rfl rfl ?_; intro w8 b8 N8)
                | (refine wpList_at (Op.store 37 (.tmp 21) (.tmp 134)) rfl ?_; refine wpList_put_rc (s' := s9) (I' := I) (T' := T) _ rfl (.tmp 21) (.tmp 134) rfl rfl rfl N8.rc hI.slI.one hT.slT.one ?_; intro w9 P9; have b79 : Below w7.heap.size w7 w9 := N8.below.trans (P9.below (by have := N8.eq; omega) N8.below.size); have S9 := S7.below b79; have O9 := O7.below b79; have Q9 := P7.below b79; have hv9 := (hv.below b79).recV)
                | (go_at_call 24; refine (CEn.out _ S9).mono ?_; rintro e wE ⟨rfl, rfl⟩)
                | (refine wpList_load_rc _ rfl (.tmp 21) rfl rfl P9.rc ?_)
                | (go_at_call 18; refine (CFm.out _ _ hv9).mono ?_; rintro e wJ ⟨rfl, bJ⟩; have S9' := S9.below bJ; have O9' := O9.below bJ; have Q9' := Q9.below bJ; clear S9 O9 Q9; have S9 := S9'; have O9 := O9'; have Q9 := Q9'; have cJ0 := Q9.c0; obtain ⟨gJ, haJ, hcJ⟩ := O9.at_ hkl; subst haJ; rw [hFk] at hcJ)
                | (go_at_call 35; refine (CFi.out _ S9 Q9 O9).mono ?_; rintro e wF ⟨rfl, bF⟩)
                | (go_at_call 17; refine (CA.out _).mono ?_; rintro e wG ⟨rfl, bG⟩))
              go_ret
              exact ⟨rfl, thn bF bG⟩
end
end Go.Proofs.YtgcfbjecmmnlhaaGreat

namespace Go.Proofs.YtgcfbjecmmnlhaaGreat
open Go.RowKit Go.Maps Go.ChangeMaps
theorem reads8_walk {w : World} {aa : Option Addr} {na ca : Nat} {ma : List Rm} (hRa : RsV w aa na ma) (hna : na ≤ 9223372036854775807) (flushed x m : Int) (hx0 : -9223372036854775808 ≤ x) (hx9 : x ≤ 9223372036854775807) (hmb : m ≤ 9223372036854775807) : Calls Tryz.prog 7 #[.slice aa na ca, .int .i64 flushed, .int .i64 x, .int .i64 m] w fun e w' => e = .returned (.bool true) ∧ Below w.heap.size w w' := by
  rcases Nat.lt_or_ge 20 na with h1 | h1
  · exact reads_m hRa hna h1 flushed x m hx0 hx9 hmb
  · exact reads_f hRa hna h1 flushed x m hx0 hx9 hmb
end Go.Proofs.YtgcfbjecmmnlhaaGreat
