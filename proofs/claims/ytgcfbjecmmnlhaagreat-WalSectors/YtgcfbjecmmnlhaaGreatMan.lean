/- WalSectors: the walk. -/
import Derived.Test.YtgcfbjecmmnlhaaGreatMam
namespace Go.Proofs.YtgcfbjecmmnlhaaGreat
open Go.RowKit Go.Maps Go.ChangeMaps
set_option linter.unusedVariables false
set_option linter.unusedSimpArgs false
set_option maxRecDepth 100000

theorem slc_from (t : ByteArray) (i : Nat) (h : 58 * i ≤ t.size) : ∀ W, (Instr.slice 9 (.string t) (some (.int .i64 (58 * (i : Int)))) none none).run Tryz.prog W = .ok (.string (rest t i)) W := by
  intro W
  rw [run_slice_string_from_if W 9 t .i64 _ Tryz.underlying9, if_pos (by omega), show (58 * (i : Int)).toNat = 58 * i by omega]
  rfl
theorem slc_58 (t : ByteArray) (h : 58 ≤ t.size) : ∀ W, (Instr.slice 9 (.string t) none (some (.int .i64 58)) none).run Tryz.prog W = .ok (.string (t.extract 0 58)) W := by
  intro W
  rw [run_slice_string_to_if W 9 t .i64 58 Tryz.underlying9, if_pos (by omega)]
  rfl
theorem rest_size (t : ByteArray) (i : Nat) : (rest t i).size = t.size - 58 * i := by unfold rest; rw [ByteArray.size_extract]; omega
theorem rest_part {t : ByteArray} {i : Nat} (h : 58 < (rest t i).size) : (rest t i).extract 0 58 = part t i := by
  have h2 := rest_size t i
  rw [rest_step (by omega)]
  have := ext_left (part t i) (rest t (i + 1))
  rw [part_full (by omega)] at this
  exact this
theorem rest_last2 {t : ByteArray} {i : Nat} (h : t.size ≤ 58 * i + 58) : rest t i = part t i := by
  rcases Nat.lt_or_ge t.size (58 * i + 58) with h1 | h1
  · exact rest_last h1
  · unfold rest part
    rw [show t.size = 58 * i + 58 by omega]
theorem enc_head (q : Sec) : ∀ W, (Instr.slice 9 (.string (encQ q)) none (some (.int .i64 ((secB q).size : Int))) none).run Tryz.prog W = .ok (.string (secB q)) W := by
  intro W
  have hz : (secB q).size ≤ (encQ q).size := by unfold encQ; rw [pad_app, bsz]; omega
  rw [run_slice_string_to_if W 9 _ .i64 _ Tryz.underlying9, if_pos (by omega), Int.toNat_natCast]
  unfold encQ
  rw [pad_app, ext_left]
section
variable {w : World}
theorem sect_out (a : Option Addr) (n c : Nat) (run : Int) (h : run < 1 ∨ 4294967295 < run) : Calls Tryz.prog 4 #[.slice a n c, .int .i64 run] w fun e w' => e = .returned (.bool true) ∧ Below w.heap.size w w' := by
  have CA : Hid (∀ wx, Calls Tryz.prog 17 #[] wx fun e w' => e = .returned (.bool true) ∧ Below wx.heap.size wx w') := awake8
  by_cases h1 : run < 1
  · clear h
    go_enter Tryz.func4, Tryz.ntmps4
    go_wp2_with (go_at_call 17; refine (CA.out _).mono ?_; rintro e w1 ⟨rfl, b1⟩)
    go_ret
    exact ⟨rfl, b1⟩
  · have h2 : 4294967295 < run := by omega
    clear h
    go_enter Tryz.func4, Tryz.ntmps4
    go_wp2_with (go_at_call 17; refine (CA.out _).mono ?_; rintro e w1 ⟨rfl, b1⟩)
    go_ret
    exact ⟨rfl, b1⟩
set_option maxHeartbeats 8000000 in
theorem sect_few {a : Option Addr} {n c : Nat} {ms : List Rm} (hR : RsV w a n ms) (hn : n ≤ 9223372036854775807) (hc : n ≤ 20) (run : Nat) (h1 : 1 ≤ run) (h2 : run ≤ 4294967295) : Calls Tryz.prog 4 #[.slice a n c, .int .i64 (run : Int)] w fun e w' => e = .returned (.bool true) ∧ Below w.heap.size w w' := by
  have CA : Hid (∀ wx, Calls Tryz.prog 17 #[] wx fun e w' => e = .returned (.bool true) ∧ Below wx.heap.size wx w') := awake8
  have CN : Hid (Calls Tryz.prog 9 #[.int .i64 31] w fun e w' => ∃ db, e = .returned (.tuple #[.pointer (some ⟨db, 0, none⟩), .int .i64 0]) ∧ Ds w.heap.size w' db 0 (newDk 31) ∧ Below w.heap.size w w') := by
    refine (se_new w).mono ?_
    rintro e w' ⟨he, q1, q2⟩
    exact ⟨_, he, q1, q2⟩
  have CO : Hid (∀ wx db, Ds w.heap.size wx db 0 (newDk 31) → Below w.heap.size w wx → Calls Tryz.prog 10 #[.pointer (some ⟨db, 0, none⟩), .int .i64 1, .int .i64 30, .int .i64 (run : Int)] wx fun e w' => ∃ S' l, e = .returned (.tuple #[.pointer (some ⟨l, 0, none⟩), .int .i64 0]) ∧ SeS w w' l S' db run []) := fun wx db q1 q2 => se_open q1 q2 h1 h2
  have CFl : Hid (∀ wx l S db fs, SeS w wx l S db run fs → Calls Tryz.prog 21 #[.pointer (some ⟨l, 0, none⟩)] wx fun e w' => e = .returned (.int .i64 0) ∧ ∃ S', SeD w w' S' db run (cat fs)) := fun wx l S db fs q => q.flush
  have CRd : Hid (∀ wx S db (t : ByteArray) (i : Nat), i < 30 → SeD w wx S db run t → Calls Tryz.prog 22 #[.pointer (some ⟨db, 0, none⟩), .int .i64 (1 + (i : Int))] wx fun e w' => e = .returned (.tuple #[.string (S.now (1 + i)), .int .i64 0]) ∧ Below wx.heap.size wx w') := fun wx S db t i hi q => by
    have := q.d.read q.up (1 + i) (by rw [q.n]; omega)
    rw [show ((1 + i : Nat) : Int) = 1 + (i : Int) by omega] at this
    exact this
  have CNu : Hid (∀ wx (x : Nat) (k : Nat), k ≤ 6 → x ≤ 281474976710656 → Calls Tryz.prog 23 #[.int .i64 (x : Int), .int .i64 (k : Int)] wx fun e w' => e = .returned (.string (Pk.beS x k)) ∧ Below wx.heap.size wx w') := fun wx x k q1 q2 => Pk.lawnum_any x k wx q1 q2
  have CN4 : Hid (∀ wx, Calls Tryz.prog 23 #[.int .i64 (run : Int), .int .i64 4] wx fun e w' => e = .returned (.string (Pk.beS run 4)) ∧ Below wx.heap.size wx w') := fun wx => CNu.out wx run 4 (by omega) (by omega)
  have CN2 : Hid (∀ wx (p : ByteArray), p.size ≤ 58 → Calls Tryz.prog 23 #[.int .i64 (p.size : Int), .int .i64 2] wx fun e w' => e = .returned (.string (Pk.beS p.size 2)) ∧ Below wx.heap.size wx w') := fun wx p hp => CNu.out wx p.size 2 (by omega) (by omega)
  have hB4 : (Pk.beS run 4).size = 4 := Pk.beS_size _ _
  have t1 : ¬ (run : Int) < 1 := by omega
  have t2 : ¬ (4294967295 : Int) < (run : Int) := by omega
  have HR : Hid (RsV w a n ms) := hR
  have hlen := hR.len
  clear hR h1 h2 CNu
  go_enter Tryz.func4, Tryz.ntmps4
  go_wp2_with (first
    | (go_at_call 9; refine CN.out.mono ?_; rintro e w1 ⟨db, rfl, D1, b1⟩)
    | (go_at_call 10; refine (CO.out _ _ D1 b1).mono ?_; rintro e w2 ⟨S2, l, rfl, A2⟩))
  have HA : Hid _ := A2
  clear A2 CN CO D1
  go_loopw [9, 10] (fun av ix wr => ∃ (j : Nat) (fs : List ByteArray), j ≤ n ∧ ix = .int .i64 (j : Int) ∧ av = .string (cat fs) ∧ SeS w wr l S2 db run fs) (fun _ ix _ => n - (intOf ix).toNat)
  case atStart => exact ⟨0, [], Nat.zero_le _, rfl, rfl, HA.out⟩
  case round =>
    obtain ⟨j, fs, hj, rfl, rfl, hS⟩ := hrel
    by_cases hlt : j < n
    · obtain ⟨g, o, I, T, ha, hg, hrg, hv, hh⟩ := HR.out.at_ j (by omega)
      subst ha
      have CFw : Hid (∀ wx, Calls Tryz.prog 19 #[.agg (ms[j].s.A I T)] wx fun e w' => (∃ v', e = .returned v' ∧ RecV w v' (few8M ms[j])) ∧ Below wx.heap.size wx w') := fun wx => few8_any hv hh.im hh.tb
      have hsm : Hid (Small (few8M ms[j])) := hh.few8
      have CFr : Hid (∀ wx v', Below w.heap.size w wx → RecV w v' (few8M ms[j]) → Calls Tryz.prog 18 #[v'] wx fun r w' => r = .returned (.tuple #[.string (frameM (few8M ms[j])).1, .int .i64 (frameM (few8M ms[j])).2]) ∧ Below wx.heap.size wx w') := fun wx v' q1 q2 => Frame_any (q2.below q1) hsm.out
      have CAp : Hid (∀ wx v' l S db fs, SeS w wx l S db run fs → RecV w v' (few8M ms[j]) → Calls Tryz.prog 20 #[.pointer (some ⟨l, 0, none⟩), v'] wx fun e w' => ∃ x y fs', e = .returned (.tuple #[.int .i64 x, .int .i64 y]) ∧ SeS w w' l S db run fs' ∧ ((y = 0 ∧ (frameM (few8M ms[j])).2 = 0 ∧ fs' = fs ++ [(frameM (few8M ms[j])).1]) ∨ (y ≠ 0 ∧ fs' = fs))) := fun wx v' l S db fs q1 q2 => q1.append (q2.below q1.bel) hsm.out
      have HRg : Hid (∀ wx, Below w.heap.size w wx → wx.rangeAt g (o + j * 13) ((ms[j].s.A I T).toList)) := fun wx q => rangeAt_below hrg hg q
      have hr1 := HRg.out _ hS.bel
      have hF1 : (frameM (few8M ms[j])).1.size ≤ 4102 := by
        by_cases he : (frameM (few8M ms[j])).2 = 0
        · exact (frm_good he).le
        · rw [frm_err he]; exact Nat.zero_le _
      have hcz := hS.size
      have hi3 : j < n := by omega
      have hi2 : (j : Int) < (n : Int) := by omega
      have hi4 : (j : Int) < 20 := by omega
      clear hrg hv hh hsm hg
      generalize ms[j].s = sm at *
      generalize few8M ms[j] = fm at *
      generalize (frameM fm).1 = F at *
      generalize (frameM fm).2 = E at *
      by_cases hE0 : E = 0
      · subst hE0
        go_wp2_with (first
          | (refine wpList_load_rcs (s := sm) (I := I) (T := T) _ rfl (.tmp 62) rfl rfl hr1 ?_; clear hr1)
          | (refine wpList_load_rcs (s := sm) (I := I) (T := T) _ rfl (.tmp 72) rfl rfl hr2 ?_)
          | (go_at_call 19; refine (CFw.out _).mono ?_; rintro e w3 ⟨⟨v', rfl, hv'⟩, b3⟩; have hn3 := hS.below b3; clear hS; have hS := hn3; clear hn3)
          | (go_at_call 18; refine (CFr.out _ _ hS.bel hv').mono ?_; rintro e w4 ⟨rfl, b4⟩; have hn4 := hS.below b4; clear hS; have hS := hn4; clear hn4; have hr2 := HRg.out _ hS.bel)
          | (go_at_call 20; refine (CAp.out _ _ _ _ _ _ hS hv').mono ?_; clear hS; rintro e w5 ⟨x, y, fs', rfl, hS, hor⟩))
        all_goals first
          | (have hy1 : (y == 0) = true := by assumption
             have hy : y = 0 := by simpa using hy1
             rcases hor with ⟨_, _, rfl⟩ | ⟨q, _⟩
             · go_roundw
               case rel => exact ⟨j + 1, _, by omega, by go_num, by rw [cat_snoc], hS⟩
               case measure => simp [intOf]; omega
             · exact absurd hy q)
          | (have hy1 : (y == 0) = false := by assumption
             have hy : y ≠ 0 := by simpa using hy1
             rcases hor with ⟨q, _⟩ | ⟨_, rfl⟩
             · exact absurd q hy
             · go_roundw
               case rel => exact ⟨j + 1, _, by omega, by go_num, rfl, hS⟩
               case measure => simp [intOf]; omega)
      · have hE1 : (E == 0) = false := by simpa using hE0
        go_wp2_with (first
          | (refine wpList_load_rcs (s := sm) (I := I) (T := T) _ rfl (.tmp 62) rfl rfl hr1 ?_; clear hr1)
          | (refine wpList_load_rcs (s := sm) (I := I) (T := T) _ rfl (.tmp 72) rfl rfl hr2 ?_)
          | (go_at_call 19; refine (CFw.out _).mono ?_; rintro e w3 ⟨⟨v', rfl, hv'⟩, b3⟩; have hn3 := hS.below b3; clear hS; have hS := hn3; clear hn3)
          | (go_at_call 18; refine (CFr.out _ _ hS.bel hv').mono ?_; rintro e w4 ⟨rfl, b4⟩; have hn4 := hS.below b4; clear hS; have hS := hn4; clear hn4; have hr2 := HRg.out _ hS.bel)
          | (go_at_call 20; refine (CAp.out _ _ _ _ _ _ hS hv').mono ?_; clear hS; rintro e w5 ⟨x, y, fs', rfl, hS, hor⟩))
        rcases hor with ⟨_, q, _⟩ | ⟨_, rfl⟩
        · exact absurd q hE0
        · go_roundw
          case rel => exact ⟨j + 1, _, by omega, by go_num, rfl, hS⟩
          case measure => simp [intOf]; omega
    · obtain rfl : j = n := by omega
      have hi2 : ¬ (j : Int) < (j : Int) := by omega
      have hz0 := hS.size
      have HS : Hid _ := hS
      clear hS hlt HR HA
      generalize ht : cat fs = t at *
      have Ht : Hid _ := ht
      clear ht
      go_wp2_with (go_at_call 21; refine (CFl.out _ _ _ _ _ HS.out).mono ?_; rintro e w6 ⟨rfl, S6, hD6⟩)
      rw [Ht.out] at hD6
      have HD6 : Hid _ := hD6
      clear hD6 HS CFl
      go_loopw [15] (fun ix wr => ∃ i : Nat, i ≤ 30 ∧ ix = .int .i64 (i : Int) ∧ SeD w wr S6 db run t) (fun ix _ => 30 - (intOf ix).toNat)
      case atStart => exact ⟨0, Nat.zero_le _, rfl, HD6.out⟩
      case round =>
        obtain ⟨i, hi, rfl, hD⟩ := hrel
        by_cases hlt : i < 30
        · have CR1 : Hid (Calls Tryz.prog 22 #[.pointer (some ⟨db, 0, none⟩), .int .i64 (1 + (i : Int))] wr fun e w' => e = .returned (.tuple #[.string (S6.now (1 + i)), .int .i64 0]) ∧ Below wr.heap.size wr w') := CRd.out wr S6 db t i hlt hD
          have h64 : (S6.now (1 + i)).size = 64 := hD.d.sz (by rw [hD.n]; omega)
          have hi2 : (i : Int) < 30 := by omega
          have hi0 : (0 : Int) ≤ (i : Int) := by omega
          have HDl : Hid _ := hD
          by_cases hs : 58 * i > t.size ∨ (58 * i = t.size ∧ 0 < i)
          · clear hD CRd
            generalize S6.now (1 + i) = b at *
            by_cases hs1 : (t.size : Int) < 58 * (i : Int)
            · clear hs
              go_wp2_with (go_at_call 22; refine CR1.out.mono ?_; rintro e w7 ⟨rfl, b7⟩)
              go_roundw
              case rel => exact ⟨i + 1, by omega, by go_num, HDl.out.below b7⟩
              case measure => simp [intOf]; omega
            · have hs2 : (58 * (i : Int) == (t.size : Int)) = true := by simp; omega
              have hs3 : (0 : Int) < (i : Int) := by omega
              clear hs
              go_wp2_with (go_at_call 22; refine CR1.out.mono ?_; rintro e w7 ⟨rfl, b7⟩)
              go_roundw
              case rel => exact ⟨i + 1, by omega, by go_num, HDl.out.below b7⟩
              case measure => simp [intOf]; omega
          · have hat := hD.at_ i hlt (by omega)
            rw [hat] at CR1 h64
            have hf := slc_from t i (by omega)
            have hrz := rest_size t i
            have hhd := enc_head (run, part t i)
            have hsb : (secB (run, part t i)) = Pk.beS run 4 ++ Pk.beS (part t i).size 2 ++ part t i := rfl
            rw [hsb] at hhd
            have hpz := part_le t i
            have C2 : Hid (∀ wx, Calls Tryz.prog 23 #[.int .i64 ((part t i).size : Int), .int .i64 2] wx fun e w' => e = .returned (.string (Pk.beS (part t i).size 2)) ∧ Below wx.heap.size wx w') := fun wx => CN2.out wx (part t i) hpz
            have hB2 : (Pk.beS (part t i).size 2).size = 2 := Pk.beS_size _ _
            have hszs : ((Pk.beS run 4 ++ Pk.beS (part t i).size 2 ++ part t i).size : Int) = 6 + ((part t i).size : Int) := by rw [bsz, bsz, hB4, hB2]; omega
            rw [hszs] at hhd
            have hs1 : ¬ (t.size : Int) < 58 * (i : Int) := by omega
            clear hD CRd hat hsb CN2
            generalize encQ (run, part t i) = b at *
            by_cases hb58 : 58 < (rest t i).size
            · have h58 := slc_58 (rest t i) (by omega)
              rw [rest_part hb58] at h58
              have hb58' : (58 : Int) < ((rest t i).size : Int) := by omega
              have hrz' : ((rest t i).size : Int) ≤ 2000 := by omega
              by_cases hs2 : (58 * (i : Int) == (t.size : Int)) = true
              · have hs3 : ¬ (0 : Int) < (i : Int) := by
                  have : 58 * (i : Int) = (t.size : Int) := by simpa using hs2
                  omega
                clear hs
                generalize Pk.beS (part t i).size 2 = M at *
                generalize Pk.beS run 4 = U at *
                generalize rest t i = rs at *
                generalize part t i = p at *
                go_wp2_with (first
                  | (go_at_call 22; refine CR1.out.mono ?_; rintro e w7 ⟨rfl, b7⟩; have hD := HDl.out.below b7; clear HDl)
                  | (go_at_call 23; refine (CN4.out _).mono ?_; clear CN4; rintro e w8 ⟨rfl, b8⟩; have hDn := hD.below b8; clear hD)
                  | (go_at_call 23; refine (C2.out _).mono ?_; clear C2; rintro e w9 ⟨rfl, b9⟩; have hDm := hDn.below b9; clear hDn))
                go_roundw
                case rel => exact ⟨i + 1, by omega, by go_num, hDm⟩
                case measure => simp [intOf]; omega
              · have hs2' : (58 * (i : Int) == (t.size : Int)) = false := by simpa using hs2
                clear hs hs2
                generalize Pk.beS (part t i).size 2 = M at *
                generalize Pk.beS run 4 = U at *
                generalize rest t i = rs at *
                generalize part t i = p at *
                go_wp2_with (first
                  | (go_at_call 22; refine CR1.out.mono ?_; rintro e w7 ⟨rfl, b7⟩; have hD := HDl.out.below b7; clear HDl)
                  | (go_at_call 23; refine (CN4.out _).mono ?_; clear CN4; rintro e w8 ⟨rfl, b8⟩; have hDn := hD.below b8; clear hD)
                  | (go_at_call 23; refine (C2.out _).mono ?_; clear C2; rintro e w9 ⟨rfl, b9⟩; have hDm := hDn.below b9; clear hDn))
                go_roundw
                case rel => exact ⟨i + 1, by omega, by go_num, hDm⟩
                case measure => simp [intOf]; omega
            · have hrp : rest t i = part t i := rest_last2 (by omega)
              rw [hrp] at hf
              have hb58' : ¬ (58 : Int) < ((part t i).size : Int) := by have := part_le t i; omega
              by_cases hs2 : (58 * (i : Int) == (t.size : Int)) = true
              · have hs3 : ¬ (0 : Int) < (i : Int) := by
                  have : 58 * (i : Int) = (t.size : Int) := by simpa using hs2
                  omega
                clear hs
                generalize Pk.beS (part t i).size 2 = M at *
                generalize Pk.beS run 4 = U at *
                generalize rest t i = rs at *
                generalize part t i = p at *
                go_wp2_with (first
                  | (go_at_call 22; refine CR1.out.mono ?_; rintro e w7 ⟨rfl, b7⟩; have hD := HDl.out.below b7; clear HDl)
                  | (go_at_call 23; refine (CN4.out _).mono ?_; clear CN4; rintro e w8 ⟨rfl, b8⟩; have hDn := hD.below b8; clear hD)
                  | (go_at_call 23; refine (C2.out _).mono ?_; clear C2; rintro e w9 ⟨rfl, b9⟩; have hDm := hDn.below b9; clear hDn))
                go_roundw
                case rel => exact ⟨i + 1, by omega, by go_num, hDm⟩
                case measure => simp [intOf]; omega
              · have hs2' : (58 * (i : Int) == (t.size : Int)) = false := by simpa using hs2
                clear hs hs2
                generalize Pk.beS (part t i).size 2 = M at *
                generalize Pk.beS run 4 = U at *
                generalize rest t i = rs at *
                generalize part t i = p at *
                go_wp2_with (first
                  | (go_at_call 22; refine CR1.out.mono ?_; rintro e w7 ⟨rfl, b7⟩; have hD := HDl.out.below b7; clear HDl)
                  | (go_at_call 23; refine (CN4.out _).mono ?_; clear CN4; rintro e w8 ⟨rfl, b8⟩; have hDn := hD.below b8; clear hD)
                  | (go_at_call 23; refine (C2.out _).mono ?_; clear C2; rintro e w9 ⟨rfl, b9⟩; have hDm := hDn.below b9; clear hDn))
                go_roundw
                case rel => exact ⟨i + 1, by omega, by go_num, hDm⟩
                case measure => simp [intOf]; omega
        · obtain rfl : i = 30 := by omega
          have HDl : Hid _ := hD
          clear hD
          go_wp2_with (go_at_call 17; refine (CA.out _).mono ?_; rintro e w9 ⟨rfl, b9⟩)
          go_ret
          exact ⟨rfl, thn HDl.out.bel b9⟩
set_option maxHeartbeats 8000000 in
theorem sect_many {a : Option Addr} {n c : Nat} {ms : List Rm} (hR : RsV w a n ms) (hn : n ≤ 9223372036854775807) (hc : 20 < n) (run : Nat) (h1 : 1 ≤ run) (h2 : run ≤ 4294967295) : Calls Tryz.prog 4 #[.slice a n c, .int .i64 (run : Int)] w fun e w' => e = .returned (.bool true) ∧ Below w.heap.size w w' := by
  have CA : Hid (∀ wx, Calls Tryz.prog 17 #[] wx fun e w' => e = .returned (.bool true) ∧ Below wx.heap.size wx w') := awake8
  have CN : Hid (Calls Tryz.prog 9 #[.int .i64 31] w fun e w' => ∃ db, e = .returned (.tuple #[.pointer (some ⟨db, 0, none⟩), .int .i64 0]) ∧ Ds w.heap.size w' db 0 (newDk 31) ∧ Below w.heap.size w w') := by
    refine (se_new w).mono ?_
    rintro e w' ⟨he, q1, q2⟩
    exact ⟨_, he, q1, q2⟩
  have CO : Hid (∀ wx db, Ds w.heap.size wx db 0 (newDk 31) → Below w.heap.size w wx → Calls Tryz.prog 10 #[.pointer (some ⟨db, 0, none⟩), .int .i64 1, .int .i64 30, .int .i64 (run : Int)] wx fun e w' => ∃ S' l, e = .returned (.tuple #[.pointer (some ⟨l, 0, none⟩), .int .i64 0]) ∧ SeS w w' l S' db run []) := fun wx db q1 q2 => se_open q1 q2 h1 h2
  have CFl : Hid (∀ wx l S db fs, SeS w wx l S db run fs → Calls Tryz.prog 21 #[.pointer (some ⟨l, 0, none⟩)] wx fun e w' => e = .returned (.int .i64 0) ∧ ∃ S', SeD w w' S' db run (cat fs)) := fun wx l S db fs q => q.flush
  have CRd : Hid (∀ wx S db (t : ByteArray) (i : Nat), i < 30 → SeD w wx S db run t → Calls Tryz.prog 22 #[.pointer (some ⟨db, 0, none⟩), .int .i64 (1 + (i : Int))] wx fun e w' => e = .returned (.tuple #[.string (S.now (1 + i)), .int .i64 0]) ∧ Below wx.heap.size wx w') := fun wx S db t i hi q => by
    have := q.d.read q.up (1 + i) (by rw [q.n]; omega)
    rw [show ((1 + i : Nat) : Int) = 1 + (i : Int) by omega] at this
    exact this
  have CNu : Hid (∀ wx (x : Nat) (k : Nat), k ≤ 6 → x ≤ 281474976710656 → Calls Tryz.prog 23 #[.int .i64 (x : Int), .int .i64 (k : Int)] wx fun e w' => e = .returned (.string (Pk.beS x k)) ∧ Below wx.heap.size wx w') := fun wx x k q1 q2 => Pk.lawnum_any x k wx q1 q2
  have CN4 : Hid (∀ wx, Calls Tryz.prog 23 #[.int .i64 (run : Int), .int .i64 4] wx fun e w' => e = .returned (.string (Pk.beS run 4)) ∧ Below wx.heap.size wx w') := fun wx => CNu.out wx run 4 (by omega) (by omega)
  have CN2 : Hid (∀ wx (p : ByteArray), p.size ≤ 58 → Calls Tryz.prog 23 #[.int .i64 (p.size : Int), .int .i64 2] wx fun e w' => e = .returned (.string (Pk.beS p.size 2)) ∧ Below wx.heap.size wx w') := fun wx p hp => CNu.out wx p.size 2 (by omega) (by omega)
  have hB4 : (Pk.beS run 4).size = 4 := Pk.beS_size _ _
  have t1 : ¬ (run : Int) < 1 := by omega
  have t2 : ¬ (4294967295 : Int) < (run : Int) := by omega
  have HR : Hid (RsV w a n ms) := hR
  have hlen := hR.len
  clear hR h1 h2 CNu
  go_enter Tryz.func4, Tryz.ntmps4
  go_wp2_with (first
    | (go_at_call 9; refine CN.out.mono ?_; rintro e w1 ⟨db, rfl, D1, b1⟩)
    | (go_at_call 10; refine (CO.out _ _ D1 b1).mono ?_; rintro e w2 ⟨S2, l, rfl, A2⟩))
  have HA : Hid _ := A2
  clear A2 CN CO D1
  go_loopw [9, 10] (fun av ix wr => ∃ (j : Nat) (fs : List ByteArray), j ≤ 20 ∧ ix = .int .i64 (j : Int) ∧ av = .string (cat fs) ∧ SeS w wr l S2 db run fs) (fun _ ix _ => 20 - (intOf ix).toNat)
  case atStart => exact ⟨0, [], Nat.zero_le _, rfl, rfl, HA.out⟩
  case round =>
    obtain ⟨j, fs, hj, rfl, rfl, hS⟩ := hrel
    by_cases hlt : j < 20
    · obtain ⟨g, o, I, T, ha, hg, hrg, hv, hh⟩ := HR.out.at_ j (by omega)
      subst ha
      have CFw : Hid (∀ wx, Calls Tryz.prog 19 #[.agg (ms[j].s.A I T)] wx fun e w' => (∃ v', e = .returned v' ∧ RecV w v' (few8M ms[j])) ∧ Below wx.heap.size wx w') := fun wx => few8_any hv hh.im hh.tb
      have hsm : Hid (Small (few8M ms[j])) := hh.few8
      have CFr : Hid (∀ wx v', Below w.heap.size w wx → RecV w v' (few8M ms[j]) → Calls Tryz.prog 18 #[v'] wx fun r w' => r = .returned (.tuple #[.string (frameM (few8M ms[j])).1, .int .i64 (frameM (few8M ms[j])).2]) ∧ Below wx.heap.size wx w') := fun wx v' q1 q2 => Frame_any (q2.below q1) hsm.out
      have CAp : Hid (∀ wx v' l S db fs, SeS w wx l S db run fs → RecV w v' (few8M ms[j]) → Calls Tryz.prog 20 #[.pointer (some ⟨l, 0, none⟩), v'] wx fun e w' => ∃ x y fs', e = .returned (.tuple #[.int .i64 x, .int .i64 y]) ∧ SeS w w' l S db run fs' ∧ ((y = 0 ∧ (frameM (few8M ms[j])).2 = 0 ∧ fs' = fs ++ [(frameM (few8M ms[j])).1]) ∨ (y ≠ 0 ∧ fs' = fs))) := fun wx v' l S db fs q1 q2 => q1.append (q2.below q1.bel) hsm.out
      have HRg : Hid (∀ wx, Below w.heap.size w wx → wx.rangeAt g (o + j * 13) ((ms[j].s.A I T).toList)) := fun wx q => rangeAt_below hrg hg q
      have hr1 := HRg.out _ hS.bel
      have hF1 : (frameM (few8M ms[j])).1.size ≤ 4102 := by
        by_cases he : (frameM (few8M ms[j])).2 = 0
        · exact (frm_good he).le
        · rw [frm_err he]; exact Nat.zero_le _
      have hcz := hS.size
      have hi3 : j < n := by omega
      have hi2 : (j : Int) < (n : Int) := by omega
      have hi4 : (j : Int) < 20 := by omega
      clear hrg hv hh hsm hg
      generalize ms[j].s = sm at *
      generalize few8M ms[j] = fm at *
      generalize (frameM fm).1 = F at *
      generalize (frameM fm).2 = E at *
      by_cases hE0 : E = 0
      · subst hE0
        go_wp2_with (first
          | (refine wpList_load_rcs (s := sm) (I := I) (T := T) _ rfl (.tmp 62) rfl rfl hr1 ?_; clear hr1)
          | (refine wpList_load_rcs (s := sm) (I := I) (T := T) _ rfl (.tmp 72) rfl rfl hr2 ?_)
          | (go_at_call 19; refine (CFw.out _).mono ?_; rintro e w3 ⟨⟨v', rfl, hv'⟩, b3⟩; have hn3 := hS.below b3; clear hS; have hS := hn3; clear hn3)
          | (go_at_call 18; refine (CFr.out _ _ hS.bel hv').mono ?_; rintro e w4 ⟨rfl, b4⟩; have hn4 := hS.below b4; clear hS; have hS := hn4; clear hn4; have hr2 := HRg.out _ hS.bel)
          | (go_at_call 20; refine (CAp.out _ _ _ _ _ _ hS hv').mono ?_; clear hS; rintro e w5 ⟨x, y, fs', rfl, hS, hor⟩))
        all_goals first
          | (have hy1 : (y == 0) = true := by assumption
             have hy : y = 0 := by simpa using hy1
             rcases hor with ⟨_, _, rfl⟩ | ⟨q, _⟩
             · go_roundw
               case rel => exact ⟨j + 1, _, by omega, by go_num, by rw [cat_snoc], hS⟩
               case measure => simp [intOf]; omega
             · exact absurd hy q)
          | (have hy1 : (y == 0) = false := by assumption
             have hy : y ≠ 0 := by simpa using hy1
             rcases hor with ⟨q, _⟩ | ⟨_, rfl⟩
             · exact absurd q hy
             · go_roundw
               case rel => exact ⟨j + 1, _, by omega, by go_num, rfl, hS⟩
               case measure => simp [intOf]; omega)
      · have hE1 : (E == 0) = false := by simpa using hE0
        go_wp2_with (first
          | (refine wpList_load_rcs (s := sm) (I := I) (T := T) _ rfl (.tmp 62) rfl rfl hr1 ?_; clear hr1)
          | (refine wpList_load_rcs (s := sm) (I := I) (T := T) _ rfl (.tmp 72) rfl rfl hr2 ?_)
          | (go_at_call 19; refine (CFw.out _).mono ?_; rintro e w3 ⟨⟨v', rfl, hv'⟩, b3⟩; have hn3 := hS.below b3; clear hS; have hS := hn3; clear hn3)
          | (go_at_call 18; refine (CFr.out _ _ hS.bel hv').mono ?_; rintro e w4 ⟨rfl, b4⟩; have hn4 := hS.below b4; clear hS; have hS := hn4; clear hn4; have hr2 := HRg.out _ hS.bel)
          | (go_at_call 20; refine (CAp.out _ _ _ _ _ _ hS hv').mono ?_; clear hS; rintro e w5 ⟨x, y, fs', rfl, hS, hor⟩))
        rcases hor with ⟨_, q, _⟩ | ⟨_, rfl⟩
        · exact absurd q hE0
        · go_roundw
          case rel => exact ⟨j + 1, _, by omega, by go_num, rfl, hS⟩
          case measure => simp [intOf]; omega
    · obtain rfl : j = 20 := by omega
      have hi2 : (20 : Int) < (n : Int) := by omega
      have hz0 := hS.size
      have HS : Hid _ := hS
      clear hS hlt HR HA
      generalize ht : cat fs = t at *
      have Ht : Hid _ := ht
      clear ht
      go_wp2_with (go_at_call 21; refine (CFl.out _ _ _ _ _ HS.out).mono ?_; rintro e w6 ⟨rfl, S6, hD6⟩)
      rw [Ht.out] at hD6
      have HD6 : Hid _ := hD6
      clear hD6 HS CFl
      go_loopw [15] (fun ix wr => ∃ i : Nat, i ≤ 30 ∧ ix = .int .i64 (i : Int) ∧ SeD w wr S6 db run t) (fun ix _ => 30 - (intOf ix).toNat)
      case atStart => exact ⟨0, Nat.zero_le _, rfl, HD6.out⟩
      case round =>
        obtain ⟨i, hi, rfl, hD⟩ := hrel
        by_cases hlt : i < 30
        · have CR1 : Hid (Calls Tryz.prog 22 #[.pointer (some ⟨db, 0, none⟩), .int .i64 (1 + (i : Int))] wr fun e w' => e = .returned (.tuple #[.string (S6.now (1 + i)), .int .i64 0]) ∧ Below wr.heap.size wr w') := CRd.out wr S6 db t i hlt hD
          have h64 : (S6.now (1 + i)).size = 64 := hD.d.sz (by rw [hD.n]; omega)
          have hi2 : (i : Int) < 30 := by omega
          have hi0 : (0 : Int) ≤ (i : Int) := by omega
          have HDl : Hid _ := hD
          by_cases hs : 58 * i > t.size ∨ (58 * i = t.size ∧ 0 < i)
          · clear hD CRd
            generalize S6.now (1 + i) = b at *
            by_cases hs1 : (t.size : Int) < 58 * (i : Int)
            · clear hs
              go_wp2_with (go_at_call 22; refine CR1.out.mono ?_; rintro e w7 ⟨rfl, b7⟩)
              go_roundw
              case rel => exact ⟨i + 1, by omega, by go_num, HDl.out.below b7⟩
              case measure => simp [intOf]; omega
            · have hs2 : (58 * (i : Int) == (t.size : Int)) = true := by simp; omega
              have hs3 : (0 : Int) < (i : Int) := by omega
              clear hs
              go_wp2_with (go_at_call 22; refine CR1.out.mono ?_; rintro e w7 ⟨rfl, b7⟩)
              go_roundw
              case rel => exact ⟨i + 1, by omega, by go_num, HDl.out.below b7⟩
              case measure => simp [intOf]; omega
          · have hat := hD.at_ i hlt (by omega)
            rw [hat] at CR1 h64
            have hf := slc_from t i (by omega)
            have hrz := rest_size t i
            have hhd := enc_head (run, part t i)
            have hsb : (secB (run, part t i)) = Pk.beS run 4 ++ Pk.beS (part t i).size 2 ++ part t i := rfl
            rw [hsb] at hhd
            have hpz := part_le t i
            have C2 : Hid (∀ wx, Calls Tryz.prog 23 #[.int .i64 ((part t i).size : Int), .int .i64 2] wx fun e w' => e = .returned (.string (Pk.beS (part t i).size 2)) ∧ Below wx.heap.size wx w') := fun wx => CN2.out wx (part t i) hpz
            have hB2 : (Pk.beS (part t i).size 2).size = 2 := Pk.beS_size _ _
            have hszs : ((Pk.beS run 4 ++ Pk.beS (part t i).size 2 ++ part t i).size : Int) = 6 + ((part t i).size : Int) := by rw [bsz, bsz, hB4, hB2]; omega
            rw [hszs] at hhd
            have hs1 : ¬ (t.size : Int) < 58 * (i : Int) := by omega
            clear hD CRd hat hsb CN2
            generalize encQ (run, part t i) = b at *
            by_cases hb58 : 58 < (rest t i).size
            · have h58 := slc_58 (rest t i) (by omega)
              rw [rest_part hb58] at h58
              have hb58' : (58 : Int) < ((rest t i).size : Int) := by omega
              have hrz' : ((rest t i).size : Int) ≤ 2000 := by omega
              by_cases hs2 : (58 * (i : Int) == (t.size : Int)) = true
              · have hs3 : ¬ (0 : Int) < (i : Int) := by
                  have : 58 * (i : Int) = (t.size : Int) := by simpa using hs2
                  omega
                clear hs
                generalize Pk.beS (part t i).size 2 = M at *
                generalize Pk.beS run 4 = U at *
                generalize rest t i = rs at *
                generalize part t i = p at *
                go_wp2_with (first
                  | (go_at_call 22; refine CR1.out.mono ?_; rintro e w7 ⟨rfl, b7⟩; have hD := HDl.out.below b7; clear HDl)
                  | (go_at_call 23; refine (CN4.out _).mono ?_; clear CN4; rintro e w8 ⟨rfl, b8⟩; have hDn := hD.below b8; clear hD)
                  | (go_at_call 23; refine (C2.out _).mono ?_; clear C2; rintro e w9 ⟨rfl, b9⟩; have hDm := hDn.below b9; clear hDn))
                go_roundw
                case rel => exact ⟨i + 1, by omega, by go_num, hDm⟩
                case measure => simp [intOf]; omega
              · have hs2' : (58 * (i : Int) == (t.size : Int)) = false := by simpa using hs2
                clear hs hs2
                generalize Pk.beS (part t i).size 2 = M at *
                generalize Pk.beS run 4 = U at *
                generalize rest t i = rs at *
                generalize part t i = p at *
                go_wp2_with (first
                  | (go_at_call 22; refine CR1.out.mono ?_; rintro e w7 ⟨rfl, b7⟩; have hD := HDl.out.below b7; clear HDl)
                  | (go_at_call 23; refine (CN4.out _).mono ?_; clear CN4; rintro e w8 ⟨rfl, b8⟩; have hDn := hD.below b8; clear hD)
                  | (go_at_call 23; refine (C2.out _).mono ?_; clear C2; rintro e w9 ⟨rfl, b9⟩; have hDm := hDn.below b9; clear hDn))
                go_roundw
                case rel => exact ⟨i + 1, by omega, by go_num, hDm⟩
                case measure => simp [intOf]; omega
            · have hrp : rest t i = part t i := rest_last2 (by omega)
              rw [hrp] at hf
              have hb58' : ¬ (58 : Int) < ((part t i).size : Int) := by have := part_le t i; omega
              by_cases hs2 : (58 * (i : Int) == (t.size : Int)) = true
              · have hs3 : ¬ (0 : Int) < (i : Int) := by
                  have : 58 * (i : Int) = (t.size : Int) := by simpa using hs2
                  omega
                clear hs
                generalize Pk.beS (part t i).size 2 = M at *
                generalize Pk.beS run 4 = U at *
                generalize rest t i = rs at *
                generalize part t i = p at *
                go_wp2_with (first
                  | (go_at_call 22; refine CR1.out.mono ?_; rintro e w7 ⟨rfl, b7⟩; have hD := HDl.out.below b7; clear HDl)
                  | (go_at_call 23; refine (CN4.out _).mono ?_; clear CN4; rintro e w8 ⟨rfl, b8⟩; have hDn := hD.below b8; clear hD)
                  | (go_at_call 23; refine (C2.out _).mono ?_; clear C2; rintro e w9 ⟨rfl, b9⟩; have hDm := hDn.below b9; clear hDn))
                go_roundw
                case rel => exact ⟨i + 1, by omega, by go_num, hDm⟩
                case measure => simp [intOf]; omega
              · have hs2' : (58 * (i : Int) == (t.size : Int)) = false := by simpa using hs2
                clear hs hs2
                generalize Pk.beS (part t i).size 2 = M at *
                generalize Pk.beS run 4 = U at *
                generalize rest t i = rs at *
                generalize part t i = p at *
                go_wp2_with (first
                  | (go_at_call 22; refine CR1.out.mono ?_; rintro e w7 ⟨rfl, b7⟩; have hD := HDl.out.below b7; clear HDl)
                  | (go_at_call 23; refine (CN4.out _).mono ?_; clear CN4; rintro e w8 ⟨rfl, b8⟩; have hDn := hD.below b8; clear hD)
                  | (go_at_call 23; refine (C2.out _).mono ?_; clear C2; rintro e w9 ⟨rfl, b9⟩; have hDm := hDn.below b9; clear hDn))
                go_roundw
                case rel => exact ⟨i + 1, by omega, by go_num, hDm⟩
                case measure => simp [intOf]; omega
        · obtain rfl : i = 30 := by omega
          have HDl : Hid _ := hD
          clear hD
          go_wp2_with (go_at_call 17; refine (CA.out _).mono ?_; rintro e w9 ⟨rfl, b9⟩)
          go_ret
          exact ⟨rfl, thn HDl.out.bel b9⟩
theorem sect8_walk {a : Option Addr} {n c : Nat} {ms : List Rm} (hR : RsV w a n ms) (hn : n ≤ 9223372036854775807) (run : Int) : Calls Tryz.prog 4 #[.slice a n c, .int .i64 run] w fun e w' => e = .returned (.bool true) ∧ Below w.heap.size w w' := by
  by_cases h : run < 1 ∨ 4294967295 < run
  · exact sect_out a n c run h
  obtain ⟨r, rfl⟩ : ∃ m : Nat, run = m := ⟨run.toNat, by omega⟩
  rcases Nat.lt_or_ge 20 n with hc | hc
  · exact sect_many hR hn hc r (by omega) (by omega)
  · exact sect_few hR hn hc r (by omega) (by omega)
end
end Go.Proofs.YtgcfbjecmmnlhaaGreat
