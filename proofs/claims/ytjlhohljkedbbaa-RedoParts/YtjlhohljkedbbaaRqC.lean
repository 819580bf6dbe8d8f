/- RedoParts: the walk. -/
import Derived.Test.YtjlhohljkedbbaaRqB
import Derived.BigQuiet
namespace Go.Proofs.Ytjlhohljkedbbaa.Rq
open Go.RowKit Gm
set_option linter.unusedVariables false
set_option linter.unusedSimpArgs false
set_option maxRecDepth 100000
section
variable {w : World} {a : Option Addr} {n c : Nat} {L : List SpL}
theorem part0 {e : Int} (h : upN L e = 0) (en : Int) : partM L e en = (0, min 1 en) := if_pos h
theorem partS {e : Int} {k : Nat} (h : upN L e = k + 1) (en : Int) : ∃ hk : k < L.length, partM L e en = (L[k].1, upP L e en) := by
  have hk : k < L.length := by have := upN_le L e; omega
  refine ⟨hk, (if_neg (by omega)).trans ?_⟩
  rw [h, Nat.add_sub_cancel, List.getElem?_eq_getElem hk]
  rfl
set_option maxHeartbeats 1000000 in
theorem parts_few (h : Sp w (.slice a n c) L) (hL : L.length = n) (hn : n ≤ 100) (e en : Int) : Calls Try.prog 4 #[.slice a n c, .int .i64 e, .int .i64 en] w fun x w' => x = .returned (.bool true) ∧ Below w.heap.size w w' := by
  have CK : Hid (∀ wx, Calls Try.prog 13 #[] wx fun e w' => e = .returned (.bool true) ∧ Below wx.heap.size wx w') := fun wx => awake15 wx
  obtain ⟨p1, p2, hp⟩ : ∃ p1 p2, partM L e en = (p1, p2) := ⟨_, _, rfl⟩
  have HP : Hid (partM L e en = (p1, p2)) := hp
  have C := Part_any h hL (by omega) e en
  rw [hp] at C
  have C : Hid (Calls Try.prog 12 #[.slice a n c, .int .i64 e, .int .i64 en] w fun x w' => x = .returned (.tuple #[.int .i64 p1, .int .i64 p2]) ∧ Below w.heap.size w w') := C
  have HV : Hid (Sp w (.slice a n c) L) := h
  obtain ⟨m, rfl⟩ : ∃ m, n = m := ⟨n, rfl⟩
  have Hm : Hid (L.length = n) := hL
  have hnI : ¬ (n : Int) > 100 := by omega
  clear h hL hp
  go_enter Try.func4, Try.ntmps4
  go_wp2_with (go_at_call 12; refine C.out.mono ?_; rintro x w2 ⟨rfl, q2⟩)
  go_loopw [9] (fun s9 wr => ∃ i : Nat, s9 = .int .i64 (i : Int) ∧ i ≤ n ∧ Below w.heap.size w wr ∧ Hid (∀ j (hj : j < L.length), j < i → ¬ e < L[j].1)) (fun s9 _ => n - (intOf s9).toNat)
  case atStart => exact ⟨0, rfl, Nat.zero_le _, q2, fun j _ hj => absurd hj (Nat.not_lt_zero _)⟩
  case round =>
    obtain ⟨i, rfl, hi, hB, HN⟩ := hrel
    rename World => wo
    have HB : Hid (Below w.heap.size w wo) := hB
    clear hB q2
    by_cases hlt : i < n
    · have hltI : (i : Int) < (n : Int) := by omega
      have hi1 : i < L.length := by have := Hm.out; omega
      obtain ⟨g, o, rfl, _, c0, c1⟩ := (HV.out.bel HB.out).at_ hi1
      by_cases hc : e < L[i].1
      · have HF : Hid (upN L e = i) := upN_of hi1 hc (fun j hj => HN.out j (by omega) hj)
        have HQ : Hid (upP L e en = min L[i].2 en) := upP_at hi1 HF.out
        have hc2 : ¬ L[i].1 ≤ e := by omega
        rcases Nat.eq_zero_or_pos i with h0 | h0
        · have e1 : (p1, p2) = (0, min 1 en) := HP.out.symm.trans (part0 (HF.out.trans h0) en)
          have e2 : p1 = 0 := congrArg Prod.fst e1
          have e3 : p2 = min 1 en := congrArg Prod.snd e1
          generalize L[i].1 = x at *
          generalize L[i].2 = y at *
          have hk0 : ¬ (i : Int) > 0 := by omega
          clear e1 hi1 HP HF HQ HV h0
          subst e2
          by_cases h1 : en < 1
          · obtain rfl : p2 = en := by omega
            clear e3
            go_wp2_with (go_at_call 13; refine (CK.out _).mono ?_; rintro x w5 ⟨rfl, q5⟩)
            go_ret
            exact ⟨rfl, thn HB.out q5⟩
          · obtain rfl : p2 = 1 := by omega
            clear e3
            go_wp2_with (go_at_call 13; refine (CK.out _).mono ?_; rintro x w5 ⟨rfl, q5⟩)
            go_ret
            exact ⟨rfl, thn HB.out q5⟩
        · obtain ⟨k, hik⟩ : ∃ k, i = k + 1 := ⟨i - 1, by omega⟩
          obtain ⟨hk, e0⟩ := partS (HF.out.trans hik) en
          have e1 : (p1, p2) = (L[k].1, min L[i].2 en) := (HP.out.symm.trans e0).trans (by rw [HQ.out])
          have e2 : p1 = L[k].1 := congrArg Prod.fst e1
          have e3 : p2 = min L[i].2 en := congrArg Prod.snd e1
          obtain ⟨g', o', eg, -, d0, -⟩ := (HV.out.bel HB.out).at_ hk
          cases eg
          have hw1 : IntKind.i64.wrap ((i : Int) - 1) = (k : Int) := by rw [show (i : Int) - 1 = (k : Int) by omega]; rw [IntKind.wrap_i64]; omega
          have hkm : (k : Int) < (n : Int) := by omega
          have hk0 : (i : Int) > 0 := by omega
          rw [← e2] at d0
          generalize L[i].1 = x at *
          generalize L[i].2 = y at *
          clear e0 e1 e2 hi1 HP HF HQ HV hk h0 hik
          by_cases h1 : en < y
          · obtain rfl : p2 = en := by omega
            clear e3
            go_wp2_with (go_at_call 13; refine (CK.out _).mono ?_; rintro x w5 ⟨rfl, q5⟩)
            go_ret
            exact ⟨rfl, thn HB.out q5⟩
          · obtain rfl : p2 = y := by omega
            clear e3
            go_wp2_with (go_at_call 13; refine (CK.out _).mono ?_; rintro x w5 ⟨rfl, q5⟩)
            go_ret
            exact ⟨rfl, thn HB.out q5⟩
      · have HN2 : Hid (∀ j (hj : j < L.length), j < i + 1 → ¬ e < L[j].1) := fun j hj hj2 => (Nat.lt_succ_iff_lt_or_eq.1 hj2).elim (fun h => HN.out j hj h) (fun h => by subst h; exact hc)
        have hc2 : L[i].1 ≤ e := by omega
        generalize L[i].1 = x at *
        generalize L[i].2 = y at *
        clear hi1
        go_wp2
        go_roundw
        case rel => exact ⟨i + 1, by rfl, by omega, HB.out, HN2.out⟩
        case measure => simp [intOf]; omega
    · have hltI : ¬ (i : Int) < (n : Int) := by omega
      have HF : Hid (upN L e = L.length) := upN_no (fun j hj => HN.out j hj (by have := Hm.out; omega))
      have HQ : Hid (upP L e en = en) := upP_no HF.out
      have hin : i = n := by omega
      rcases Nat.eq_zero_or_pos i with h0 | h0
      · have hk0 : ¬ (i : Int) > 0 := by omega
        have e1 : (p1, p2) = (0, min 1 en) := HP.out.symm.trans (part0 (by rw [HF.out, Hm.out]; omega) en)
        have e2 : p1 = 0 := congrArg Prod.fst e1
        have e3 : p2 = min 1 en := congrArg Prod.snd e1
        clear e1 HP HF HQ HV h0 hin
        subst e2
        by_cases h1 : en < 1
        · obtain rfl : p2 = en := by omega
          clear e3
          go_wp2_with (go_at_call 13; refine (CK.out _).mono ?_; rintro x w5 ⟨rfl, q5⟩)
          go_ret
          exact ⟨rfl, thn HB.out q5⟩
        · obtain rfl : p2 = 1 := by omega
          clear e3
          go_wp2_with (go_at_call 13; refine (CK.out _).mono ?_; rintro x w5 ⟨rfl, q5⟩)
          go_ret
          exact ⟨rfl, thn HB.out q5⟩
      · obtain ⟨k, hik⟩ : ∃ k, i = k + 1 := ⟨i - 1, by omega⟩
        obtain ⟨hk, e0⟩ := partS (k := k) (by rw [HF.out, Hm.out]; omega) en
        have e1 : (p1, p2) = (L[k].1, en) := (HP.out.symm.trans e0).trans (by rw [HQ.out])
        have e2 : p1 = L[k].1 := congrArg Prod.fst e1
        have e3 : p2 = en := congrArg Prod.snd e1
        obtain ⟨g, o, rfl, -, d0, -⟩ := (HV.out.bel HB.out).at_ hk
        have hw1 : IntKind.i64.wrap ((i : Int) - 1) = (k : Int) := by rw [show (i : Int) - 1 = (k : Int) by omega]; rw [IntKind.wrap_i64]; omega
        have hkm : (k : Int) < (n : Int) := by omega
        have hk0 : (i : Int) > 0 := by omega
        rw [← e2] at d0
        clear e0 e1 e2 HP HF HQ HV hk h0 hik hin
        subst e3
        go_wp2_with (go_at_call 13; refine (CK.out _).mono ?_; rintro x w5 ⟨rfl, q5⟩)
        go_ret
        exact ⟨rfl, thn HB.out q5⟩
set_option maxHeartbeats 1000000 in
theorem parts_many {L0 : List SpL} (h0 : Sp w (.slice a n c) L0) (hL0 : L0.length = n) (hn : 100 < n) (hc : n ≤ c) (hc2 : c < 9223372036854775808) (e en : Int) : Calls Try.prog 4 #[.slice a n c, .int .i64 e, .int .i64 en] w fun x w' => x = .returned (.bool true) ∧ Below w.heap.size w w' := by
  have CK : Hid (∀ wx, Calls Try.prog 13 #[] wx fun e w' => e = .returned (.bool true) ∧ Below wx.heap.size wx w') := fun wx => awake15 wx
  obtain ⟨g9, o9, rfl, -⟩ := h0.at_ (i := 0) (by omega)
  have h := h0.take 100 (by omega)
  have hL : (L0.take 100).length = 100 := by rw [List.length_take]; omega
  generalize L0.take 100 = L at h hL
  clear h0 hL0
  obtain ⟨p1, p2, hp⟩ : ∃ p1 p2, partM L e en = (p1, p2) := ⟨_, _, rfl⟩
  have HP : Hid (partM L e en = (p1, p2)) := hp
  have C := Part_any h hL (by omega) e en
  rw [hp] at C
  have C : Hid (Calls Try.prog 12 #[.slice (some ⟨g9, o9, none⟩) 100 c, .int .i64 e, .int .i64 en] w fun x w' => x = .returned (.tuple #[.int .i64 p1, .int .i64 p2]) ∧ Below w.heap.size w w') := C
  have HV : Hid (Sp w (.slice (some ⟨g9, o9, none⟩) 100 c) L) := h
  have Hm : Hid (L.length = 100) := hL
  have hnI : (n : Int) > 100 := by omega
  have hcc : (100 : Int) ≤ (c : Int) := by omega
  have hcn : 100 ≤ c := by omega
  clear h hL hp
  go_enter Try.func4, Try.ntmps4
  go_wp2_with (go_at_call 12; refine C.out.mono ?_; rintro x w2 ⟨rfl, q2⟩)
  go_loopw [9] (fun s9 wr => ∃ i : Nat, s9 = .int .i64 (i : Int) ∧ i ≤ 100 ∧ Below w.heap.size w wr ∧ Hid (∀ j (hj : j < L.length), j < i → ¬ e < L[j].1)) (fun s9 _ => 100 - (intOf s9).toNat)
  case atStart => exact ⟨0, rfl, Nat.zero_le _, q2, fun j _ hj => absurd hj (Nat.not_lt_zero _)⟩
  case round =>
    obtain ⟨i, rfl, hi, hB, HN⟩ := hrel
    rename World => wo
    have HB : Hid (Below w.heap.size w wo) := hB
    clear hB q2
    by_cases hlt : i < 100
    · have hltI : (i : Int) < (100 : Int) := by omega
      have hi1 : i < L.length := by have := Hm.out; omega
      obtain ⟨g, o, eg9, _, c0, c1⟩ := (HV.out.bel HB.out).at_ hi1
      cases eg9
      by_cases hc : e < L[i].1
      · have HF : Hid (upN L e = i) := upN_of hi1 hc (fun j hj => HN.out j (by omega) hj)
        have HQ : Hid (upP L e en = min L[i].2 en) := upP_at hi1 HF.out
        have hc2 : ¬ L[i].1 ≤ e := by omega
        rcases Nat.eq_zero_or_pos i with h0 | h0
        · have e1 : (p1, p2) = (0, min 1 en) := HP.out.symm.trans (part0 (HF.out.trans h0) en)
          have e2 : p1 = 0 := congrArg Prod.fst e1
          have e3 : p2 = min 1 en := congrArg Prod.snd e1
          generalize L[i].1 = x at *
          generalize L[i].2 = y at *
          have hk0 : ¬ (i : Int) > 0 := by omega
          clear e1 hi1 HP HF HQ HV h0
          subst e2
          by_cases h1 : en < 1
          · obtain rfl : p2 = en := by omega
            clear e3
            go_wp2_with (go_at_call 13; refine (CK.out _).mono ?_; rintro x w5 ⟨rfl, q5⟩)
            go_ret
            exact ⟨rfl, thn HB.out q5⟩
          · obtain rfl : p2 = 1 := by omega
            clear e3
            go_wp2_with (go_at_call 13; refine (CK.out _).mono ?_; rintro x w5 ⟨rfl, q5⟩)
            go_ret
            exact ⟨rfl, thn HB.out q5⟩
        · obtain ⟨k, hik⟩ : ∃ k, i = k + 1 := ⟨i - 1, by omega⟩
          obtain ⟨hk, e0⟩ := partS (HF.out.trans hik) en
          have e1 : (p1, p2) = (L[k].1, min L[i].2 en) := (HP.out.symm.trans e0).trans (by rw [HQ.out])
          have e2 : p1 = L[k].1 := congrArg Prod.fst e1
          have e3 : p2 = min L[i].2 en := congrArg Prod.snd e1
          obtain ⟨g', o', eg, -, d0, -⟩ := (HV.out.bel HB.out).at_ hk
          cases eg
          have hw1 : IntKind.i64.wrap ((i : Int) - 1) = (k : Int) := by rw [show (i : Int) - 1 = (k : Int) by omega]; rw [IntKind.wrap_i64]; omega
          have hkm : (k : Int) < (100 : Int) := by omega
          have hk0 : (i : Int) > 0 := by omega
          rw [← e2] at d0
          generalize L[i].1 = x at *
          generalize L[i].2 = y at *
          clear e0 e1 e2 hi1 HP HF HQ HV hk h0 hik
          by_cases h1 : en < y
          · obtain rfl : p2 = en := by omega
            clear e3
            go_wp2_with (go_at_call 13; refine (CK.out _).mono ?_; rintro x w5 ⟨rfl, q5⟩)
            go_ret
            exact ⟨rfl, thn HB.out q5⟩
          · obtain rfl : p2 = y := by omega
            clear e3
            go_wp2_with (go_at_call 13; refine (CK.out _).mono ?_; rintro x w5 ⟨rfl, q5⟩)
            go_ret
            exact ⟨rfl, thn HB.out q5⟩
      · have HN2 : Hid (∀ j (hj : j < L.length), j < i + 1 → ¬ e < L[j].1) := fun j hj hj2 => (Nat.lt_succ_iff_lt_or_eq.1 hj2).elim (fun h => HN.out j hj h) (fun h => by subst h; exact hc)
        have hc2 : L[i].1 ≤ e := by omega
        generalize L[i].1 = x at *
        generalize L[i].2 = y at *
        clear hi1
        go_wp2
        go_roundw
        case rel => exact ⟨i + 1, by rfl, by omega, HB.out, HN2.out⟩
        case measure => simp [intOf]; omega
    · have hltI : ¬ (i : Int) < (100 : Int) := by omega
      have HF : Hid (upN L e = L.length) := upN_no (fun j hj => HN.out j hj (by have := Hm.out; omega))
      have HQ : Hid (upP L e en = en) := upP_no HF.out
      have hin : i = 100 := by omega
      rcases Nat.eq_zero_or_pos i with h0 | h0
      · omega
      · obtain ⟨k, hik⟩ : ∃ k, i = k + 1 := ⟨i - 1, by omega⟩
        obtain ⟨hk, e0⟩ := partS (k := k) (by rw [HF.out, Hm.out]; omega) en
        have e1 : (p1, p2) = (L[k].1, en) := (HP.out.symm.trans e0).trans (by rw [HQ.out])
        have e2 : p1 = L[k].1 := congrArg Prod.fst e1
        have e3 : p2 = en := congrArg Prod.snd e1
        obtain ⟨g, o, eg9, -, d0, -⟩ := (HV.out.bel HB.out).at_ hk
        cases eg9
        have hw1 : IntKind.i64.wrap ((i : Int) - 1) = (k : Int) := by rw [show (i : Int) - 1 = (k : Int) by omega]; rw [IntKind.wrap_i64]; omega
        have hkm : (k : Int) < (100 : Int) := by omega
        have hk0 : (i : Int) > 0 := by omega
        rw [← e2] at d0
        clear e0 e1 e2 HP HF HQ HV hk h0 hik hin
        subst e3
        go_wp2_with (go_at_call 13; refine (CK.out _).mono ?_; rintro x w5 ⟨rfl, q5⟩)
        go_ret
        exact ⟨rfl, thn HB.out q5⟩
theorem parts15_walk {L' : List (List Value)} (hl : Sv w 2 PairL a n L') (hc : n ≤ c) (hc2 : c < 9223372036854775808) (e en : Int) : Calls Try.prog 4 #[.slice a n c, .int .i64 e, .int .i64 en] w fun x w' => x = .returned (.bool true) ∧ Below w.heap.size w w' := by
  obtain ⟨L, hL, hS⟩ := Sp.of_sv (c := c) hl
  rcases Nat.lt_or_ge 100 n with h | h
  · exact parts_many hS hL h hc hc2 e en
  · exact parts_few hS hL h e en
end
end Go.Proofs.Ytjlhohljkedbbaa.Rq
