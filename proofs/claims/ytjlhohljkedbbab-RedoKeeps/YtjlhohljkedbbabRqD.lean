/- RedoKeeps: the walk. -/
import Derived.Test.YtjlhohljkedbbabRqB
import Derived.BigQuiet
namespace Go.Proofs.Ytjlhohljkedbbab.Rq
open Go.RowKit Gm
set_option linter.unusedVariables false
set_option linter.unusedSimpArgs false
set_option maxRecDepth 100000
section
variable {w : World} {a : Option Addr} {n c : Nat} {L : List SpL}
set_option maxHeartbeats 1000000 in
theorem keeps_few (h : Sp w (.slice a n c) L) (hL : L.length = n) (hn : n ≤ 100) (e at_ en : Int) : Calls Try.prog 3 #[.slice a n c, .int .i64 e, .int .i64 at_, .int .i64 en] w fun x w' => x = .returned (.bool true) ∧ Below w.heap.size w w' := by
  have CK : Hid (∀ wx, Calls Try.prog 7 #[] wx fun e w' => e = .returned (.bool true) ∧ Below wx.heap.size wx w') := fun wx => awake15 wx
  have hnI : ¬ (n : Int) > 100 := by omega
  obtain ⟨kp, hp⟩ : ∃ kp, upP L e (min at_ en) = kp := ⟨_, rfl⟩
  have HP : Hid (upP L e (min at_ en) = kp) := hp
  have CP : Hid (∀ wx, Below w.heap.size w wx → Calls Try.prog 6 #[.slice a n c, .int .i64 e, .int .i64 at_, .int .i64 en] wx fun x w' => x = .returned (.int .i64 kp) ∧ Below wx.heap.size wx w') := fun wx hb => by
    have := Keep_any (h.bel hb) hL (by omega) e at_ en
    unfold keepM at this
    rw [hp] at this
    exact this
  have HV : Hid (Sp w (.slice a n c) L) := h
  have Hm : Hid (L.length = n) := hL
  clear h hL hp
  go_enter Try.func3, Try.ntmps3
  by_cases hw : en < at_
  · have HQ0 : Hid (min at_ en = en) := by show _ = _; omega
    go_wp2
    go_loopw [9, 10] (fun s9 s10 wr => ∃ i : Nat, s9 = .int .i64 en ∧ s10 = .int .i64 (i : Int) ∧ i ≤ n ∧ Below w.heap.size w wr ∧ Hid (∀ j (hj : j < L.length), j < i → ¬ e < L[j].1)) (fun s9 s10 _ => n - (intOf s10).toNat)
    case atStart => exact ⟨0, rfl, rfl, Nat.zero_le _, Below.refl _ _, fun j _ hj => absurd hj (Nat.not_lt_zero _)⟩
    case round =>
      obtain ⟨i, rfl, rfl, hi, hB, HN⟩ := hrel
      rename World => wo
      have HB : Hid (Below w.heap.size w wo) := hB
      clear hB
      by_cases hlt : i < n
      · have hltI : (i : Int) < (n : Int) := by omega
        have hi1 : i < L.length := by have := Hm.out; omega
        obtain ⟨g, o, rfl, -, c0, c1⟩ := (HV.out.bel HB.out).at_ hi1
        by_cases hc : e < L[i].1
        · have HQ : Hid (kp = min L[i].2 en) := HP.out.symm.trans ((upP_at hi1 (upN_of hi1 hc (fun j hj => HN.out j (by omega) hj))).trans (by rw [HQ0.out]))
          generalize L[i].1 = x at *
          generalize L[i].2 = y at *
          have hk := HQ.out
          clear hi1 HP HQ HV HQ0
          by_cases h1 : y < en
          · obtain rfl : kp = y := by omega
            clear hk
            go_wp2_with first
              | (go_at_call 6; refine (CP.out _ HB.out).mono ?_; rintro x w4 ⟨rfl, q4⟩)
              | (go_at_call 7; refine (CK.out _).mono ?_; rintro x w5 ⟨rfl, q5⟩)
            go_ret
            exact ⟨rfl, thn HB.out (thn q4 q5)⟩
          · obtain hk2 : kp = en := by omega
            clear hk
            subst hk2
            go_wp2_with first
              | (go_at_call 6; refine (CP.out _ HB.out).mono ?_; rintro x w4 ⟨rfl, q4⟩)
              | (go_at_call 7; refine (CK.out _).mono ?_; rintro x w5 ⟨rfl, q5⟩)
            go_ret
            exact ⟨rfl, thn HB.out (thn q4 q5)⟩
        · have HN2 : Hid (∀ j (hj : j < L.length), j < i + 1 → ¬ e < L[j].1) := fun j hj hj2 => (Nat.lt_succ_iff_lt_or_eq.1 hj2).elim (fun h => HN.out j hj h) (fun h => by subst h; exact hc)
          generalize L[i].1 = x at *
          generalize L[i].2 = y at *
          clear hi1
          go_wp2
          go_roundw
          case rel => exact ⟨i + 1, by rfl, by rfl, by omega, HB.out, HN2.out⟩
          case measure => simp [intOf]; omega
      · have hltI : ¬ (i : Int) < (n : Int) := by omega
        have hk : kp = en := HP.out.symm.trans ((upP_no (upN_no (fun j hj => HN.out j hj (by have := Hm.out; omega)))).trans HQ0.out)
        clear HP HV HQ0
        subst hk
        go_wp2_with first
          | (go_at_call 6; refine (CP.out _ HB.out).mono ?_; rintro x w4 ⟨rfl, q4⟩)
          | (go_at_call 7; refine (CK.out _).mono ?_; rintro x w5 ⟨rfl, q5⟩)
        go_ret
        exact ⟨rfl, thn HB.out (thn q4 q5)⟩
  · have HQ0 : Hid (min at_ en = at_) := by show _ = _; omega
    go_wp2
    go_loopw [9, 10] (fun s9 s10 wr => ∃ i : Nat, s9 = .int .i64 at_ ∧ s10 = .int .i64 (i : Int) ∧ i ≤ n ∧ Below w.heap.size w wr ∧ Hid (∀ j (hj : j < L.length), j < i → ¬ e < L[j].1)) (fun s9 s10 _ => n - (intOf s10).toNat)
    case atStart => exact ⟨0, rfl, rfl, Nat.zero_le _, Below.refl _ _, fun j _ hj => absurd hj (Nat.not_lt_zero _)⟩
    case round =>
      obtain ⟨i, rfl, rfl, hi, hB, HN⟩ := hrel
      rename World => wo
      have HB : Hid (Below w.heap.size w wo) := hB
      clear hB
      by_cases hlt : i < n
      · have hltI : (i : Int) < (n : Int) := by omega
        have hi1 : i < L.length := by have := Hm.out; omega
        obtain ⟨g, o, rfl, -, c0, c1⟩ := (HV.out.bel HB.out).at_ hi1
        by_cases hc : e < L[i].1
        · have HQ : Hid (kp = min L[i].2 at_) := HP.out.symm.trans ((upP_at hi1 (upN_of hi1 hc (fun j hj => HN.out j (by omega) hj))).trans (by rw [HQ0.out]))
          generalize L[i].1 = x at *
          generalize L[i].2 = y at *
          have hk := HQ.out
          clear hi1 HP HQ HV HQ0
          by_cases h1 : y < at_
          · obtain rfl : kp = y := by omega
            clear hk
            go_wp2_with first
              | (go_at_call 6; refine (CP.out _ HB.out).mono ?_; rintro x w4 ⟨rfl, q4⟩)
              | (go_at_call 7; refine (CK.out _).mono ?_; rintro x w5 ⟨rfl, q5⟩)
            go_ret
            exact ⟨rfl, thn HB.out (thn q4 q5)⟩
          · obtain hk2 : kp = at_ := by omega
            clear hk
            subst hk2
            go_wp2_with first
              | (go_at_call 6; refine (CP.out _ HB.out).mono ?_; rintro x w4 ⟨rfl, q4⟩)
              | (go_at_call 7; refine (CK.out _).mono ?_; rintro x w5 ⟨rfl, q5⟩)
            go_ret
            exact ⟨rfl, thn HB.out (thn q4 q5)⟩
        · have HN2 : Hid (∀ j (hj : j < L.length), j < i + 1 → ¬ e < L[j].1) := fun j hj hj2 => (Nat.lt_succ_iff_lt_or_eq.1 hj2).elim (fun h => HN.out j hj h) (fun h => by subst h; exact hc)
          generalize L[i].1 = x at *
          generalize L[i].2 = y at *
          clear hi1
          go_wp2
          go_roundw
          case rel => exact ⟨i + 1, by rfl, by rfl, by omega, HB.out, HN2.out⟩
          case measure => simp [intOf]; omega
      · have hltI : ¬ (i : Int) < (n : Int) := by omega
        have hk : kp = at_ := HP.out.symm.trans ((upP_no (upN_no (fun j hj => HN.out j hj (by have := Hm.out; omega)))).trans HQ0.out)
        clear HP HV HQ0
        subst hk
        go_wp2_with first
          | (go_at_call 6; refine (CP.out _ HB.out).mono ?_; rintro x w4 ⟨rfl, q4⟩)
          | (go_at_call 7; refine (CK.out _).mono ?_; rintro x w5 ⟨rfl, q5⟩)
        go_ret
        exact ⟨rfl, thn HB.out (thn q4 q5)⟩
set_option maxHeartbeats 1000000 in
theorem keeps_many {L0 : List SpL} (h0 : Sp w (.slice a n c) L0) (hL0 : L0.length = n) (hn : 100 < n) (hc : n ≤ c) (hc2 : c < 9223372036854775808) (e at_ en : Int) : Calls Try.prog 3 #[.slice a n c, .int .i64 e, .int .i64 at_, .int .i64 en] w fun x w' => x = .returned (.bool true) ∧ Below w.heap.size w w' := by
  have CK : Hid (∀ wx, Calls Try.prog 7 #[] wx fun e w' => e = .returned (.bool true) ∧ Below wx.heap.size wx w') := fun wx => awake15 wx
  obtain ⟨g9, o9, rfl, -⟩ := h0.at_ (i := 0) (by omega)
  have h := h0.take 100 (by omega)
  have hL : (L0.take 100).length = 100 := by rw [List.length_take]; omega
  generalize L0.take 100 = L at h hL
  clear h0 hL0
  have hnI : (n : Int) > 100 := by omega
  have hcc : (100 : Int) ≤ (c : Int) := by omega
  have hcn : 100 ≤ c := by omega
  obtain ⟨kp, hp⟩ : ∃ kp, upP L e (min at_ en) = kp := ⟨_, rfl⟩
  have HP : Hid (upP L e (min at_ en) = kp) := hp
  have CP : Hid (∀ wx, Below w.heap.size w wx → Calls Try.prog 6 #[.slice (some ⟨g9, o9, none⟩) 100 c, .int .i64 e, .int .i64 at_, .int .i64 en] wx fun x w' => x = .returned (.int .i64 kp) ∧ Below wx.heap.size wx w') := fun wx hb => by
    have := Keep_any (h.bel hb) hL (by omega) e at_ en
    unfold keepM at this
    rw [hp] at this
    exact this
  have HV : Hid (Sp w (.slice (some ⟨g9, o9, none⟩) 100 c) L) := h
  have Hm : Hid (L.length = 100) := hL
  clear h hL hp
  go_enter Try.func3, Try.ntmps3
  by_cases hw : en < at_
  · have HQ0 : Hid (min at_ en = en) := by show _ = _; omega
    go_wp2
    go_loopw [9, 10] (fun s9 s10 wr => ∃ i : Nat, s9 = .int .i64 en ∧ s10 = .int .i64 (i : Int) ∧ i ≤ 100 ∧ Below w.heap.size w wr ∧ Hid (∀ j (hj : j < L.length), j < i → ¬ e < L[j].1)) (fun s9 s10 _ => 100 - (intOf s10).toNat)
    case atStart => exact ⟨0, rfl, rfl, Nat.zero_le _, Below.refl _ _, fun j _ hj => absurd hj (Nat.not_lt_zero _)⟩
    case round =>
      obtain ⟨i, rfl, rfl, hi, hB, HN⟩ := hrel
      rename World => wo
      have HB : Hid (Below w.heap.size w wo) := hB
      clear hB
      by_cases hlt : i < 100
      · have hltI : (i : Int) < (100 : Int) := by omega
        have hi1 : i < L.length := by have := Hm.out; omega
        obtain ⟨g, o, eg9, -, c0, c1⟩ := (HV.out.bel HB.out).at_ hi1
        cases eg9
        by_cases hc : e < L[i].1
        · have HQ : Hid (kp = min L[i].2 en) := HP.out.symm.trans ((upP_at hi1 (upN_of hi1 hc (fun j hj => HN.out j (by omega) hj))).trans (by rw [HQ0.out]))
          generalize L[i].1 = x at *
          generalize L[i].2 = y at *
          have hk := HQ.out
          clear hi1 HP HQ HV HQ0
          by_cases h1 : y < en
          · obtain rfl : kp = y := by omega
            clear hk
            go_wp2_with first
              | (go_at_call 6; refine (CP.out _ HB.out).mono ?_; rintro x w4 ⟨rfl, q4⟩)
              | (go_at_call 7; refine (CK.out _).mono ?_; rintro x w5 ⟨rfl, q5⟩)
            go_ret
            exact ⟨rfl, thn HB.out (thn q4 q5)⟩
          · obtain hk2 : kp = en := by omega
            clear hk
            subst hk2
            go_wp2_with first
              | (go_at_call 6; refine (CP.out _ HB.out).mono ?_; rintro x w4 ⟨rfl, q4⟩)
              | (go_at_call 7; refine (CK.out _).mono ?_; rintro x w5 ⟨rfl, q5⟩)
            go_ret
            exact ⟨rfl, thn HB.out (thn q4 q5)⟩
        · have HN2 : Hid (∀ j (hj : j < L.length), j < i + 1 → ¬ e < L[j].1) := fun j hj hj2 => (Nat.lt_succ_iff_lt_or_eq.1 hj2).elim (fun h => HN.out j hj h) (fun h => by subst h; exact hc)
          generalize L[i].1 = x at *
          generalize L[i].2 = y at *
          clear hi1
          go_wp2
          go_roundw
          case rel => exact ⟨i + 1, by rfl, by rfl, by omega, HB.out, HN2.out⟩
          case measure => simp [intOf]; omega
      · have hltI : ¬ (i : Int) < (100 : Int) := by omega
        have hk : kp = en := HP.out.symm.trans ((upP_no (upN_no (fun j hj => HN.out j hj (by have := Hm.out; omega)))).trans HQ0.out)
        clear HP HV HQ0
        subst hk
        go_wp2_with first
          | (go_at_call 6; refine (CP.out _ HB.out).mono ?_; rintro x w4 ⟨rfl, q4⟩)
          | (go_at_call 7; refine (CK.out _).mono ?_; rintro x w5 ⟨rfl, q5⟩)
        go_ret
        exact ⟨rfl, thn HB.out (thn q4 q5)⟩
  · have HQ0 : Hid (min at_ en = at_) := by show _ = _; omega
    go_wp2
    go_loopw [9, 10] (fun s9 s10 wr => ∃ i : Nat, s9 = .int .i64 at_ ∧ s10 = .int .i64 (i : Int) ∧ i ≤ 100 ∧ Below w.heap.size w wr ∧ Hid (∀ j (hj : j < L.length), j < i → ¬ e < L[j].1)) (fun s9 s10 _ => 100 - (intOf s10).toNat)
    case atStart => exact ⟨0, rfl, rfl, Nat.zero_le _, Below.refl _ _, fun j _ hj => absurd hj (Nat.not_lt_zero _)⟩
    case round =>
      obtain ⟨i, rfl, rfl, hi, hB, HN⟩ := hrel
      rename World => wo
      have HB : Hid (Below w.heap.size w wo) := hB
      clear hB
      by_cases hlt : i < 100
      · have hltI : (i : Int) < (100 : Int) := by omega
        have hi1 : i < L.length := by have := Hm.out; omega
        obtain ⟨g, o, eg9, -, c0, c1⟩ := (HV.out.bel HB.out).at_ hi1
        cases eg9
        by_cases hc : e < L[i].1
        · have HQ : Hid (kp = min L[i].2 at_) := HP.out.symm.trans ((upP_at hi1 (upN_of hi1 hc (fun j hj => HN.out j (by omega) hj))).trans (by rw [HQ0.out]))
          generalize L[i].1 = x at *
          generalize L[i].2 = y at *
          have hk := HQ.out
          clear hi1 HP HQ HV HQ0
          by_cases h1 : y < at_
          · obtain rfl : kp = y := by omega
            clear hk
            go_wp2_with first
              | (go_at_call 6; refine (CP.out _ HB.out).mono ?_; rintro x w4 ⟨rfl, q4⟩)
              | (go_at_call 7; refine (CK.out _).mono ?_; rintro x w5 ⟨rfl, q5⟩)
            go_ret
            exact ⟨rfl, thn HB.out (thn q4 q5)⟩
          · obtain hk2 : kp = at_ := by omega
            clear hk
            subst hk2
            go_wp2_with first
              | (go_at_call 6; refine (CP.out _ HB.out).mono ?_; rintro x w4 ⟨rfl, q4⟩)
              | (go_at_call 7; refine (CK.out _).mono ?_; rintro x w5 ⟨rfl, q5⟩)
            go_ret
            exact ⟨rfl, thn HB.out (thn q4 q5)⟩
        · have HN2 : Hid (∀ j (hj : j < L.length), j < i + 1 → ¬ e < L[j].1) := fun j hj hj2 => (Nat.lt_succ_iff_lt_or_eq.1 hj2).elim (fun h => HN.out j hj h) (fun h => by subst h; exact hc)
          generalize L[i].1 = x at *
          generalize L[i].2 = y at *
          clear hi1
          go_wp2
          go_roundw
          case rel => exact ⟨i + 1, by rfl, by rfl, by omega, HB.out, HN2.out⟩
          case measure => simp [intOf]; omega
      · have hltI : ¬ (i : Int) < (100 : Int) := by omega
        have hk : kp = at_ := HP.out.symm.trans ((upP_no (upN_no (fun j hj => HN.out j hj (by have := Hm.out; omega)))).trans HQ0.out)
        clear HP HV HQ0
        subst hk
        go_wp2_with first
          | (go_at_call 6; refine (CP.out _ HB.out).mono ?_; rintro x w4 ⟨rfl, q4⟩)
          | (go_at_call 7; refine (CK.out _).mono ?_; rintro x w5 ⟨rfl, q5⟩)
        go_ret
        exact ⟨rfl, thn HB.out (thn q4 q5)⟩
theorem keeps15_walk {L' : List (List Value)} (hl : Sv w 2 PairL a n L') (hc : n ≤ c) (hc2 : c < 9223372036854775808) (e at_ en : Int) : Calls Try.prog 3 #[.slice a n c, .int .i64 e, .int .i64 at_, .int .i64 en] w fun x w' => x = .returned (.bool true) ∧ Below w.heap.size w w' := by
  obtain ⟨L, hL, hS⟩ := Sp.of_sv (c := c) hl
  rcases Nat.lt_or_ge 100 n with h | h
  · exact keeps_many hS hL h hc hc2 e at_ en
  · exact keeps_few hS hL h e at_ en
end
end Go.Proofs.Ytjlhohljkedbbab.Rq
