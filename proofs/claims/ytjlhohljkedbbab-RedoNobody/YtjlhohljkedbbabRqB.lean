/- upTo, Part, Keep; the laws' example. -/
import Derived.Test.YtjlhohljkedbbabRqA
import Derived.BigRegion
import Derived.Deep.RegionHeld3
namespace Go.Proofs.Ytjlhohljkedbbab.Rq
open Go.RowKit Gm
set_option linter.unusedVariables false
set_option linter.unusedSimpArgs false
set_option maxRecDepth 100000
theorem stSp : St 24 2 := ⟨⟨_, Try.underlying24⟩, by kernel_rfl⟩
theorem zSp (w : World) : (zeroValue 24).run Try.prog w = .ok (.agg #[.int .i64 0, .int .i64 0]) w := by kernel_rfl
theorem oneI (x y : Int) : ∀ u ∈ (#[.int .i64 x, .int .i64 y] : Array Value).toList, u.oneCell' = true := by
  intro u hu; simp at hu; rcases hu with rfl | rfl <;> rfl
theorem Put.belN {w w2 w3 : World} {b : Nat} {t t' : TypeId} {A A' : Array Value} (N : New w w2 b t A) (P : Put w2 w3 b t' A') : Below w.heap.size w w3 :=
  N.bel.trans ((P.fr (· = b) rfl).bel (fun j hj => by rw [hj, N.eq]; exact Nat.le_refl _) N.bel.size)
section
variable {w : World} {a : Option Addr} {n c : Nat} {L : List SpL}
theorem upTo_any (h : Sp w (.slice a n c) L) (hL : L.length = n) (hn : n ≤ 100000) (e en : Int) : Calls Try.prog 14 #[.slice a n c, .int .i64 e, .int .i64 en] w fun x w' => x = .returned (.tuple #[.int .i64 ((upN L e : Nat) : Int), .int .i64 (upP L e en)]) ∧ Below w.heap.size w w' := by
  have HV : Hid (Sp w (.slice a n c) L) := h
  have Hm : Hid (L.length = n) := hL
  have h2 := stSp
  clear h hL
  go_enter Try.func14, Try.ntmps14
  go_wp2
  go_loopw [12] (fun s12 wr => ∃ i : Nat, s12 = .int .i64 (i : Int) ∧ i ≤ n ∧ Below w.heap.size w wr ∧ Hid (∀ j (hj : j < L.length), j < i → ¬ e < L[j].1)) (fun s12 _ => n - (intOf s12).toNat)
  case atStart => exact ⟨0, rfl, Nat.zero_le _, Below.refl _ _, fun j _ hj => absurd hj (Nat.not_lt_zero _)⟩
  case round =>
    obtain ⟨i, rfl, hi, hB, HN⟩ := hrel
    rename World => wo
    have HB : Hid (Below w.heap.size w wo) := hB
    clear hB
    by_cases hlt : i < n
    · have hltI : (i : Int) < (n : Int) := by omega
      have hi1 : i < L.length := by have := Hm.out; omega
      obtain ⟨g, o, rfl, _, c0, c1⟩ := (HV.out.bel HB.out).at_ hi1
      by_cases hc : e < L[i].1
      · have HF : Hid (upN L e = i ∧ upP L e en = min L[i].2 en) := (by
          have : upN L e = i := upN_of hi1 hc (fun j hj => HN.out j (by omega) hj)
          exact ⟨this, upP_at hi1 this⟩)
        generalize hx : L[i].1 = x at *
        generalize hy : L[i].2 = y at *
        clear hx hy hi1
        go_wp2_with first
          | (refine wpList_new_at (A := #[.int .i64 0, .int .i64 0]) _ zSp rfl rfl ?_; intro w2 b2 N2)
          | (refine wpList_put_at (A := #[.int .i64 0, .int .i64 0]) (A' := #[.int .i64 x, .int .i64 y]) h2 _ rfl _ _ rfl rfl rfl N2.is rfl rfl (oneI _ _) ?_; intro w3 P3; have k0 : w3.cell? ⟨b2, 0, none⟩ = some (.int .i64 x) := P3.is.c 0; have k1 : w3.cell? ⟨b2, 1, none⟩ = some (.int .i64 y) := P3.is.c 1)
        go_region
        all_goals go_wp2
        all_goals go_ret2
        all_goals refine ⟨?_, bdr (thn HB.out (Put.belN N2 P3)) 1⟩
        all_goals rw [HF.out.1, HF.out.2]
        all_goals first
          | exact congrArg (fun z => Ending.returned (.tuple #[.int .i64 (i : Int), .int .i64 z])) (by omega : y = min y en)
          | exact congrArg (fun z => Ending.returned (.tuple #[.int .i64 (i : Int), .int .i64 z])) (by omega : en = min y en)
          | exact congrArg (fun z => Ending.returned (.tuple #[.int .i64 (i : Int), .int .i64 z])) (by split <;> omega : (if en < y then en else y) = min y en)
      · have HN2 : Hid (∀ j (hj : j < L.length), j < i + 1 → ¬ e < L[j].1) := fun j hj hj2 => (Nat.lt_succ_iff_lt_or_eq.1 hj2).elim (fun h => HN.out j hj h) (fun h => by subst h; exact hc)
        generalize hx : L[i].1 = x at *
        generalize hy : L[i].2 = y at *
        clear hx hy hi1
        go_wp2_with first
          | (refine wpList_new_at (A := #[.int .i64 0, .int .i64 0]) _ zSp rfl rfl ?_; intro w2 b2 N2)
          | (refine wpList_put_at (A := #[.int .i64 0, .int .i64 0]) (A' := #[.int .i64 x, .int .i64 y]) h2 _ rfl _ _ rfl rfl rfl N2.is rfl rfl (oneI _ _) ?_; intro w3 P3; have k0 : w3.cell? ⟨b2, 0, none⟩ = some (.int .i64 x) := P3.is.c 0; have k1 : w3.cell? ⟨b2, 1, none⟩ = some (.int .i64 y) := P3.is.c 1)
        go_roundw
        case rel => exact ⟨i + 1, by rfl, by omega, thn HB.out (Put.belN N2 P3), HN2.out⟩
        case measure => simp [intOf]; omega
    · have hltI : ¬ (i : Int) < (n : Int) := by omega
      have HF : Hid (upN L e = n ∧ upP L e en = en) := (by
        have : upN L e = L.length := upN_no (fun j hj => HN.out j hj (by have := Hm.out; omega))
        exact ⟨by rw [this]; exact Hm.out, upP_no this⟩)
      go_wp2
      go_ret2
      exact ⟨by rw [HF.out.1, HF.out.2]; rfl, HB.out⟩
theorem Part_any (h : Sp w (.slice a n c) L) (hL : L.length = n) (hn : n ≤ 100000) (e en : Int) : Calls Try.prog 9 #[.slice a n c, .int .i64 e, .int .i64 en] w fun x w' => x = .returned (.tuple #[.int .i64 (partM L e en).1, .int .i64 (partM L e en).2]) ∧ Below w.heap.size w w' := by
  have C : Hid (Calls Try.prog 14 #[.slice a n c, .int .i64 e, .int .i64 en] w fun x w' => x = .returned (.tuple #[.int .i64 ((upN L e : Nat) : Int), .int .i64 (upP L e en)]) ∧ Below w.heap.size w w') := upTo_any h hL hn e en
  have HV : Hid (Sp w (.slice a n c) L) := h
  have hu : upN L e ≤ n := by rw [← hL]; exact upN_le L e
  have Hm : Hid (L.length = n) := hL
  have HM : Hid (partM L e en = if upN L e = 0 then (0, min 1 en) else ((L[upN L e - 1]?.map (·.1)).getD 0, upP L e en)) := rfl
  clear h hL
  by_cases h0 : upN L e = 0
  · have HM2 : Hid (partM L e en = (0, min 1 en)) := HM.out.trans (if_pos h0)
    rw [h0] at C
    rw [HM2.out]
    clear HM hu h0
    generalize upP L e en = q at *
    go_enter Try.func9, Try.ntmps9
    go_wp2_with (go_at_call 14; refine C.out.mono ?_; rintro x w2 ⟨rfl, b2⟩)
    all_goals go_ret2
    all_goals refine ⟨?_, b2⟩
    all_goals first
      | exact congrArg (fun z => Ending.returned (.tuple #[.int .i64 0, .int .i64 z])) (by omega : 1 = min 1 en)
      | exact congrArg (fun z => Ending.returned (.tuple #[.int .i64 0, .int .i64 z])) (by omega : en = min 1 en)
      | exact congrArg (fun z => Ending.returned (.tuple #[.int .i64 0, .int .i64 z])) (by split <;> omega : (if en < 1 then en else 1) = min 1 en)
  · obtain ⟨m, hm⟩ : ∃ m, upN L e = m + 1 := ⟨upN L e - 1, by omega⟩
    have hi : m < L.length := by have := Hm.out; omega
    have HM2 : Hid (partM L e en = (L[m].1, upP L e en)) := by
      show _ = _
      rw [HM.out, if_neg h0, hm, Nat.add_sub_cancel, List.getElem?_eq_getElem hi]
      rfl
    rw [hm] at C hu
    rw [HM2.out]
    have HC : Hid (∀ wx, Below w.heap.size w wx → ∃ g o, a = some ⟨g, o, none⟩ ∧ wx.cell? ⟨g, o + m * 2, none⟩ = some (.int .i64 L[m].1)) := fun wx hb => by
      obtain ⟨g, o, ea, _, c0, _⟩ := (HV.out.bel hb).at_ hi
      exact ⟨g, o, ea, c0⟩
    clear HM hm h0
    generalize upP L e en = q at *
    generalize L[m].1 = x1 at *
    have hmI : ¬ (((m + 1 : Nat) : Int) = 0) := by omega
    have hb1 : (((m + 1 : Nat) : Int) == 0) = false := by simpa using hmI
    have hw1 : IntKind.i64.wrap (((m + 1 : Nat) : Int) - 1) = (m : Int) := by rw [show ((m + 1 : Nat) : Int) - 1 = (m : Int) by omega]; rw [IntKind.wrap_i64]; omega
    have hmn : (m : Int) < (n : Int) := by omega
    go_enter Try.func9, Try.ntmps9
    go_wp2_with (go_at_call 14; refine C.out.mono ?_; rintro x w2 ⟨rfl, b2⟩; obtain ⟨g, o, rfl, c0⟩ := HC.out _ b2)
    go_ret2
    exact ⟨rfl, b2⟩
theorem Keep_any (h : Sp w (.slice a n c) L) (hL : L.length = n) (hn : n ≤ 100000) (e at_ en : Int) : Calls Try.prog 6 #[.slice a n c, .int .i64 e, .int .i64 at_, .int .i64 en] w fun x w' => x = .returned (.int .i64 (keepM L e at_ en)) ∧ Below w.heap.size w w' := by
  have C : Hid (∀ q, q = min at_ en → Calls Try.prog 14 #[.slice a n c, .int .i64 e, .int .i64 q] w fun x w' => x = .returned (.tuple #[.int .i64 ((upN L e : Nat) : Int), .int .i64 (keepM L e at_ en)]) ∧ Below w.heap.size w w') := fun q hq => by subst hq; exact upTo_any h hL hn e _
  clear h hL
  generalize keepM L e at_ en = r at *
  generalize upN L e = u at *
  go_enter Try.func6, Try.ntmps6
  go_wp2_with (go_at_call 14; refine (C.out _ (by first | rfl | ((try rw [Int.min_def]); (try split) <;> (try split) <;> omega))).mono ?_; rintro x w2 ⟨rfl, b2⟩)
  all_goals go_ret
  all_goals exact ⟨rfl, b2⟩
end
theorem awake15 (w : World) : Calls Try.prog 7 #[] w fun e w' => e = .returned (.bool true) ∧ Below w.heap.size w w' := by
  have C : Hid (∀ wx b, At wx b 24 #[.int .i64 1, .int .i64 1, .int .i64 3, .int .i64 50] → Calls Try.prog 9 #[.slice (some ⟨b, 0, none⟩) 2 2, .int .i64 2, .int .i64 90] wx fun x w' => x = .returned (.tuple #[.int .i64 1, .int .i64 50]) ∧ Below wx.heap.size wx w') := fun wx b hA => by
    have hS : Sp wx (.slice (some ⟨b, 0, none⟩) 2 2) [(1, 1), (3, 50)] := ⟨_, 2, rfl, fun i hi => ⟨b, 0, rfl, hA.lt, by
      match i, hi with
      | 0, _ => exact hA.c 0
      | 1, _ => exact hA.c 2, by
      match i, hi with
      | 0, _ => exact hA.c 1
      | 1, _ => exact hA.c 3⟩⟩
    exact Part_any hS rfl (by omega) 2 90
  go_enter Try.func7, Try.ntmps7
  go_wp2_with (go_at_call 9; refine (C.out _ _ (At.new _ _ _)).mono ?_; rintro x w2 ⟨rfl, q2⟩)
  go_ret
  exact ⟨rfl, thn (bl1 _) q2⟩
end Go.Proofs.Ytjlhohljkedbbab.Rq
