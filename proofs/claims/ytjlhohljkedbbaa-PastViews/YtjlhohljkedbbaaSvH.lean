/- The law's rising. -/
import Derived.Test.YtjlhohljkedbbaaSvG
namespace Go.Proofs.Ytjlhohljkedbbaa.Pa
open Go.RowKit Gm Go.Maps Go.Sort
open Go.Proofs.Ytjlhohljkedbbaa.So (CL encC encL encO cfC)
set_option linter.unusedVariables false
set_option linter.unusedSimpArgs false
set_option maxRecDepth 100000
def ltK (a b : CL) : Prop := a.1.data.toList < b.1.data.toList
def adj (L : List CL) : Prop := ∀ j (h : j + 1 < L.length), ltK L[j] L[j + 1]
theorem run_geB (a b : ByteArray) (w : World) : (binOp .geq 9 (.string a) (.string b)).run Try.prog w = .ok (.bool (!Op.bytesLess a.toList b.toList)) w := by
  simp [binOp, Op.stringOp]
theorem ltK_b (a b : CL) : Op.bytesLess a.1.toList b.1.toList = true ↔ ltK a b := by
  rw [Proofs.bytesLess_eq, Lib.toList_data, Lib.toList_data]
  exact decide_eq_true_iff
structure RiO (w : World) (L : List CL) (e : Ending) (w' : World) : Prop where
  ex : ∃ r : Bool, e = .returned (.bool r) ∧ (r = true ↔ adj L)
  bel : Below w.heap.size w w'
section
variable {w : World} {v : Value} {L : List CL}
set_option maxHeartbeats 1000000 in
theorem rising_any (h : Rv w v L) (hn : L.length ≤ 100000) : Calls Try.prog 8 #[v] w fun e w' => RiO w L e w' := by
  obtain ⟨a0, c0, rfl, _⟩ := h.ex
  obtain ⟨m, hm⟩ : ∃ m, L.length = m := ⟨_, rfl⟩
  have Hm : Hid (L.length = m) := hm
  rw [hm] at h hn ⊢
  have HV : Hid (Rv w (.slice a0 m c0) L) := h
  have mixed : Try.prog.follows .mixedOrders = true := by kernel_rfl
  clear h hm
  go_enter Try.func8, Try.ntmps8
  go_wp2
  go_loopg [3] m (fun k vi wr => ∃ i : Nat, vi = .int .i64 ((i : Int) + 1) ∧ m - i ≤ k ∧ (i ≤ m) ∧ Below w.heap.size w wr ∧ Hid (∀ j (h : j + 1 < L.length), j < i → ltK L[j] L[j + 1]))
  case atStart => exact ⟨0, rfl, by omega, by omega, Below.refl _ _, fun j h hj => by omega⟩
  case round =>
    obtain ⟨i, rfl, hk, him, hB, HA⟩ := hrel
    have HB : Hid (Below w.heap.size w wr) := hB
    by_cases hlt : i + 1 < m
    · have hltI : (i : Int) + 1 < (m : Int) := by omega
      have hi1 : i < L.length := by have := Hm.out; omega
      have hi2 : i + 1 < L.length := by have := Hm.out; omega
      obtain ⟨g, o, rfl, _, c0', _⟩ := (HV.out.bel hB).at_ hi1
      obtain ⟨g', o', eg, _, c1', _⟩ := (HV.out.bel hB).at_ hi2
      cases eg
      have d0 : wr.drew.cell? ⟨g, o + i * 2, none⟩ = some (.string L[i].1) := c0'
      have d1 : wr.drew.cell? ⟨g, o + (i + 1) * 2, none⟩ = some (.string L[i + 1].1) := c1'
      have ie : ((i : Int) + 1).toNat = i + 1 := by omega
      have hge : ∀ wx, (binOp .geq 9 (.string L[i].1) (.string L[i + 1].1)).run Try.prog wx = .ok (.bool (!Op.bytesLess L[i].1.toList L[i + 1].1.toList)) wx := fun wx => run_geB _ _ wx
      have HL : Hid (Op.bytesLess L[i].1.toList L[i + 1].1.toList = true ↔ ltK L[i] L[i + 1]) := ltK_b _ _
      generalize hl : Op.bytesLess L[i].1.toList L[i + 1].1.toList = bb at hge HL
      have HL2 : Hid (bb = true ↔ ltK L[i] L[i + 1]) := HL.out
      clear hl HL hB
      generalize L[i].1 = ka at *
      generalize L[i + 1].1 = kb at *
      cases bb with
      | true =>
        have HT : Hid (ltK L[i] L[i + 1]) := HL2.out.1 rfl
        clear HL2
        go_wp2_with fail
        go_big_region
        all_goals go_wp2
        go_roundg (m - (i + 1))
        case measure => omega
        case rel => exact ⟨i + 1, by first | rfl | go_num, Nat.le_refl _, by omega, bdr HB.out 1, fun j h hj => by
          rcases Nat.lt_or_ge j i with h1 | h1
          · exact HA.out j h h1
          · obtain rfl : j = i := by omega
            exact HT.out⟩
      | false =>
        have HT : Hid (¬ ltK L[i] L[i + 1]) := fun h => by have := HL2.out.2 h; cases this
        clear HL2
        go_wp2_with fail
        go_big_region
        all_goals go_wp2
        go_ret
        exact ⟨⟨false, rfl, ⟨fun h => (by cases h), fun h => absurd (h i hi2) HT.out⟩⟩, bdr HB.out 1⟩
    · have hltI : ¬ (i : Int) + 1 < (m : Int) := by omega
      go_wp2
      go_ret
      exact ⟨⟨true, rfl, ⟨fun _ => fun j h => HA.out j h (by have := Hm.out; omega), fun _ => rfl⟩⟩, HB.out⟩
end
end Go.Proofs.Ytjlhohljkedbbaa.Pa
