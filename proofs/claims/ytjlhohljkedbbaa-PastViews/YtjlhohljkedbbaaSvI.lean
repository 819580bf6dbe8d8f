/- The law's holds. -/
import Derived.Test.YtjlhohljkedbbaaSvH
import Derived.Test.YtjlhohljkedbbaaGmE
namespace Go.Proofs.Ytjlhohljkedbbaa.Pa
open Go.RowKit Gm Go.Maps Go.Sort
open Go.Proofs.Ytjlhohljkedbbaa.So (CL encC encL encO cfC)
set_option linter.unusedVariables false
set_option linter.unusedSimpArgs false
set_option maxRecDepth 100000
theorem eqB_eq {a b : ByteArray} : eqB a b = true ↔ a = b := by
  unfold eqB
  rw [beq_iff_eq, Lib.toList_data, Lib.toList_data]
  exact ⟨ba_ext, fun h => by rw [h]⟩
def eqC (x y : CL) : Bool := eqB x.1 y.1 && (eqB x.2 y.2 && true)
theorem eqC_iff {x y : CL} : eqC x y = true ↔ x = y := by
  unfold eqC
  rw [Bool.and_true, Bool.and_eq_true, eqB_eq, eqB_eq]
  exact ⟨fun h => Prod.ext h.1 h.2, fun h => by rw [h]; exact ⟨rfl, rfl⟩⟩
theorem eqlsC (w : World) (x y : CL) : (binOp .eql 39 (.agg #[.string x.1, .string x.2]) (.agg #[.string y.1, .string y.2])).run Try.prog w = .ok (.bool (eqC x y)) w ∧ (binOp .neq 39 (.agg #[.string x.1, .string x.2]) (.agg #[.string y.1, .string y.2])).run Try.prog w = .ok (.bool (!eqC x y)) w := by
  refine eql_of (by kernel_rfl) (by kernel_rfl) (fs := [⟨ "Key", 9, 0, false, "", "", 0⟩, ⟨ "Val", 9, 1, false, "", "", 16⟩]) (by kernel_rfl) ?_
  exact eq_field w 9998 (by decide) (by kernel_rfl) rfl rfl (run_equalIn_string w 9998 _ _ _ Try.underlying9) (eq_field w 9998 (by decide) (by kernel_rfl) rfl rfl (run_equalIn_string w 9998 _ _ _ Try.underlying9) (eq_none w _ _ _))
structure HoO (w : World) (L : List CL) (x : CL) (e : Ending) (w' : World) : Prop where
  ex : ∃ r : Bool, e = .returned (.bool r) ∧ (r = true ↔ x ∈ L)
  bel : Below w.heap.size w w'
section
variable {w : World} {v : Value} {L : List CL} {x : CL}
set_option maxHeartbeats 1000000 in
theorem holds_any (h : Rv w v L) (hn : L.length ≤ 100000) : Calls Try.prog 22 #[v, .agg #[.string x.1, .string x.2]] w fun e w' => HoO w L x e w' := by
  obtain ⟨a0, c0, rfl, _⟩ := h.ex
  obtain ⟨m, hm⟩ : ∃ m, L.length = m := ⟨_, rfl⟩
  have Hm : Hid (L.length = m) := hm
  rw [hm] at h hn ⊢
  have HV : Hid (Rv w (.slice a0 m c0) L) := h
  have mixed : Try.prog.follows .mixedOrders = true := by kernel_rfl
  obtain ⟨kx, vx⟩ := x
  clear h hm
  go_enter Try.func22, Try.ntmps22
  go_wp2_with (refine wpList_box_at (A := #[.string kx, .string vx]) _ rfl _ rfl rfl ?_; intro w1 b1 N1)
  go_loopg [5] m (fun k vi wr => ∃ i : Nat, vi = .int .i64 (i : Int) ∧ m - i ≤ k ∧ i ≤ m ∧ Below w1.heap.size w1 wr ∧ Hid (∀ j (h : j < L.length), j < i → L[j] ≠ (kx, vx)))
  case atStart => exact ⟨0, rfl, by omega, by omega, Below.refl _ _, fun j h hj => by omega⟩
  case round =>
    obtain ⟨i, rfl, hk, him, hB, HA⟩ := hrel
    have HB : Hid (Below w.heap.size w wr) := thn N1.bel hB
    have HBw : Hid (Below w1.heap.size w1 wr) := hB
    by_cases hlt : i < m
    · have hltI : (i : Int) < (m : Int) := by omega
      have hi1 : i < L.length := by have := Hm.out; omega
      obtain ⟨g, o, rfl, _, c0', c1'⟩ := (HV.out.bel HB.out).at_ hi1
      have d0 : wr.drew.cell? ⟨g, o + i * 2, none⟩ = some (.string L[i].1) := c0'
      have d1 : wr.drew.cell? ⟨g, o + i * 2 + 1, none⟩ = some (.string L[i].2) := c1'
      have x0 : wr.drew.cell? ⟨b1, 0, none⟩ = some (.string kx) := (N1.is.bel hB).c 0
      have x1 : wr.drew.cell? ⟨b1, 1, none⟩ = some (.string vx) := (N1.is.bel hB).c 1
      have heq : ∀ wx, (binOp .eql 39 (.agg #[.string L[i].1, .string L[i].2]) (.agg #[.string kx, .string vx])).run Try.prog wx = .ok (.bool (eqC L[i] (kx, vx))) wx := fun wx => (eqlsC wx L[i] (kx, vx)).1
      have HL : Hid (eqC L[i] (kx, vx) = true ↔ L[i] = (kx, vx)) := eqC_iff
      have HLi : Hid (L[i] ∈ L) := List.getElem_mem hi1
      generalize hl : eqC L[i] (kx, vx) = bb at heq HL
      clear hl hB
      cases bb with
      | true =>
        have HT : Hid ((kx, vx) ∈ L) := by have := HL.out.1 rfl; rw [← this]; exact HLi.out
        clear HL HLi
        generalize L[i].1 = ka at *
        generalize L[i].2 = kb at *
        go_wp2_with fail
        go_big_region
        all_goals go_wp2
        go_ret
        exact ⟨⟨true, rfl, ⟨fun _ => HT.out, fun _ => rfl⟩⟩, bdr HB.out 1⟩
      | false =>
        have HT : Hid (L[i] ≠ (kx, vx)) := fun h => by have := HL.out.2 h; cases this
        clear HL HLi
        generalize L[i].1 = ka at c0' d0 heq
        generalize L[i].2 = kb at c1' d1 heq
        go_wp2_with fail
        go_big_region
        all_goals go_wp2
        go_roundg (m - (i + 1))
        case measure => omega
        case rel => exact ⟨i + 1, by first | rfl | go_num, Nat.le_refl _, by omega, bdr (HBw.out) 1, fun j h hj => by
          rcases Nat.lt_or_ge j i with h1 | h1
          · exact HA.out j h h1
          · obtain rfl : j = i := by omega
            exact HT.out⟩
    · have hltI : ¬ (i : Int) < (m : Int) := by omega
      go_wp2
      go_ret
      exact ⟨⟨false, rfl, ⟨fun h => (by cases h), fun h => by
        obtain ⟨j, hj, e⟩ := List.getElem_of_mem h
        exact absurd e (HA.out j hj (by have := Hm.out; omega))⟩⟩, HB.out⟩
end
end Go.Proofs.Ytjlhohljkedbbaa.Pa
