/- The law's viewed. -/
import Derived.Test.YtjlhohljkedbbaaSvK
import Derived.Test.YtjlhohljkedbbaaPsE
namespace Go.Proofs.Ytjlhohljkedbbaa.Pa
open Go.RowKit Gm Go.Maps Go.Sort
open Go.Proofs.Ytjlhohljkedbbaa.So (CL encC encL encO cfC)
set_option linter.unusedVariables false
set_option linter.unusedSimpArgs false
set_option maxRecDepth 100000
/-- Cells that a law is handed. -/
structure CellL (cs : List Value) : Prop where
  ex : ∃ c : CL, cs = encC c ∧ c.1.size ≤ 9223372036854775807
theorem open_ce {H : Type} {enc : TypeId × Value → H} {w : World} {fuel : Nat} {cs : List Value} {x : DataW H × List MemPlace} (h : DataW.trod enc Try.prog w 0 (fun _ => true) true fuel 39 cs = some x) (hcs : cs.length = 2) : CellL cs := by
  have h9 : Try.prog.cellsOf 9 = 1 := by kernel_rfl
  obtain ⟨xs, k, hk, hx, _, hxl, hf⟩ := DataW.trod_struct Try.underlying39 h
  match xs, hxl, cs, hcs with
  | [y0, y1], _, [v0, v1], _ =>
    have f0 := hf 0 _ rfl
    have f1 := hf 1 _ rfl
    simp [h9] at f0 f1
    obtain ⟨n0, i0, _, z0⟩ := DataW.trod_string Try.underlying9 f0
    obtain ⟨n1, i1, _, z1⟩ := DataW.trod_string Try.underlying9 f1
    simp at i0 i1
    subst i0 i1
    exact ⟨(n0, n1), rfl, z0⟩
theorem Rv.of_sv {w : World} {a : Option Addr} {n c : Nat} {L' : List (List Value)} (h : Sv w 2 CellL a n L') : ∃ C : List CL, C.length = n ∧ Rv w (.slice a n c) C ∧ ∀ x ∈ C, x.1.size ≤ 9223372036854775807 := by
  refine ⟨L'.map fun cs => match cs with | [.string x, .string y] => (x, y) | _ => (⟨#[]⟩, ⟨#[]⟩), by rw [List.length_map]; exact h.len, ⟨a, c, by rw [List.length_map, h.len], fun i hi => ?_⟩, fun x hx => ?_⟩
  · rw [List.length_map] at hi
    obtain ⟨g, o, ea, hg, hk, hp, hr⟩ := h.at_ i hi
    obtain ⟨⟨x, y⟩, e, _⟩ := hp.ex
    rw [List.getElem_map, e]
    rw [e] at hr
    exact ⟨g, o, ea, hg, hr 0 _ rfl, hr 1 _ rfl⟩
  · obtain ⟨cs, hcs, rfl⟩ := List.mem_map.1 hx
    obtain ⟨i, hi, rfl⟩ := List.getElem_of_mem hcs
    obtain ⟨g, o, ea, hg, hk, hp, hr⟩ := h.at_ i hi
    obtain ⟨⟨x, y⟩, e, hz⟩ := hp.ex
    rw [e]
    exact hz
theorem Rv.take {w : World} {a : Option Addr} {n c : Nat} {C : List CL} (h : Rv w (.slice a n c) C) (k : Nat) (hk : k ≤ C.length) : Rv w (.slice a k c) (C.take k) := by
  refine ⟨a, c, by rw [List.length_take, Nat.min_eq_left hk], fun i hi => ?_⟩
  rw [List.length_take] at hi
  rw [List.getElem_take]
  exact h.at_ (by omega)
section
variable {W : Nat → Prop} {w : World} {xb : Nat} {P : List Gn} {F : Lit → Option Value} {C D M2 : List CL} {lo hi kb : ByteArray} {x : Ws}
theorem Get_no (h : Dp W w xb P) (hn : P.Pairwise fun a b => a.txn ≠ b.txn) (hA : Al P F) (hs : kb.size ≤ 9223372036854775807) (hF : F (.string kb.data.toList) = none) : Calls Try.prog 6 #[.pointer (some ⟨xb, 0, none⟩), .string kb] w fun e w' => e = .returned (.tuple #[.agg zW.A, .bool false]) ∧ Below w.heap.size w w' := by
  refine (Get_any h kb hs).mono ?_
  rintro e w' ⟨⟨x, is, rfl, hg⟩, q⟩
  have hv := hg.fv hn hA
  cases is with
  | true => have := hv.yes rfl; rw [hF] at this; cases this
  | false => obtain rfl := (hg.no rfl).1; exact ⟨rfl, q⟩
theorem Get_yes (h : Dp W w xb P) (hn : P.Pairwise fun a b => a.txn ≠ b.txn) (hA : Al P F) (hs : kb.size ≤ 9223372036854775807) (hF : F (.string kb.data.toList) = some (.agg x.A)) : Calls Try.prog 6 #[.pointer (some ⟨xb, 0, none⟩), .string kb] w fun e w' => e = .returned (.tuple #[.agg x.A, .bool true]) ∧ Below w.heap.size w w' := by
  refine (Get_any h kb hs).mono ?_
  rintro e w' ⟨⟨y, is, rfl, hg⟩, q⟩
  have hv := hg.fv hn hA
  cases is with
  | true => have := hv.yes rfl; rw [hF] at this; obtain rfl := wsA_inj (Option.some.inj this); exact ⟨rfl, q⟩
  | false => have := hv.no rfl; rw [hF] at this; cases this
theorem holds_in {v : Value} (h : Rv w v D) (hn : D.length ≤ 100000) {c : CL} (hc : c ∈ D) : Calls Try.prog 22 #[v, .agg #[.string c.1, .string c.2]] w fun e w' => e = .returned (.bool true) ∧ Below w.heap.size w w' := by
  refine (holds_any (x := c) h hn).mono ?_
  rintro e w' ⟨⟨r, rfl, hr⟩, q⟩
  rw [hr.2 hc]
  exact ⟨rfl, q⟩
theorem geB_leB (a b : ByteArray) : (!Op.bytesLess a.toList b.toList) = leB b a := by
  unfold leB
  rw [Proofs.bytesLess_eq, Proofs.bytesLess_eq, Lib.toList_data, Lib.toList_data]
  rcases Classical.em (a.data.toList < b.data.toList) with h | h
  · have h1 : ¬ b.data.toList < a.data.toList := fun k => List.lt_irrefl _ (List.lt_trans h k)
    have h2 : ¬ b.data.toList = a.data.toList := fun e => by rw [e] at h; exact List.lt_irrefl _ h
    have h3 : ¬ b.data = a.data := fun e => h2 (by rw [e])
    simp [h, h1, h3]
  · rcases List.le_iff_lt_or_eq.1 (List.not_lt.1 h) with h1 | h1
    · simp [h, h1]
    · simp [h1]
/-- What one key of the range adds. -/
structure One (F : Lit → Option Value) (lo hi : ByteArray) (M2 : List CL) (K : List (List UInt8)) (kb : ByteArray) (ws : Ws) : Prop where
  yes : ws.is = true → inR lo hi kb = true → (kb, ws.v) ∈ M2 ∧ cq M2 (K ++ [kb.data.toList]) = cq M2 K + 1
  no : ws.is = false ∨ inR lo hi kb = false → cq M2 (K ++ [kb.data.toList]) = cq M2 K
theorem one_of {K : List (List UInt8)} (hM : M2I F lo hi (fun _ => false) M2) (hF : F (.string kb.data.toList) = some (.agg x.A)) (hk : kb.data.toList ∉ K) : One F lo hi M2 K kb x := by
  refine ⟨fun h1 h2 => ?_, fun h => cq_miss fun c hc e => ?_⟩
  · have hm : (kb, x.v) ∈ M2 := (hM.mem (kb, x.v)).2 ⟨x, hF, rfl, h1, rfl, h2⟩
    exact ⟨hm, cq_hit hM.nd ⟨_, hm, rfl⟩ hk⟩
  · obtain ⟨y, k1, _, k3, k4, k5⟩ := (hM.mem c).1 hc
    rw [e, hF] at k1
    obtain rfl := wsA_inj (Option.some.inj k1)
    rw [ba_ext e] at k5
    rcases h with h | h
    · rw [h] at k3; cases k3
    · rw [h] at k5; cases k5
end
end Go.Proofs.Ytjlhohljkedbbaa.Pa
