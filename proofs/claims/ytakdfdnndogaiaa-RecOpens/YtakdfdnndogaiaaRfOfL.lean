/- The document's Of, kinds that have a list. -/
import Derived.Test.YtakdfdnndogaiaaRfOf
import Derived.Deep.RegionHeld3
namespace Go.Proofs.Ytakdfdnndogaiaa
open Go.RowKit
set_option linter.unusedVariables false
set_option linter.unusedSimpArgs false
set_option maxRecDepth 100000

/-- A field is laid, as an operation of its own. -/
theorem wp_fput {o : Oper} {a : Act} {K : Act → World → Prop} {Q : Exit → Act → World → Prop} {b k : Nat} {s s' : Sc} {I T I' T' v : Value} (w : World) (t : TypeId) (x y : Operand) (hop : o.op = Op.store t x y)
    (hx : a.eval x = .pointer (some ⟨b, k, none⟩)) (hy : a.eval y = v) (hs : RcAt w b s I T) (hk : k < 13) (h1 : v.oneCell' = true) (hi : (Try.prog.info? t).map (·.size) = some 1)
    (e : (s.A I T).setIfInBounds k v = s'.A I' T')
    (h : ∀ w', PutR w w' b s' I' T' → K (a.put o.dst undef) w') : o.wp Try.prog a w K Q := by
  have hc : ∃ u, w.cell? ⟨b, k, none⟩ = some u := by
    rw [cell_of_row w b _ _ 25 (0, 0) hs.blk]
    exact ⟨_, Array.getElem?_eq_getElem (by rw [rc_size]; exact hk)⟩
  obtain ⟨u, hu⟩ := hc
  have hf := hs.f k
  unfold Oper.wp
  have hrun : (Instr.storeAt t (.pointer (some ⟨b, k, none⟩)) v).run Try.prog w = .ok () (w.setCell ⟨b, k, none⟩ v) := by
    have hcs : v.cells = #[v] := by cases v <;> first | rfl | cases h1
    have g1 : ∀ j, j < [v].length → (w.cell? ⟨b, k + 0 + j, none⟩).isSome = true := by
      intro j hj
      obtain rfl : j = 0 := by simpa using hj
      simp [hu]
    have g2 : ∀ j, j < [v].length → w.frozen? ⟨b, k + 0 + j, none⟩ = false := by
      intro j hj
      obtain rfl : j = 0 := by simpa using hj
      simpa using hf
    have := run_storeCells_cells (P := Try.prog) b k [v] 0 w g1 g2 (fun x hx => by simp at hx; subst hx; exact h1)
    cases hq : Try.prog.info? t with
    | none => simp [hq] at hi
    | some i =>
      have hs : i.size = 1 := by simpa [hq] using hi
      simp only [Nat.add_zero] at this
      simp [Instr.storeAt, Instr.sureAddr, storeVar, sizeOf, typeInfo, hq, hcs, hs, this, World.setCells]
  simp [execOp, hop, hx, hy, hrun, Result.andThen]
  exact h _ ⟨hs.set e, (Pk.Off.refl _ _).setCell _ _⟩
theorem DoS.bel' {w wx wq : World} {b2 b5 b4 B : Nat} {s : Sc} {I T : Value} {q : Lf} (h : DoS w wx b2 b5 b4 s I T q) (hb : Below B wx wq) (h2 : b2 < B) (h5 : b5 < B) (h4 : b4 < B) (hw : w.heap.size ≤ B) : DoS w wq b2 b5 b4 s I T q := by
  refine ⟨⟨(hb.block b2 h2).trans h.r.blk⟩, ⟨(hb.block b5 h5).trans h.c.blk⟩, ?_, h.bel.trans (hb.mono hw), h.n1, h.n2, h.n3, h.l2, h.l5, h.l4⟩
  obtain ⟨s, a, e1, e2⟩ := h.rd.ex
  exact ⟨s, a, (hb.block b4 h4).trans e1, e2⟩
theorem DoS.text {w wx : World} {b2 b5 b4 : Nat} {s : Sc} {I T : Value} {q : Lf} (h : DoS w wx b2 b5 b4 s I T q) (m : Int) : Calls Try.prog 33 #[.pointer (some ⟨b4, 0, none⟩), .int .i64 m] wx fun r w' => r = .returned (.string (tT q m)) ∧ DoS w w' b2 b5 b4 s I T (sT q m) ∧ Pk.Off b4 wx w' :=
  (h.rd.text m).mono fun e w' ⟨he, h1, o1⟩ => ⟨he, h.step h1 o1, o1⟩
theorem DoS.numo {w wx : World} {b2 b5 b4 : Nat} {s : Sc} {I T : Value} {q : Lf} (h : DoS w wx b2 b5 b4 s I T q) (k : Int) (h1 : 1 ≤ k) (h6 : k ≤ 6) : Calls Try.prog 32 #[.pointer (some ⟨b4, 0, none⟩), .int .i64 k] wx fun r w' => r = .returned (.int .i64 (nN q k)) ∧ DoS w w' b2 b5 b4 s I T (sN q k) ∧ Pk.Off b4 wx w' :=
  (h.rd.num k h1 h6).mono fun e w' ⟨he, h1, o1⟩ => ⟨he, h.step h1 o1, o1⟩
section
variable {w : World} {t : ByteArray} {K : Int} {q : Lf}
end
end Go.Proofs.Ytakdfdnndogaiaa
