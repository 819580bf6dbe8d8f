/- Variables of one cell in blocks of their own. -/
import Derived.Test.YtjlhohljkedbbabGm
namespace Go.Proofs.Ytjlhohljkedbbab.Gm
open Go.RowKit
set_option linter.unusedVariables false
set_option linter.unusedSimpArgs false
set_option maxRecDepth 100000
section
variable {ops : Array Oper} {rest : List Oper} {o : Oper} {a : Act} {Q : Exit → Act → World → Prop} {t : TypeId} {u v : Value}
theorem wpList_box1 (w : World) (hg : o.guard = none) (x : Operand) (hop : o.op = Op.box t x) (hx : a.eval x = v) (hv : v.cells = #[v])
    (h : ∀ w' b, New w w' b t #[v] → wpList Try.prog ops Q rest (a.put o.dst (.pointer (some ⟨b, 0, none⟩))) w') : wpList Try.prog ops Q (o :: rest) a w := by
  refine wpList_plain hg fun K' hK' => ?_
  unfold Oper.wp
  simp [execOp, hop, hx, Instr.box, Result.andThen, hv]
  exact hK' _ _ (h (w.alloc (.cells v.cells t)) w.heap.size ⟨by rw [hv]; exact At.new _ _ _, bl1 _, rfl⟩)
theorem wpList_new1 (w : World) (hz : ∀ w, (zeroValue t).run Try.prog w = .ok v w) (hv : v.cells = #[v]) (hg : o.guard = none) (hop : o.op = Op.alloc t)
    (h : ∀ w' b, New w w' b t #[v] → wpList Try.prog ops Q rest (a.put o.dst (.pointer (some ⟨b, 0, none⟩))) w') : wpList Try.prog ops Q (o :: rest) a w := by
  refine wpList_plain hg fun K' hK' => ?_
  unfold Oper.wp
  simp [execOp, hop, Instr.alloc, hz, Result.andThen, hv]
  exact hK' _ _ (h (w.alloc (.cells v.cells t)) w.heap.size ⟨by rw [hv]; exact At.new _ _ _, bl1 _, rfl⟩)
theorem put1_of {w : World} {b : Nat} (hs : At w b t #[u]) : Put w (w.setCell ⟨b, 0, none⟩ v) b t #[v] := by
  refine ⟨hs.set 0 v, fun j hj => ?_, fun W hW => ⟨rfl, rfl, rfl, by simp [World.setCell], fun j _ hn => ?_, fun _ h => Or.inl h⟩⟩
  · exact Below.heap_setCell w _ v j (fun e => hj e)
  · exact Below.heap_setCell w _ v j (fun e => hn (by rw [e]; exact hW))
theorem wpList_put1 {b : Nat} (w : World) (hg : o.guard = none) (x y : Operand) (hop : o.op = Op.store t x y) (hx : a.eval x = .pointer (some ⟨b, 0, none⟩)) (hy : a.eval y = v) (hs : At w b t #[u]) (h1 : v.oneCell' = true) (hi : (Try.prog.info? t).map (·.size) = some 1)
    (h : ∀ w', Put w w' b t #[v] → wpList Try.prog ops Q rest (a.put o.dst undef) w') : wpList Try.prog ops Q (o :: rest) a w :=
  wpList_set1 w hg t x y hop hx hy (u := u) (by rw [hs.c]; rfl) (hs.f 0) h1 hi fun w' e => by
    subst e
    exact h _ (put1_of hs)
end
end Go.Proofs.Ytjlhohljkedbbab.Gm
