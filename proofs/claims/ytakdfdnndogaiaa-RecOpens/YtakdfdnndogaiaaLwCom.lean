/- What the laws of rec have in common: the record that they cut. -/
import Derived.Test.YtakdfdnndogaiaaRxFew
import Derived.Test.YtakdfdnndogaiaaRfBdy
import Derived.Test.YtakdfdnndogaiaaRfSam
namespace Go.Proofs.Ytakdfdnndogaiaa
open Go.RowKit
set_option linter.unusedVariables false
set_option linter.unusedSimpArgs false
set_option maxRecDepth 100000

/-- All cells of a record. -/
def Row13 (w : World) (b : Nat) (s : Sc) (I T : Value) : Prop :=
  w.cell? ⟨b, 0, none⟩ = some (.int .i64 s.kd) ∧ w.cell? ⟨b, 1, none⟩ = some (.int .i64 s.tx) ∧ w.cell? ⟨b, 2, none⟩ = some (.int .i64 s.pv) ∧ w.cell? ⟨b, 3, none⟩ = some (.int .i64 s.pg) ∧ w.cell? ⟨b, 4, none⟩ = some (.int .i64 s.ac) ∧ w.cell? ⟨b, 5, none⟩ = some (.string s.ky) ∧ w.cell? ⟨b, 6, none⟩ = some (.string s.ol) ∧ w.cell? ⟨b, 7, none⟩ = some (.string s.nw) ∧ w.cell? ⟨b, 8, none⟩ = some (.int .i64 s.nx) ∧ w.cell? ⟨b, 9, none⟩ = some I ∧ w.cell? ⟨b, 10, none⟩ = some T ∧ w.cell? ⟨b, 11, none⟩ = some (.int .i64 s.ep) ∧ w.cell? ⟨b, 12, none⟩ = some (.int .i64 s.nd)
theorem RcAt.row {w : World} {b : Nat} {s : Sc} {I T : Value} (h : RcAt w b s I T) : Row13 w b s I T := ⟨h.c0, h.c1, h.c2, h.c3, h.c4, h.c5, h.c6, h.c7, h.c8, h.c9, h.c10, h.c11, h.c12⟩
theorem BdS.of {w w0 w1 w2 : World} {b : Nat} {s s' : Sc} {I T I' T' : Value} {l : List Im} {g : List Tb} (N0 : NewR w w0 b s I T) (b1 : Below w0.heap.size w0 w1) (hI : SlI w I' l) (hT : SlT w T' g) (P : PutR w1 w2 b s' I' T') : BdS w w2 b s' I' T' l g := by
  have e := N0.eq
  have hb := (thn N0.below b1).trans (P.below (show w.heap.size ≤ b by omega) (thn N0.below b1).size)
  exact ⟨P.rc, hb, hI.below hb, hT.below hb⟩
end Go.Proofs.Ytakdfdnndogaiaa
