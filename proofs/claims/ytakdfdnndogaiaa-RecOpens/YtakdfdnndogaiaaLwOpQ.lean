/- RecOpens: what lies in memory. -/
import Derived.Test.YtakdfdnndogaiaaLwOpP
import Derived.Test.YtakdfdnndogaiaaLwOf
namespace Go.Proofs.Ytakdfdnndogaiaa
open Go.RowKit
set_option linter.unusedVariables false
set_option linter.unusedSimpArgs false
set_option maxRecDepth 100000

/-- What Open gave, and what the law wants, each in a block. -/
structure OpS (w w1 wx : World) (c1 c2 : Nat) (s : Sc) (I T : Value) (m : Rm) (s2 : Sc) (I2 T2 : Value) : Prop where
  b0 : Below w.heap.size w w1
  rv : RecV w1 (.agg (s.A I T)) m
  bel : Below w1.heap.size w1 wx
  a1 : RcAt wx c1 s I T
  a2 : RcAt wx c2 s2 I2 T2
  l2 : w1.heap.size ≤ c2
  n : c1 ≠ c2
section
variable {w w1 wx wq : World} {c1 c2 : Nat} {s s2 s' : Sc} {I T I2 T2 I' T' : Value} {m : Rm}
theorem OpS.below (h : OpS w w1 wx c1 c2 s I T m s2 I2 T2) (hb : Below wx.heap.size wx wq) : OpS w w1 wq c1 c2 s I T m s2 I2 T2 := ⟨h.b0, h.rv, thn h.bel hb, h.a1.below hb, h.a2.below hb, h.l2, h.n⟩
theorem OpS.put (h : OpS w w1 wx c1 c2 s I T m s2 I2 T2) (P : PutR wx wq c2 s' I' T') : OpS w w1 wq c1 c2 s I T m s' I' T' := ⟨h.b0, h.rv, h.bel.trans (P.below h.l2 h.bel.size), h.a1.off P.off h.n, P.rc, h.l2, h.n⟩
theorem OpS.rec1 (h : OpS w w1 wx c1 c2 s I T m s2 I2 T2) : RecV wx (.agg (s.A I T)) m := h.rv.below h.bel
theorem OpS.all (h : OpS w w1 wx c1 c2 s I T m s2 I2 T2) : Below w.heap.size w wx := thn h.b0 h.bel
theorem OpS.start {w2 w3 w4 : World} {s0 s1 : Sc} {I0 T0 I1 T1 : Value} (b0 : Below w.heap.size w w1) (rv : RecV w1 (.agg (s.A I T)) m) (N1 : NewR w1 w2 c1 s0 I0 T0) (P1 : PutR w2 w3 c1 s I T) (N2 : NewR w3 w4 c2 s1 I1 T1) (P2 : PutR w4 wx c2 s2 I2 T2) : OpS w w1 wx c1 c2 s I T m s2 I2 T2 := by
  have e1 := N1.eq
  have e2 := N2.eq
  have z1 := N1.rc.lt
  have z2 := P1.rc.lt
  have z3 := N1.below.size
  have B3 : Below w1.heap.size w1 w3 := N1.below.trans (P1.below (by omega) N1.below.size)
  have z4 := B3.size
  have B6 : Below w3.heap.size w3 wx := N2.below.trans (P2.below (by omega) N2.below.size)
  exact ⟨b0, rv, thn B3 B6, P1.rc.below B6, P2.rc, by omega, by omega⟩
end
end Go.Proofs.Ytakdfdnndogaiaa
