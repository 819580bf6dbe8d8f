import Derived.Test.YtdchjncnjgelhaaGreatMai
import Derived.Test.YtdchjncnjgelhaaGreatMac
import Derived.Test.YtdchjncnjgelhaaGreatMag
import Derived.Test.YtdchjncnjgelhaaGreatMad
import Derived.Deep.RegionHeld3
set_option linter.unusedVariables false
set_option linter.unusedSimpArgs false
set_option maxRecDepth 100000
namespace Go.Proofs.YtdchjncnjgelhaaGreat
open Go.RowKit
theorem stepW_err {A:ByteArray × Int} {n k:Int} (h:(stepW A n k).2=0):A.2=0:=by
 rcases Classical.em (A.2=0) with h0 |h0
 ·exact h0
 ·obtain⟨a,e⟩:=A
  rw[stepW_had h0] at h
  exact h
theorem stepT_err {A:ByteArray × Int} {t:ByteArray} (h:(stepT A t).2=0):A.2=0:=by
 rcases Classical.em (A.2=0) with h0 |h0
 ·exact h0
 ·obtain⟨a,e⟩:=A
  rw[stepT_had h0] at h
  exact h
def Row13 (w:World) (b:Nat) (s:Sc) (I T:Value):Prop :=
 w.cell? ⟨b,0,none⟩=some (.int .i64 s.kd)/\w.cell? ⟨b,1,none⟩=some (.int .i64 s.tx)/\w.cell? ⟨b,2,none⟩=some (.int .i64 s.pv)/\w.cell? ⟨b,3,none⟩=some (.int .i64 s.pg)/\w.cell? ⟨b,4,none⟩=some (.int .i64 s.ac)/\w.cell? ⟨b,5,none⟩=some (.string s.ky)/\w.cell? ⟨b,6,none⟩=some (.string s.ol)/\w.cell? ⟨b,7,none⟩=some (.string s.nw)/\w.cell? ⟨b,8,none⟩=some (.int .i64 s.nx)/\w.cell? ⟨b,9,none⟩=some I/\w.cell? ⟨b,10,none⟩=some T/\w.cell? ⟨b,11,none⟩=some (.int .i64 s.ep)/\w.cell? ⟨b,12,none⟩=some (.int .i64 s.nd)
theorem RcAt.row {w:World} {b:Nat} {s:Sc} {I T:Value} (h:RcAt w b s I T):Row13 w b s I T:=⟨h.c0,h.c1,h.c2,h.c3,h.c4,h.c5,h.c6,h.c7,h.c8,h.c9,h.c10,h.c11,h.c12⟩
end Go.Proofs.YtdchjncnjgelhaaGreat
