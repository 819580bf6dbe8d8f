/- symMerge of any parts; the insertion sort of a part. -/
import Derived.Test.YtjlhohljkedbbaaSoF
namespace Go.Proofs.Ytjlhohljkedbbaa.So
open Go.Sort Go.RowKit
set_option linter.unusedVariables false
set_option linter.unusedSimpArgs false
set_option maxRecDepth 1000000
section
variable {blk cap g : Nat} {cb : Array Value} {cf : CL → CL → Int}
theorem symR (hS : SWO (ltOf cf)) (eg : ∀ args w, (callFunc g args).run Try.prog w = .ok (.enter g args) w) : ∀ (N : Nat) (w : World) (d : Array CL), Rw w blk d → CmpLays Try.prog g cb encC 2 cf blk 0 d.size w → Ih w blk cap g cb cf d N
  | 0, w, d, hR, hC => fun w1 dk x y z _ _ _ _ _ h => by omega
  | N + 1, w, d, hR, hC => fun w1 dk x y z hW hs h1 h2 h3 h4 => by
    have hR1 := hR.wd hW hs
    have hC1 := hR.cmp hW hs hC
    have hI : Ih w1 blk cap g cb cf dk (z - x) := fun w2 dk2 x2 y2 z2 k1 k2 k3 k4 k5 k6 => symR hS eg N w1 dk hR1 hC1 w2 dk2 x2 y2 z2 k1 k2 k3 k4 k5 (by omega)
    have main : Calls Try.prog 37 #[.slice (some ⟨blk, 0, none⟩) dk.size cap, .int .i64 x, .int .i64 y, .int .i64 z, .func (.func g) #[] cb] w1 fun e w' => Ly w1 w' blk cf x y z dk e := by
      rcases Nat.lt_or_ge (x + 1) y with k1 | k1
      · rcases Nat.lt_or_ge (y + 1) z with k2 | k2
        · exact symG hS eg hR1 hC1 k1 k2 (by omega) hI
        · exact sym2 hS eg hR1 hC1 k1 (by omega) (by omega)
      · exact sym1 hS eg hR1 hC1 (by omega) h2 (by omega)
    rw [← hs]
    refine main.mono fun e w' h => ⟨h.ret, ?_⟩
    obtain ⟨d', q1, q2⟩ := h.ex
    exact ⟨d', hW.trans hR q1 (q2.perm.1.symm), q2⟩
theorem symA {w w1 : World} {d dk : Array CL} (hS : SWO (ltOf cf)) (eg : ∀ args w, (callFunc g args).run Try.prog w = .ok (.enter g args) w) (hR : Rw w blk d) (hC : CmpLays Try.prog g cb encC 2 cf blk 0 d.size w) (hW : Wd w w1 blk dk) (hs : dk.size = d.size) {x y z : Nat} (h1 : x < y) (h2 : y < z) (h3 : z ≤ d.size) :
    Calls Try.prog 37 #[.slice (some ⟨blk, 0, none⟩) d.size cap, .int .i64 x, .int .i64 y, .int .i64 z, .func (.func g) #[] cb] w1 fun e w' => e = .returned (.tuple #[]) ∧ ∃ d', Wd w w' blk d' ∧ Mg (ltOf cf) x y z dk d' :=
  symR hS eg (z - x + 1) w d hR hC w1 dk x y z hW hs h1 h2 h3 (by omega)
end
end Go.Proofs.Ytjlhohljkedbbaa.So
