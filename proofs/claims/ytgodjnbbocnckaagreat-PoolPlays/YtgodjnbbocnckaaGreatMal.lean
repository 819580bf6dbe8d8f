/- The document's Body, of any record. The document's Same: a record is one with itself, wherever its slices lie. What the laws of rec have in common: the record that they cut. -/
import Derived.Test.YtgodjnbbocnckaaGreatMak
import Derived.Test.YtgodjnbbocnckaaGreatMag
import Derived.Deep.RegionHeld3
namespace Go.Proofs.YtgodjnbbocnckaaGreat
open Go.RowKit
set_option linter.unusedVariables false
set_option linter.unusedSimpArgs false
set_option maxRecDepth 100000

theorem finM_body (m : Rm) : finM (laidF m (⟨#[]⟩, refM m)) = bodyM m := by
  by_cases hr : refM m = 0
  · rw [hr]
    have hB := Bare.laidF bare0 m
    show finM (laidM m) = _
    by_cases he : (laidM m).2 = 0
    · by_cases hl : 4096 < (laidM m).1.size
      · rw [finM_long he hl, bodyM_long hr he hl]
      · rw [finM_good hl, bodyM_good hr he hl]
        exact Prod.ext rfl he
    · rw [finM_err he, bodyM_err hr he]
      exact Prod.ext (hB he) rfl
  · rw [laidF_had m hr, finM_err hr, bodyM_ref hr]
theorem clean_texts (m : Rm) (h : refM (cleanM m) = 0) : (cleanM m).s.ky.size ≤ 1000 ∧ (cleanM m).s.ol.size ≤ 1000 ∧ (cleanM m).s.nw.size ≤ 1000 := by
  have f := fine_of h
  have h1 := f.ky
  have h2 := f.ol
  have h3 := f.nw
  omega
theorem clean_bare (m : Rm) (h : (cleanM m).s.kd = 1 ∨ (cleanM m).s.kd = 2) : (cleanM m).s.ky.size = 0 ∧ (cleanM m).s.ol.size = 0 ∧ (cleanM m).s.nw.size = 0 := by
  have e : (cleanM m).s.kd = m.s.kd := cleanS_kd m.s
  rw [e] at h
  have : (cleanM m).s = ⟨m.s.kd, 0, 0, 0, 0, ⟨#[]⟩, ⟨#[]⟩, ⟨#[]⟩, 0, 0, 0⟩ := by
    unfold cleanM cleanS
    dsimp only
    rw [if_neg (by omega), if_neg (by omega), if_neg (by omega)]
  rw [this]
  exact ⟨rfl, rfl, rfl⟩
end Go.Proofs.YtgodjnbbocnckaaGreat

namespace Go.Proofs.YtgodjnbbocnckaaGreat
open Go.RowKit
set_option linter.unusedVariables false
set_option linter.unusedSimpArgs false
set_option maxRecDepth 100000

end Go.Proofs.YtgodjnbbocnckaaGreat

namespace Go.Proofs.YtgodjnbbocnckaaGreat
open Go.RowKit
set_option linter.unusedVariables false
set_option linter.unusedSimpArgs false
set_option maxRecDepth 100000

/-- All cells of a record. -/
def Row13 (w : World) (b : Nat) (s : Sc) (I T : Value) : Prop :=
  w.cell? ⟨b, 0, none⟩ = some (.int .i64 s.kd) ∧ w.cell? ⟨b, 1, none⟩ = some (.int .i64 s.tx) ∧ w.cell? ⟨b, 2, none⟩ = some (.int .i64 s.pv) ∧ w.cell? ⟨b, 3, none⟩ = some (.int .i64 s.pg) ∧ w.cell? ⟨b, 4, none⟩ = some (.int .i64 s.ac) ∧ w.cell? ⟨b, 5, none⟩ = some (.string s.ky) ∧ w.cell? ⟨b, 6, none⟩ = some (.string s.ol) ∧ w.cell? ⟨b, 7, none⟩ = some (.string s.nw) ∧ w.cell? ⟨b, 8, none⟩ = some (.int .i64 s.nx) ∧ w.cell? ⟨b, 9, none⟩ = some I ∧ w.cell? ⟨b, 10, none⟩ = some T ∧ w.cell? ⟨b, 11, none⟩ = some (.int .i64 s.ep) ∧ w.cell? ⟨b, 12, none⟩ = some (.int .i64 s.nd)
theorem RcAt.row {w : World} {b : Nat} {s : Sc} {I T : Value} (h : RcAt w b s I T) : Row13 w b s I T := ⟨h.c0, h.c1, h.c2, h.c3, h.c4, h.c5, h.c6, h.c7, h.c8, h.c9, h.c10, h.c11, h.c12⟩
theorem BdS.of {w w0 w1 w2 : World} {b : Nat} {s s' : Sc} {I T I' T' : Value} {l : List Im} {g : List Tb} (N0 : NewR w w0 b s I T) (b1 : Below w0.heap.size w0 w1) (hI : SlI w I' l) (hT : SlT w T' g) (P : PutR w1 w2 b s' I' T') : BdS w w2 b s' I' T' l g := by
  have e := N0.eq
  have hb := (thn N0.below b1).trans (P.below (show w.heap.size ≤ b by omega) (thn N0.below b1).size)
  exact ⟨P.rc, hb, hI.below hb, hT.below hb⟩
end Go.Proofs.YtgodjnbbocnckaaGreat
