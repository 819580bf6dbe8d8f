/- The law's Few: a record of at most 20 images, and of at most 300 transactions. The document's put and text: what they leave is what a writer's Num and Text do. The document's put, text and change, as steps of one state. The document's Body: a record's bytes, or why it has none. The document's Body, of records with images and with a table. The document's ahead and change. The document's ahead: why a record has no bytes. The document's Clean. The document's Body, of any record. The document's Same: a record is one with itself, wherever its slices lie. What the laws of rec have in common: the record that they cut. -/
import Derived.Test.YtgodjnbbocnckaaGreatMag
import Derived.Test.YtgodjnbbocnckaaGreatMad
import Derived.Laws.BytesArg
import Derived.Test.YtgodjnbbocnckaaGreatMaf
import Derived.Deep.RegionHeld3
namespace Go.Proofs.YtgodjnbbocnckaaGreat
open Go.RowKit
set_option linter.unusedVariables false
set_option linter.unusedSimpArgs false
set_option maxRecDepth 100000

def fewM (m : Rm) : Rm := ⟨m.s, m.im.take 20, m.tb.take 300⟩
section
variable {w : World} {s : Sc} {a a' : Option Addr} {n n' c c' : Nat}
end
theorem Held.few {m : Rm} (h : Held m) : Small (fewM m) := by
  refine ⟨?_, ?_, ?_, h.ky, h.ol, h.nw⟩
  · show (m.im.take 20).length ≤ 1000
    rw [List.length_take]; omega
  · show (m.tb.take 300).length ≤ 1000
    rw [List.length_take]; omega
  · intro p hp
    exact h.t p (List.mem_of_mem_take hp)
end Go.Proofs.YtgodjnbbocnckaaGreat

namespace Go.Proofs.YtgodjnbbocnckaaGreat
open Go.RowKit
set_option linter.unusedVariables false
set_option linter.unusedSimpArgs false
set_option maxRecDepth 100000

theorem cv_one (w : World) (x : Int) :
    (convert 94 9 (.slice (some ⟨w.heap.size, 0, none⟩) 1 1)).run Tryz.prog (w.alloc (.cells #[.int .u8 x] 5)) = .ok (.string ⟨#[UInt8.ofNat x.toNat]⟩) (w.alloc (.cells #[.int .u8 x] 5)) := Pk.cv_one w x
theorem cv_two (w : World) (x y : Int) :
    (convert 94 9 (.slice (some ⟨w.heap.size, 0, none⟩) 2 2)).run Tryz.prog (w.alloc (.cells #[.int .u8 x, .int .u8 y] 5)) = .ok (.string ⟨#[UInt8.ofNat x.toNat, UInt8.ofNat y.toNat]⟩) (w.alloc (.cells #[.int .u8 x, .int .u8 y] 5)) := by
  have h := run_convert_bytes_arg (P := Tryz.prog) (w.alloc (.cells #[.int .u8 x, .int .u8 y] 5)) 94 5 Tryz.underlying94 Tryz.underlying5 w.heap.size 0 2 2 [x, y] rfl
    (fun i hi => by have : i = 0 ∨ i = 1 := by omega
                    rcases this with rfl | rfl <;> simp [go_sem]) 9 Tryz.underlying9
  rw [h]; rfl
theorem two_bytes (n : Nat) (h : n ≤ 65535) : (⟨#[UInt8.ofNat (n / 256), UInt8.ofNat (n % 256)]⟩ : ByteArray) = Pk.beS n 2 := by
  rw [Pk.beS_2, Nat.mod_eq_of_lt (show n / 256 < 256 by omega)]
end Go.Proofs.YtgodjnbbocnckaaGreat

namespace Go.Proofs.YtgodjnbbocnckaaGreat
open Go.RowKit
set_option linter.unusedVariables false
set_option linter.unusedSimpArgs false
set_option maxRecDepth 100000

theorem stepW_err {A : ByteArray × Int} {n k : Int} (h : (stepW A n k).2 = 0) : A.2 = 0 := by
  rcases Classical.em (A.2 = 0) with h0 | h0
  · exact h0
  · obtain ⟨a, e⟩ := A
    rw [stepW_had h0] at h
    exact h
theorem stepT_err {A : ByteArray × Int} {t : ByteArray} (h : (stepT A t).2 = 0) : A.2 = 0 := by
  rcases Classical.em (A.2 = 0) with h0 | h0
  · exact h0
  · obtain ⟨a, e⟩ := A
    rw [stepT_had h0] at h
    exact h
/-- What is laid, or the error; e0: the error that stood ahead. -/
structure Stt (e0 : Int) (A : ByteArray × Int) (j : Nat) : Prop where
  bare : Bare A
  sz : A.1.size ≤ j
  er : A.2 = 0 → e0 = 0
section
variable {e0 : Int} {A : ByteArray × Int} {j : Nat}
theorem Stt.start (e0 : Int) : Stt e0 (⟨#[]⟩, e0) 0 := ⟨fun _ => rfl, Nat.le_refl _, fun h => h⟩
theorem Stt.stepW (h : Stt e0 A j) (n k : Int) : Stt e0 (stepW A n k) (j + 6) := ⟨h.bare.stepW n k, by have := stepW_size A n k; have := h.sz; omega, fun e => h.er (stepW_err e)⟩
theorem Stt.stepT (h : Stt e0 A j) (t : ByteArray) : Stt e0 (stepT A t) (j + 65537) := ⟨h.bare.stepT t, by have := stepT_size A t; have := h.sz; omega, fun e => h.er (stepT_err e)⟩
theorem Stt.mono {j' : Nat} (h : Stt e0 A j) (hj : j ≤ j') : Stt e0 A j' := ⟨h.bare, Nat.le_trans h.sz hj, h.er⟩
end
theorem layI_had (l : List Im) {e : Int} (h : e ≠ 0) : layI l (⟨#[]⟩, e) = (⟨#[]⟩, e) := by
  induction l with
  | nil => rfl
  | cons p r ih =>
    show layI r (stepT (stepW (⟨#[]⟩, e) p.1 2) p.2) = _
    rw [stepW_had h, stepT_had h, ih]
theorem layB_had (l : List Tb) {e : Int} (h : e ≠ 0) : layB l (⟨#[]⟩, e) = (⟨#[]⟩, e) := by
  induction l with
  | nil => rfl
  | cons p r ih =>
    show layB r (stepW (stepW (⟨#[]⟩, e) p.1 6) p.2 6) = _
    rw [stepW_had h, stepW_had h, ih]
theorem layC_had (s : Sc) {e : Int} (h : e ≠ 0) : layC s (⟨#[]⟩, e) = (⟨#[]⟩, e) := by
  unfold layC layV
  rw [stepW_had h, stepT_had h, stepT_had h, stepT_had h, stepT_had h]
  split
  · rfl
  · split <;> rfl
theorem laidF_had (m : Rm) {e : Int} (h : e ≠ 0) : laidF m (⟨#[]⟩, e) = (⟨#[]⟩, e) := by
  unfold laidF
  dsimp only [layP, List.foldl]
  simp only [stepW_had h, layI_had _ h, layB_had _ h, layC_had _ h]
  repeat' split
  all_goals rfl
section
variable {w : World} {s : Sc} {I T : Value} {e0 : Int} {A : ByteArray × Int} {j : Nat}
end
end Go.Proofs.YtgodjnbbocnckaaGreat

namespace Go.Proofs.YtgodjnbbocnckaaGreat
open Go.RowKit
set_option linter.unusedVariables false
set_option linter.unusedSimpArgs false
set_option maxRecDepth 100000

def finM (A : ByteArray × Int) : ByteArray × Int := if A.2 = 0 ∧ 4096 < A.1.size then (⟨#[]⟩, 3) else A
theorem finM_err {A : ByteArray × Int} (h : A.2 ≠ 0) : finM A = A := by unfold finM; rw [if_neg (fun e => h e.1)]
theorem finM_long {A : ByteArray × Int} (h : A.2 = 0) (h2 : 4096 < A.1.size) : finM A = (⟨#[]⟩, 3) := by unfold finM; rw [if_pos ⟨h, h2⟩]
theorem finM_good {A : ByteArray × Int} (h2 : ¬ 4096 < A.1.size) : finM A = A := by unfold finM; rw [if_neg (fun e => h2 e.2)]
/-- The record that was cleaned lies in block b. -/
structure BdS (w wx : World) (b : Nat) (s : Sc) (I T : Value) (l : List Im) (g : List Tb) : Prop where
  rc : RcAt wx b s I T
  bel : Below w.heap.size w wx
  im : SlI wx I l
  tb : SlT wx T g
section
variable {w wx wq : World} {b : Nat} {s : Sc} {I T : Value} {l : List Im} {g : List Tb}
theorem BdS.below (h : BdS w wx b s I T l g) (hb : Below wx.heap.size wx wq) : BdS w wq b s I T l g := ⟨h.rc.below hb, thn h.bel hb, h.im.below hb, h.tb.below hb⟩
theorem BdS.mk' {w1 w2 w3 : World} (B1 : Below w.heap.size w w1) (hI : SlI w1 I l) (hT : SlT w1 T g) (N : NewR w1 w2 b zS nilV nilV) (P : PutR w2 w3 b s I T) : BdS w w3 b s I T l g := by
  have e := N.eq
  have z := N.below.size
  have hb : Below w1.heap.size w1 w3 := N.below.trans (P.below (by omega) z)
  exact ⟨P.rc, thn B1 hb, hI.below hb, hT.below hb⟩
end
section
variable {w : World} {s s0 : Sc} {I0 T0 : Value} {l : List Im} {g : List Tb} {e0 : Int}
end
end Go.Proofs.YtgodjnbbocnckaaGreat

namespace Go.Proofs.YtgodjnbbocnckaaGreat
open Go.RowKit
set_option linter.unusedVariables false
set_option linter.unusedSimpArgs false
set_option maxRecDepth 100000

section
variable {w : World} {s s0 : Sc} {I0 T0 : Value} {l : List Im} {g : List Tb} {e0 : Int}
end
end Go.Proofs.YtgodjnbbocnckaaGreat

namespace Go.Proofs.YtgodjnbbocnckaaGreat
open Go.RowKit
set_option linter.unusedVariables false
set_option linter.unusedSimpArgs false
set_option maxRecDepth 100000

section
variable {w : World} {s : Sc} {T I : Value} {a : Option Addr} {c : Nat} {l : List Im} {g : List Tb}
def refIR (l : List Im) : Int := if whole l then 0 else 4
end
end Go.Proofs.YtgodjnbbocnckaaGreat

namespace Go.Proofs.YtgodjnbbocnckaaGreat
open Go.RowKit
set_option linter.unusedVariables false
set_option linter.unusedSimpArgs false
set_option maxRecDepth 100000

section
variable {w : World} {s : Sc} {T I : Value} {a : Option Addr} {c : Nat} {l : List Im} {g : List Tb}
def refT (s : Sc) : Int := if 16 < s.ky.size then 17 else if 32 < s.ol.size ∨ 32 < s.nw.size then 18 else 0
end
end Go.Proofs.YtgodjnbbocnckaaGreat

namespace Go.Proofs.YtgodjnbbocnckaaGreat
open Go.RowKit
set_option linter.unusedVariables false
set_option linter.unusedSimpArgs false
set_option maxRecDepth 100000

section
variable {w : World} {s : Sc} {I T : Value}
end

end Go.Proofs.YtgodjnbbocnckaaGreat

namespace Go.Proofs.YtgodjnbbocnckaaGreat
open Go.RowKit
set_option linter.unusedVariables false
set_option linter.unusedSimpArgs false
set_option maxRecDepth 100000

theorem finM_body (m : Rm) : finM (laidF m (⟨#[]⟩, refM m)) = bodyM m := by
  by_cases hr : refM m = 0
  · rw [hr]
    have hB := Bare.laidF bare0 m
    show finM (laidM m) = _
    by_cases he : (laidM m).2 = 0
    · by_cases hl : 4096 < (laidM m).1.size
      · rw [finM_long he hl, bodyM_long hr he hl]
      · rw [finM_good hl, bodyM_good hr he hl]
        exact Prod.ext rfl he
    · rw [finM_err he, bodyM_err hr he]
      exact Prod.ext (hB he) rfl
  · rw [laidF_had m hr, finM_err hr, bodyM_ref hr]
theorem clean_texts (m : Rm) (h : refM (cleanM m) = 0) : (cleanM m).s.ky.size ≤ 1000 ∧ (cleanM m).s.ol.size ≤ 1000 ∧ (cleanM m).s.nw.size ≤ 1000 := by
  have f := fine_of h
  have h1 := f.ky
  have h2 := f.ol
  have h3 := f.nw
  omega
theorem clean_bare (m : Rm) (h : (cleanM m).s.kd = 1 ∨ (cleanM m).s.kd = 2) : (cleanM m).s.ky.size = 0 ∧ (cleanM m).s.ol.size = 0 ∧ (cleanM m).s.nw.size = 0 := by
  have e : (cleanM m).s.kd = m.s.kd := cleanS_kd m.s
  rw [e] at h
  have : (cleanM m).s = ⟨m.s.kd, 0, 0, 0, 0, ⟨#[]⟩, ⟨#[]⟩, ⟨#[]⟩, 0, 0, 0⟩ := by
    unfold cleanM cleanS
    dsimp only
    rw [if_neg (by omega), if_neg (by omega), if_neg (by omega)]
  rw [this]
  exact ⟨rfl, rfl, rfl⟩
end Go.Proofs.YtgodjnbbocnckaaGreat

namespace Go.Proofs.YtgodjnbbocnckaaGreat
open Go.RowKit
set_option linter.unusedVariables false
set_option linter.unusedSimpArgs false
set_option maxRecDepth 100000

end Go.Proofs.YtgodjnbbocnckaaGreat

namespace Go.Proofs.YtgodjnbbocnckaaGreat
open Go.RowKit
set_option linter.unusedVariables false
set_option linter.unusedSimpArgs false
set_option maxRecDepth 100000

/-- All cells of a record. -/
def Row13 (w : World) (b : Nat) (s : Sc) (I T : Value) : Prop :=
  w.cell? ⟨b, 0, none⟩ = some (.int .i64 s.kd) ∧ w.cell? ⟨b, 1, none⟩ = some (.int .i64 s.tx) ∧ w.cell? ⟨b, 2, none⟩ = some (.int .i64 s.pv) ∧ w.cell? ⟨b, 3, none⟩ = some (.int .i64 s.pg) ∧ w.cell? ⟨b, 4, none⟩ = some (.int .i64 s.ac) ∧ w.cell? ⟨b, 5, none⟩ = some (.string s.ky) ∧ w.cell? ⟨b, 6, none⟩ = some (.string s.ol) ∧ w.cell? ⟨b, 7, none⟩ = some (.string s.nw) ∧ w.cell? ⟨b, 8, none⟩ = some (.int .i64 s.nx) ∧ w.cell? ⟨b, 9, none⟩ = some I ∧ w.cell? ⟨b, 10, none⟩ = some T ∧ w.cell? ⟨b, 11, none⟩ = some (.int .i64 s.ep) ∧ w.cell? ⟨b, 12, none⟩ = some (.int .i64 s.nd)
theorem RcAt.row {w : World} {b : Nat} {s : Sc} {I T : Value} (h : RcAt w b s I T) : Row13 w b s I T := ⟨h.c0, h.c1, h.c2, h.c3, h.c4, h.c5, h.c6, h.c7, h.c8, h.c9, h.c10, h.c11, h.c12⟩
theorem BdS.of {w w0 w1 w2 : World} {b : Nat} {s s' : Sc} {I T I' T' : Value} {l : List Im} {g : List Tb} (N0 : NewR w w0 b s I T) (b1 : Below w0.heap.size w0 w1) (hI : SlI w I' l) (hT : SlT w T' g) (P : PutR w1 w2 b s' I' T') : BdS w w2 b s' I' T' l g := by
  have e := N0.eq
  have hb := (thn N0.below b1).trans (P.below (show w.heap.size ≤ b by omega) (thn N0.below b1).size)
  exact ⟨P.rc, hb, hI.below hb, hT.below hb⟩
end Go.Proofs.YtgodjnbbocnckaaGreat
