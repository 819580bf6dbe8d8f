/- The document's Body: a record's bytes, or why it has none. The document's Body, of records with images and with a table. The document's ahead and change. The document's ahead: why a record has no bytes. The document's Clean. The document's Body, of any record. The document's Same: a record is one with itself, wherever its slices lie. What the laws of rec have in common: the record that they cut. -/
import Derived.Test.YtgcfbjecmmnlhaaGreatMaf
import Derived.Test.YtgcfbjecmmnlhaaGreatMad
import Derived.Deep.RegionHeld3
namespace Go.Proofs.YtgcfbjecmmnlhaaGreat
open Go.RowKit
set_option linter.unusedVariables false
set_option linter.unusedSimpArgs false
set_option maxRecDepth 100000

def finM (A : ByteArray × Int) : ByteArray × Int := if A.2 = 0 ∧ 4096 < A.1.size then (⟨#[]⟩, 3) else A
theorem finM_err {A : ByteArray × Int} (h : A.2 ≠ 0) : finM A = A := by unfold finM; rw [if_neg (fun e => h e.1)]
theorem finM_long {A : ByteArray × Int} (h : A.2 = 0) (h2 : 4096 < A.1.size) : finM A = (⟨#[]⟩, 3) := by unfold finM; rw [if_pos ⟨h, h2⟩]
theorem finM_good {A : ByteArray × Int} (h2 : ¬ 4096 < A.1.size) : finM A = A := by unfold finM; rw [if_neg (fun e => h2 e.2)]
/-- The record that was cleaned lies in block b. -/
structure BdS (w wx : World) (b : Nat) (s : Sc) (I T : Value) (l : List Im) (g : List Tb) : Prop where
  rc : RcAt wx b s I T
  bel : Below w.heap.size w wx
  im : SlI wx I l
  tb : SlT wx T g
section
variable {w wx wq : World} {b : Nat} {s : Sc} {I T : Value} {l : List Im} {g : List Tb}
theorem BdS.below (h : BdS w wx b s I T l g) (hb : Below wx.heap.size wx wq) : BdS w wq b s I T l g := ⟨h.rc.below hb, thn h.bel hb, h.im.below hb, h.tb.below hb⟩
theorem BdS.mk' {w1 w2 w3 : World} (B1 : Below w.heap.size w w1) (hI : SlI w1 I l) (hT : SlT w1 T g) (N : NewR w1 w2 b zS nilV nilV) (P : PutR w2 w3 b s I T) : BdS w w3 b s I T l g := by
  have e := N.eq
  have z := N.below.size
  have hb : Below w1.heap.size w1 w3 := N.below.trans (P.below (by omega) z)
  exact ⟨P.rc, thn B1 hb, hI.below hb, hT.below hb⟩
end
section
variable {w : World} {s s0 : Sc} {I0 T0 : Value} {l : List Im} {g : List Tb} {e0 : Int}
end
end Go.Proofs.YtgcfbjecmmnlhaaGreat

namespace Go.Proofs.YtgcfbjecmmnlhaaGreat
open Go.RowKit
set_option linter.unusedVariables false
set_option linter.unusedSimpArgs false
set_option maxRecDepth 100000

section
variable {w : World} {s s0 : Sc} {I0 T0 : Value} {l : List Im} {g : List Tb} {e0 : Int}
end
end Go.Proofs.YtgcfbjecmmnlhaaGreat

namespace Go.Proofs.YtgcfbjecmmnlhaaGreat
open Go.RowKit
set_option linter.unusedVariables false
set_option linter.unusedSimpArgs false
set_option maxRecDepth 100000

section
variable {w : World} {s : Sc} {T I : Value} {a : Option Addr} {c : Nat} {l : List Im} {g : List Tb}
def refIR (l : List Im) : Int := if whole l then 0 else 4
end
end Go.Proofs.YtgcfbjecmmnlhaaGreat

namespace Go.Proofs.YtgcfbjecmmnlhaaGreat
open Go.RowKit
set_option linter.unusedVariables false
set_option linter.unusedSimpArgs false
set_option maxRecDepth 100000

section
variable {w : World} {s : Sc} {T I : Value} {a : Option Addr} {c : Nat} {l : List Im} {g : List Tb}
def refT (s : Sc) : Int := if 16 < s.ky.size then 17 else if 32 < s.ol.size ∨ 32 < s.nw.size then 18 else 0
end
end Go.Proofs.YtgcfbjecmmnlhaaGreat

namespace Go.Proofs.YtgcfbjecmmnlhaaGreat
open Go.RowKit
set_option linter.unusedVariables false
set_option linter.unusedSimpArgs false
set_option maxRecDepth 100000

section
variable {w : World} {s : Sc} {I T : Value}
end

end Go.Proofs.YtgcfbjecmmnlhaaGreat

namespace Go.Proofs.YtgcfbjecmmnlhaaGreat
open Go.RowKit
set_option linter.unusedVariables false
set_option linter.unusedSimpArgs false
set_option maxRecDepth 100000

theorem finM_body (m : Rm) : finM (laidF m (⟨#[]⟩, refM m)) = bodyM m := by
  by_cases hr : refM m = 0
  · rw [hr]
    have hB := Bare.laidF bare0 m
    show finM (laidM m) = _
    by_cases he : (laidM m).2 = 0
    · by_cases hl : 4096 < (laidM m).1.size
      · rw [finM_long he hl, bodyM_long hr he hl]
      · rw [finM_good hl, bodyM_good hr he hl]
        exact Prod.ext rfl he
    · rw [finM_err he, bodyM_err hr he]
      exact Prod.ext (hB he) rfl
  · rw [laidF_had m hr, finM_err hr, bodyM_ref hr]
theorem clean_texts (m : Rm) (h : refM (cleanM m) = 0) : (cleanM m).s.ky.size ≤ 1000 ∧ (cleanM m).s.ol.size ≤ 1000 ∧ (cleanM m).s.nw.size ≤ 1000 := by
  have f := fine_of h
  have h1 := f.ky
  have h2 := f.ol
  have h3 := f.nw
  omega
theorem clean_bare (m : Rm) (h : (cleanM m).s.kd = 1 ∨ (cleanM m).s.kd = 2) : (cleanM m).s.ky.size = 0 ∧ (cleanM m).s.ol.size = 0 ∧ (cleanM m).s.nw.size = 0 := by
  have e : (cleanM m).s.kd = m.s.kd := cleanS_kd m.s
  rw [e] at h
  have : (cleanM m).s = ⟨m.s.kd, 0, 0, 0, 0, ⟨#[]⟩, ⟨#[]⟩, ⟨#[]⟩, 0, 0, 0⟩ := by
    unfold cleanM cleanS
    dsimp only
    rw [if_neg (by omega), if_neg (by omega), if_neg (by omega)]
  rw [this]
  exact ⟨rfl, rfl, rfl⟩
end Go.Proofs.YtgcfbjecmmnlhaaGreat

namespace Go.Proofs.YtgcfbjecmmnlhaaGreat
open Go.RowKit
set_option linter.unusedVariables false
set_option linter.unusedSimpArgs false
set_option maxRecDepth 100000

set_option maxHeartbeats 2000000 in
theorem Same_any {w : World} {v v' : Value} {m : Rm} (h : RecV w v m) (h' : RecV w v' m) (hi : m.im.length ≤ 1000) (ht : m.tb.length ≤ 1000) : Calls Tryz.prog 32 #[v, v'] w fun e w' => e = .returned (.bool true) ∧ Below w.heap.size w w' := by
  obtain ⟨s, l, g⟩ := m
  obtain ⟨I, T, rfl, hI, hT⟩ := h.ex
  obtain ⟨J, U, rfl, hJ, hU⟩ := h'.ex
  dsimp only at *
  obtain ⟨a, c, rfl, hcs, _⟩ := hI.ex
  obtain ⟨a', c', rfl, hcs', _⟩ := hJ.ex
  obtain ⟨x, y, rfl, hct, _⟩ := hT.ex
  obtain ⟨x', y', rfl, hct', _⟩ := hU.ex
  clear h h' hI hT hJ hU
  go_enter Tryz.func32, Tryz.ntmps32
  go_wp2_with (first
    | (have := N0; refine wpList_box_rc (s := s) (I := _) (T := _) _ rfl (.tmp 1) rfl rfl ?_; intro w1 b1 N1; have R0 := N0.rc.below N1.below; have R1 := N1.rc; have B := thn N0.below N1.below; clear N0 N1 this; have p0 := R0.c0; have p1 := R0.c1; have p2 := R0.c2; have p3 := R0.c3; have p4 := R0.c4; have p5 := R0.c5; have p6 := R0.c6; have p7 := R0.c7; have p8 := R0.c8; have p9 := R0.c9; have p10 := R0.c10; have p11 := R0.c11; have p12 := R0.c12; have q0 := R1.c0; have q1 := R1.c1; have q2 := R1.c2; have q3 := R1.c3; have q4 := R1.c4; have q5 := R1.c5; have q6 := R1.c6; have q7 := R1.c7; have q8 := R1.c8; have q9 := R1.c9; have q10 := R1.c10; have q11 := R1.c11; have q12 := R1.c12)
    | (refine wpList_box_rc (s := s) (I := _) (T := _) _ rfl (.tmp 0) rfl rfl ?_; intro w0 b0 N0))
  have hI0 := hcs.below B
  have hI1 := hcs'.below B
  have hT0 := hct.below B
  have hT1 := hct'.below B
  clear hcs hcs' hct hct' p0 p1 p2 p3 p4 p5 p6 p7 p8 p9 p10 p11 p12 q0 q1 q2 q3 q4 q5 q6 q7 q8 q9 q10 q11 q12
  go_loopw [5] (fun iv wr => ∃ i : Nat, i ≤ l.length ∧ iv = .int .i64 (i : Int) ∧ Below w1.heap.size w1 wr) (fun iv _ => l.length - (intOf iv).toNat)
  case atStart => exact ⟨0, Nat.zero_le _, rfl, Below.refl _ _⟩
  case round =>
    obtain ⟨i, hi1, rfl, hb⟩ := hrel
    have k0 := (R0.below hb).c9
    have k1 := (R1.below hb).c9
    have k2 := (R0.below hb).c10
    by_cases hlt : i < l.length
    · obtain ⟨b2, o2, rfl, _, HC⟩ := csI_at hI0 (i := i) hlt
      obtain ⟨b3, o3, rfl, _, HD⟩ := csI_at hI1 (i := i) hlt
      obtain ⟨f0, f1⟩ := HC wr hb
      obtain ⟨g0, g1⟩ := HD wr hb
      have hi2 : (i : Int) < (l.length : Int) := by omega
      have HB : Hid (Below w1.heap.size w1 wr) := hb
      clear HC HD hI0 hI1 hT0 hT1 R0 R1 hb
      generalize l[i]'(by omega) = p at *
      obtain ⟨p, t⟩ := p
      dsimp only at f0 f1 g0 g1
      go_wp2
      go_quiet (fail)
      go_wp2
      go_roundw
      case rel => exact ⟨i + 1, by omega, by go_num, below_drewN HB.out _⟩
      case measure => simp [intOf]; omega
    · have hi2 : ¬ (i : Int) < (l.length : Int) := by omega
      have HB : Hid (Below w1.heap.size w1 wr) := hb
      go_wp2
      go_loopw [6] (fun iv wq => ∃ i : Nat, i ≤ g.length ∧ iv = .int .i64 (i : Int) ∧ Below w1.heap.size w1 wq) (fun iv _ => g.length - (intOf iv).toNat)
      case atStart => exact ⟨0, Nat.zero_le _, rfl, HB.out⟩
      case round =>
        clear HB hb k0 k1 k2 hlt hi2 hi1
        obtain ⟨i, hi1, rfl, hb⟩ := hrel
        have k0 := (R0.below hb).c10
        have k1 := (R1.below hb).c10
        by_cases hlt : i < g.length
        · obtain ⟨b2, o2, rfl, _, HC⟩ := csT_at hT0 (i := i) hlt
          obtain ⟨b3, o3, rfl, _, HD⟩ := csT_at hT1 (i := i) hlt
          obtain ⟨f0, f1⟩ := HC wr hb
          obtain ⟨g0, g1⟩ := HD wr hb
          have hi2 : (i : Int) < (g.length : Int) := by omega
          have HB : Hid (Below w1.heap.size w1 wr) := hb
          clear HC HD hI0 hI1 hT0 hT1 R0 R1 hb
          generalize g[i]'(by omega) = p at *
          obtain ⟨p, t⟩ := p
          dsimp only at f0 f1 g0 g1
          go_wp2
          go_quiet (fail)
          go_wp2
          go_roundw
          case rel => exact ⟨i + 1, by omega, by go_num, below_drewN HB.out _⟩
          case measure => simp [intOf]; omega
        · have hi2 : ¬ (i : Int) < (g.length : Int) := by omega
          have HB : Hid (Below w1.heap.size w1 wr) := hb
          clear hI0 hI1 hT0 hT1 R0 R1 hb
          go_wp2
          go_ret
          exact ⟨rfl, thn B HB.out⟩
end Go.Proofs.YtgcfbjecmmnlhaaGreat

namespace Go.Proofs.YtgcfbjecmmnlhaaGreat
open Go.RowKit
set_option linter.unusedVariables false
set_option linter.unusedSimpArgs false
set_option maxRecDepth 100000

/-- All cells of a record. -/
def Row13 (w : World) (b : Nat) (s : Sc) (I T : Value) : Prop :=
  w.cell? ⟨b, 0, none⟩ = some (.int .i64 s.kd) ∧ w.cell? ⟨b, 1, none⟩ = some (.int .i64 s.tx) ∧ w.cell? ⟨b, 2, none⟩ = some (.int .i64 s.pv) ∧ w.cell? ⟨b, 3, none⟩ = some (.int .i64 s.pg) ∧ w.cell? ⟨b, 4, none⟩ = some (.int .i64 s.ac) ∧ w.cell? ⟨b, 5, none⟩ = some (.string s.ky) ∧ w.cell? ⟨b, 6, none⟩ = some (.string s.ol) ∧ w.cell? ⟨b, 7, none⟩ = some (.string s.nw) ∧ w.cell? ⟨b, 8, none⟩ = some (.int .i64 s.nx) ∧ w.cell? ⟨b, 9, none⟩ = some I ∧ w.cell? ⟨b, 10, none⟩ = some T ∧ w.cell? ⟨b, 11, none⟩ = some (.int .i64 s.ep) ∧ w.cell? ⟨b, 12, none⟩ = some (.int .i64 s.nd)
theorem RcAt.row {w : World} {b : Nat} {s : Sc} {I T : Value} (h : RcAt w b s I T) : Row13 w b s I T := ⟨h.c0, h.c1, h.c2, h.c3, h.c4, h.c5, h.c6, h.c7, h.c8, h.c9, h.c10, h.c11, h.c12⟩
theorem BdS.of {w w0 w1 w2 : World} {b : Nat} {s s' : Sc} {I T I' T' : Value} {l : List Im} {g : List Tb} (N0 : NewR w w0 b s I T) (b1 : Below w0.heap.size w0 w1) (hI : SlI w I' l) (hT : SlT w T' g) (P : PutR w1 w2 b s' I' T') : BdS w w2 b s' I' T' l g := by
  have e := N0.eq
  have hb := (thn N0.below b1).trans (P.below (show w.heap.size ≤ b by omega) (thn N0.below b1).size)
  exact ⟨P.rc, hb, hI.below hb, hT.below hb⟩
end Go.Proofs.YtgcfbjecmmnlhaaGreat
