/- What a record's bytes are: plain mathematics on records, no memory. -/
import Derived.Test.YtakdfdnndogaiaaRxMem
namespace Go.Proofs.Ytakdfdnndogaiaa
open Go.RowKit
set_option linter.unusedVariables false
set_option linter.unusedSimpArgs false
set_option maxRecDepth 100000

abbrev Im := Int × ByteArray
abbrev Tb := Int × Int
/-- A record: its scalars, its images, its table. -/
structure Rm where
  s : Sc
  im : List Im
  tb : List Tb
def actOf (s : Sc) : Int := if s.kd = 6 then s.ac else s.kd
/-- Just what a kind has: the scalars. -/
def cleanS (s : Sc) : Sc :=
  if s.kd = 3 ∨ s.kd = 4 ∨ s.kd = 5 ∨ s.kd = 6 then
    ⟨s.kd, s.tx, s.pv, s.pg, if s.kd = 6 then s.ac else 0, s.ky, if actOf s = 3 then ⟨#[]⟩ else s.ol, if actOf s = 4 then ⟨#[]⟩ else s.nw, if s.kd = 6 then s.nx else 0, 0, 0⟩
  else if s.kd = 7 ∨ s.kd = 8 then ⟨s.kd, s.tx, s.pv, 0, 0, ⟨#[]⟩, ⟨#[]⟩, ⟨#[]⟩, 0, 0, 0⟩
  else if s.kd = 10 then ⟨s.kd, 0, 0, 0, 0, ⟨#[]⟩, ⟨#[]⟩, ⟨#[]⟩, 0, s.ep, s.nd⟩
  else ⟨s.kd, 0, 0, 0, 0, ⟨#[]⟩, ⟨#[]⟩, ⟨#[]⟩, 0, 0, 0⟩
def cleanM (m : Rm) : Rm := ⟨cleanS m.s, if m.s.kd = 1 ∨ m.s.kd = 2 then m.im else [], if m.s.kd = 9 then m.tb else []⟩
theorem cleanS_kd (s : Sc) : (cleanS s).kd = s.kd := by
  unfold cleanS; repeat' split
  all_goals rfl

/-! ### Bytes -/
def stepW (A : ByteArray × Int) (n k : Int) : ByteArray × Int := Pk.wrLay A.1 A.2 (Pk.putV ⟨#[]⟩ n k).1 (Pk.putV ⟨#[]⟩ n k).2
def stepT (A : ByteArray × Int) (t : ByteArray) : ByteArray × Int := Pk.wrLay A.1 A.2 (Pk.textV ⟨#[]⟩ t).1 (Pk.textV ⟨#[]⟩ t).2
theorem stepW_size (A : ByteArray × Int) (n k : Int) : (stepW A n k).1.size ≤ A.1.size + 6 := by
  have := (Pk.putV_size n k).1
  unfold stepW Pk.wrLay
  split
  · exact Nat.le_add_right _ _
  · split
    · exact Nat.zero_le _
    · simp only [ByteArray.size_append]; omega
theorem stepT_size (A : ByteArray × Int) (t : ByteArray) : (stepT A t).1.size ≤ A.1.size + 65537 := by
  have := (Pk.textV_size t).1
  unfold stepT Pk.wrLay
  split
  · exact Nat.le_add_right _ _
  · split
    · exact Nat.zero_le _
    · simp only [ByteArray.size_append]; omega
/-- Where there is an error, there are no bytes. -/
def Bare (A : ByteArray × Int) : Prop := A.2 ≠ 0 → A.1 = ⟨#[]⟩
theorem bare0 : Bare (⟨#[]⟩, 0) := fun h => absurd rfl h
theorem Bare.lay {A : ByteArray × Int} (h : Bare A) (s : ByteArray) (x : Int) : Bare (Pk.wrLay A.1 A.2 s x) := by
  unfold Pk.wrLay
  by_cases h1 : A.2 ≠ 0
  · rw [if_pos h1]; exact h
  · rw [if_neg h1]
    by_cases h2 : x ≠ 0
    · rw [if_pos h2]; exact fun _ => rfl
    · rw [if_neg h2]; exact fun e => absurd rfl e
theorem Bare.stepW {A : ByteArray × Int} (h : Bare A) (n k : Int) : Bare (stepW A n k) := h.lay _ _
theorem Bare.stepT {A : ByteArray × Int} (h : Bare A) (t : ByteArray) : Bare (stepT A t) := h.lay _ _
def layI (l : List Im) (A : ByteArray × Int) : ByteArray × Int := l.foldl (fun A p => stepT (stepW A p.1 2) p.2) A
def layP (l : List Int) (A : ByteArray × Int) : ByteArray × Int := l.foldl (fun A p => stepW A p 6) A
def layB (l : List Tb) (A : ByteArray × Int) : ByteArray × Int := l.foldl (fun A p => stepW (stepW A p.1 6) p.2 6) A
theorem layI_snoc (l : List Im) (p : Im) (A : ByteArray × Int) : layI (l ++ [p]) A = stepT (stepW (layI l A) p.1 2) p.2 := by simp [layI]
theorem layP_snoc (l : List Int) (p : Int) (A : ByteArray × Int) : layP (l ++ [p]) A = stepW (layP l A) p 6 := by simp [layP]
theorem layB_snoc (l : List Tb) (p : Tb) (A : ByteArray × Int) : layB (l ++ [p]) A = stepW (stepW (layB l A) p.1 6) p.2 6 := by simp [layB]
theorem Bare.layI {A : ByteArray × Int} (h : Bare A) (l : List Im) : Bare (layI l A) := by
  induction l generalizing A with
  | nil => exact h
  | cons p r ih => exact ih ((h.stepW _ _).stepT _)
theorem Bare.layB {A : ByteArray × Int} (h : Bare A) (l : List Tb) : Bare (layB l A) := by
  induction l generalizing A with
  | nil => exact h
  | cons p r ih => exact ih ((h.stepW _ _).stepW _ _)
theorem Bare.layP {A : ByteArray × Int} (h : Bare A) (l : List Int) : Bare (layP l A) := by
  induction l generalizing A with
  | nil => exact h
  | cons p r ih => exact ih (h.stepW _ _)
theorem layI_size (l : List Im) (A : ByteArray × Int) : (layI l A).1.size ≤ A.1.size + 65543 * l.length := by
  induction l generalizing A with
  | nil => exact Nat.le_add_right _ _
  | cons p r ih =>
    have h1 := ih (stepT (stepW A p.1 2) p.2)
    have h2 := stepT_size (stepW A p.1 2) p.2
    have h3 := stepW_size A p.1 2
    rw [List.length_cons]
    show (layI r (stepT (stepW A p.1 2) p.2)).1.size ≤ _
    omega
theorem layB_size (l : List Tb) (A : ByteArray × Int) : (layB l A).1.size ≤ A.1.size + 12 * l.length := by
  induction l generalizing A with
  | nil => exact Nat.le_add_right _ _
  | cons p r ih =>
    have h1 := ih (stepW (stepW A p.1 6) p.2 6)
    have h2 := stepW_size (stepW A p.1 6) p.2 6
    have h3 := stepW_size A p.1 6
    rw [List.length_cons]
    show (layB r (stepW (stepW A p.1 6) p.2 6)).1.size ≤ _
    omega
theorem layP_size (l : List Int) (A : ByteArray × Int) : (layP l A).1.size ≤ A.1.size + 6 * l.length := by
  induction l generalizing A with
  | nil => exact Nat.le_add_right _ _
  | cons p r ih =>
    have h1 := ih (stepW A p 6)
    have h3 := stepW_size A p 6
    rw [List.length_cons]
    show (layP r (stepW A p 6)).1.size ≤ _
    omega
/-- Old and New, as far as an act has them. -/
def layV (s : Sc) (A : ByteArray × Int) : ByteArray × Int :=
  if actOf s = 3 then stepT A s.nw else if actOf s = 4 then stepT A s.ol else stepT (stepT A s.ol) s.nw
def layC (s : Sc) (A : ByteArray × Int) : ByteArray × Int := layV s (stepT (stepW A s.pg 2) s.ky)
theorem Bare.layC {A : ByteArray × Int} (h : Bare A) (s : Sc) : Bare (layC s A) := by
  have h1 := (h.stepW s.pg 2).stepT s.ky
  unfold Go.Proofs.Ytakdfdnndogaiaa.layC layV
  split
  · exact h1.stepT _
  · split
    · exact h1.stepT _
    · exact (h1.stepT _).stepT _
theorem layC_size (s : Sc) (A : ByteArray × Int) : (layC s A).1.size ≤ A.1.size + 300000 := by
  have h1 := stepW_size A s.pg 2
  have h2 := stepT_size (stepW A s.pg 2) s.ky
  unfold layC layV
  split
  · have := stepT_size (stepT (stepW A s.pg 2) s.ky) s.nw; omega
  · split
    · have := stepT_size (stepT (stepW A s.pg 2) s.ky) s.ol; omega
    · have := stepT_size (stepT (stepW A s.pg 2) s.ky) s.ol
      have := stepT_size (stepT (stepT (stepW A s.pg 2) s.ky) s.ol) s.nw
      omega
/-- A record's bytes as they are laid, from what is laid ahead on. -/
def laidF (m : Rm) (A0 : ByteArray × Int) : ByteArray × Int :=
  let A := stepW A0 m.s.kd 1
  if m.s.kd = 1 ∨ m.s.kd = 2 then layI m.im (stepW A m.im.length 1)
  else if m.s.kd = 3 ∨ m.s.kd = 4 ∨ m.s.kd = 5 then layC m.s (layP [m.s.tx, m.s.pv] A)
  else if m.s.kd = 6 then layC m.s (stepW (layP [m.s.tx, m.s.pv, m.s.nx] A) m.s.ac 1)
  else if m.s.kd = 7 ∨ m.s.kd = 8 then layP [m.s.tx, m.s.pv] A
  else if m.s.kd = 9 then layB m.tb (stepW A m.tb.length 1)
  else if m.s.kd = 10 then stepW (stepW A m.s.ep 4) m.s.nd 1
  else A
def laidM (m : Rm) : ByteArray × Int := laidF m (⟨#[]⟩, 0)
def whole (l : List Im) : Bool := l.all (fun p => decide (p.2.size = 224))
def formed (m : Rm) : Bool :=
  if m.s.kd = 1 then decide (m.im.length = 1) && whole m.im else if m.s.kd = 2 then whole m.im else if m.s.kd = 6 then decide (m.s.ac = 3 ∨ m.s.ac = 4 ∨ m.s.ac = 5) else true
/-- Why a clean record has no bytes, but for numbers and its length. -/
def refM (m : Rm) : Int :=
  if m.s.kd < 1 ∨ 10 < m.s.kd then 1 else if formed m = false then 4 else if 16 < m.s.ky.size then 17 else if 32 < m.s.ol.size ∨ 32 < m.s.nw.size then 18 else 0
/-- The bytes of a record as it is, or why it has none. -/
def bodyM (m : Rm) : ByteArray × Int :=
  if refM m ≠ 0 then (⟨#[]⟩, refM m) else if (laidM m).2 ≠ 0 then (⟨#[]⟩, (laidM m).2) else if 4096 < (laidM m).1.size then (⟨#[]⟩, 3) else ((laidM m).1, 0)
theorem bodyM_ref {m : Rm} (h : refM m ≠ 0) : bodyM m = (⟨#[]⟩, refM m) := by unfold bodyM; rw [if_pos h]
theorem bodyM_err {m : Rm} (h : refM m = 0) (h2 : (laidM m).2 ≠ 0) : bodyM m = (⟨#[]⟩, (laidM m).2) := by unfold bodyM; rw [if_neg (by simpa using h), if_pos h2]
theorem bodyM_long {m : Rm} (h : refM m = 0) (h2 : (laidM m).2 = 0) (h3 : 4096 < (laidM m).1.size) : bodyM m = (⟨#[]⟩, 3) := by unfold bodyM; rw [if_neg (by simpa using h), if_neg (by simpa using h2), if_pos h3]
theorem bodyM_good {m : Rm} (h : refM m = 0) (h2 : (laidM m).2 = 0) (h3 : ¬ 4096 < (laidM m).1.size) : bodyM m = ((laidM m).1, 0) := by unfold bodyM; rw [if_neg (by simpa using h), if_neg (by simpa using h2), if_neg h3]
theorem bodyM_size (m : Rm) : (bodyM m).1.size ≤ 4096 := by
  unfold bodyM
  repeat' split
  · exact Nat.zero_le _
  · exact Nat.zero_le _
  · exact Nat.zero_le _
  · dsimp only; omega
theorem bodyM_bare (m : Rm) : Bare (bodyM m) := by
  unfold bodyM
  repeat' split
  · exact fun _ => rfl
  · exact fun _ => rfl
  · exact fun _ => rfl
  · exact fun h => absurd rfl h
theorem Bare.laidF {A : ByteArray × Int} (h : Bare A) (m : Rm) : Bare (laidF m A) := by
  have h1 := h.stepW m.s.kd 1
  unfold Go.Proofs.Ytakdfdnndogaiaa.laidF
  dsimp only
  repeat' split
  · exact (h1.stepW _ _).layI _
  · exact (h1.layP _).layC _
  · exact ((h1.layP _).stepW _ _).layC _
  · exact h1.layP _
  · exact (h1.stepW _ _).layB _
  · exact (h1.stepW _ _).stepW _ _
  · exact h1
theorem nil_app (s : ByteArray) : (⟨#[]⟩ : ByteArray) ++ s = s := by apply ByteArray.ext; simp [ByteArray.data_append]
theorem stepW_good {a : ByteArray} {n k : Int} (hk : 1 ≤ k) (hk6 : k ≤ 6) (h0 : 0 ≤ n) (h1 : n < Pk.limI k.toNat) : stepW (a, 0) n k = (a ++ Pk.beS n.toNat k.toNat, 0) := by
  unfold stepW
  rw [Pk.putV_fits (by omega) (by omega)]
  simp only [Pk.wrLay]
  rw [if_neg (by simp), if_neg (by simp), nil_app]
theorem stepW_bad {a : ByteArray} {n k : Int} (hk : 1 ≤ k) (hk6 : k ≤ 6) (h : n < 0 ∨ Pk.limI k.toNat ≤ n) : stepW (a, 0) n k = (⟨#[]⟩, 6) := by
  unfold stepW
  rw [Pk.putV_range (by omega) h]
  simp [Pk.wrLay]
theorem stepW_had {a : ByteArray} {e n k : Int} (h : e ≠ 0) : stepW (a, e) n k = (a, e) := by
  unfold stepW Pk.wrLay
  rw [if_pos h]
theorem stepT_good {a t : ByteArray} (h : t.size ≤ 65535) : stepT (a, 0) t = (a ++ Pk.beS t.size 2 ++ t, 0) := by
  unfold stepT
  rw [Pk.textV_fits (by omega)]
  simp only [Pk.wrLay]
  rw [if_neg (by simp), if_neg (by simp), nil_app, ByteArray.append_assoc]
theorem stepT_had {a t : ByteArray} {e : Int} (h : e ≠ 0) : stepT (a, e) t = (a, e) := by
  unfold stepT Pk.wrLay
  rw [if_pos h]
end Go.Proofs.Ytakdfdnndogaiaa
