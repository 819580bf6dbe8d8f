/- The values of a record's act: values, copyChange. The plain mathematics of the sum: a register of 32 bits as a bit vector, its steps, that they are linear, the product of two registers, and what a burst of bits does. No condition. The small callees of the layer sum, over registers as bit vectors. The table of sixteen steps. -/
import Derived.Test.YtgodjnbbocnckaaGreatMad
import Derived.WalkKit
import Derived.Test.YtgodjnbbocnckaaGreatProg
import Derived.ProofKit
import Derived.WalkSpells
import Derived.WalkLawsBesides
import Derived.Deep.QuietTactic
import Derived.BigQuiet
namespace Go.Proofs.YtgodjnbbocnckaaGreat
open Go.RowKit
set_option linter.unusedVariables false
set_option linter.unusedSimpArgs false
set_option maxRecDepth 100000

section
variable {w w' : World} {b : Nat} {s : Sc} {I T : Value}
theorem values_3 (h : RcAt w b s I T) (ha : actOf s = 3) : Calls Tryz.prog 144 #[.pointer (some ⟨b, 0, none⟩)] w fun e w' => e = .returned (.slice (some ⟨w.heap.size, 0, none⟩) 1 1) ∧ w' = w.alloc (.cells #[.pointer (some ⟨b, 7, none⟩)] 195) := by
  have hc0 := h.c0
  have hc4 := h.c4
  clear h
  unfold actOf at ha
  by_cases hk : s.kd = 6
  · rw [if_pos hk] at ha
    rw [hk] at hc0
    rw [ha] at hc4
    go_enter Tryz.func144, Tryz.ntmps144
    go_wp2
    go_ret
    exact ⟨rfl, rfl⟩
  · rw [if_neg hk] at ha
    rw [ha] at hc0
    go_enter Tryz.func144, Tryz.ntmps144
    go_wp2
    go_ret
    exact ⟨rfl, rfl⟩
theorem values_4 (h : RcAt w b s I T) (ha : actOf s = 4) : Calls Tryz.prog 144 #[.pointer (some ⟨b, 0, none⟩)] w fun e w' => e = .returned (.slice (some ⟨w.heap.size, 0, none⟩) 1 1) ∧ w' = w.alloc (.cells #[.pointer (some ⟨b, 6, none⟩)] 195) := by
  have hc0 := h.c0
  have hc4 := h.c4
  clear h
  unfold actOf at ha
  by_cases hk : s.kd = 6
  · rw [if_pos hk] at ha
    rw [hk] at hc0
    rw [ha] at hc4
    go_enter Tryz.func144, Tryz.ntmps144
    go_wp2
    go_ret
    exact ⟨rfl, rfl⟩
  · rw [if_neg hk] at ha
    rw [ha] at hc0
    go_enter Tryz.func144, Tryz.ntmps144
    go_wp2
    go_ret
    exact ⟨rfl, rfl⟩
theorem values_o (h : RcAt w b s I T) (h3 : actOf s ≠ 3) (h4 : actOf s ≠ 4) : Calls Tryz.prog 144 #[.pointer (some ⟨b, 0, none⟩)] w fun e w' => e = .returned (.slice (some ⟨w.heap.size, 0, none⟩) 2 2) ∧ w' = w.drew.alloc (.cells #[.pointer (some ⟨b, 6, none⟩), .pointer (some ⟨b, 7, none⟩)] 195) := by
  have hc0 := h.c0
  have hc4 := h.c4
  clear h
  unfold actOf at h3 h4
  by_cases hk : s.kd = 6
  · rw [if_pos hk] at h3 h4
    rw [hk] at hc0
    have e3 : (s.ac == 3) = false := by simpa using h3
    have e4 : (s.ac == 4) = false := by simpa using h4
    go_enter Tryz.func144, Tryz.ntmps144
    go_wp2
    go_region
    go_wp2
    go_ret
    exact ⟨rfl, rfl⟩
  · rw [if_neg hk] at h3 h4
    have e6 : (s.kd == 6) = false := by simpa using hk
    have e3 : (s.kd == 3) = false := by simpa using h3
    have e4 : (s.kd == 4) = false := by simpa using h4
    go_enter Tryz.func144, Tryz.ntmps144
    go_wp2
    go_region
    go_wp2
    go_ret
    exact ⟨rfl, rfl⟩
end
section
variable {w w' : World} {b c : Nat} {s t : Sc} {I T J U : Value}
def chg (s t : Sc) : Sc := {s with pg := t.pg, ky := t.ky}
theorem copy_start (h : RcAt w b s I T) (h' : RcAt w c t J U) (hne : b ≠ c) :
    RcAt ((w.setCell ⟨b, 3, none⟩ (.int .i64 t.pg)).setCell ⟨b, 5, none⟩ (.string t.ky)).drew b (chg s t) I T ∧ RcAt ((w.setCell ⟨b, 3, none⟩ (.int .i64 t.pg)).setCell ⟨b, 5, none⟩ (.string t.ky)).drew c t J U ∧ Pk.Off b w ((w.setCell ⟨b, 3, none⟩ (.int .i64 t.pg)).setCell ⟨b, 5, none⟩ (.string t.ky)).drew := by
  have o : Pk.Off b w ((w.setCell ⟨b, 3, none⟩ (.int .i64 t.pg)).setCell ⟨b, 5, none⟩ (.string t.ky)).drew := (((Pk.Off.refl _ _).setCell _ _).setCell _ _).drew
  refine ⟨RcAt.drew ((h.set (k := 3) (s' := {s with pg := t.pg}) (I' := I) (T' := T) rfl).set (k := 5) (s' := chg s t) (I' := I) (T' := T) rfl), h'.off o (fun e => hne e.symm), o⟩
/-- Behind both values there are the pointers, and the records as they were. -/
structure Vl (w w' : World) (b c g d : Nat) (s t : Sc) (I T J U : Value) (P G : Array Value) : Prop where
  tb : RcAt w' b s I T
  fc : RcAt w' c t J U
  pg : w'.heap[g]? = some (.cells P 195)
  pd : w'.heap[d]? = some (.cells G 195)
  off : Pk.Off b w w'
theorem Vl.mk' {w w1 : World} {P G : Array Value} (h : RcAt w1 b s I T) (h' : RcAt w1 c t J U) (o : Pk.Off b w w1) {w2 w3 : World} (h2 : w2 = w1.alloc (.cells P 195)) (h3 : w3 = w2.alloc (.cells G 195)) : Vl w w3 b c w1.heap.size w2.heap.size s t I T J U P G := by
  subst h2 h3
  have b1 : Below w1.heap.size w1 (w1.alloc (.cells P 195)) := (Below.refl _ _).alloc (Nat.le_refl _) _
  have b2 : Below (w1.alloc (.cells P 195)).heap.size (w1.alloc (.cells P 195)) ((w1.alloc (.cells P 195)).alloc (.cells G 195)) := (Below.refl _ _).alloc (Nat.le_refl _) _
  refine ⟨(h.below b1).below b2, (h'.below b1).below b2, (b2.block _ ?_).trans (MapKept.heap_alloc w1 _).1, (MapKept.heap_alloc _ _).1, (o.alloc _).alloc _⟩
  simp
theorem Vl.mk2 {w w1 : World} {P G : Array Value} (h : RcAt w1 b s I T) (h' : RcAt w1 c t J U) (o : Pk.Off b w w1) {w2 w3 : World} (h2 : w2 = w1.drew.alloc (.cells P 195)) (h3 : w3 = w2.drew.alloc (.cells G 195)) : Vl w w3 b c w1.heap.size w2.heap.size s t I T J U P G := by
  subst h2 h3
  have b1 : Below w1.heap.size w1 (w1.drew.alloc (.cells P 195)) := ((Below.refl _ _).drew).alloc (Nat.le_refl _) _
  have b2 : Below (w1.drew.alloc (.cells P 195)).heap.size (w1.drew.alloc (.cells P 195)) ((w1.drew.alloc (.cells P 195)).drew.alloc (.cells G 195)) := ((Below.refl (w1.drew.alloc (.cells P 195)).heap.size (w1.drew.alloc (.cells P 195))).drew).alloc (Nat.le_refl _) _
  refine ⟨(h.below b1).below b2, (h'.below b1).below b2, (b2.block _ ?_).trans (MapKept.heap_alloc w1.drew _).1, (MapKept.heap_alloc _ _).1, ((o.drew.alloc _).drew).alloc _⟩
  simp
theorem copy_3 (h : RcAt w b s I T) (h' : RcAt w c t J U) (hne : b ≠ c) (ha : actOf s = 3) (ha' : actOf t = 3) : Calls Tryz.prog 120 #[.pointer (some ⟨b, 0, none⟩), .pointer (some ⟨c, 0, none⟩)] w fun e w' => e = .returned (.tuple #[]) ∧ RcAt w' b {chg s t with nw := t.nw} I T ∧ Pk.Off b w w' := by
  have a3 := h.c3
  have a5 := h.c5
  have af := h.f
  have b3 := h'.c3
  have b5 := h'.c5
  have K := copy_start h h' hne
  clear h h'
  go_enter Tryz.func120, Tryz.ntmps120
  go_wp2
  go_region
  generalize ((w.setCell ⟨b, 3, none⟩ (.int .i64 t.pg)).setCell ⟨b, 5, none⟩ (.string t.ky)).drew = w1 at K ⊢
  obtain ⟨r1, q1, o1⟩ := K
  have hx : actOf (chg s t) = 3 := ha
  have C1 := values_3 q1 ha'
  have C2 : ∀ w2, w2 = w1.alloc (.cells #[.pointer (some ⟨c, 7, none⟩)] 195) → Calls Tryz.prog 144 #[.pointer (some ⟨b, 0, none⟩)] w2 fun e w' => e = .returned (.slice (some ⟨w1.heap.size + 1, 0, none⟩) 1 1) ∧ Vl w w' b c w1.heap.size (w1.heap.size + 1) (chg s t) t I T J U #[.pointer (some ⟨c, 7, none⟩)] #[.pointer (some ⟨b, 7, none⟩)] := fun w2 h2 => by
    have r2 := r1.below (show Below w1.heap.size w1 w2 by subst h2; exact (Below.refl _ _).alloc (Nat.le_refl _) _)
    refine (values_3 r2 hx).mono ?_
    rintro e w3 ⟨he, hw⟩
    have hz : w2.heap.size = w1.heap.size + 1 := by subst h2; simp
    have V := Vl.mk' r1 q1 o1 h2 hw
    rw [hz] at he V
    exact ⟨he, V⟩
  have D1 : Hid (∀ w2, w2 = w1 → Calls Tryz.prog 144 #[.pointer (some ⟨c, 0, none⟩)] w2 fun e w' => e = .returned (.slice (some ⟨w1.heap.size, 0, none⟩) 1 1) ∧ w' = w1.alloc (.cells #[.pointer (some ⟨c, 7, none⟩)] 195)) := fun w2 h2 => by subst h2; exact C1
  have D2 : Hid _ := C2
  clear C1 C2 r1 q1 o1 a3 a5 af b3 b5 ha ha' hx
  go_wp2_with (first | (go_at_call 144; refine (D1.out _ rfl).mono ?_; clear D1; rintro e w2 ⟨rfl, rfl⟩) | (go_at_call 144; refine (D2.out _ rfl).mono ?_; clear D2; rintro e w3 ⟨rfl, V⟩))
  have k1 := V.tb.c7
  have k2 := V.fc.c7
  have k3 := Joins.cell_of_block V.pg 0
  have k4 := Joins.cell_of_block V.pd 0
  have k5 := V.tb.f
  simp only [List.getElem?_toArray, List.getElem?_cons_zero] at k3 k4
  refine wp_loop_rounds 2 ?_
  rw [rounds_succ]
  go_wp2
  rw [rounds_succ]
  go_wp2
  go_end0
  exact ⟨rfl, V.tb.set rfl, V.off.setCell _ _⟩
theorem copy_4 (h : RcAt w b s I T) (h' : RcAt w c t J U) (hne : b ≠ c) (ha : actOf s = 4) (ha' : actOf t = 4) : Calls Tryz.prog 120 #[.pointer (some ⟨b, 0, none⟩), .pointer (some ⟨c, 0, none⟩)] w fun e w' => e = .returned (.tuple #[]) ∧ RcAt w' b {chg s t with ol := t.ol} I T ∧ Pk.Off b w w' := by
  have a3 := h.c3
  have a5 := h.c5
  have af := h.f
  have b3 := h'.c3
  have b5 := h'.c5
  have K := copy_start h h' hne
  clear h h'
  go_enter Tryz.func120, Tryz.ntmps120
  go_wp2
  go_region
  generalize ((w.setCell ⟨b, 3, none⟩ (.int .i64 t.pg)).setCell ⟨b, 5, none⟩ (.string t.ky)).drew = w1 at K ⊢
  obtain ⟨r1, q1, o1⟩ := K
  have hx : actOf (chg s t) = 4 := ha
  have C1 := values_4 q1 ha'
  have C2 : ∀ w2, w2 = w1.alloc (.cells #[.pointer (some ⟨c, 6, none⟩)] 195) → Calls Tryz.prog 144 #[.pointer (some ⟨b, 0, none⟩)] w2 fun e w' => e = .returned (.slice (some ⟨w1.heap.size + 1, 0, none⟩) 1 1) ∧ Vl w w' b c w1.heap.size (w1.heap.size + 1) (chg s t) t I T J U #[.pointer (some ⟨c, 6, none⟩)] #[.pointer (some ⟨b, 6, none⟩)] := fun w2 h2 => by
    have r2 := r1.below (show Below w1.heap.size w1 w2 by subst h2; exact (Below.refl _ _).alloc (Nat.le_refl _) _)
    refine (values_4 r2 hx).mono ?_
    rintro e w3 ⟨he, hw⟩
    have hz : w2.heap.size = w1.heap.size + 1 := by subst h2; simp
    have V := Vl.mk' r1 q1 o1 h2 hw
    rw [hz] at he V
    exact ⟨he, V⟩
  have D1 : Hid (∀ w2, w2 = w1 → Calls Tryz.prog 144 #[.pointer (some ⟨c, 0, none⟩)] w2 fun e w' => e = .returned (.slice (some ⟨w1.heap.size, 0, none⟩) 1 1) ∧ w' = w1.alloc (.cells #[.pointer (some ⟨c, 6, none⟩)] 195)) := fun w2 h2 => by subst h2; exact C1
  have D2 : Hid _ := C2
  clear C1 C2 r1 q1 o1 a3 a5 af b3 b5 ha ha' hx
  go_wp2_with (first | (go_at_call 144; refine (D1.out _ rfl).mono ?_; clear D1; rintro e w2 ⟨rfl, rfl⟩) | (go_at_call 144; refine (D2.out _ rfl).mono ?_; clear D2; rintro e w3 ⟨rfl, V⟩))
  have k1 := V.tb.c6
  have k2 := V.fc.c6
  have k3 := Joins.cell_of_block V.pg 0
  have k4 := Joins.cell_of_block V.pd 0
  have k5 := V.tb.f
  simp only [List.getElem?_toArray, List.getElem?_cons_zero] at k3 k4
  refine wp_loop_rounds 2 ?_
  rw [rounds_succ]
  go_wp2
  rw [rounds_succ]
  go_wp2
  go_end0
  exact ⟨rfl, V.tb.set rfl, V.off.setCell _ _⟩
theorem copy_o (h : RcAt w b s I T) (h' : RcAt w c t J U) (hne : b ≠ c) (h3 : actOf s ≠ 3) (h4 : actOf s ≠ 4) (ha : actOf t = actOf s) : Calls Tryz.prog 120 #[.pointer (some ⟨b, 0, none⟩), .pointer (some ⟨c, 0, none⟩)] w fun e w' => e = .returned (.tuple #[]) ∧ RcAt w' b {chg s t with ol := t.ol, nw := t.nw} I T ∧ Pk.Off b w w' := by
  have a3 := h.c3
  have a5 := h.c5
  have af := h.f
  have b3 := h'.c3
  have b5 := h'.c5
  have K := copy_start h h' hne
  clear h h'
  go_enter Tryz.func120, Tryz.ntmps120
  go_wp2
  go_region
  generalize ((w.setCell ⟨b, 3, none⟩ (.int .i64 t.pg)).setCell ⟨b, 5, none⟩ (.string t.ky)).drew = w1 at K ⊢
  obtain ⟨r1, q1, o1⟩ := K
  have hx3 : actOf (chg s t) ≠ 3 := h3
  have hx4 : actOf (chg s t) ≠ 4 := h4
  have C1 := values_o q1 (by rw [ha]; exact h3) (by rw [ha]; exact h4)
  have C2 : ∀ w2, w2 = w1.drew.alloc (.cells #[.pointer (some ⟨c, 6, none⟩), .pointer (some ⟨c, 7, none⟩)] 195) → Calls Tryz.prog 144 #[.pointer (some ⟨b, 0, none⟩)] w2 fun e w' => e = .returned (.slice (some ⟨w1.heap.size + 1, 0, none⟩) 2 2) ∧ Vl w w' b c w1.heap.size (w1.heap.size + 1) (chg s t) t I T J U #[.pointer (some ⟨c, 6, none⟩), .pointer (some ⟨c, 7, none⟩)] #[.pointer (some ⟨b, 6, none⟩), .pointer (some ⟨b, 7, none⟩)] := fun w2 h2 => by
    have r2 := r1.below (show Below w1.heap.size w1 w2 by subst h2; exact ((Below.refl _ _).drew).alloc (Nat.le_refl _) _)
    refine (values_o r2 hx3 hx4).mono ?_
    rintro e w3 ⟨he, hw⟩
    have hz : w2.heap.size = w1.heap.size + 1 := by subst h2; simp
    have V := Vl.mk2 r1 q1 o1 h2 hw
    rw [hz] at he V
    exact ⟨he, V⟩
  have D1 : Hid (∀ w2, w2 = w1 → Calls Tryz.prog 144 #[.pointer (some ⟨c, 0, none⟩)] w2 fun e w' => e = .returned (.slice (some ⟨w1.heap.size, 0, none⟩) 2 2) ∧ w' = w1.drew.alloc (.cells #[.pointer (some ⟨c, 6, none⟩), .pointer (some ⟨c, 7, none⟩)] 195)) := fun w2 h2 => by subst h2; exact C1
  have D2 : Hid _ := C2
  clear C1 C2 r1 q1 o1 a3 a5 af b3 b5 ha h3 h4 hx3 hx4
  go_wp2_with (first | (go_at_call 144; refine (D1.out _ rfl).mono ?_; clear D1; rintro e w2 ⟨rfl, rfl⟩) | (go_at_call 144; refine (D2.out _ rfl).mono ?_; clear D2; rintro e w3 ⟨rfl, V⟩))
  have k1 := V.tb.c6
  have k2 := V.fc.c6
  have k1' := V.tb.c7
  have k2' := V.fc.c7
  have k3 := Joins.cell_of_block V.pg 0
  have k4 := Joins.cell_of_block V.pd 0
  have k3' := Joins.cell_of_block V.pg 1
  have k4' := Joins.cell_of_block V.pd 1
  have k5 := V.tb.f
  simp only [List.getElem?_toArray, List.getElem?_cons_zero, List.getElem?_cons_succ] at k3 k4 k3' k4'
  refine wp_loop_rounds 3 ?_
  rw [rounds_succ]
  go_wp2
  rw [rounds_succ]
  go_wp2
  rw [rounds_succ]
  go_wp2
  go_end0
  exact ⟨rfl, (V.tb.set (k := 6) (s' := {chg s t with ol := t.ol}) (I' := I) (T' := T) rfl).set rfl, (V.off.setCell _ _).setCell _ _⟩
/-- What copyChange leaves. -/
def copyS (s t : Sc) : Sc := {s with pg := t.pg, ky := t.ky, ol := if actOf t = 3 then s.ol else t.ol, nw := if actOf t = 4 then s.nw else t.nw}
theorem copy_any (h : RcAt w b s I T) (h' : RcAt w c t J U) (hne : b ≠ c) (ha : actOf t = actOf s) : Calls Tryz.prog 120 #[.pointer (some ⟨b, 0, none⟩), .pointer (some ⟨c, 0, none⟩)] w fun e w' => e = .returned (.tuple #[]) ∧ RcAt w' b (copyS s t) I T ∧ Pk.Off b w w' := by
  unfold copyS
  by_cases h3 : actOf s = 3
  · rw [ha, if_pos h3, if_neg (by rw [h3]; decide)]
    exact copy_3 h h' hne h3 (ha.trans h3)
  · by_cases h4 : actOf s = 4
    · rw [ha, if_neg h3, if_pos h4]
      exact copy_4 h h' hne h4 (ha.trans h4)
    · rw [ha, if_neg h3, if_neg h4]
      exact copy_o h h' hne h3 h4 ha
end
end Go.Proofs.YtgodjnbbocnckaaGreat

namespace Go.Proofs.YtgodjnbbocnckaaGreat.Sm
set_option linter.unusedVariables false
set_option linter.unusedSimpArgs false

abbrev R := BitVec 32
def taps : R := 0x82f63b78#32
def st (c : R) : R := if c.getLsbD 0 then (c >>> 1) ^^^ taps else c >>> 1
def stn : Nat → R → R
  | 0, c => c
  | n + 1, c => stn n (st c)

theorem st_xor (a b : R) : st (a ^^^ b) = st a ^^^ st b := by
  unfold st
  rw [BitVec.getLsbD_xor, BitVec.ushiftRight_xor_distrib]
  cases a.getLsbD 0 <;> cases b.getLsbD 0 <;> simp
  · rw [BitVec.xor_assoc]
  · rw [BitVec.xor_assoc, BitVec.xor_assoc]
    congr 1
    rw [BitVec.xor_comm]
  · have : a >>> 1 ^^^ taps ^^^ (b >>> 1 ^^^ taps) = a >>> 1 ^^^ b >>> 1 ^^^ (taps ^^^ taps) := by
      simp only [BitVec.xor_assoc]
      congr 1
      rw [← BitVec.xor_assoc, BitVec.xor_comm taps, BitVec.xor_assoc]
    rw [this, BitVec.xor_self]
    simp

theorem st_zero : st 0#32 = 0#32 := by decide
theorem stn_add (m n : Nat) (c : R) : stn (m + n) c = stn n (stn m c) := by
  induction m generalizing c with
  | zero => simp [stn]
  | succ m ih => rw [Nat.succ_add]; exact ih (st c)
theorem stn_succ (n : Nat) (c : R) : stn (n + 1) c = st (stn n c) := by rw [stn_add]; rfl
theorem stn_xor (n : Nat) (a b : R) : stn n (a ^^^ b) = stn n a ^^^ stn n b := by
  induction n generalizing a b with
  | zero => rfl
  | succ n ih => show stn n (st (a ^^^ b)) = _; rw [st_xor, ih]; rfl
theorem stn_zero (n : Nat) : stn n 0#32 = 0#32 := by
  induction n with
  | zero => rfl
  | succ n ih => show stn n (st 0#32) = _; rw [st_zero, ih]
theorem st_eq_zero (a : R) (h : st a = 0#32) : a = 0#32 := by
  unfold st at h
  split at h
  · have := congrArg (fun x : R => x.getLsbD 31) h
    simp [taps] at this
  · apply BitVec.eq_of_getLsbD_eq
    intro i hi
    cases i with
    | zero => simp_all
    | succ i =>
      have := congrArg (fun x : R => x.getLsbD i) h
      simp at this
      rw [Nat.add_comm]
      simpa using this
theorem stn_eq_zero (n : Nat) (a : R) (h : stn n a = 0#32) : a = 0#32 := by
  induction n generalizing a with
  | zero => exact h
  | succ n ih => exact st_eq_zero _ (ih _ h)

/-- Four steps at once. -/
theorem four_steps (c : R) : stn 4 c = (c >>> 4) ^^^ stn 4 (c &&& 15#32) := by
  have e : c = ((c >>> 4) <<< 4) ^^^ (c &&& 15#32) := by
    apply BitVec.eq_of_getLsbD_eq
    intro i hi
    have h15 : (15#32 : R).getLsbD i = decide (i < 4) := by
      have : ∀ j : Fin 32, (15#32 : R).getLsbD j.val = decide (j.val < 4) := by decide
      exact this ⟨i, hi⟩
    by_cases h : i < 4
    · simp [h, h15]
    · simp only [BitVec.getLsbD_xor, BitVec.getLsbD_and, BitVec.getLsbD_shiftLeft, BitVec.getLsbD_ushiftRight, h15, h, hi, decide_true, decide_false, Bool.not_false, Bool.true_and, Bool.and_false, Bool.bne_false]
      rw [show 4 + (i - 4) = i by omega]
  have e2 : stn 4 ((c >>> 4) <<< 4) = c >>> 4 := by
    have s : ∀ z : R, z.getLsbD 0 = false → st z = z >>> 1 := by
      intro z hz
      unfold st
      rw [hz]
      rfl
    show st (st (st (st ((c >>> 4) <<< 4)))) = _
    have s1 : st ((c >>> 4) <<< 4) = ((c >>> 4) <<< 4) >>> 1 := s _ (by simp)
    have s2 : st (((c >>> 4) <<< 4) >>> 1) = ((c >>> 4) <<< 4) >>> 1 >>> 1 := s _ (by simp)
    have s3 : st (((c >>> 4) <<< 4) >>> 1 >>> 1) = ((c >>> 4) <<< 4) >>> 1 >>> 1 >>> 1 := s _ (by simp)
    have s4 : st (((c >>> 4) <<< 4) >>> 1 >>> 1 >>> 1) = ((c >>> 4) <<< 4) >>> 1 >>> 1 >>> 1 >>> 1 := s _ (by simp)
    rw [s1, s2, s3, s4]
    apply BitVec.eq_of_getLsbD_eq
    intro i hi
    simp only [BitVec.getLsbD_ushiftRight, BitVec.getLsbD_shiftLeft]
    have e5 : ¬ (1 + (1 + (1 + (1 + i))) < 4) := by omega
    have e6 : 4 + (1 + (1 + (1 + (1 + i))) - 4) = 4 + i := by omega
    rw [e6]
    by_cases h : 1 + (1 + (1 + (1 + i))) < 32
    · simp only [h, e5, decide_true, decide_false, Bool.not_false, Bool.true_and]
    · have : 32 ≤ 4 + i := by omega
      rw [BitVec.getLsbD_of_ge c (4 + i) this, Bool.and_false]
  conv => lhs; rw [e]
  rw [stn_xor, e2]

/-- The register over bytes. -/
def ofB (b : UInt8) : R := BitVec.ofNat 32 b.toNat
def runB : R → List UInt8 → R
  | c, [] => c
  | c, b :: l => runB (stn 8 (c ^^^ ofB b)) l
theorem runB_append (c : R) (l m : List UInt8) : runB c (l ++ m) = runB (runB c l) m := by
  induction l generalizing c with
  | nil => rfl
  | cons b l ih => exact ih _
theorem runB_xor (c d : R) (l : List UInt8) : runB (c ^^^ d) l = runB c l ^^^ stn (8 * l.length) d := by
  induction l generalizing c d with
  | nil => rfl
  | cons b l ih =>
    have e : stn 8 (c ^^^ d ^^^ ofB b) = stn 8 (c ^^^ ofB b) ^^^ stn 8 d := by
      rw [← stn_xor]
      congr 1
      rw [BitVec.xor_assoc, BitVec.xor_comm d, ← BitVec.xor_assoc]
    show runB (stn 8 (c ^^^ d ^^^ ofB b)) l = runB (stn 8 (c ^^^ ofB b)) l ^^^ _
    rw [e, ih, ← stn_add]
    congr 2
    simp
    omega
def ones : R := 0xffffffff#32
def sumB (l : List UInt8) : R := runB ones l ^^^ ones
def moreB (c : R) (l : List UInt8) : R := runB (c ^^^ ones) l ^^^ ones
theorem xor_xor (a b : R) : a ^^^ b ^^^ b = a := by rw [BitVec.xor_assoc, BitVec.xor_self]; simp
theorem more_sum (s t : List UInt8) : moreB (sumB s) t = sumB (s ++ t) := by
  unfold moreB sumB
  rw [xor_xor, runB_append]
theorem more_zero (t : List UInt8) : moreB 0#32 t = sumB t := by
  unfold moreB sumB
  simp
theorem xor_left_comm (a b c : R) : a ^^^ (b ^^^ c) = b ^^^ (a ^^^ c) := by rw [← BitVec.xor_assoc, BitVec.xor_comm a, BitVec.xor_assoc]
/-- The sum of both. -/
theorem join_sum (s t : List UInt8) : stn (8 * t.length) (sumB s) ^^^ sumB t = sumB (s ++ t) := by
  rw [← more_sum]
  unfold moreB
  rw [BitVec.xor_comm (sumB s), runB_xor]
  unfold sumB
  simp only [BitVec.xor_assoc, BitVec.xor_comm, xor_left_comm]
theorem runB_zeros (c : R) (n : Nat) : runB c (List.replicate n 0) = stn (8 * n) c := by
  induction n generalizing c with
  | zero => rfl
  | succ n ih =>
    rw [List.replicate_succ]
    have e : c ^^^ ofB 0 = c := by show c ^^^ 0#32 = c; simp
    show runB (stn 8 (c ^^^ ofB 0)) _ = _
    rw [e, ih, ← stn_add]
    congr 1
    omega
/-- Any two numbers. -/
theorem join_zeros (a b : R) (n : Nat) : runB (a ^^^ ones) (List.replicate n 0) ^^^ ones ^^^ sumB (List.replicate n 0) ^^^ b = stn (8 * n) a ^^^ b := by
  congr 1
  unfold sumB
  rw [runB_zeros, runB_zeros, stn_xor]
  have : ∀ x y z : R, x ^^^ y ^^^ z ^^^ (y ^^^ z) = x := by
    intro x y z
    rw [BitVec.xor_assoc x, BitVec.xor_assoc x, BitVec.xor_self]
    simp
  exact this _ _ _

/-- The product of two registers, k rounds of it. -/
def mulK : Nat → R → R → R
  | 0, _, _ => 0#32
  | k + 1, a, b => (if b.msb then a else 0#32) ^^^ mulK k (st a) (b <<< 1)
def mul (a b : R) : R := mulK 32 a b
theorem mulK_zero (k : Nat) (a : R) : mulK k a 0#32 = 0#32 := by
  induction k generalizing a with
  | zero => rfl
  | succ k ih =>
    show (if (0#32).msb then a else 0#32) ^^^ mulK k (st a) (0#32 <<< 1) = _
    have : (0#32 : R) <<< 1 = 0#32 := by decide
    rw [this, ih]
    simp
theorem ite_xor (p : Bool) (a b : R) : (if p then a ^^^ b else 0#32) = (if p then a else 0#32) ^^^ (if p then b else 0#32) := by cases p <;> simp
theorem xor_four (a b c d : R) : (a ^^^ b) ^^^ (c ^^^ d) = (a ^^^ c) ^^^ (b ^^^ d) := by simp only [BitVec.xor_assoc, BitVec.xor_comm, xor_left_comm]
theorem mulK_xor (k : Nat) (a a' b : R) : mulK k (a ^^^ a') b = mulK k a b ^^^ mulK k a' b := by
  induction k generalizing a a' b with
  | zero => show (0#32 : R) = 0#32 ^^^ 0#32; decide
  | succ k ih =>
    show (if b.msb then a ^^^ a' else 0#32) ^^^ mulK k (st (a ^^^ a')) (b <<< 1) = _
    rw [st_xor, ih, ite_xor, xor_four]
    rfl
theorem mulK_zero_left (k : Nat) (b : R) : mulK k 0#32 b = 0#32 := by
  induction k generalizing b with
  | zero => rfl
  | succ k ih =>
    show (if b.msb then 0#32 else 0#32) ^^^ mulK k (st 0#32) (b <<< 1) = _
    rw [st_zero, ih]
    simp
theorem st_ite (p : Bool) (a : R) : st (if p then a else 0#32) = if p then st a else 0#32 := by cases p <;> simp [st_zero]
theorem mulK_st (k : Nat) (a b : R) : mulK k (st a) b = st (mulK k a b) := by
  induction k generalizing a b with
  | zero => exact st_zero.symm
  | succ k ih =>
    show (if b.msb then st a else 0#32) ^^^ mulK k (st (st a)) (b <<< 1) = st ((if b.msb then a else 0#32) ^^^ mulK k (st a) (b <<< 1))
    rw [st_xor, st_ite, ih]
theorem mul_stn (n : Nat) (a b : R) : mul (stn n a) b = stn n (mul a b) := by
  induction n generalizing a with
  | zero => rfl
  | succ n ih => show mul (stn n (st a)) b = _; rw [ih]; unfold mul; rw [mulK_st]; rfl
def one : R := 0x80000000#32
theorem st_bit (k : Nat) (h : k + 1 < 32) : st (1#32 <<< (k + 1)) = 1#32 <<< k := by
  have : ∀ j : Fin 31, st (1#32 <<< (j.val + 1)) = 1#32 <<< j.val := by decide
  exact this ⟨k, by omega⟩
theorem mulK_unit (k : Nat) (h : k < 32) (b : R) : mulK (k + 1) (1#32 <<< k) b = b >>> (31 - k) := by
  induction k generalizing b with
  | zero =>
    show (if b.msb then 1#32 <<< 0 else 0#32) ^^^ 0#32 = b >>> 31
    rw [BitVec.msb_eq_getLsbD_last]
    apply BitVec.eq_of_getLsbD_eq
    intro i hi
    simp only [BitVec.getLsbD_ushiftRight]
    cases i with
    | zero => cases b.getLsbD 31 <;> simp
    | succ i =>
      rw [BitVec.getLsbD_of_ge b (31 - 0 + (i + 1)) (by omega)]
      split <;> simp
  | succ k ih =>
    have e : mulK (k + 1 + 1) (1#32 <<< (k + 1)) b = (if b.msb then 1#32 <<< (k + 1) else 0#32) ^^^ mulK (k + 1) (st (1#32 <<< (k + 1))) (b <<< 1) := rfl
    rw [e, st_bit k h, ih (by omega), BitVec.msb_eq_getLsbD_last]
    apply BitVec.eq_of_getLsbD_eq
    intro i hi
    simp only [BitVec.getLsbD_xor, BitVec.getLsbD_ushiftRight, BitVec.getLsbD_shiftLeft]
    have h1 : (if b.getLsbD (32 - 1) = true then 1#32 <<< (k + 1) else 0#32).getLsbD i = (b.getLsbD 31 && decide (i = k + 1)) := by
      split
      · rename_i hb
        rw [show (31 : Nat) = 32 - 1 from rfl, hb]
        simp only [BitVec.getLsbD_shiftLeft, BitVec.getLsbD_one]
        by_cases hik : i = k + 1
        · simp [hik, h]
        · simp [hik, hi]
          omega
      · rename_i hb
        have : b.getLsbD 31 = false := Bool.eq_false_iff.mpr hb
        rw [this, Bool.false_and, BitVec.getLsbD_zero]
    rw [h1]
    by_cases hik : i = k + 1
    · subst hik
      have : ¬ (31 - k + (k + 1) < 32) := by omega
      have e3 : 31 - (k + 1) + (k + 1) = 31 := by omega
      rw [e3]
      simp only [this, decide_true, decide_false, Bool.and_true, Bool.false_and, Bool.bne_false]
    · simp only [hik, decide_false, Bool.and_false, Bool.false_bne]
      by_cases hlt : 31 - k + i < 32
      · have e4 : 31 - k + i - 1 = 31 - (k + 1) + i := by omega
        have e5 : ¬ (31 - k + i < 1) := by omega
        simp [hlt, e4, e5]
      · have e6 : 32 ≤ 31 - (k + 1) + i := by omega
        rw [BitVec.getLsbD_of_ge b _ e6]
        simp [hlt]
theorem mul_unit (b : R) : mul one b = b := by
  have := mulK_unit 31 (by omega) b
  rw [show (31 - 31 : Nat) = 0 from rfl, BitVec.ushiftRight_zero, show (1#32 : R) <<< 31 = one from by decide] at this
  exact this
theorem mul_mulK (k : Nat) (c a b : R) : mul (mulK k c a) b = mulK k (mul c b) a := by
  induction k generalizing c a with
  | zero => exact mulK_zero_left 32 b
  | succ k ih =>
    show mul ((if a.msb then c else 0#32) ^^^ mulK k (st c) (a <<< 1)) b = (if a.msb then mul c b else 0#32) ^^^ mulK k (st (mul c b)) (a <<< 1)
    have e1 : ∀ x y : R, mul (x ^^^ y) b = mul x b ^^^ mul y b := fun x y => mulK_xor 32 x y b
    have e2 : mul (if a.msb then c else 0#32) b = if a.msb then mul c b else 0#32 := by
      cases a.msb
      · exact mulK_zero_left 32 b
      · rfl
    rw [e1, e2, ih]
    congr 2
    exact mulK_st 32 c b
theorem mul_comm (a b : R) : mul a b = mul b a := by
  have := mul_mulK 32 one a b
  rw [mul_unit] at this
  have e : mulK 32 one a = a := mul_unit a
  rw [e] at this
  exact this
/-- What n shifts make of a register, as a factor. -/
def pow (n : Nat) : R := stn n one
theorem mul_pow (a : R) (n : Nat) : mul a (pow n) = stn n a := by rw [mul_comm, pow, mul_stn, mul_unit]
theorem pow_mul (m n : Nat) : mul (pow m) (pow n) = pow (m + n) := by rw [mul_pow, pow, ← stn_add]; rfl
theorem pow_eight : pow 8 = 0x00800000#32 := by decide
theorem pow_zero : pow 0 = 0x80000000#32 := by decide

/-- The rounds of the product's loop. -/
def rounds : Nat → R → Nat
  | 0, _ => 0
  | k + 1, b => if b = 0#32 then 0 else 1 + rounds k (b <<< 1)
theorem rounds_more (k : Nat) (b : R) (h : b <<< k = 0#32) : rounds (k + 1) b = rounds k b := by
  induction k generalizing b with
  | zero =>
    have : b = 0#32 := by simpa using h
    simp [rounds, this]
  | succ k ih =>
    have : rounds (k + 1 + 1) b = if b = 0#32 then 0 else 1 + rounds (k + 1) (b <<< 1) := rfl
    rw [this, ih (b <<< 1) (by rw [← BitVec.shiftLeft_add, Nat.add_comm]; exact h)]
    rfl
theorem rounds_step (b : R) (h : b ≠ 0#32) : rounds 32 (b <<< 1) < rounds 32 b := by
  have e : rounds 32 b = 1 + rounds 31 (b <<< 1) := by
    show (if b = 0#32 then 0 else 1 + rounds 31 (b <<< 1)) = _
    rw [if_neg h]
  have e2 : rounds 32 (b <<< 1) = rounds 31 (b <<< 1) := rounds_more 31 _ (by rw [← BitVec.shiftLeft_add]; simp)
  omega

/-- One bit turned. -/
def flip (l : List UInt8) (p : Nat) : List UInt8 := l.set (p / 8) (l.getD (p / 8) 0 ^^^ UInt8.ofNat (2 ^ (p % 8)))
theorem ofB_xor (a b : UInt8) : ofB (a ^^^ b) = ofB a ^^^ ofB b := by
  unfold ofB
  apply BitVec.eq_of_toNat_eq
  have ha := a.toNat_lt
  have hb := b.toNat_lt
  have hx : a.toNat ^^^ b.toNat < 2 ^ 8 := Nat.xor_lt_two_pow (by omega) (by omega)
  rw [UInt8.toNat_xor, BitVec.toNat_xor]
  simp only [BitVec.toNat_ofNat]
  rw [Nat.mod_eq_of_lt (by omega), Nat.mod_eq_of_lt (by omega), Nat.mod_eq_of_lt (by omega)]
theorem stn_bit (k : Nat) (h : k < 8) : stn 8 (ofB (UInt8.ofNat (2 ^ k))) = stn (8 - k) 1#32 := by
  have : ∀ j : Fin 8, stn 8 (ofB (UInt8.ofNat (2 ^ j.val))) = stn (8 - j.val) 1#32 := by decide
  exact this ⟨k, h⟩
theorem runB_flip (c : R) (l : List UInt8) (p : Nat) (h : p < 8 * l.length) : runB c (flip l p) = runB c l ^^^ stn (8 * l.length - p) 1#32 := by
  have hq : p / 8 < l.length := by omega
  generalize hq' : p / 8 = q at hq
  generalize hk : p % 8 = k
  have hk8 : k < 8 := by omega
  have e0 : 8 * l.length - p = (8 - k) + 8 * (l.length - q - 1) := by omega
  unfold flip
  rw [hq', hk, e0]
  clear e0 hk hq' h
  induction q generalizing c l with
  | zero =>
    cases l with
    | nil => simp at hq
    | cons b l =>
      show runB (stn 8 (c ^^^ ofB (b ^^^ UInt8.ofNat (2 ^ k)))) l = runB (stn 8 (c ^^^ ofB b)) l ^^^ _
      rw [ofB_xor, ← BitVec.xor_assoc, stn_xor, runB_xor, stn_bit k hk8, ← stn_add]
      simp
  | succ q ih =>
    cases l with
    | nil => simp at hq
    | cons b l =>
      have := ih (stn 8 (c ^^^ ofB b)) l (by simpa using hq)
      show runB (stn 8 (c ^^^ ofB b)) (l.set q (l.getD q 0 ^^^ UInt8.ofNat (2 ^ k))) = runB (stn 8 (c ^^^ ofB b)) l ^^^ _
      rw [this]
      congr 3
      simp
theorem flip_length (l : List UInt8) (p : Nat) : (flip l p).length = l.length := by simp [flip]
theorem stn_low (i : Nat) (h : i < 32) : stn i (1#32 <<< i) = 1#32 := by
  have : ∀ j : Fin 32, stn j.val (1#32 <<< j.val) = 1#32 := by decide +kernel
  exact this ⟨i, h⟩
/-- A bit that comes i bits later is the i-th of a register that comes at once. -/
theorem stn_late (m i : Nat) (h : i < 32) (hm : i ≤ m) : stn (m - i) 1#32 = stn m (1#32 <<< i) := by
  have : m = i + (m - i) := by omega
  conv => rhs; rw [this]
  rw [stn_add, stn_low i h]
/-- The bits of a pattern below the i-th. -/
def low (p : Nat) (i : Nat) : R := BitVec.ofNat 32 (p % 2 ^ i)
theorem low_succ (p i : Nat) (hi : i < 32) : low p (i + 1) = if p / 2 ^ i % 2 = 1 then low p i ^^^ (1#32 <<< i) else low p i := by
  unfold low
  apply BitVec.eq_of_getLsbD_eq
  intro j hj
  have e : (BitVec.ofNat 32 (p % 2 ^ (i + 1))).getLsbD j = (decide (j < i + 1) && p.testBit j) := by
    rw [BitVec.getLsbD_ofNat, Nat.testBit_mod_two_pow]; simp [hj]
  have e2 : (BitVec.ofNat 32 (p % 2 ^ i)).getLsbD j = (decide (j < i) && p.testBit j) := by
    rw [BitVec.getLsbD_ofNat, Nat.testBit_mod_two_pow]; simp [hj]
  have e3 : p.testBit i = decide (p / 2 ^ i % 2 = 1) := by
    rw [Nat.testBit_eq_decide_div_mod_eq]
  rw [e]
  split
  · rename_i h
    rw [BitVec.getLsbD_xor, e2, BitVec.getLsbD_shiftLeft, BitVec.getLsbD_one]
    by_cases hji : j = i
    · subst hji
      rw [e3]
      simp [h, hj]
    · by_cases hlt : j < i
      · simp [hlt, Nat.lt_succ_of_lt hlt]
      · have : ¬ j < i + 1 := by omega
        have h2 : ¬ (j - i = 0) := by omega
        simp [hlt, this, h2]
  · rename_i h
    rw [e2]
    by_cases hji : j = i
    · subst hji
      rw [e3]
      simp [h]
    · by_cases hlt : j < i
      · simp [hlt, Nat.lt_succ_of_lt hlt]
      · have : ¬ j < i + 1 := by omega
        simp [hlt, this]
theorem low_zero (p : Nat) : low p 0 = 0#32 := by unfold low; simp [Nat.mod_one]
theorem low_all (p : Nat) (h0 : 0 < p) (h : p < 2 ^ 32) : low p 32 ≠ 0#32 := by
  unfold low
  intro e
  have := congrArg BitVec.toNat e
  simp at this
  omega
/-- A burst turns the sum. -/
theorem burst_ne (l m : List UInt8) (n p : Nat) (h0 : 0 < p) (h : p < 2 ^ 32) (e : runB ones m = runB ones l ^^^ stn n (low p 32)) : sumB m ≠ sumB l := by
  intro hs
  unfold sumB at hs
  have h1 : runB ones m = runB ones l := by
    have := congrArg (· ^^^ ones) hs
    simpa [xor_xor] using this
  rw [h1] at e
  have h2 : stn n (low p 32) = 0#32 := by
    have := congrArg (runB ones l ^^^ ·) e
    simp only [← BitVec.xor_assoc, BitVec.xor_self] at this
    simpa using this.symm
  exact low_all p h0 h (stn_eq_zero _ _ h2)
theorem sum_example : sumB [49, 50, 51, 52, 53, 54, 55, 56, 57] = 0xe3069283#32 := by decide +kernel
end Go.Proofs.YtgodjnbbocnckaaGreat.Sm

namespace Go.Proofs.YtgodjnbbocnckaaGreat.Sm
open Go.RowKit
set_option linter.unusedVariables false
set_option linter.unusedSimpArgs false
set_option maxRecDepth 100000

def vI (c : R) : Int := c.toNat
theorem vI_nonneg (c : R) : 0 ≤ vI c := Int.natCast_nonneg _
theorem vI_lt (c : R) : vI c < 4294967296 := by unfold vI; have := c.isLt; omega
theorem ofInt_vI (c : R) : BitVec.ofInt 32 (vI c) = c := by unfold vI; rw [BitVec.ofInt_natCast, BitVec.ofNat_toNat]; simp
theorem vI_inj {a b : R} (h : vI a = vI b) : a = b := by unfold vI at h; exact BitVec.eq_of_toNat_eq (by omega)
theorem vI_lit (n : Nat) (h : n < 4294967296) : vI (BitVec.ofNat 32 n) = n := by unfold vI; rw [BitVec.toNat_ofNat]; omega
theorem xor32 (a b : R) : bits .xor .u32 (vI a) (vI b) = vI (a ^^^ b) := by
  show IntKind.u32.wrap ((BitVec.ofInt 32 (vI a) ^^^ BitVec.ofInt 32 (vI b)).toNat : Int) = _
  rw [ofInt_vI, ofInt_vI, IntKind.wrap_u32]
  have := vI_lt (a ^^^ b)
  have := vI_nonneg (a ^^^ b)
  unfold vI at *
  omega
theorem and32 (a b : R) : bits .and .u32 (vI a) (vI b) = vI (a &&& b) := by
  show IntKind.u32.wrap ((BitVec.ofInt 32 (vI a) &&& BitVec.ofInt 32 (vI b)).toNat : Int) = _
  rw [ofInt_vI, ofInt_vI, IntKind.wrap_u32]
  have := vI_lt (a &&& b)
  have := vI_nonneg (a &&& b)
  unfold vI at *
  omega
theorem shr32 (c : R) : vI c / (2 : Int) = vI (c >>> 1) := by unfold vI; rw [BitVec.toNat_ushiftRight, Nat.shiftRight_eq_div_pow]; omega
theorem shr32_4 (c : R) : vI c / (16 : Int) = vI (c >>> 4) := by unfold vI; rw [BitVec.toNat_ushiftRight, Nat.shiftRight_eq_div_pow]; omega
theorem shl32 (c : R) : vI c * (2 : Int) % (4294967296 : Int) = vI (c <<< 1) := by unfold vI; rw [BitVec.toNat_shiftLeft, Nat.shiftLeft_eq]; omega
theorem vI_eq_zero (c : R) : vI c = 0 ↔ c = 0#32 := by
  constructor
  · intro h; exact vI_inj (h.trans (vI_lit 0 (by omega)).symm)
  · rintro rfl; rfl
theorem and_one (c : R) : c &&& 1#32 = if c.getLsbD 0 then 1#32 else 0#32 := by
  apply BitVec.eq_of_getLsbD_eq
  intro i hi
  rw [BitVec.getLsbD_and, BitVec.getLsbD_one]
  by_cases h : i = 0
  · subst h
    cases c.getLsbD 0 <;> simp
  · simp only [h, decide_false, Bool.and_false]
    split
    · rw [BitVec.getLsbD_one]; simp [h]
    · simp
theorem and_top (c : R) : c &&& one = if c.msb then one else 0#32 := by
  have e : one = 1#32 <<< 31 := by decide
  rw [e]
  apply BitVec.eq_of_getLsbD_eq
  intro i hi
  rw [BitVec.msb_eq_getLsbD_last, BitVec.getLsbD_and]
  have e2 : (1#32 <<< 31 : R).getLsbD i = decide (i = 31) := by
    have : ∀ j : Fin 32, (1#32 <<< 31 : R).getLsbD j.val = decide (j.val = 31) := by decide
    exact this ⟨i, hi⟩
  rw [e2]
  by_cases h : i = 31
  · subst h
    show _ = (if c.getLsbD 31 = true then _ else _ : R).getLsbD 31
    cases hc : c.getLsbD 31
    · rfl
    · simp [e2]
  · simp only [h, decide_false, Bool.and_false]
    split
    · rw [e2]; simp [h]
    · simp
theorem odd_test (c : R) (h : c.getLsbD 0 = true) : (bits .and .u32 (vI c) 1 == 0) = false := by
  have : (1 : Int) = vI 1#32 := rfl
  rw [this, and32, and_one, h]
  rfl
theorem even_test (c : R) (h : c.getLsbD 0 = false) : (bits .and .u32 (vI c) 1 == 0) = true := by
  have : (1 : Int) = vI 1#32 := rfl
  rw [this, and32, and_one, h]
  rfl
theorem top_test (c : R) : (bits .and .u32 (vI c) 2147483648 != 0) = c.msb := by
  have : (2147483648 : Int) = vI one := rfl
  rw [this, and32, and_top]
  cases c.msb <;> rfl
theorem zero_test (c : R) : (vI c != 0) = !(c == 0#32) := by
  by_cases h : c = 0#32
  · subst h; rfl
  · have h1 : vI c ≠ 0 := fun e => h ((vI_eq_zero c).mp e)
    rw [bne, beq_eq_false_iff_ne.mpr h1, beq_eq_false_iff_ne.mpr h]

theorem shift_any (c : R) (w : World) :
    Calls Tryz.prog 168 #[.int .u32 (vI c)] w fun e w' => e = .returned (.int .u32 (vI (st c))) ∧ w' = w := by
  cases h : c.getLsbD 0
  · have h1 := even_test c h
    have e1 : Hid _ := shr32 c
    have e2 : Hid (st c = c >>> 1) := by show st c = _; unfold st; rw [h]; rfl
    clear h
    go_enter Tryz.func168, Tryz.ntmps168
    go_wp2
    go_ret
    rw [e1.out, e2.out]
    exact ⟨rfl, rfl⟩
  · have h1 := odd_test c h
    have e1 : Hid _ := shr32 c
    have e2 : Hid (st c = c >>> 1 ^^^ taps) := by show st c = _; unfold st; rw [h]; rfl
    have e3 : Hid _ := xor32 (c >>> 1) taps
    clear h
    go_enter Tryz.func168, Tryz.ntmps168
    go_wp2
    go_ret
    rw [e1.out, e2.out, ← e3.out]
    exact ⟨rfl, rfl⟩
theorem ofInt64 (a : Nat) (ha : a < 18446744073709551616) : (BitVec.ofInt 64 (a : Int)).toNat = a := by
  rw [BitVec.ofInt_natCast, BitVec.toNat_ofNat]
  exact Nat.mod_eq_of_lt (by omega)
theorem and64_one (m : Int) (h0 : 0 ≤ m) (h1 : m < 9223372036854775808) : bits .and .i64 m 1 = m % 2 := by
  obtain ⟨a, rfl⟩ := Int.eq_ofNat_of_zero_le h0
  show IntKind.i64.wrap ((BitVec.ofInt 64 (a : Int) &&& BitVec.ofInt 64 ((1 : Nat) : Int)).toNat : Int) = _
  rw [BitVec.toNat_and, ofInt64 a (by omega), ofInt64 1 (by omega), Nat.and_one_is_mod, IntKind.wrap_i64]
  omega
theorem xor64 (a b : R) : bits .xor .i64 (vI a) (vI b) = vI (a ^^^ b) := by
  have ha := a.isLt
  have hb := b.isLt
  have hx := (a ^^^ b).isLt
  unfold vI
  show IntKind.i64.wrap ((BitVec.ofInt 64 (a.toNat : Int) ^^^ BitVec.ofInt 64 (b.toNat : Int)).toNat : Int) = _
  rw [BitVec.toNat_xor, ofInt64 _ (by omega), ofInt64 _ (by omega), ← BitVec.toNat_xor, IntKind.wrap_i64]
  omega
theorem wrap64_vI (c : R) : wrap64 (vI c) = vI c := by
  have h1 := vI_nonneg c
  have h2 := vI_lt c
  unfold wrap64
  omega
def isS (n : Int) : Bool := decide (0 ≤ n) && decide (n ≤ 4294967295)
theorem isS_vI (a : R) : isS (vI a) = true := by
  have h1 := vI_nonneg a
  have h2 := vI_lt a
  unfold isS
  simp
  omega
end Go.Proofs.YtgodjnbbocnckaaGreat.Sm

namespace Go.Proofs.YtgodjnbbocnckaaGreat.Sm
open Go.RowKit
set_option linter.unusedVariables false
set_option linter.unusedSimpArgs false
set_option maxRecDepth 100000

/-- The table, of which the first i are laid. -/
def tab (i : Nat) : Array Value := (Array.range 16).map fun j => .int .u32 (vI (if j < i then stn 4 (BitVec.ofNat 32 j) else 0#32))
theorem tab_size (i : Nat) : (tab i).size = 16 := by simp [tab]
theorem tab_get (i j : Nat) (h : j < 16) : (tab i)[j]? = some (.int .u32 (vI (if j < i then stn 4 (BitVec.ofNat 32 j) else 0#32))) := by
  unfold tab
  rw [Array.getElem?_map, Array.getElem?_range]
  simp [h]
theorem range16 : Array.range 16 = #[0, 1, 2, 3, 4, 5, 6, 7, 8, 9, 10, 11, 12, 13, 14, 15] := by decide
theorem tab_zero : #[.int .u32 0, .int .u32 0, .int .u32 0, .int .u32 0, .int .u32 0, .int .u32 0, .int .u32 0, .int .u32 0, .int .u32 0, .int .u32 0, .int .u32 0, .int .u32 0, .int .u32 0, .int .u32 0, .int .u32 0, .int .u32 0] = tab 0 := by
  unfold tab
  rw [range16]
  simp only [List.map_toArray, List.map_cons, List.map_nil]
  rfl
theorem tab_set (i : Nat) (h : i < 16) : (tab i).setIfInBounds i (.int .u32 (vI (stn 4 (BitVec.ofNat 32 i)))) = tab (i + 1) := by
  apply Array.ext_getElem?
  intro j
  by_cases hj : j < 16
  · rw [Array.getElem?_setIfInBounds, tab_get _ _ hj, tab_get _ _ hj, tab_size]
    by_cases hij : i = j
    · subst hij
      simp [h]
    · have : (j < i + 1) = (j < i) := by simp; omega
      simp [hij, this]
  · rw [Array.getElem?_eq_none (by simp [tab_size]; omega), Array.getElem?_eq_none (by simp [tab_size]; omega)]
def xT (j : Nat) : Int := vI (stn 4 (BitVec.ofNat 32 j))
theorem tab_full : tab 16 = #[.int .u32 (xT 0), .int .u32 (xT 1), .int .u32 (xT 2), .int .u32 (xT 3), .int .u32 (xT 4), .int .u32 (xT 5), .int .u32 (xT 6), .int .u32 (xT 7), .int .u32 (xT 8), .int .u32 (xT 9), .int .u32 (xT 10), .int .u32 (xT 11), .int .u32 (xT 12), .int .u32 (xT 13), .int .u32 (xT 14), .int .u32 (xT 15)] := by
  unfold tab
  rw [range16]
  simp only [List.map_toArray, List.map_cons, List.map_nil]
  rfl

theorem fourShifts_any (w : World) :
    Calls Tryz.prog 162 #[] w fun e w' => e = .returned (.agg (tab 16)) ∧ Below w.heap.size w w' := by
  go_enter Tryz.func162, Tryz.ntmps162
  go_wp2
  rw [tab_zero]
  go_loopw [4] (fun x wr => ∃ i : Nat, i ≤ 16 ∧ x = .int .i64 i ∧ wr = (w.alloc (.cells (tab 0) 217)).alloc (.cells (tab i) 217)) (fun x _ => 16 - (intOf x).toNat)
  case atStart => exact ⟨0, by omega, rfl, rfl⟩
  case round =>
    obtain ⟨i, hi, rfl, rfl⟩ := hrel
    by_cases hlt : i < 16
    · have hd : decide ((i : Int) < 16) = true := by simp; omega
      have hg := tab_get i i hlt
      rw [if_neg (Nat.lt_irrefl i)] at hg
      go_wp2
      go_loop [3, 9] (fun r j => ∃ k : Nat, k ≤ 4 ∧ j = .int .i64 k ∧ r = .int .u32 (vI (stn k (BitVec.ofNat 32 i)))) (fun _ j => 4 - (intOf j).toNat)
      case atStart =>
        refine ⟨0, by omega, rfl, ?_⟩
        show _ = Value.int .u32 (vI (BitVec.ofNat 32 i))
        rw [vI_lit i (by omega)]
      case round =>
        obtain ⟨k, hk, rfl, rfl⟩ := hrel
        by_cases hlt2 : k < 4
        · go_wp2_with (go_at_call 168; refine (shift_any _ _).mono ?_; rintro e w' ⟨rfl, rfl⟩)
          go_round
          case rel => exact ⟨k + 1, by omega, by go_num, by rw [stn_succ]⟩
          case measure => simp [intOf]; omega
        · have : k = 4 := by omega
          subst this
          go_wp2
          go_roundw
          case rel => 
            exact ⟨i + 1, by omega, by go_num, by rw [← tab_set i hlt]⟩
          case measure => simp [intOf]; omega
    · have : i = 16 := by omega
      subst this
      rw [tab_full, ← tab_zero]
      go_wp2
      refine bodyPost_ret (v := .agg (tab 16)) ?_ rfl ⟨rfl, ?_⟩
      · rw [tab_full]
        simp [results, Tryz.results19, go_sem]
      · exact ((Below.refl _ _).alloc (Nat.le_refl _) _).alloc (by simp) _
theorem fourShifts_lit (w : World) :
    Calls Tryz.prog 162 #[] w fun e w' => e = .returned (.agg #[.int .u32 (xT 0), .int .u32 (xT 1), .int .u32 (xT 2), .int .u32 (xT 3), .int .u32 (xT 4), .int .u32 (xT 5), .int .u32 (xT 6), .int .u32 (xT 7), .int .u32 (xT 8), .int .u32 (xT 9), .int .u32 (xT 10), .int .u32 (xT 11), .int .u32 (xT 12), .int .u32 (xT 13), .int .u32 (xT 14), .int .u32 (xT 15)]) ∧ Below w.heap.size w w' := by
  have := fourShifts_any w
  rw [tab_full] at this
  exact this
end Go.Proofs.YtgodjnbbocnckaaGreat.Sm
