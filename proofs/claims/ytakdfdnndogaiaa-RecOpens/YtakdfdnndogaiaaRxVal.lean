/- The values of a record's act: values, copyChange. -/
import Derived.Test.YtakdfdnndogaiaaRxRow
namespace Go.Proofs.Ytakdfdnndogaiaa
open Go.RowKit
set_option linter.unusedVariables false
set_option linter.unusedSimpArgs false
set_option maxRecDepth 100000

section
variable {w w' : World} {b : Nat} {s : Sc} {I T : Value}
theorem values_3 (h : RcAt w b s I T) (ha : actOf s = 3) : Calls Try.prog 41 #[.pointer (some ⟨b, 0, none⟩)] w fun e w' => e = .returned (.slice (some ⟨w.heap.size, 0, none⟩) 1 1) ∧ w' = w.alloc (.cells #[.pointer (some ⟨b, 7, none⟩)] 73) := by
  have hc0 := h.c0
  have hc4 := h.c4
  clear h
  unfold actOf at ha
  by_cases hk : s.kd = 6
  · rw [if_pos hk] at ha
    rw [hk] at hc0
    rw [ha] at hc4
    go_enter Try.func41, Try.ntmps41
    go_wp2
    go_ret
    exact ⟨rfl, rfl⟩
  · rw [if_neg hk] at ha
    rw [ha] at hc0
    go_enter Try.func41, Try.ntmps41
    go_wp2
    go_ret
    exact ⟨rfl, rfl⟩
theorem values_4 (h : RcAt w b s I T) (ha : actOf s = 4) : Calls Try.prog 41 #[.pointer (some ⟨b, 0, none⟩)] w fun e w' => e = .returned (.slice (some ⟨w.heap.size, 0, none⟩) 1 1) ∧ w' = w.alloc (.cells #[.pointer (some ⟨b, 6, none⟩)] 73) := by
  have hc0 := h.c0
  have hc4 := h.c4
  clear h
  unfold actOf at ha
  by_cases hk : s.kd = 6
  · rw [if_pos hk] at ha
    rw [hk] at hc0
    rw [ha] at hc4
    go_enter Try.func41, Try.ntmps41
    go_wp2
    go_ret
    exact ⟨rfl, rfl⟩
  · rw [if_neg hk] at ha
    rw [ha] at hc0
    go_enter Try.func41, Try.ntmps41
    go_wp2
    go_ret
    exact ⟨rfl, rfl⟩
theorem values_o (h : RcAt w b s I T) (h3 : actOf s ≠ 3) (h4 : actOf s ≠ 4) : Calls Try.prog 41 #[.pointer (some ⟨b, 0, none⟩)] w fun e w' => e = .returned (.slice (some ⟨w.heap.size, 0, none⟩) 2 2) ∧ w' = w.drew.alloc (.cells #[.pointer (some ⟨b, 6, none⟩), .pointer (some ⟨b, 7, none⟩)] 73) := by
  have hc0 := h.c0
  have hc4 := h.c4
  clear h
  unfold actOf at h3 h4
  by_cases hk : s.kd = 6
  · rw [if_pos hk] at h3 h4
    rw [hk] at hc0
    have e3 : (s.ac == 3) = false := by simpa using h3
    have e4 : (s.ac == 4) = false := by simpa using h4
    go_enter Try.func41, Try.ntmps41
    go_wp2
    go_region
    go_wp2
    go_ret
    exact ⟨rfl, rfl⟩
  · rw [if_neg hk] at h3 h4
    have e6 : (s.kd == 6) = false := by simpa using hk
    have e3 : (s.kd == 3) = false := by simpa using h3
    have e4 : (s.kd == 4) = false := by simpa using h4
    go_enter Try.func41, Try.ntmps41
    go_wp2
    go_region
    go_wp2
    go_ret
    exact ⟨rfl, rfl⟩
end
section
variable {w w' : World} {b c : Nat} {s t : Sc} {I T J U : Value}
def chg (s t : Sc) : Sc := {s with pg := t.pg, ky := t.ky}
theorem copy_start (h : RcAt w b s I T) (h' : RcAt w c t J U) (hne : b ≠ c) :
    RcAt ((w.setCell ⟨b, 3, none⟩ (.int .i64 t.pg)).setCell ⟨b, 5, none⟩ (.string t.ky)).drew b (chg s t) I T ∧ RcAt ((w.setCell ⟨b, 3, none⟩ (.int .i64 t.pg)).setCell ⟨b, 5, none⟩ (.string t.ky)).drew c t J U ∧ Pk.Off b w ((w.setCell ⟨b, 3, none⟩ (.int .i64 t.pg)).setCell ⟨b, 5, none⟩ (.string t.ky)).drew := by
  have o : Pk.Off b w ((w.setCell ⟨b, 3, none⟩ (.int .i64 t.pg)).setCell ⟨b, 5, none⟩ (.string t.ky)).drew := (((Pk.Off.refl _ _).setCell _ _).setCell _ _).drew
  refine ⟨RcAt.drew ((h.set (k := 3) (s' := {s with pg := t.pg}) (I' := I) (T' := T) rfl).set (k := 5) (s' := chg s t) (I' := I) (T' := T) rfl), h'.off o (fun e => hne e.symm), o⟩
/-- Behind both values there are the pointers, and the records as they were. -/
structure Vl (w w' : World) (b c g d : Nat) (s t : Sc) (I T J U : Value) (P G : Array Value) : Prop where
  tb : RcAt w' b s I T
  fc : RcAt w' c t J U
  pg : w'.heap[g]? = some (.cells P 73)
  pd : w'.heap[d]? = some (.cells G 73)
  off : Pk.Off b w w'
theorem Vl.mk' {w w1 : World} {P G : Array Value} (h : RcAt w1 b s I T) (h' : RcAt w1 c t J U) (o : Pk.Off b w w1) {w2 w3 : World} (h2 : w2 = w1.alloc (.cells P 73)) (h3 : w3 = w2.alloc (.cells G 73)) : Vl w w3 b c w1.heap.size w2.heap.size s t I T J U P G := by
  subst h2 h3
  have b1 : Below w1.heap.size w1 (w1.alloc (.cells P 73)) := (Below.refl _ _).alloc (Nat.le_refl _) _
  have b2 : Below (w1.alloc (.cells P 73)).heap.size (w1.alloc (.cells P 73)) ((w1.alloc (.cells P 73)).alloc (.cells G 73)) := (Below.refl _ _).alloc (Nat.le_refl _) _
  refine ⟨(h.below b1).below b2, (h'.below b1).below b2, (b2.block _ ?_).trans (MapKept.heap_alloc w1 _).1, (MapKept.heap_alloc _ _).1, (o.alloc _).alloc _⟩
  simp
theorem Vl.mk2 {w w1 : World} {P G : Array Value} (h : RcAt w1 b s I T) (h' : RcAt w1 c t J U) (o : Pk.Off b w w1) {w2 w3 : World} (h2 : w2 = w1.drew.alloc (.cells P 73)) (h3 : w3 = w2.drew.alloc (.cells G 73)) : Vl w w3 b c w1.heap.size w2.heap.size s t I T J U P G := by
  subst h2 h3
  have b1 : Below w1.heap.size w1 (w1.drew.alloc (.cells P 73)) := ((Below.refl _ _).drew).alloc (Nat.le_refl _) _
  have b2 : Below (w1.drew.alloc (.cells P 73)).heap.size (w1.drew.alloc (.cells P 73)) ((w1.drew.alloc (.cells P 73)).drew.alloc (.cells G 73)) := ((Below.refl (w1.drew.alloc (.cells P 73)).heap.size (w1.drew.alloc (.cells P 73))).drew).alloc (Nat.le_refl _) _
  refine ⟨(h.below b1).below b2, (h'.below b1).below b2, (b2.block _ ?_).trans (MapKept.heap_alloc w1.drew _).1, (MapKept.heap_alloc _ _).1, ((o.drew.alloc _).drew).alloc _⟩
  simp
theorem copy_3 (h : RcAt w b s I T) (h' : RcAt w c t J U) (hne : b ≠ c) (ha : actOf s = 3) (ha' : actOf t = 3) : Calls Try.prog 29 #[.pointer (some ⟨b, 0, none⟩), .pointer (some ⟨c, 0, none⟩)] w fun e w' => e = .returned (.tuple #[]) ∧ RcAt w' b {chg s t with nw := t.nw} I T ∧ Pk.Off b w w' := by
  have a3 := h.c3
  have a5 := h.c5
  have af := h.f
  have b3 := h'.c3
  have b5 := h'.c5
  have K := copy_start h h' hne
  clear h h'
  go_enter Try.func29, Try.ntmps29
  go_wp2
  go_region
  generalize ((w.setCell ⟨b, 3, none⟩ (.int .i64 t.pg)).setCell ⟨b, 5, none⟩ (.string t.ky)).drew = w1 at K ⊢
  obtain ⟨r1, q1, o1⟩ := K
  have hx : actOf (chg s t) = 3 := ha
  have C1 := values_3 q1 ha'
  have C2 : ∀ w2, w2 = w1.alloc (.cells #[.pointer (some ⟨c, 7, none⟩)] 73) → Calls Try.prog 41 #[.pointer (some ⟨b, 0, none⟩)] w2 fun e w' => e = .returned (.slice (some ⟨w1.heap.size + 1, 0, none⟩) 1 1) ∧ Vl w w' b c w1.heap.size (w1.heap.size + 1) (chg s t) t I T J U #[.pointer (some ⟨c, 7, none⟩)] #[.pointer (some ⟨b, 7, none⟩)] := fun w2 h2 => by
    have r2 := r1.below (show Below w1.heap.size w1 w2 by subst h2; exact (Below.refl _ _).alloc (Nat.le_refl _) _)
    refine (values_3 r2 hx).mono ?_
    rintro e w3 ⟨he, hw⟩
    have hz : w2.heap.size = w1.heap.size + 1 := by subst h2; simp
    have V := Vl.mk' r1 q1 o1 h2 hw
    rw [hz] at he V
    exact ⟨he, V⟩
  have D1 : Hid (∀ w2, w2 = w1 → Calls Try.prog 41 #[.pointer (some ⟨c, 0, none⟩)] w2 fun e w' => e = .returned (.slice (some ⟨w1.heap.size, 0, none⟩) 1 1) ∧ w' = w1.alloc (.cells #[.pointer (some ⟨c, 7, none⟩)] 73)) := fun w2 h2 => by subst h2; exact C1
  have D2 : Hid _ := C2
  clear C1 C2 r1 q1 o1 a3 a5 af b3 b5 ha ha' hx
  go_wp2_with (first | (go_at_call 41; refine (D1.out _ rfl).mono ?_; clear D1; rintro e w2 ⟨rfl, rfl⟩) | (go_at_call 41; refine (D2.out _ rfl).mono ?_; clear D2; rintro e w3 ⟨rfl, V⟩))
  have k1 := V.tb.c7
  have k2 := V.fc.c7
  have k3 := Joins.cell_of_block V.pg 0
  have k4 := Joins.cell_of_block V.pd 0
  have k5 := V.tb.f
  simp only [List.getElem?_toArray, List.getElem?_cons_zero] at k3 k4
  refine wp_loop_rounds 2 ?_
  rw [rounds_succ]
  go_wp2
  rw [rounds_succ]
  go_wp2
  go_end0
  exact ⟨rfl, V.tb.set rfl, V.off.setCell _ _⟩
theorem copy_4 (h : RcAt w b s I T) (h' : RcAt w c t J U) (hne : b ≠ c) (ha : actOf s = 4) (ha' : actOf t = 4) : Calls Try.prog 29 #[.pointer (some ⟨b, 0, none⟩), .pointer (some ⟨c, 0, none⟩)] w fun e w' => e = .returned (.tuple #[]) ∧ RcAt w' b {chg s t with ol := t.ol} I T ∧ Pk.Off b w w' := by
  have a3 := h.c3
  have a5 := h.c5
  have af := h.f
  have b3 := h'.c3
  have b5 := h'.c5
  have K := copy_start h h' hne
  clear h h'
  go_enter Try.func29, Try.ntmps29
  go_wp2
  go_region
  generalize ((w.setCell ⟨b, 3, none⟩ (.int .i64 t.pg)).setCell ⟨b, 5, none⟩ (.string t.ky)).drew = w1 at K ⊢
  obtain ⟨r1, q1, o1⟩ := K
  have hx : actOf (chg s t) = 4 := ha
  have C1 := values_4 q1 ha'
  have C2 : ∀ w2, w2 = w1.alloc (.cells #[.pointer (some ⟨c, 6, none⟩)] 73) → Calls Try.prog 41 #[.pointer (some ⟨b, 0, none⟩)] w2 fun e w' => e = .returned (.slice (some ⟨w1.heap.size + 1, 0, none⟩) 1 1) ∧ Vl w w' b c w1.heap.size (w1.heap.size + 1) (chg s t) t I T J U #[.pointer (some ⟨c, 6, none⟩)] #[.pointer (some ⟨b, 6, none⟩)] := fun w2 h2 => by
    have r2 := r1.below (show Below w1.heap.size w1 w2 by subst h2; exact (Below.refl _ _).alloc (Nat.le_refl _) _)
    refine (values_4 r2 hx).mono ?_
    rintro e w3 ⟨he, hw⟩
    have hz : w2.heap.size = w1.heap.size + 1 := by subst h2; simp
    have V := Vl.mk' r1 q1 o1 h2 hw
    rw [hz] at he V
    exact ⟨he, V⟩
  have D1 : Hid (∀ w2, w2 = w1 → Calls Try.prog 41 #[.pointer (some ⟨c, 0, none⟩)] w2 fun e w' => e = .returned (.slice (some ⟨w1.heap.size, 0, none⟩) 1 1) ∧ w' = w1.alloc (.cells #[.pointer (some ⟨c, 6, none⟩)] 73)) := fun w2 h2 => by subst h2; exact C1
  have D2 : Hid _ := C2
  clear C1 C2 r1 q1 o1 a3 a5 af b3 b5 ha ha' hx
  go_wp2_with (first | (go_at_call 41; refine (D1.out _ rfl).mono ?_; clear D1; rintro e w2 ⟨rfl, rfl⟩) | (go_at_call 41; refine (D2.out _ rfl).mono ?_; clear D2; rintro e w3 ⟨rfl, V⟩))
  have k1 := V.tb.c6
  have k2 := V.fc.c6
  have k3 := Joins.cell_of_block V.pg 0
  have k4 := Joins.cell_of_block V.pd 0
  have k5 := V.tb.f
  simp only [List.getElem?_toArray, List.getElem?_cons_zero] at k3 k4
  refine wp_loop_rounds 2 ?_
  rw [rounds_succ]
  go_wp2
  rw [rounds_succ]
  go_wp2
  go_end0
  exact ⟨rfl, V.tb.set rfl, V.off.setCell _ _⟩
theorem copy_o (h : RcAt w b s I T) (h' : RcAt w c t J U) (hne : b ≠ c) (h3 : actOf s ≠ 3) (h4 : actOf s ≠ 4) (ha : actOf t = actOf s) : Calls Try.prog 29 #[.pointer (some ⟨b, 0, none⟩), .pointer (some ⟨c, 0, none⟩)] w fun e w' => e = .returned (.tuple #[]) ∧ RcAt w' b {chg s t with ol := t.ol, nw := t.nw} I T ∧ Pk.Off b w w' := by
  have a3 := h.c3
  have a5 := h.c5
  have af := h.f
  have b3 := h'.c3
  have b5 := h'.c5
  have K := copy_start h h' hne
  clear h h'
  go_enter Try.func29, Try.ntmps29
  go_wp2
  go_region
  generalize ((w.setCell ⟨b, 3, none⟩ (.int .i64 t.pg)).setCell ⟨b, 5, none⟩ (.string t.ky)).drew = w1 at K ⊢
  obtain ⟨r1, q1, o1⟩ := K
  have hx3 : actOf (chg s t) ≠ 3 := h3
  have hx4 : actOf (chg s t) ≠ 4 := h4
  have C1 := values_o q1 (by rw [ha]; exact h3) (by rw [ha]; exact h4)
  have C2 : ∀ w2, w2 = w1.drew.alloc (.cells #[.pointer (some ⟨c, 6, none⟩), .pointer (some ⟨c, 7, none⟩)] 73) → Calls Try.prog 41 #[.pointer (some ⟨b, 0, none⟩)] w2 fun e w' => e = .returned (.slice (some ⟨w1.heap.size + 1, 0, none⟩) 2 2) ∧ Vl w w' b c w1.heap.size (w1.heap.size + 1) (chg s t) t I T J U #[.pointer (some ⟨c, 6, none⟩), .pointer (some ⟨c, 7, none⟩)] #[.pointer (some ⟨b, 6, none⟩), .pointer (some ⟨b, 7, none⟩)] := fun w2 h2 => by
    have r2 := r1.below (show Below w1.heap.size w1 w2 by subst h2; exact ((Below.refl _ _).drew).alloc (Nat.le_refl _) _)
    refine (values_o r2 hx3 hx4).mono ?_
    rintro e w3 ⟨he, hw⟩
    have hz : w2.heap.size = w1.heap.size + 1 := by subst h2; simp
    have V := Vl.mk2 r1 q1 o1 h2 hw
    rw [hz] at he V
    exact ⟨he, V⟩
  have D1 : Hid (∀ w2, w2 = w1 → Calls Try.prog 41 #[.pointer (some ⟨c, 0, none⟩)] w2 fun e w' => e = .returned (.slice (some ⟨w1.heap.size, 0, none⟩) 2 2) ∧ w' = w1.drew.alloc (.cells #[.pointer (some ⟨c, 6, none⟩), .pointer (some ⟨c, 7, none⟩)] 73)) := fun w2 h2 => by subst h2; exact C1
  have D2 : Hid _ := C2
  clear C1 C2 r1 q1 o1 a3 a5 af b3 b5 ha h3 h4 hx3 hx4
  go_wp2_with (first | (go_at_call 41; refine (D1.out _ rfl).mono ?_; clear D1; rintro e w2 ⟨rfl, rfl⟩) | (go_at_call 41; refine (D2.out _ rfl).mono ?_; clear D2; rintro e w3 ⟨rfl, V⟩))
  have k1 := V.tb.c6
  have k2 := V.fc.c6
  have k1' := V.tb.c7
  have k2' := V.fc.c7
  have k3 := Joins.cell_of_block V.pg 0
  have k4 := Joins.cell_of_block V.pd 0
  have k3' := Joins.cell_of_block V.pg 1
  have k4' := Joins.cell_of_block V.pd 1
  have k5 := V.tb.f
  simp only [List.getElem?_toArray, List.getElem?_cons_zero, List.getElem?_cons_succ] at k3 k4 k3' k4'
  refine wp_loop_rounds 3 ?_
  rw [rounds_succ]
  go_wp2
  rw [rounds_succ]
  go_wp2
  rw [rounds_succ]
  go_wp2
  go_end0
  exact ⟨rfl, (V.tb.set (k := 6) (s' := {chg s t with ol := t.ol}) (I' := I) (T' := T) rfl).set rfl, (V.off.setCell _ _).setCell _ _⟩
/-- What copyChange leaves. -/
def copyS (s t : Sc) : Sc := {s with pg := t.pg, ky := t.ky, ol := if actOf t = 3 then s.ol else t.ol, nw := if actOf t = 4 then s.nw else t.nw}
theorem copy_any (h : RcAt w b s I T) (h' : RcAt w c t J U) (hne : b ≠ c) (ha : actOf t = actOf s) : Calls Try.prog 29 #[.pointer (some ⟨b, 0, none⟩), .pointer (some ⟨c, 0, none⟩)] w fun e w' => e = .returned (.tuple #[]) ∧ RcAt w' b (copyS s t) I T ∧ Pk.Off b w w' := by
  unfold copyS
  by_cases h3 : actOf s = 3
  · rw [ha, if_pos h3, if_neg (by rw [h3]; decide)]
    exact copy_3 h h' hne h3 (ha.trans h3)
  · by_cases h4 : actOf s = 4
    · rw [ha, if_neg h3, if_pos h4]
      exact copy_4 h h' hne h4 (ha.trans h4)
    · rw [ha, if_neg h3, if_neg h4]
      exact copy_o h h' hne h3 h4 ha
end
end Go.Proofs.Ytakdfdnndogaiaa
