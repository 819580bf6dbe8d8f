/- What a writer has behind a change: layChange. -/
import Derived.Test.YtakdfdnndogaiaaRxLay
namespace Go.Proofs.Ytakdfdnndogaiaa
open Go.RowKit
set_option linter.unusedVariables false
set_option linter.unusedSimpArgs false
set_option maxRecDepth 100000

/-- A record in block b0 beside a writer in block b. -/
structure LdS (w wx : World) (b0 b : Nat) (s : Sc) (I T : Value) (A : ByteArray × Int) (j : Nat) : Prop where
  rc : RcAt wx b0 s I T
  wS : WrS wx b A j
  ne : b0 ≠ b
  off : Pk.Off b w wx
section
variable {w wr wq : World} {b0 b j j' : Nat} {s : Sc} {I T : Value} {A A' : ByteArray × Int}
theorem LdS.step (h : LdS w wr b0 b s I T A j) (h' : WrS wq b A' j') (o : Pk.Off b wr wq) : LdS w wq b0 b s I T A' j' := ⟨h.rc.off o h.ne, h', h.ne, h.off.trans o⟩
theorem LdS.below (h : LdS w wr b0 b s I T A j) (hb : Below wr.heap.size wr wq) : LdS w wq b0 b s I T A j := ⟨h.rc.below hb, h.wS.below hb, h.ne, h.off.trans (Pk.Off.of_below hb)⟩
theorem LdS.num (h : LdS w wr b0 b s I T A j) (hj : j ≤ 1000000000000) (n k : Int) : Calls Try.prog 55 #[.pointer (some ⟨b, 0, none⟩), .int .i64 n, .int .i64 k] wr fun r w' => r = .returned (.tuple #[]) ∧ LdS w w' b0 b s I T (stepW A n k) (j + 6) :=
  (h.wS.num (by omega) n k).mono fun e w' ⟨he, h1, o1⟩ => ⟨he, h.step h1 o1⟩
theorem LdS.text (h : LdS w wr b0 b s I T A j) (hj : j ≤ 1000000000000) (t : ByteArray) (ht : t.size ≤ 140737488351232) : Calls Try.prog 68 #[.pointer (some ⟨b, 0, none⟩), .string t] wr fun r w' => r = .returned (.tuple #[]) ∧ LdS w w' b0 b s I T (stepT A t) (j + 65537) :=
  (h.wS.text (by omega) t ht).mono fun e w' ⟨he, h1, o1⟩ => ⟨he, h.step h1 o1⟩
/-- The same, and the pointers to the values in block g. -/
structure LvS (w wx : World) (b0 b : Nat) (s : Sc) (I T : Value) (A : ByteArray × Int) (j g : Nat) (P : Array Value) : Prop where
  ld : LdS w wx b0 b s I T A j
  pg : wx.heap[g]? = some (.cells P 73)
  ne : g ≠ b
theorem LvS.text {g : Nat} {P : Array Value} (h : LvS w wr b0 b s I T A j g P) (hj : j ≤ 1000000000000) (t : ByteArray) (ht : t.size ≤ 140737488351232) : Calls Try.prog 68 #[.pointer (some ⟨b, 0, none⟩), .string t] wr fun r w' => r = .returned (.tuple #[]) ∧ LvS w w' b0 b s I T (stepT A t) (j + 65537) g P :=
  (h.ld.wS.text (by omega) t ht).mono fun e w' ⟨he, h1, o1⟩ => ⟨he, h.ld.step h1 o1, (o1.block g (Array.getElem?_eq_some_iff.1 h.pg).1 h.ne).trans h.pg, h.ne⟩
end
section
variable {w : World} {b j : Nat} {s : Sc} {I T : Value} {A : ByteArray × Int}
set_option maxHeartbeats 1000000 in
theorem layChange_3 (h : WrS w b A j) (hj : j ≤ 100000000000) (ha : actOf s = 3) (hk : s.ky.size ≤ 1000) (ho : s.ol.size ≤ 1000) (hw : s.nw.size ≤ 1000) :
    Calls Try.prog 58 #[.pointer (some ⟨b, 0, none⟩), .agg (s.A I T)] w fun r w' => r = .returned (.tuple #[]) ∧ WrS w' b (stepT (stepT (stepW A s.pg 2) s.ky) s.nw) (j + 300000) ∧ Pk.Off b w w' := by
  have hk' : s.ky.size ≤ 140737488351232 := by omega
  have ho' : s.ol.size ≤ 140737488351232 := by omega
  have hw' : s.nw.size ≤ 140737488351232 := by omega
  have hbl := h.lt
  have CV : Hid (∀ wr A' j', LdS w wr w.heap.size b s I T A' j' → Calls Try.prog 41 #[.pointer (some ⟨w.heap.size, 0, none⟩)] wr fun e w' => ∃ g, e = .returned (.slice (some ⟨g, 0, none⟩) 1 1) ∧ LvS w w' w.heap.size b s I T A' j' g #[.pointer (some ⟨w.heap.size, 7, none⟩)]) := fun wr A' j' H => by
    refine (values_3 H.rc ha).mono ?_
    rintro e w' ⟨he, hw'⟩
    refine ⟨wr.heap.size, he, ?_⟩
    subst hw'
    refine ⟨H.below ((Below.refl _ _).alloc (Nat.le_refl _) _), (MapKept.heap_alloc wr _).1, by have := H.wS.lt; omega⟩
  clear hk ho hw
  go_enter Try.func58, Try.ntmps58
  go_wp2_with (first
    | (refine wpList_box_rc (s := s) (I := I) (T := T) _ rfl _ rfl rfl ?_; intro w0 b0 N0; obtain rfl := N0.eq; have L : LdS w w0 w.heap.size b s I T A j := ⟨N0.rc, h.below N0.below, (fun e => absurd e (by omega)), Pk.Off.of_below N0.below⟩; clear N0; have k3 := L.rc.c3; have k5 := L.rc.c5)
    | (go_at_call 55; refine (L.num (by omega) _ _).mono ?_; clear L; rintro e w2 ⟨rfl, L⟩; have k5 := L.rc.c5)
    | (go_at_call 68; refine (L.text (by omega) _ hk').mono ?_; clear L; rintro e w3 ⟨rfl, L⟩)
    | (go_at_call 41; refine (CV.out _ _ _ L).mono ?_; clear L; rintro e w4 ⟨g, rfl, LV⟩; have f7 := LV.ld.rc.c7; have g0 := Joins.cell_of_block LV.pg 0; simp only [List.getElem?_toArray, List.getElem?_cons_zero, List.getElem?_cons_succ] at g0))
  refine wp_loop_rounds 2 ?_
  rw [rounds_succ]
  go_wp2_with (go_at_call 68; refine (LV.text (by omega) _ (by assumption)).mono ?_; clear LV; rintro e w4 ⟨rfl, LV⟩; have f7 := LV.ld.rc.c7; have g0 := Joins.cell_of_block LV.pg 0; simp only [List.getElem?_toArray, List.getElem?_cons_zero, List.getElem?_cons_succ] at g0)
  rw [rounds_succ]
  go_wp2
  go_end0
  exact ⟨rfl, ⟨LV.ld.wS.wr, Nat.le_trans LV.ld.wS.sz (by omega)⟩, LV.ld.off⟩
set_option maxHeartbeats 1000000 in
theorem layChange_4 (h : WrS w b A j) (hj : j ≤ 100000000000) (ha : actOf s = 4) (hk : s.ky.size ≤ 1000) (ho : s.ol.size ≤ 1000) (hw : s.nw.size ≤ 1000) :
    Calls Try.prog 58 #[.pointer (some ⟨b, 0, none⟩), .agg (s.A I T)] w fun r w' => r = .returned (.tuple #[]) ∧ WrS w' b (stepT (stepT (stepW A s.pg 2) s.ky) s.ol) (j + 300000) ∧ Pk.Off b w w' := by
  have hk' : s.ky.size ≤ 140737488351232 := by omega
  have ho' : s.ol.size ≤ 140737488351232 := by omega
  have hw' : s.nw.size ≤ 140737488351232 := by omega
  have hbl := h.lt
  have CV : Hid (∀ wr A' j', LdS w wr w.heap.size b s I T A' j' → Calls Try.prog 41 #[.pointer (some ⟨w.heap.size, 0, none⟩)] wr fun e w' => ∃ g, e = .returned (.slice (some ⟨g, 0, none⟩) 1 1) ∧ LvS w w' w.heap.size b s I T A' j' g #[.pointer (some ⟨w.heap.size, 6, none⟩)]) := fun wr A' j' H => by
    refine (values_4 H.rc ha).mono ?_
    rintro e w' ⟨he, hw'⟩
    refine ⟨wr.heap.size, he, ?_⟩
    subst hw'
    refine ⟨H.below ((Below.refl _ _).alloc (Nat.le_refl _) _), (MapKept.heap_alloc wr _).1, by have := H.wS.lt; omega⟩
  clear hk ho hw
  go_enter Try.func58, Try.ntmps58
  go_wp2_with (first
    | (refine wpList_box_rc (s := s) (I := I) (T := T) _ rfl _ rfl rfl ?_; intro w0 b0 N0; obtain rfl := N0.eq; have L : LdS w w0 w.heap.size b s I T A j := ⟨N0.rc, h.below N0.below, (fun e => absurd e (by omega)), Pk.Off.of_below N0.below⟩; clear N0; have k3 := L.rc.c3; have k5 := L.rc.c5)
    | (go_at_call 55; refine (L.num (by omega) _ _).mono ?_; clear L; rintro e w2 ⟨rfl, L⟩; have k5 := L.rc.c5)
    | (go_at_call 68; refine (L.text (by omega) _ hk').mono ?_; clear L; rintro e w3 ⟨rfl, L⟩)
    | (go_at_call 41; refine (CV.out _ _ _ L).mono ?_; clear L; rintro e w4 ⟨g, rfl, LV⟩; have f6 := LV.ld.rc.c6; have g0 := Joins.cell_of_block LV.pg 0; simp only [List.getElem?_toArray, List.getElem?_cons_zero, List.getElem?_cons_succ] at g0))
  refine wp_loop_rounds 2 ?_
  rw [rounds_succ]
  go_wp2_with (go_at_call 68; refine (LV.text (by omega) _ (by assumption)).mono ?_; clear LV; rintro e w4 ⟨rfl, LV⟩; have f6 := LV.ld.rc.c6; have g0 := Joins.cell_of_block LV.pg 0; simp only [List.getElem?_toArray, List.getElem?_cons_zero, List.getElem?_cons_succ] at g0)
  rw [rounds_succ]
  go_wp2
  go_end0
  exact ⟨rfl, ⟨LV.ld.wS.wr, Nat.le_trans LV.ld.wS.sz (by omega)⟩, LV.ld.off⟩
set_option maxHeartbeats 1000000 in
theorem layChange_o (h : WrS w b A j) (hj : j ≤ 100000000000) (h3 : actOf s ≠ 3) (h4 : actOf s ≠ 4) (hk : s.ky.size ≤ 1000) (ho : s.ol.size ≤ 1000) (hw : s.nw.size ≤ 1000) :
    Calls Try.prog 58 #[.pointer (some ⟨b, 0, none⟩), .agg (s.A I T)] w fun r w' => r = .returned (.tuple #[]) ∧ WrS w' b (stepT (stepT (stepT (stepW A s.pg 2) s.ky) s.ol) s.nw) (j + 300000) ∧ Pk.Off b w w' := by
  have hk' : s.ky.size ≤ 140737488351232 := by omega
  have ho' : s.ol.size ≤ 140737488351232 := by omega
  have hw' : s.nw.size ≤ 140737488351232 := by omega
  have hbl := h.lt
  have CV : Hid (∀ wr A' j', LdS w wr w.heap.size b s I T A' j' → Calls Try.prog 41 #[.pointer (some ⟨w.heap.size, 0, none⟩)] wr fun e w' => ∃ g, e = .returned (.slice (some ⟨g, 0, none⟩) 2 2) ∧ LvS w w' w.heap.size b s I T A' j' g #[.pointer (some ⟨w.heap.size, 6, none⟩), .pointer (some ⟨w.heap.size, 7, none⟩)]) := fun wr A' j' H => by
    refine (values_o H.rc h3 h4).mono ?_
    rintro e w' ⟨he, hw'⟩
    refine ⟨wr.heap.size, he, ?_⟩
    subst hw'
    refine ⟨H.below (((Below.refl _ _).drew).alloc (Nat.le_refl _) _), (MapKept.heap_alloc wr.drew _).1, by have := H.wS.lt; omega⟩
  clear hk ho hw
  go_enter Try.func58, Try.ntmps58
  go_wp2_with (first
    | (refine wpList_box_rc (s := s) (I := I) (T := T) _ rfl _ rfl rfl ?_; intro w0 b0 N0; obtain rfl := N0.eq; have L : LdS w w0 w.heap.size b s I T A j := ⟨N0.rc, h.below N0.below, (fun e => absurd e (by omega)), Pk.Off.of_below N0.below⟩; clear N0; have k3 := L.rc.c3; have k5 := L.rc.c5)
    | (go_at_call 55; refine (L.num (by omega) _ _).mono ?_; clear L; rintro e w2 ⟨rfl, L⟩; have k5 := L.rc.c5)
    | (go_at_call 68; refine (L.text (by omega) _ hk').mono ?_; clear L; rintro e w3 ⟨rfl, L⟩)
    | (go_at_call 41; refine (CV.out _ _ _ L).mono ?_; clear L; rintro e w4 ⟨g, rfl, LV⟩; have f6 := LV.ld.rc.c6; have f7 := LV.ld.rc.c7; have g0 := Joins.cell_of_block LV.pg 0; simp only [List.getElem?_toArray, List.getElem?_cons_zero, List.getElem?_cons_succ] at g0; have g1 := Joins.cell_of_block LV.pg 1; simp only [List.getElem?_toArray, List.getElem?_cons_zero, List.getElem?_cons_succ] at g1))
  refine wp_loop_rounds 3 ?_
  rw [rounds_succ]
  go_wp2_with (go_at_call 68; refine (LV.text (by omega) _ (by assumption)).mono ?_; clear LV; rintro e w4 ⟨rfl, LV⟩; have f6 := LV.ld.rc.c6; have f7 := LV.ld.rc.c7; have g0 := Joins.cell_of_block LV.pg 0; simp only [List.getElem?_toArray, List.getElem?_cons_zero, List.getElem?_cons_succ] at g0; have g1 := Joins.cell_of_block LV.pg 1; simp only [List.getElem?_toArray, List.getElem?_cons_zero, List.getElem?_cons_succ] at g1)
  rw [rounds_succ]
  go_wp2_with (go_at_call 68; refine (LV.text (by omega) _ (by assumption)).mono ?_; clear LV; rintro e w4 ⟨rfl, LV⟩; have f6 := LV.ld.rc.c6; have f7 := LV.ld.rc.c7; have g0 := Joins.cell_of_block LV.pg 0; simp only [List.getElem?_toArray, List.getElem?_cons_zero, List.getElem?_cons_succ] at g0; have g1 := Joins.cell_of_block LV.pg 1; simp only [List.getElem?_toArray, List.getElem?_cons_zero, List.getElem?_cons_succ] at g1)
  rw [rounds_succ]
  go_wp2
  go_end0
  exact ⟨rfl, ⟨LV.ld.wS.wr, Nat.le_trans LV.ld.wS.sz (by omega)⟩, LV.ld.off⟩
theorem layChange_any (h : WrS w b A j) (hj : j ≤ 100000000000) (hk : s.ky.size ≤ 1000) (ho : s.ol.size ≤ 1000) (hw : s.nw.size ≤ 1000) :
    Calls Try.prog 58 #[.pointer (some ⟨b, 0, none⟩), .agg (s.A I T)] w fun r w' => r = .returned (.tuple #[]) ∧ WrS w' b (layC s A) (j + 300000) ∧ Pk.Off b w w' := by
  unfold layC layV
  by_cases h3 : actOf s = 3
  · rw [if_pos h3]
    exact layChange_3 h hj h3 hk ho hw
  · by_cases h4 : actOf s = 4
    · rw [if_neg h3, if_pos h4]
      exact layChange_4 h hj h4 hk ho hw
    · rw [if_neg h3, if_neg h4]
      exact layChange_o h hj h3 h4 hk ho hw
end
end Go.Proofs.Ytakdfdnndogaiaa
