/- The document's put, text and change, as steps of one state. -/
import Derived.Test.YtakdfdnndogaiaaRfPut
import Derived.Test.YtakdfdnndogaiaaRxRow
namespace Go.Proofs.Ytakdfdnndogaiaa
open Go.RowKit
set_option linter.unusedVariables false
set_option linter.unusedSimpArgs false
set_option maxRecDepth 100000

theorem stepW_err {A : ByteArray × Int} {n k : Int} (h : (stepW A n k).2 = 0) : A.2 = 0 := by
  rcases Classical.em (A.2 = 0) with h0 | h0
  · exact h0
  · obtain ⟨a, e⟩ := A
    rw [stepW_had h0] at h
    exact h
theorem stepT_err {A : ByteArray × Int} {t : ByteArray} (h : (stepT A t).2 = 0) : A.2 = 0 := by
  rcases Classical.em (A.2 = 0) with h0 | h0
  · exact h0
  · obtain ⟨a, e⟩ := A
    rw [stepT_had h0] at h
    exact h
/-- What is laid, or the error; e0: the error that stood ahead. -/
structure Stt (e0 : Int) (A : ByteArray × Int) (j : Nat) : Prop where
  bare : Bare A
  sz : A.1.size ≤ j
  er : A.2 = 0 → e0 = 0
section
variable {e0 : Int} {A : ByteArray × Int} {j : Nat}
theorem Stt.start (e0 : Int) : Stt e0 (⟨#[]⟩, e0) 0 := ⟨fun _ => rfl, Nat.le_refl _, fun h => h⟩
theorem Stt.stepW (h : Stt e0 A j) (n k : Int) : Stt e0 (stepW A n k) (j + 6) := ⟨h.bare.stepW n k, by have := stepW_size A n k; have := h.sz; omega, fun e => h.er (stepW_err e)⟩
theorem Stt.stepT (h : Stt e0 A j) (t : ByteArray) : Stt e0 (stepT A t) (j + 65537) := ⟨h.bare.stepT t, by have := stepT_size A t; have := h.sz; omega, fun e => h.er (stepT_err e)⟩
theorem Stt.mono {j' : Nat} (h : Stt e0 A j) (hj : j ≤ j') : Stt e0 A j' := ⟨h.bare, Nat.le_trans h.sz hj, h.er⟩
theorem Stt.put (h : Stt e0 A j) (hj : j ≤ 10000000000) (n k : Int) (hk : 1 ≤ k) (hk6 : k ≤ 6) (w : World) : Calls Try.prog 25 #[.string A.1, .int .i64 n, .int .i64 k, .int .i64 A.2] w fun e w' => e = .returned (.tuple #[.string (Go.Proofs.Ytakdfdnndogaiaa.stepW A n k).1, .int .i64 (Go.Proofs.Ytakdfdnndogaiaa.stepW A n k).2]) ∧ Stt e0 (Go.Proofs.Ytakdfdnndogaiaa.stepW A n k) (j + 6) ∧ Below w.heap.size w w' := by
  obtain ⟨q, rfl⟩ : ∃ q : Nat, k = q := ⟨k.toNat, by omega⟩
  have hz := h.sz
  exact (rput_any A n q w h.bare (by omega) (by omega) (by omega)).mono fun e w' ⟨he, hb⟩ => ⟨he, h.stepW n q, hb⟩
theorem Stt.text (h : Stt e0 A j) (hj : j ≤ 10000000000) (t : ByteArray) (ht : e0 = 0 → t.size ≤ 1000) (w : World) : Calls Try.prog 26 #[.string A.1, .string t, .int .i64 A.2] w fun e w' => e = .returned (.tuple #[.string (Go.Proofs.Ytakdfdnndogaiaa.stepT A t).1, .int .i64 (Go.Proofs.Ytakdfdnndogaiaa.stepT A t).2]) ∧ Stt e0 (Go.Proofs.Ytakdfdnndogaiaa.stepT A t) (j + 65537) ∧ Below w.heap.size w w' := by
  have hz := h.sz
  exact (rtext_any A t w h.bare (by omega) (fun e => by have := ht (h.er e); omega)).mono fun e w' ⟨he, hb⟩ => ⟨he, h.stepT t, hb⟩
end
theorem layI_had (l : List Im) {e : Int} (h : e ≠ 0) : layI l (⟨#[]⟩, e) = (⟨#[]⟩, e) := by
  induction l with
  | nil => rfl
  | cons p r ih =>
    show layI r (stepT (stepW (⟨#[]⟩, e) p.1 2) p.2) = _
    rw [stepW_had h, stepT_had h, ih]
theorem layB_had (l : List Tb) {e : Int} (h : e ≠ 0) : layB l (⟨#[]⟩, e) = (⟨#[]⟩, e) := by
  induction l with
  | nil => rfl
  | cons p r ih =>
    show layB r (stepW (stepW (⟨#[]⟩, e) p.1 6) p.2 6) = _
    rw [stepW_had h, stepW_had h, ih]
theorem layC_had (s : Sc) {e : Int} (h : e ≠ 0) : layC s (⟨#[]⟩, e) = (⟨#[]⟩, e) := by
  unfold layC layV
  rw [stepW_had h, stepT_had h, stepT_had h, stepT_had h, stepT_had h]
  split
  · rfl
  · split <;> rfl
theorem laidF_had (m : Rm) {e : Int} (h : e ≠ 0) : laidF m (⟨#[]⟩, e) = (⟨#[]⟩, e) := by
  unfold laidF
  dsimp only [layP, List.foldl]
  simp only [stepW_had h, layI_had _ h, layB_had _ h, layC_had _ h]
  repeat' split
  all_goals rfl
section
variable {w : World} {s : Sc} {I T : Value} {e0 : Int} {A : ByteArray × Int} {j : Nat}
set_option maxHeartbeats 1000000 in
theorem rchange_3 (h : Stt e0 A j) (hj : j ≤ 1000000000) (hy : e0 = 0 → s.ky.size ≤ 1000) (ho : e0 = 0 → s.ol.size ≤ 1000) (hw : e0 = 0 → s.nw.size ≤ 1000) :
    Calls Try.prog 27 #[.string A.1, .agg (s.A I T), .int .i64 3, .int .i64 A.2] w fun e w' => e = .returned (.tuple #[.string (stepT (stepT (stepW A s.pg 2) s.ky) s.nw).1, .int .i64 (stepT (stepT (stepW A s.pg 2) s.ky) s.nw).2]) ∧ Stt e0 (stepT (stepT (stepW A s.pg 2) s.ky) s.nw) (j + 300000) ∧ Below w.heap.size w w' := by
  go_enter Try.func27, Try.ntmps27
  go_wp2_with (first
    | (refine wpList_box_rc (s := s) (I := _) (T := _) _ rfl _ rfl rfl ?_; intro w0 b0 N0; have R := N0.rc; have B := N0.below; clear N0; have k3 := R.c3)
    | (go_at_call 25; refine (h.put (by omega) _ _ (by omega) (by omega) _).mono ?_; clear h; rintro e w1 ⟨rfl, h1, b1⟩; have R1 := R.below b1; have B1 := thn B b1; clear R B; have R := R1; have B := B1; clear R1 B1 b1; have k5 := R.c5)
    | (go_at_call 26; refine (h1.text (by omega) _ hy _).mono ?_; clear h1; rintro e w1 ⟨rfl, h2, b1⟩; have R1 := R.below b1; have B1 := thn B b1; clear R B; have R := R1; have B := B1; clear R1 B1 b1; have k7 := R.c7)
    | (go_at_call 26; refine (h2.text (by omega) _ hw _).mono ?_; clear h2; rintro e w1 ⟨rfl, h3, b1⟩; have B1 := thn B b1; clear R B; have B := B1; clear B1 b1))
  go_ret2
  exact ⟨rfl, h3.mono (by omega), B⟩
set_option maxHeartbeats 1000000 in
theorem rchange_4 (h : Stt e0 A j) (hj : j ≤ 1000000000) (hy : e0 = 0 → s.ky.size ≤ 1000) (ho : e0 = 0 → s.ol.size ≤ 1000) (hw : e0 = 0 → s.nw.size ≤ 1000) :
    Calls Try.prog 27 #[.string A.1, .agg (s.A I T), .int .i64 4, .int .i64 A.2] w fun e w' => e = .returned (.tuple #[.string (stepT (stepT (stepW A s.pg 2) s.ky) s.ol).1, .int .i64 (stepT (stepT (stepW A s.pg 2) s.ky) s.ol).2]) ∧ Stt e0 (stepT (stepT (stepW A s.pg 2) s.ky) s.ol) (j + 300000) ∧ Below w.heap.size w w' := by
  go_enter Try.func27, Try.ntmps27
  go_wp2_with (first
    | (refine wpList_box_rc (s := s) (I := _) (T := _) _ rfl _ rfl rfl ?_; intro w0 b0 N0; have R := N0.rc; have B := N0.below; clear N0; have k3 := R.c3)
    | (go_at_call 25; refine (h.put (by omega) _ _ (by omega) (by omega) _).mono ?_; clear h; rintro e w1 ⟨rfl, h1, b1⟩; have R1 := R.below b1; have B1 := thn B b1; clear R B; have R := R1; have B := B1; clear R1 B1 b1; have k5 := R.c5)
    | (go_at_call 26; refine (h1.text (by omega) _ hy _).mono ?_; clear h1; rintro e w1 ⟨rfl, h2, b1⟩; have R1 := R.below b1; have B1 := thn B b1; clear R B; have R := R1; have B := B1; clear R1 B1 b1; have k7 := R.c6)
    | (go_at_call 26; refine (h2.text (by omega) _ ho _).mono ?_; clear h2; rintro e w1 ⟨rfl, h3, b1⟩; have B1 := thn B b1; clear R B; have B := B1; clear B1 b1))
  go_ret2
  exact ⟨rfl, h3.mono (by omega), B⟩
set_option maxHeartbeats 1000000 in
theorem rchange_o (act : Int) (h3 : act ≠ 3) (h4 : act ≠ 4) (h : Stt e0 A j) (hj : j ≤ 1000000000) (hy : e0 = 0 → s.ky.size ≤ 1000) (ho : e0 = 0 → s.ol.size ≤ 1000) (hw : e0 = 0 → s.nw.size ≤ 1000) :
    Calls Try.prog 27 #[.string A.1, .agg (s.A I T), .int .i64 act, .int .i64 A.2] w fun e w' => e = .returned (.tuple #[.string (stepT (stepT (stepT (stepW A s.pg 2) s.ky) s.ol) s.nw).1, .int .i64 (stepT (stepT (stepT (stepW A s.pg 2) s.ky) s.ol) s.nw).2]) ∧ Stt e0 (stepT (stepT (stepT (stepW A s.pg 2) s.ky) s.ol) s.nw) (j + 300000) ∧ Below w.heap.size w w' := by
  have n3 : (act != 3) = true := by simpa using h3
  have n4 : (act != 4) = true := by simpa using h4
  clear h3 h4
  go_enter Try.func27, Try.ntmps27
  go_wp2_with (first
    | (refine wpList_box_rc (s := s) (I := _) (T := _) _ rfl _ rfl rfl ?_; intro w0 b0 N0; have R := N0.rc; have B := N0.below; clear N0; have k3 := R.c3)
    | (go_at_call 25; refine (h.put (by omega) _ _ (by omega) (by omega) _).mono ?_; clear h; rintro e w1 ⟨rfl, h1, b1⟩; have R1 := R.below b1; have B1 := thn B b1; clear R B; have R := R1; have B := B1; clear R1 B1 b1; have k5 := R.c5)
    | (go_at_call 26; refine (h1.text (by omega) _ hy _).mono ?_; clear h1; rintro e w1 ⟨rfl, h2, b1⟩; have R1 := R.below b1; have B1 := thn B b1; clear R B; have R := R1; have B := B1; clear R1 B1 b1; have k6 := R.c6)
    | (go_at_call 26; refine (h2.text (by omega) _ ho _).mono ?_; clear h2; rintro e w1 ⟨rfl, h3, b1⟩; have R1 := R.below b1; have B1 := thn B b1; clear R B; have R := R1; have B := B1; clear R1 B1 b1; have k7 := R.c7)
    | (go_at_call 26; refine (h3.text (by omega) _ hw _).mono ?_; clear h3; rintro e w1 ⟨rfl, h4, b1⟩; have B1 := thn B b1; clear R B; have B := B1; clear B1 b1))
  go_ret2
  exact ⟨rfl, h4.mono (by omega), B⟩
theorem rchange_any (h : Stt e0 A j) (hj : j ≤ 1000000000) (hy : e0 = 0 → s.ky.size ≤ 1000) (ho : e0 = 0 → s.ol.size ≤ 1000) (hw : e0 = 0 → s.nw.size ≤ 1000) (act : Int) (ha : act = actOf s) :
    Calls Try.prog 27 #[.string A.1, .agg (s.A I T), .int .i64 act, .int .i64 A.2] w fun e w' => e = .returned (.tuple #[.string (layC s A).1, .int .i64 (layC s A).2]) ∧ Stt e0 (layC s A) (j + 300000) ∧ Below w.heap.size w w' := by
  unfold layC layV
  by_cases h3 : actOf s = 3
  · rw [if_pos h3, ha, h3]
    exact rchange_3 h hj hy ho hw
  · by_cases h4 : actOf s = 4
    · rw [if_neg h3, if_pos h4, ha, h4]
      exact rchange_4 h hj hy ho hw
    · rw [if_neg h3, if_neg h4]
      exact rchange_o act (by rw [ha]; exact h3) (by rw [ha]; exact h4) h hj hy ho hw
end
end Go.Proofs.Ytakdfdnndogaiaa
