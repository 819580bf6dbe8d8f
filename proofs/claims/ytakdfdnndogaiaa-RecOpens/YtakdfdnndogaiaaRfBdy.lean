/- The document's Body, of any record. -/
import Derived.Test.YtakdfdnndogaiaaRfBdL
import Derived.Test.YtakdfdnndogaiaaRfAhd
import Derived.Test.YtakdfdnndogaiaaRfCln
namespace Go.Proofs.Ytakdfdnndogaiaa
open Go.RowKit
set_option linter.unusedVariables false
set_option linter.unusedSimpArgs false
set_option maxRecDepth 100000

theorem finM_body (m : Rm) : finM (laidF m (⟨#[]⟩, refM m)) = bodyM m := by
  by_cases hr : refM m = 0
  · rw [hr]
    have hB := Bare.laidF bare0 m
    show finM (laidM m) = _
    by_cases he : (laidM m).2 = 0
    · by_cases hl : 4096 < (laidM m).1.size
      · rw [finM_long he hl, bodyM_long hr he hl]
      · rw [finM_good hl, bodyM_good hr he hl]
        exact Prod.ext rfl he
    · rw [finM_err he, bodyM_err hr he]
      exact Prod.ext (hB he) rfl
  · rw [laidF_had m hr, finM_err hr, bodyM_ref hr]
theorem clean_texts (m : Rm) (h : refM (cleanM m) = 0) : (cleanM m).s.ky.size ≤ 1000 ∧ (cleanM m).s.ol.size ≤ 1000 ∧ (cleanM m).s.nw.size ≤ 1000 := by
  have f := fine_of h
  have h1 := f.ky
  have h2 := f.ol
  have h3 := f.nw
  omega
theorem clean_bare (m : Rm) (h : (cleanM m).s.kd = 1 ∨ (cleanM m).s.kd = 2) : (cleanM m).s.ky.size = 0 ∧ (cleanM m).s.ol.size = 0 ∧ (cleanM m).s.nw.size = 0 := by
  have e : (cleanM m).s.kd = m.s.kd := cleanS_kd m.s
  rw [e] at h
  have : (cleanM m).s = ⟨m.s.kd, 0, 0, 0, 0, ⟨#[]⟩, ⟨#[]⟩, ⟨#[]⟩, 0, 0, 0⟩ := by
    unfold cleanM cleanS
    dsimp only
    rw [if_neg (by omega), if_neg (by omega), if_neg (by omega)]
  rw [this]
  exact ⟨rfl, rfl, rfl⟩
theorem rbody_any {w : World} {v : Value} {m : Rm} (h : RecV w v m) (hs : Small m) : Calls Try.prog 11 #[v] w fun r w' => r = .returned (.tuple #[.string (bodyM (cleanM m)).1, .int .i64 (bodyM (cleanM m)).2]) ∧ Below w.heap.size w w' := by
  have hs' := hs.clean
  have hv := h
  obtain ⟨I, T, rfl, hI, hT⟩ := h.ex
  have hb := clean_bare m
  have CC : Hid (∀ w', Below w.heap.size w w' → Calls Try.prog 16 #[.agg (m.s.A I T)] w' fun e w'' => (∃ v', e = .returned v' ∧ RecV w'' v' (cleanM m)) ∧ Below w'.heap.size w' w'') := fun w' hb => rclean_any (hv.below hb)
  have CA : Hid (∀ w' v', RecV w' v' (cleanM m) → Calls Try.prog 24 #[v'] w' fun r w'' => r = .returned (.int .i64 (refM (cleanM m))) ∧ Below w'.heap.size w' w'') := fun w' v' h' => ahead_any h' hs'.im hs'.t hs'.ky hs'.ol hs'.nw hb
  have hy : refM (cleanM m) = 0 → (cleanM m).s.ky.size ≤ 1000 := fun e => (clean_texts m e).1
  have ho : refM (cleanM m) = 0 → (cleanM m).s.ol.size ≤ 1000 := fun e => (clean_texts m e).2.1
  have hw : refM (cleanM m) = 0 → (cleanM m).s.nw.size ≤ 1000 := fun e => (clean_texts m e).2.2
  have hx : refM (cleanM m) = 0 → ((cleanM m).s.kd = 1 ∨ (cleanM m).s.kd = 2) → ∀ p ∈ (cleanM m).im, p.2.size ≤ 1000 := fun e k => (fine_of e).texts k
  have hn := hs'.im
  have hg := hs'.tb
  rw [← finM_body]
  have hu : (cleanM m).s.kd < 1 ∨ 10 < (cleanM m).s.kd → refM (cleanM m) = 1 := by
    intro e; unfold refM; rw [if_pos e]
  generalize refM (cleanM m) = e0 at *
  generalize cleanM m = c at *
  obtain ⟨s, l, g⟩ := c
  dsimp only at *
  unfold laidF
  dsimp only
  by_cases h1 : s.kd = 1
  · rw [if_pos (Or.inl h1)]
    exact rbody_1 h1 CC CA hy ho hw hn (fun e => hx e (Or.inl h1))
  by_cases h2 : s.kd = 2
  · rw [if_pos (Or.inr h2)]
    exact rbody_2 h2 CC CA hy ho hw hn (fun e => hx e (Or.inr h2))
  rw [if_neg (by omega)]
  by_cases h3 : s.kd = 3
  · rw [if_pos (by omega)]
    exact rbody_3 h3 CC CA hy ho hw
  by_cases h4 : s.kd = 4
  · rw [if_pos (by omega)]
    exact rbody_4 h4 CC CA hy ho hw
  by_cases h5 : s.kd = 5
  · rw [if_pos (by omega)]
    exact rbody_5 h5 CC CA hy ho hw
  rw [if_neg (by omega)]
  by_cases h6 : s.kd = 6
  · rw [if_pos h6]
    exact rbody_6 h6 CC CA hy ho hw
  rw [if_neg h6]
  by_cases h7 : s.kd = 7
  · rw [if_pos (by omega)]
    exact rbody_7 h7 CC CA hy ho hw
  by_cases h8 : s.kd = 8
  · rw [if_pos (by omega)]
    exact rbody_8 h8 CC CA hy ho hw
  rw [if_neg (by omega)]
  by_cases h9 : s.kd = 9
  · rw [if_pos h9]
    exact rbody_9 h9 CC CA hy ho hw hg
  rw [if_neg h9]
  by_cases h10 : s.kd = 10
  · rw [if_pos h10]
    exact rbody_10 h10 CC CA hy ho hw
  rw [if_neg h10]
  have e1 := hu (by omega)
  have hne : e0 ≠ 0 := by omega
  by_cases hlo : s.kd < 1
  · have := rbody_lo hlo CC CA hy ho hw
    rw [stepW_had hne, stepW_had hne, stepW_had hne, layC_had _ hne] at this
    rw [stepW_had hne]
    exact this
  · have := rbody_hi (show 10 < s.kd by omega) CC CA hy ho hw
    rw [stepW_had hne, stepW_had hne, stepW_had hne] at this
    rw [stepW_had hne]
    exact this
end Go.Proofs.Ytakdfdnndogaiaa
