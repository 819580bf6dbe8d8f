/- RecPages: the walk, of any record. -/
import Derived.Test.YtakdfdnndogaiaaLwPag
namespace Go.Proofs.Ytakdfdnndogaiaa
open Go.RowKit
set_option linter.unusedVariables false
set_option linter.unusedSimpArgs false
set_option maxRecDepth 100000

theorem OwnI.mono {B B' : Nat} {w : World} {v : Value} {ps : List Int} (h : OwnI B w v ps) (hb : B' ≤ B) : OwnI B' w v ps := by
  obtain ⟨h1, h2⟩ := h.row
  refine ⟨h1, ?_⟩
  rcases h2 with h2 | ⟨g, cap, cur, e, hB, hg⟩
  · exact Or.inl h2
  · exact Or.inr ⟨g, cap, cur, e, Nat.le_trans hb hB, hg⟩
theorem pages_walk {w : World} {v : Value} {m : Rm} (h : RecV w v m) (hh : Held m) : Calls Try.prog 8 #[v] w fun e w' => e = .returned (.bool true) ∧ Below w.heap.size w w' := by
  have hsm := hh.few
  have CF : Hid (∀ wx, Calls Try.prog 9 #[v] wx fun e w' => (∃ v', e = .returned v' ∧ RecV w v' (fewM m)) ∧ Below wx.heap.size wx w') := fun wx => Few_any h hh.im hh.tb
  generalize fewM m = m' at *
  obtain ⟨I0, T0, rfl, _⟩ := h.ex
  obtain ⟨s, l, g⟩ := m'
  have CP : Hid (∀ wx v', RecV wx v' ⟨s, l, g⟩ → Below w.heap.size w wx → Calls Try.prog 20 #[v'] wx fun r w' => (∃ v, r = .returned v ∧ OwnI w.heap.size w' v (pagesM ⟨s, l, g⟩)) ∧ Below wx.heap.size wx w') := fun wx v' h' hb => by
    refine (Pages_any h' hsm.im).mono ?_
    rintro e w' ⟨⟨v, he, hO⟩, hb'⟩
    exact ⟨⟨v, he, hO.mono hb.size⟩, hb'⟩
  have CK : Hid (∀ wx, Calls Try.prog 12 #[] wx fun e w' => e = .returned (.bool true) ∧ Below wx.heap.size wx w') := fun wx => awake_any wx
  have hn : l.length ≤ 1000 := hsm.im
  by_cases h1 : s.kd = 1
  · exact pages_1 h1 hn (by unfold Hid pagesM; dsimp only; rw [if_pos (by omega)]) CF CP (fun wx I T => Back_o (by omega) (by omega) (by omega)) CK
  by_cases h2 : s.kd = 2
  · exact pages_2 h2 hn (by unfold Hid pagesM; dsimp only; rw [if_pos (by omega)]) CF CP (fun wx I T => Back_o (by omega) (by omega) (by omega)) CK
  by_cases h3 : s.kd = 3
  · exact pages_3 h3 hn (by unfold Hid pagesM; dsimp only; rw [if_neg (by omega), if_pos (by omega)]) CF CP (fun wx I T => Back_3 h3) CK
  by_cases h4 : s.kd = 4
  · exact pages_4 h4 hn (by unfold Hid pagesM; dsimp only; rw [if_neg (by omega), if_pos (by omega)]) CF CP (fun wx I T => Back_4 h4) CK
  by_cases h5 : s.kd = 5
  · exact pages_5 h5 hn (by unfold Hid pagesM; dsimp only; rw [if_neg (by omega), if_pos (by omega)]) CF CP (fun wx I T => Back_5 h5) CK
  by_cases h6 : s.kd = 6
  · exact pages_6 h6 hn (by unfold Hid pagesM; dsimp only; rw [if_neg (by omega), if_pos (by omega)]) CF CP (fun wx I T => Back_o h3 h4 h5) CK
  by_cases hlo : s.kd < 1
  · exact pages_lo hlo hn (by unfold Hid pagesM; dsimp only; rw [if_neg (by omega), if_neg (by omega)]) CF CP (fun wx I T => Back_o h3 h4 h5) CK
  · exact pages_hi (by omega) hn (by unfold Hid pagesM; dsimp only; rw [if_neg (by omega), if_neg (by omega)]) CF CP (fun wx I T => Back_o h3 h4 h5) CK
end Go.Proofs.Ytakdfdnndogaiaa
