/- The law's own reading of bytes as a page: cells, of whatever bytes. -/
import Derived.Test.YtmoognjegjeegaaLCeA
import Derived.Test.YtmoognjegjeegaaLCeB
import Derived.Test.YtmoognjegjeegaaLCeC
namespace Go.Proofs.Ytmoognjegjeegaa
open Go.RowKit
set_option linter.unusedVariables false
set_option linter.unusedSimpArgs false
set_option maxRecDepth 100000

theorem lcells_any (w : World) (p : ByteArray) (hp : p.size = 224) (hd : Head (bts p)) : Calls Try.prog 9 #[.string p] w fun e w' => LA w' e (bts p) ∧ Below w.heap.size w w' := by
  have hlev := hd.level
  have hfree := hd.free
  by_cases h2 : g (bts p) 0 = 2
  · exact lcells_A w p hp hd (by simp; omega) (by simp; omega)
  · by_cases h0 : g (bts p) 0 = 0
    · exact lcells_B w p hp hd (by simp; omega) (by simp; omega) (by simp; omega) (by have := hfree h0; simp; omega)
    · exact lcells_C w p hp hd (by simp; omega) (by simp; omega) (by simp; omega)
theorem lcells_right (w : World) (p : ByteArray) (h : Right (bts p)) : Calls Try.prog 9 #[.string p] w fun e w' => ∃ a cap, e = .returned (.tuple #[.slice a (cnt (bts p)) cap, .bool true]) ∧ Sl w' a cap (cells (bts p)) ∧ Below w.heap.size w w' := by
  refine (lcells_any w p h.size h.head).mono ?_
  rintro e w' ⟨⟨v, rfl, hv⟩, hb⟩
  have ha : allB (bts p) = true := (allB_iff _).2 ⟨h.ok, h.fit⟩
  obtain ⟨a, cap, rfl, hc⟩ := (hv ha).ex
  rw [ha]
  exact ⟨a, cap, rfl, hc, hb⟩
theorem lcells_wrong (w : World) (p : ByteArray) (h : ¬ Right (bts p)) : Calls Try.prog 9 #[.string p] w fun e w' => ∃ v, e = .returned (.tuple #[v, .bool false]) ∧ Below w.heap.size w w' := by
  by_cases hp : p.size = 224
  · by_cases hh : Head (bts p)
    · refine (lcells_any w p hp hh).mono ?_
      rintro e w' ⟨⟨v, rfl, _⟩, hb⟩
      have ha : allB (bts p) = false := by
        cases e : allB (bts p)
        · rfl
        · obtain ⟨h1, h2⟩ := (allB_iff _).1 e
          exact absurd ⟨hh, h1, h2⟩ h
      rw [ha]
      exact ⟨v, rfl, hb⟩
    · refine (lcells_head w p hp hh).mono ?_
      rintro e w' ⟨rfl, hb⟩
      exact ⟨_, rfl, hb⟩
  · refine (lcells_size w p hp).mono ?_
    rintro e w' ⟨rfl, hb⟩
    exact ⟨_, rfl, hb⟩
end Go.Proofs.Ytmoognjegjeegaa
