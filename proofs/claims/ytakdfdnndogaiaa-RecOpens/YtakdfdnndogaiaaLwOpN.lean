/- What Open answers, case by case. -/
import Derived.Test.YtakdfdnndogaiaaLwOpM
namespace Go.Proofs.Ytakdfdnndogaiaa
open Go.RowKit
set_option linter.unusedVariables false
set_option linter.unusedSimpArgs false
set_option maxRecDepth 100000

theorem nN_two {s : ByteArray} (a : Nat) (h : a + 2 ≤ s.size) : nN (s.extract a s.size, 0) 2 = 256 * ((s[a]'(by omega)).toNat : Int) + ((s[a + 1]'(by omega)).toNat : Int) := by
  rw [(nN_eq _ 2 (by omega) (by omega)).1, Pk.rdRaw_fits (by omega) (by dsimp only; rw [ByteArray.size_extract]; omega)]
  dsimp only
  rw [show ((2 : Int)).toNat = 2 from rfl, extract_extract1 s a 2 h]
  have e : (s.extract a (a + 2)).data.toList = [s[a]'(by omega), s[a + 1]'(by omega)] := by
    have hz : (s.extract a (a + 2)).data.toList.length = 2 := by
      rw [Array.length_toList]
      show (s.extract a (a + 2)).size = 2
      rw [ByteArray.size_extract]; omega
    refine List.ext_getElem hz ?_
    intro i h1 h2
    have hi : i < 2 := by rw [hz] at h1; exact h1
    rw [Array.getElem_toList]
    have e2 : (s.extract a (a + 2)).data[i]'(by rw [Array.length_toList] at h1; exact h1) = s.data[a + i]'(by have : s.data.size = s.size := rfl; omega) := by
      simp only [ByteArray.data_extract, Array.getElem_extract]
    rw [e2]
    have hi2 : i = 0 ∨ i = 1 := by omega
    rcases hi2 with rfl | rfl <;> rfl
  rw [e]
  simp only [Pk.beN, List.foldl_cons, List.foldl_nil]
  omega
section
variable {s : ByteArray} {a k : Nat}
theorem openM_out {s : ByteArray} {a : Int} (h : a < 0 ∨ (s.size : Int) < a) : openM s a = (zM, 0, 6) := by unfold openM; rw [if_pos h]
theorem openM_bad {E : Int} (ha : a ≤ s.size) (hE : E ≠ 0) (h : frM (s.extract a s.size) = (⟨#[]⟩, E)) : openM s (a : Int) = (zM, 0, E) := by
  unfold openM
  rw [if_neg (by omega), Int.toNat_natCast, h, if_pos hE]
theorem openM_six (ha : a ≤ s.size) (h : s.size - a < 6) : openM s (a : Int) = (zM, 0, 2) := by
  refine openM_bad ha (by decide) ?_
  unfold frM
  rw [if_pos (by rw [ByteArray.size_extract]; omega)]
theorem openM_good {t : ByteArray} (ha : a ≤ s.size) (h : frM (s.extract a s.size) = (t, 0)) : openM s (a : Int) = if (ofM t).2 ≠ 0 then (zM, (0 : Int), (ofM t).2) else ((ofM t).1, 6 + (t.size : Int), 0) := by
  unfold openM
  rw [if_neg (by omega), Int.toNat_natCast, h, if_neg (by simp)]
end
end Go.Proofs.Ytakdfdnndogaiaa
