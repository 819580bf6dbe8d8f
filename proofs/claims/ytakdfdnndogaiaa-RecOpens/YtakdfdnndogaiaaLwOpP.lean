/- What Open answers, as the law reckons it: by the two bytes of a frame's size. -/
import Derived.Test.YtakdfdnndogaiaaLwOpN
namespace Go.Proofs.Ytakdfdnndogaiaa
open Go.RowKit
set_option linter.unusedVariables false
set_option linter.unusedSimpArgs false
set_option maxRecDepth 100000

theorem ext_ext {s : ByteArray} {a b c d : Nat} (h : a + c ≤ b) : (s.extract a b).extract d c = s.extract (a + d) (a + c) := by
  apply ByteArray.ext
  simp only [ByteArray.data_extract]
  rw [Array.extract_extract]
  congr 1
  omega
theorem ext_size {s : ByteArray} {a b : Nat} (h : b ≤ s.size) : (s.extract a b).size = b - a := by
  rw [ByteArray.size_extract]; omega
section
variable {s : ByteArray} {a k : Nat}
theorem nN_k (ha : a + 6 ≤ s.size) (hk : 256 * (s[a]'(by omega)).toNat + (s[a + 1]'(by omega)).toNat = k) : nN (s.extract a s.size, 0) 2 = (k : Int) := by
  rw [nN_two a (by omega), ← hk]; omega
theorem openM_form (ha : a + 6 ≤ s.size) (hk : 256 * (s[a]'(by omega)).toNat + (s[a + 1]'(by omega)).toNat = k) (h : k < 1 ∨ 4096 < k) : openM s (a : Int) = (zM, 0, 4) := by
  refine openM_bad (by omega) (by decide) (frM_range ?_ ?_)
  · rw [ext_size (Nat.le_refl _)]; omega
  · rw [nN_k ha hk]; omega
theorem openM_short (ha : a + 6 ≤ s.size) (hk : 256 * (s[a]'(by omega)).toNat + (s[a + 1]'(by omega)).toNat = k) (h1 : 1 ≤ k) (h2 : k ≤ 4096) (h : s.size < a + 6 + k) : openM s (a : Int) = (zM, 0, 2) := by
  refine openM_bad (by omega) (by decide) (frM_short ?_ (nN_k ha hk) h1 h2 ?_)
  · rw [ext_size (Nat.le_refl _)]; omega
  · rw [ext_size (Nat.le_refl _)]; omega
theorem frM_at (ha : a + 6 ≤ s.size) (hk : 256 * (s[a]'(by omega)).toNat + (s[a + 1]'(by omega)).toNat = k) (h1 : 1 ≤ k) (h2 : k ≤ 4096) (h : a + 6 + k ≤ s.size) : frM (s.extract a s.size) = Sm.openV (s.extract (a + 2) (a + 6 + k)) := by
  rw [frM_open (by rw [ext_size (Nat.le_refl _)]; omega) (nN_k ha hk) h1 h2 (by rw [ext_size (Nat.le_refl _)]; omega), ext_ext (by omega), Nat.add_assoc]
theorem inner_at (h : a + 6 + k ≤ s.size) : (s.extract (a + 2) (a + 6 + k)).extract 4 (s.extract (a + 2) (a + 6 + k)).size = s.extract (a + 6) (a + 6 + k) := by
  rw [ext_size h, ext_ext (by omega)]
  congr 1
  omega
theorem openM_sum (ha : a + 6 ≤ s.size) (hk : 256 * (s[a]'(by omega)).toNat + (s[a + 1]'(by omega)).toNat = k) (h1 : 1 ≤ k) (h2 : k ≤ 4096) (h : a + 6 + k ≤ s.size) (hs : Sm.sealV (s.extract (a + 6) (a + 6 + k)) ≠ s.extract (a + 2) (a + 6 + k)) : openM s (a : Int) = (zM, 0, 5) := by
  refine openM_bad (by omega) (by decide) ?_
  rw [frM_at ha hk h1 h2 h]
  refine openV_no (by rw [ext_size h]; omega) ?_
  rw [inner_at h]
  exact hs
theorem openM_of (ha : a + 6 ≤ s.size) (hk : 256 * (s[a]'(by omega)).toNat + (s[a + 1]'(by omega)).toNat = k) (h1 : 1 ≤ k) (h2 : k ≤ 4096) (h : a + 6 + k ≤ s.size) (hs : Sm.sealV (s.extract (a + 6) (a + 6 + k)) = s.extract (a + 2) (a + 6 + k)) :
    openM s (a : Int) = if (ofM (s.extract (a + 6) (a + 6 + k))).2 ≠ 0 then (zM, (0 : Int), (ofM (s.extract (a + 6) (a + 6 + k))).2) else ((ofM (s.extract (a + 6) (a + 6 + k))).1, 6 + (k : Int), 0) := by
  have e : frM (s.extract a s.size) = (s.extract (a + 6) (a + 6 + k), 0) := by
    rw [frM_at ha hk h1 h2 h]
    have := openV_yes (z := s.extract (a + 2) (a + 6 + k)) (by rw [inner_at h]; exact hs)
    rw [inner_at h] at this
    exact this
  rw [openM_good (by omega) e, ext_size h, show a + 6 + k - (a + 6) = k by omega]
end
end Go.Proofs.Ytakdfdnndogaiaa
