/- rotate. -/
import Derived.Test.YtjlhohljkedbbaaSoB
namespace Go.Proofs.Ytjlhohljkedbbaa.So
open Go.Sort Go.RowKit
set_option linter.unusedVariables false
set_option linter.unusedSimpArgs false
set_option maxRecDepth 1000000
section
variable {w : World} {blk cap a m b g : Nat} {cb : Array Value} {d : Array CL}
set_option maxHeartbeats 4000000 in
theorem rotateR (hR : Rw w blk d) (h1 : a < m) (h2 : m < b) (h3 : b ≤ d.size) : Calls Try.prog 45 #[.slice (some ⟨blk, 0, none⟩) d.size cap, .int .i64 a, .int .i64 m, .int .i64 b, .func (.func g) #[] cb] w fun e w' => Lv w w' blk a b (trn a m b) d e := by
  have HR : Hid (Rw w blk d) := hR
  have few := hR.few
  clear hR
  have SR : Hid (∀ w1 dk, Wd w w1 blk dk → dk.size = d.size → ∀ x y n : Nat, a ≤ x → x + n ≤ y → y + n ≤ b → Calls Try.prog 51 #[.slice (some ⟨blk, 0, none⟩) d.size cap, .int .i64 x, .int .i64 y, .int .i64 n, .func (.func g) #[] cb] w1 fun e w' => e = .returned (.tuple #[]) ∧ ∃ d', Wd w w' blk d' ∧ Mv a b (swx x y n) dk d') := fun w1 dk hW hs x y n k1 k2 k3 => by
    rw [← hs]
    refine (swapR (HR.out.wd hW hs) k2 k3 k1 (by omega)).mono fun e w' h => ⟨h.ret, ?_⟩
    obtain ⟨d', h4, h5⟩ := h.ex
    exact ⟨d', hW.trans HR.out h4 h5.size.symm, h5⟩
  go_enter Try.func45, Try.ntmps45
  go_wp2
  go_loopg [10, 11] (b - a) (fun k vi vj wr => ∃ (i j : Nat) (dk : Array CL), vi = .int .i64 i ∧ vj = .int .i64 j ∧ 0 < i ∧ 0 < j ∧ i ≤ m - a ∧ j ≤ b - m ∧ i + j ≤ k ∧ Wd w wr blk dk ∧ Rt a m b i j d dk)
  case atStart => exact ⟨m - a, b - m, d, by go_num, by go_num, by omega, by omega, by omega, by omega, by omega, HR.out.self, Rt.refl (by omega) (by omega) d⟩
  case round =>
    obtain ⟨i, j, dk, rfl, rfl, hi, hj, him, hjb, hk, hW, hM⟩ := hrel
    have HW : Hid (Wd w wr blk dk) := hW
    have HM : Hid (Rt a m b i j d dk) := hM
    have HS : Hid (dk.size = d.size) := hM.perm.1
    have ei : (m : Int) - (i : Int) = ((m - i : Nat) : Int) := by omega
    clear hW hM
    rcases Nat.lt_trichotomy i j with hlt | heq | hlt
    · have e2 : (m : Int) + (j : Int) - (i : Int) = ((m + j - i : Nat) : Int) := by omega
      have n1 : ¬ (i : Int) = (j : Int) := by omega
      have n2 : ¬ (j : Int) < (i : Int) := by omega
      go_wp2_with (go_at_call 51; refine (SR.out _ _ HW.out HS.out (m - i) (m + j - i) i (by omega) (by omega) (by omega)).mono ?_; rintro e w2 ⟨rfl, d2, hW2, hM2⟩)
      go_roundg (i + (j - i))
      case measure => omega
      case rel => exact ⟨i, j - i, d2, rfl, by go_num, hi, by omega, him, by omega, Nat.le_refl _, hW2, HM.out.ls hM2 hlt hi (by omega)⟩
    · subst heq
      go_wp2_with (go_at_call 51; refine (SR.out _ _ HW.out HS.out (m - i) m i (by omega) (by omega) (by omega)).mono ?_; rintro e w2 ⟨rfl, d2, hW2, hM2⟩)
      go_end0
      exact ⟨rfl, d2, hW2, HM.out.end_ hM2 hi (by omega)⟩
    · have n1 : ¬ (i : Int) = (j : Int) := by omega
      go_wp2_with (go_at_call 51; refine (SR.out _ _ HW.out HS.out (m - i) m j (by omega) (by omega) (by omega)).mono ?_; rintro e w2 ⟨rfl, d2, hW2, hM2⟩)
      go_roundg (i - j + j)
      case measure => omega
      case rel => exact ⟨i - j, j, d2, by go_num, rfl, by omega, hj, by omega, hjb, Nat.le_refl _, hW2, HM.out.gt hM2 hlt hj (by omega)⟩
end
end Go.Proofs.Ytjlhohljkedbbaa.So
