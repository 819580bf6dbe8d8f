/- The law DiskNobody, walked. -/
import Derived.Test.YtoafoopenmppgaaAwk
namespace Go.Proofs.Ytoafoopenmppgaa
open Go.RowKit Go.Maps Go.ChangeMaps Go.Sort
set_option linter.unusedVariables false
set_option linter.unusedSimpArgs false
set_option maxRecDepth 100000

set_option maxHeartbeats 2000000 in
theorem nobody_walk (i : Int) (s : ByteArray) (k : Int) (w : World) : Calls Try.prog 6 #[.int .i64 i, .string s, .int .u64 k] w fun e w' => e = .returned (.bool true) ∧ Below w.heap.size w w' := by
  go_enter Try.func6, Try.ntmps6
  go_wp2_with (first | (go_at_call 21; refine (Calm_not _ _ (by first | exact Or.inl rfl | exact Or.inr ⟨_, rfl, by simp⟩)).mono ?_; rintro e w' ⟨rfl, hw⟩; subst hw) | (go_at_call 20; refine (Read_not _ _ _ (by first | exact Or.inl rfl | exact Or.inr ⟨_, rfl, by simp⟩)).mono ?_; rintro e w' ⟨rfl, hw⟩; subst hw) | (go_at_call 16; refine (Write_not _ _ _ _ (by first | exact Or.inl rfl | exact Or.inr ⟨_, rfl, by simp⟩)).mono ?_; rintro e w' ⟨rfl, hw⟩; subst hw) | (go_at_call 17; refine (Sync_not _ _ (by first | exact Or.inl rfl | exact Or.inr ⟨_, rfl, by simp⟩)).mono ?_; rintro e w' ⟨rfl, hw⟩; subst hw) | (go_at_call 18; refine (Crash_not _ _ _ (by first | exact Or.inl rfl | exact Or.inr ⟨_, rfl, by simp⟩)).mono ?_; rintro e w' ⟨rfl, hw⟩; subst hw) | (go_at_call 22; refine (Arm_not _ _ _ _ (by first | exact Or.inl rfl | exact Or.inr ⟨_, rfl, by simp⟩)).mono ?_; rintro e w' ⟨rfl, hw⟩; subst hw) | (go_at_call 19; refine (Start_not _ _ (by first | exact Or.inl rfl | exact Or.inr ⟨_, rfl, by simp⟩)).mono ?_; rintro e w' ⟨rfl, hw⟩; subst hw) | (go_at_call 11; refine (Up_not _ _ (by first | exact Or.inl rfl | exact Or.inr ⟨_, rfl, by simp⟩)).mono ?_; rintro e w' ⟨rfl, hw⟩; subst hw) | (go_at_call 12; refine (Size_not _ _ (by first | exact Or.inl rfl | exact Or.inr ⟨_, rfl, by simp⟩)).mono ?_; rintro e w' ⟨rfl, hw⟩; subst hw) | (go_at_call 13; refine (Acts_not _ _ (by first | exact Or.inl rfl | exact Or.inr ⟨_, rfl, by simp⟩)).mono ?_; rintro e w' ⟨rfl, hw⟩; subst hw) | (go_at_call 14; refine (Downs_not _ _ (by first | exact Or.inl rfl | exact Or.inr ⟨_, rfl, by simp⟩)).mono ?_; rintro e w' ⟨rfl, hw⟩; subst hw) | (go_at_call 23; refine (Waiting_not _ _ (by first | exact Or.inl rfl | exact Or.inr ⟨_, rfl, by simp⟩)).mono ?_; rintro e w' ⟨rfl, hw⟩; subst hw) | (go_at_call 7; refine (awake_any _).mono ?_; rintro e w2 ⟨rfl, hb⟩))
  go_ret
  exact ⟨rfl, ((Below.refl _ _).alloc (Nat.le_refl _) _).trans (hb.mono (by simp))⟩
end Go.Proofs.Ytoafoopenmppgaa
