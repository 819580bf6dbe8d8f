/- The law's stands: a net has just what the document's has. -/
import Derived.Test.YtamchicifjnmgaaTwo
namespace Go.Proofs.Ytamchicifjnmgaa
open Go.RowKit
set_option linter.unusedVariables false
set_option linter.unusedSimpArgs false
set_option maxRecDepth 100000
variable {B : Nat} {w0 w : World} {nb pb : Nat} {S : Nt}

theorem stands_any (h : Pair B w0 w nb pb S) (hS : S.Ok) :
    Calls Try.prog 9 #[.pointer (some ⟨nb, 0, none⟩), .pointer (some ⟨pb, 0, none⟩)] w fun e w' => e = .returned (.bool true) ∧ Pair B w0 w' nb pb S := by
  obtain ⟨a, cap, b, capb, hD⟩ := h
  have CC : Hid (∀ w1, Duo B w0 w1 nb pb a cap S b capb S → Calls Try.prog 17 #[.pointer (some ⟨nb, 0, none⟩)] w1 fun e w' => e = .returned (.tuple #[.int .i64 S.sent, .int .i64 S.lost]) ∧ Duo B w0 w' nb pb a cap S b capb S) := fun w1 h =>
    (Counts_any w1 h.n).mono (fun e w' ⟨he, n, hw⟩ => ⟨he, by rw [hw]; exact h.drewN n⟩)
  have CA : Hid (∀ w1, Duo B w0 w1 nb pb a cap S b capb S → Calls Try.prog 19 #[.pointer (some ⟨nb, 0, none⟩)] w1 fun e w' => ∃ a' cap', e = .returned (.slice a' S.way.length cap') ∧ Row w' a' cap' S.way ∧ Duo B w0 w' nb pb a cap S b capb S) := fun w1 h =>
    (All_any w1 h.n hS).mono (fun e w' ⟨a', cap', he, hR, hb, _⟩ => ⟨a', cap', he, hR, h.below hb⟩)
  have CL : Hid (∀ w1, Duo B w0 w1 nb pb a cap S b capb S → Calls Try.prog 18 #[.pointer (some ⟨nb, 0, none⟩)] w1 fun e w' => e = .returned (.int .i64 S.way.length) ∧ w' = w1) := fun w1 h => Len_any w1 h.n
  have CT : Hid (∀ (i : Nat) (hi : i < S.way.length) w1, Duo B w0 w1 nb pb a cap S b capb S → Calls Try.prog 16 #[.pointer (some ⟨nb, 0, none⟩), .int .i64 (i : Int)] w1 fun e w' => e = .returned (.tuple #[.string S.way[i], .int .i64 0]) ∧ w' = w1) := fun i hi w1 h => At_ok w1 h.n i hi
  have CB : Hid (∀ (i : Int), i = (S.way.length : Int) ∨ i = -1 → ∀ w1, Duo B w0 w1 nb pb a cap S b capb S → Calls Try.prog 16 #[.pointer (some ⟨nb, 0, none⟩), .int .i64 i] w1 fun e w' => e = .returned (.tuple #[.string ⟨#[]⟩, .int .i64 8]) ∧ w' = w1) := fun i hi w1 h => At_bad w1 h.n i (by omega)
  have H0 : Hid (Duo B w0 w nb pb a cap S b capb S) := hD
  have HZ : Hid (S.way.length ≤ 128) := hS.len
  clear hD
  go_enter Try.func9, Try.ntmps9
  go_wp2_with (first | (go_at_call 17; refine (CC.out _ H0.out).mono ?_; rintro e w1 ⟨rfl, hD1⟩) | (go_at_call 19; refine (CA.out _ hD1).mono ?_; rintro e w2 ⟨aa, capa, rfl, hR, hD2⟩))
  have d0 := hD2.p.c0
  have d1 := hD2.p.c1
  have d2 := hD2.p.c2
  go_quiet ((go_at_call 18; refine Calls.quiet_of_same (CL.out _ ?_); exact hD2.drewN _))
  go_wp2_with fail
  generalize hwq : World.drewN _ _ = wq
  have hD3 : Duo B w0 wq nb pb a cap S b capb S := by rw [← hwq]; exact hD2.drewN _
  have hR3 : Row wq aa capa S.way := by rw [← hwq]; exact hR.kept (fun _ _ => by simp)
  clear hwq d0 d1 d2 hD2 hR hD1
  have d0 := hD3.p.c0
  go_loopw [8] (fun iv wr => ∃ (i : Nat), iv = .int .i64 (i : Int) ∧ i ≤ S.way.length ∧ wr = wq) (fun iv _ => S.way.length - (intOf iv).toNat)
  case atStart => exact ⟨0, rfl, Nat.zero_le _, rfl⟩
  case round =>
    obtain ⟨i, rfl, hil, rfl⟩ := hrel
    by_cases hi : i < S.way.length
    · have hz : i < 1000 := by have := HZ.out; omega
      have hi' : (i : Int) < (S.way.length : Int) := by omega
      have hne : S.way ≠ [] := way_ne hi
      obtain ⟨ga, rfl, _, _, _⟩ := hR3.form hne
      obtain ⟨gb, rfl, _, _, _⟩ := hD3.p.row.form hne
      have ra := hR3.cell hi
      have rb := hD3.p.row.cell hi
      have C1 : Hid _ := CT.out i hi
      clear hne hil
      generalize S.way[i] = tx at ra rb C1
      go_wp2_with (go_at_call 16; refine (C1.out _ hD3).mono ?_; rintro e w3 ⟨rfl, hw3⟩; subst hw3)
      go_roundw
      case rel => exact ⟨i + 1, by go_num, by omega, by first | exact rfl | trivial⟩
      case measure => simp [intOf]; omega
    · obtain rfl : i = S.way.length := by omega
      have hi' : ¬ (S.way.length : Int) < (S.way.length : Int) := by omega
      go_wp2_with (go_at_call 16; refine (CB.out _ (by first | exact Or.inl rfl | exact Or.inr rfl) _ hD3).mono ?_; rintro e w3 ⟨rfl, hw3⟩; subst hw3)
      go_ret
      exact ⟨rfl, ⟨a, cap, b, capb, hD3⟩⟩
end Go.Proofs.Ytamchicifjnmgaa
