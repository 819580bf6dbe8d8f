/- first, of any row of cells. -/
import Derived.Test.YtjlhohljkedbbaaPsV
namespace Go.Proofs.Ytjlhohljkedbbaa.Pa
open Go.RowKit Gm Go.Maps
set_option linter.unusedVariables false
set_option linter.unusedSimpArgs false
set_option maxRecDepth 100000
section
variable {w : World} {v : Value} {M : List (List Value)}
theorem Clone_nil (w : World) : Calls Try.prog 25 #[.slice none 0 0] w fun e w' => e = .returned (.slice none 0 0) ∧ w' = w := by
  have he : ∀ w, (binOp .eql 23 (.slice none 0 0) (.slice none 0 0)).run Try.prog w = .ok (.bool true) w := fun w => by
    have := Lib.run_eql_slice_nil (P := Try.prog) w 23 _ none 0 0 0 0 Try.underlying23
    simpa using this
  go_enter Try.func25, Try.ntmps25
  go_wp2
  go_ret
  exact ⟨rfl, rfl⟩
/-- How many. -/
def mostN (most : Int) (n : Nat) : Nat := (min (max most 0) (n : Int)).toNat
theorem mostN_le (most : Int) (n : Nat) : mostN most n ≤ n := by unfold mostN; omega
theorem first_any (hR : Row w 39 2 v M) (h1 : ∀ u ∈ M.flatten, u.oneCell' = true) (hn : M.length ≤ 90000) (most : Int) : Calls Try.prog 17 #[v, .int .i64 most] w fun e w' => ClE w e w' (M.take (mostN most M.length)) := by
  have hk := mostN_le most M.length
  have ek : most < 0 ∧ mostN most M.length = 0 ∨ (∃ q : Nat, most = q ∧ q ≤ M.length ∧ mostN most M.length = q) ∨ ((M.length : Int) < most ∧ mostN most M.length = M.length) := by
    rcases Int.lt_or_le most 0 with h | h
    · exact Or.inl ⟨h, by unfold mostN; omega⟩
    · rcases Int.lt_or_le (M.length : Int) most with h2 | h2
      · exact Or.inr (Or.inr ⟨h2, by unfold mostN; omega⟩)
      · exact Or.inr (Or.inl ⟨most.toNat, by omega, by omega, by unfold mostN; omega⟩)
  generalize mostN most M.length = k at hk ek ⊢
  have hlen : (M.take k).length = k := by rw [List.length_take]; omega
  rcases hR.row.2 with ⟨rfl, h0⟩ | ⟨g, cap, cur, rfl, hB, hg, h3, h4, h5, h6⟩
  · have C : Hid (∀ w, Calls Try.prog 25 #[.slice none 0 0] w fun e w' => e = .returned (.slice none 0 0) ∧ w' = w) := Clone_nil
    have hM0 : M = [] := List.eq_nil_of_length_eq_zero h0
    subst hM0
    obtain rfl : k = 0 := by simpa using hk
    have HR : Hid (Row w 39 2 (.slice none 0 0) []) := hR
    clear hR h1 hlen h0 hn hk
    simp only [List.length_nil] at ek
    rcases ek with ⟨hm, _⟩ | ⟨q, rfl, hq, _⟩ | ⟨hm, _⟩
    · go_enter Try.func17, Try.ntmps17
      go_wp2_with (go_at_call 25; refine (C.out _).mono ?_; rintro e w2 ⟨rfl, rfl⟩)
      go_ret
      exact ⟨_, rfl, HR.out, Below.refl _ _, fun g e => by cases e⟩
    · obtain rfl : q = 0 := by omega
      go_enter Try.func17, Try.ntmps17
      go_wp2_with (go_at_call 25; refine (C.out _).mono ?_; rintro e w2 ⟨rfl, rfl⟩)
      go_ret
      exact ⟨_, rfl, HR.out, Below.refl _ _, fun g e => by cases e⟩
    · have hm2 : ¬ most < 0 := by omega
      have hm3 : 0 < most := by omega
      have hm4 : ¬ most ≤ 0 := by omega
      go_enter Try.func17, Try.ntmps17
      go_wp2_with (go_at_call 25; refine (C.out _).mono ?_; rintro e w2 ⟨rfl, rfl⟩)
      go_ret
      exact ⟨_, rfl, HR.out, Below.refl _ _, fun g e => by cases e⟩
  · have hseg : ∀ j u, (M.take k).flatten[j]? = some u → w.cell? ⟨g, 0 + j, none⟩ = some u := fun j u hu => by
      have := hR.seg (A := []) (M := M.take k) (R := M.drop k) (by simp) j u hu
      simpa using this
    have C : Hid (Calls Try.prog 25 #[.slice (some ⟨g, 0, none⟩) k cap] w fun e w' => ClE w e w' (M.take k)) := by
      have := Clone_any (M := M.take k) (of := 0) (c := cap) (fun d hd => hR.ks d (List.mem_of_mem_take hd)) (by omega) (lt_of hg) hseg (fun u hu => h1 u (by
        obtain ⟨d, hd, hu2⟩ := List.mem_flatten.1 hu
        exact List.mem_flatten.2 ⟨d, List.mem_of_mem_take hd, hu2⟩))
      rw [hlen] at this
      exact this
    have hkc : k ≤ cap := by omega
    have h4' : cap < 9223372036854775808 := by unfold maxLen at h4; omega
    clear hR h1 hlen hseg hB hg h5 h6 h4
    generalize M.length = n at *
    have h0n : (0 : Int) ≤ (n : Int) := by omega
    rcases ek with ⟨hm, rfl⟩ | ⟨q, rfl, hq, rfl⟩ | ⟨hm, rfl⟩
    · go_enter Try.func17, Try.ntmps17
      go_wp2_with (go_at_call 25; refine C.out.mono ?_; rintro e w2 ⟨u, rfl, hu⟩)
      go_ret
      exact ⟨_, rfl, hu⟩
    · have hm2 : ¬ (k : Int) < 0 := by omega
      have hm3 : (k : Int) ≤ (n : Int) := by omega
      have hm4 : ¬ (n : Int) < (k : Int) := by omega
      go_enter Try.func17, Try.ntmps17
      go_wp2_with (go_at_call 25; refine C.out.mono ?_; rintro e w2 ⟨u, rfl, hu⟩)
      go_ret
      exact ⟨_, rfl, hu⟩
    · have hm2 : ¬ most < 0 := by omega
      have hm4 : ¬ most ≤ (k : Int) := by omega
      go_enter Try.func17, Try.ntmps17
      go_wp2_with (go_at_call 25; refine C.out.mono ?_; rintro e w2 ⟨u, rfl, hu⟩)
      go_ret
      exact ⟨_, rfl, hu⟩
end
end Go.Proofs.Ytjlhohljkedbbaa.Pa
