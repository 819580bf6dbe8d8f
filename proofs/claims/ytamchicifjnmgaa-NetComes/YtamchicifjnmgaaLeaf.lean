/- The net's small calls: of a nil net, and of one that New gave: New, Len, Counts, At, All; the law's there. -/
import Derived.Test.YtamchicifjnmgaaMem
import Derived.Lib.SliceRun
namespace Go.Proofs.Ytamchicifjnmgaa
open Go.RowKit
set_option linter.unusedVariables false
set_option linter.unusedSimpArgs false
set_option maxRecDepth 100000

variable {w w' : World} {t nb : Nat} {a : Option Addr} {cap : Nat} {S : Nt}

/-! ### A nil net -/
theorem refusalAt_nil (i : Int) (w : World) : Calls Try.prog 23 #[.pointer none, .int .i64 i] w fun e w' => e = .returned (.int .i64 11) ∧ w' = w := by
  go_enter Try.func23, Try.ntmps23
  go_wp2
  go_ret
  exact ⟨rfl, rfl⟩
theorem At_nil (i : Int) (w : World) : Calls Try.prog 16 #[.pointer none, .int .i64 i] w fun e w' => e = .returned (.tuple #[.string ⟨#[]⟩, .int .i64 11]) ∧ w' = w := by
  go_enter Try.func16, Try.ntmps16
  go_wp2_with (go_at_call 23; refine (refusalAt_nil _ _).mono ?_; rintro e w' ⟨rfl, rfl⟩)
  go_ret2
  exact ⟨rfl, rfl⟩
theorem Take_nil (i : Int) (w : World) : Calls Try.prog 15 #[.pointer none, .int .i64 i] w fun e w' => e = .returned (.tuple #[.string ⟨#[]⟩, .int .i64 11]) ∧ w' = w := by
  go_enter Try.func15, Try.ntmps15
  go_wp2_with (go_at_call 23; refine (refusalAt_nil _ _).mono ?_; rintro e w' ⟨rfl, rfl⟩)
  go_ret2
  exact ⟨rfl, rfl⟩
theorem Drop_nil (i : Int) (w : World) : Calls Try.prog 12 #[.pointer none, .int .i64 i] w fun e w' => e = .returned (.int .i64 11) ∧ w' = w := by
  go_enter Try.func12, Try.ntmps12
  go_wp2_with (go_at_call 23; refine (refusalAt_nil _ _).mono ?_; rintro e w' ⟨rfl, rfl⟩)
  go_ret
  exact ⟨rfl, rfl⟩
theorem Copy_nil (i : Int) (w : World) : Calls Try.prog 13 #[.pointer none, .int .i64 i] w fun e w' => e = .returned (.int .i64 11) ∧ w' = w := by
  go_enter Try.func13, Try.ntmps13
  go_wp2_with (go_at_call 23; refine (refusalAt_nil _ _).mono ?_; rintro e w' ⟨rfl, rfl⟩)
  go_ret
  exact ⟨rfl, rfl⟩
theorem Swap_nil (i k : Int) (w : World) : Calls Try.prog 14 #[.pointer none, .int .i64 i, .int .i64 k] w fun e w' => e = .returned (.int .i64 11) ∧ w' = w := by
  go_enter Try.func14, Try.ntmps14
  go_wp2_with (go_at_call 23; refine (refusalAt_nil _ _).mono ?_; rintro e w' ⟨rfl, rfl⟩)
  go_ret
  exact ⟨rfl, rfl⟩
theorem Counts_nil (w : World) : Calls Try.prog 17 #[.pointer none] w fun e w' => e = .returned (.tuple #[.int .i64 0, .int .i64 0]) ∧ w' = w := by
  go_enter Try.func17, Try.ntmps17
  go_wp2
  go_ret2
  exact ⟨rfl, rfl⟩
theorem Len_nil (w : World) : Calls Try.prog 18 #[.pointer none] w fun e w' => e = .returned (.int .i64 0) ∧ w' = w := by
  go_enter Try.func18, Try.ntmps18
  go_wp2
  go_ret
  exact ⟨rfl, rfl⟩
theorem All_nil (w : World) : Calls Try.prog 19 #[.pointer none] w fun e w' => e = .returned (.slice none 0 0) ∧ w' = w := by
  go_enter Try.func19, Try.ntmps19
  go_wp2
  go_ret
  exact ⟨rfl, rfl⟩
theorem Send_nil (s : ByteArray) (w : World) : Calls Try.prog 11 #[.pointer none, .string s] w fun e w' => e = .returned (.bool false) ∧ w' = w := by
  go_enter Try.func11, Try.ntmps11
  go_wp2
  go_ret
  exact ⟨rfl, rfl⟩

/-! ### A net that New gave -/
def newNt : Nt := ⟨[], 0, 0⟩
theorem newNt_ok : newNt.Ok := ⟨Nat.zero_le _, Int.le_refl _, by decide, Int.le_refl _, by decide⟩
theorem nt_new (w : World) (t : Nat) (ht : t ≠ 9) : NtIs (w.alloc (.cells #[.slice none 0 0, .int .i64 0, .int .i64 0] t)) t w.heap.size none 0 newNt :=
  ⟨heap_alloc_new w _, Row.nil _, ht⟩
theorem New_any (w : World) : Calls Try.prog 7 #[] w fun e w' => e = .returned (.pointer (some ⟨w.heap.size, 0, none⟩)) ∧ w' = w.alloc (.cells #[.slice none 0 0, .int .i64 0, .int .i64 0] 49) := by
  go_enter Try.func7, Try.ntmps7
  go_wp2
  go_ret
  exact ⟨rfl, rfl⟩
theorem Len_any (w : World) (h : NtIs w 49 nb a cap S) : Calls Try.prog 18 #[.pointer (some ⟨nb, 0, none⟩)] w fun e w' => e = .returned (.int .i64 S.way.length) ∧ w' = w := by
  have hc := h.c0
  go_enter Try.func18, Try.ntmps18
  go_wp2
  go_ret
  exact ⟨rfl, rfl⟩
theorem Counts_any (w : World) (h : NtIs w 49 nb a cap S) : Calls Try.prog 17 #[.pointer (some ⟨nb, 0, none⟩)] w fun e w' => e = .returned (.tuple #[.int .i64 S.sent, .int .i64 S.lost]) ∧ ∃ n, w' = w.drewN n := by
  have hc1 := h.c1
  have hc2 := h.c2
  go_enter Try.func17, Try.ntmps17
  go_wp2
  go_quiet (fail)
  go_wp2
  go_ret2
  exact ⟨rfl, _, rfl⟩
theorem refusalAt_bad (w : World) (h : NtIs w 49 nb a cap S) (i : Int) (hi : i < 0 ∨ (S.way.length : Int) ≤ i) : Calls Try.prog 23 #[.pointer (some ⟨nb, 0, none⟩), .int .i64 i] w fun e w' => e = .returned (.int .i64 8) ∧ w' = w := by
  have hc := h.c0
  by_cases h1 : i < 0
  · go_enter Try.func23, Try.ntmps23
    go_wp2
    go_ret
    exact ⟨rfl, rfl⟩
  · have h2 : (S.way.length : Int) ≤ i := by omega
    clear hi
    go_enter Try.func23, Try.ntmps23
    go_wp2
    go_ret
    exact ⟨rfl, rfl⟩
theorem refusalAt_ok (w : World) (h : NtIs w 49 nb a cap S) (i : Nat) (hi : i < S.way.length) : Calls Try.prog 23 #[.pointer (some ⟨nb, 0, none⟩), .int .i64 (i : Int)] w fun e w' => e = .returned (.int .i64 0) ∧ w' = w := by
  have hc := h.c0
  have h2 : ¬ (S.way.length : Int) ≤ (i : Int) := by omega
  go_enter Try.func23, Try.ntmps23
  go_wp2
  go_ret
  exact ⟨rfl, rfl⟩
theorem way_ne {i : Nat} (hi : i < S.way.length) : S.way ≠ [] := fun e => by rw [e] at hi; exact absurd hi (Nat.not_lt_zero _)
theorem At_bad (w : World) (h : NtIs w 49 nb a cap S) (i : Int) (hi : i < 0 ∨ (S.way.length : Int) ≤ i) : Calls Try.prog 16 #[.pointer (some ⟨nb, 0, none⟩), .int .i64 i] w fun e w' => e = .returned (.tuple #[.string ⟨#[]⟩, .int .i64 8]) ∧ w' = w := by
  have C : Hid (∀ w, NtIs w 49 nb a cap S → Calls Try.prog 23 #[.pointer (some ⟨nb, 0, none⟩), .int .i64 i] w fun e w' => e = .returned (.int .i64 8) ∧ w' = w) := fun w h => refusalAt_bad w h i hi
  have H : Hid _ := h
  clear hi h
  go_enter Try.func16, Try.ntmps16
  go_wp2_with (go_at_call 23; refine (C.out _ H.out).mono ?_; rintro e w' ⟨rfl, rfl⟩)
  go_ret2
  exact ⟨rfl, rfl⟩
theorem At_ok (w : World) (h : NtIs w 49 nb a cap S) (i : Nat) (hi : i < S.way.length) : Calls Try.prog 16 #[.pointer (some ⟨nb, 0, none⟩), .int .i64 (i : Int)] w fun e w' => e = .returned (.tuple #[.string S.way[i], .int .i64 0]) ∧ w' = w := by
  have C : Hid (∀ w, NtIs w 49 nb a cap S → Calls Try.prog 23 #[.pointer (some ⟨nb, 0, none⟩), .int .i64 (i : Int)] w fun e w' => e = .returned (.int .i64 0) ∧ w' = w) := fun w h => refusalAt_ok w h i hi
  obtain ⟨g, rfl, hg, hl, hm⟩ := h.row.form (way_ne hi)
  have hc := h.c0
  have hr := h.row.cell hi
  have hi' : (i : Int) < (S.way.length : Int) := by omega
  have H : Hid _ := h
  clear h
  go_enter Try.func16, Try.ntmps16
  go_wp2_with (go_at_call 23; refine (C.out _ H.out).mono ?_; rintro e w' ⟨rfl, rfl⟩)
  go_ret2
  exact ⟨rfl, rfl⟩
/-- Clone, of a row. -/
theorem Clone_any (w : World) (xs : List ByteArray) (n : Nat) (hn : n = xs.length) (h : Row w a cap xs) (hz : n ≤ 1000) : Calls Try.prog 25 #[.slice a n cap] w fun e w' => ∃ a' cap', e = .returned (.slice a' n cap') ∧ Row w' a' cap' xs ∧ Below w.heap.size w w' ∧ (∀ k, own a' = some k → w.heap.size ≤ k) := by
  rcases h with ⟨rfl, rfl, rfl⟩ | ⟨g, cur, rfl, hg, h1, h2, h3, h4⟩
  · simp only [List.length_nil] at hn
    subst hn
    have he : ∀ w, (binOp .eql 26 (.slice none 0 0) (.slice none 0 0)).run Try.prog w = .ok (.bool true) w := fun w => Lib.run_eql_slice_nil w 26 9 none 0 0 0 0 Try.underlying26
    go_enter Try.func25, Try.ntmps25
    go_wp2
    go_ret
    exact ⟨none, 0, rfl, Row.nil _, Below.refl _ _, fun k hk => by cases hk⟩
  · have hrow : Row w (some ⟨g, 0, none⟩) cap xs := .inr ⟨g, cur, rfl, hg, h1, h2, h3, h4⟩
    have hlt : g < w.heap.size := (Array.getElem?_eq_some_iff.1 hg).1
    have HC : Hid (∀ j s, xs[j]? = some s → (w.alloc (.cells #[] 9)).cell? ((⟨g, 0, none⟩ : Addr).add j) = some (.string s)) := fun j s hj => by
      have hadd : (⟨g, 0, none⟩ : Addr).add j = ⟨g, j, none⟩ := by unfold Addr.add; split <;> simp_all
      obtain ⟨hj', e⟩ := List.getElem?_eq_some_iff.1 hj
      rw [hadd, World.cell?_of_block (w := w) (heap_alloc_old w _ hlt), hrow.cell hj', e]
    have HM : Hid _ := Row.made w
    have HN : Hid _ := hn
    have he : ∀ w, (binOp .eql 26 (.slice (some ⟨g, 0, none⟩) n cap) (.slice none 0 0)).run Try.prog w = .ok (.bool false) w := fun w => Lib.run_eql_slice_nil w 26 9 _ _ _ 0 0 Try.underlying26
    clear hn h1 h2 h3 h4 hg hrow
    go_enter Try.func25, Try.ntmps25
    go_wp2_with (at_builtin; refine wpList_append_row rfl (.tmp 5) (.tmp 6) rfl rfl rfl HM.out ⟨g, 0, none⟩ n cap xs rfl HN.out.symm HC.out (by omega) ?_; intro a' cap' w1 hR hG hO)
    go_ret
    refine ⟨a', cap', rfl, hR, ((Below.refl _ _).alloc (Nat.le_refl _) _).trans ⟨hG.os, hG.tape, hG.output, hG.size, fun k hk => hG.block k (by simp; omega) (fun e => ?_)⟩, fun k hk => ?_⟩
    · simp [own] at e; omega
    · rcases hO with e | e <;> (rw [e] at hk; simp [own] at hk; omega)
theorem All_any (w : World) (h : NtIs w 49 nb a cap S) (hS : S.Ok) : Calls Try.prog 19 #[.pointer (some ⟨nb, 0, none⟩)] w fun e w' => ∃ a' cap', e = .returned (.slice a' S.way.length cap') ∧ Row w' a' cap' S.way ∧ Below w.heap.size w w' ∧ (∀ k, own a' = some k → w.heap.size ≤ k) := by
  have hc := h.c0
  have C : Hid (∀ w, NtIs w 49 nb a cap S → Calls Try.prog 25 #[.slice a S.way.length cap] w fun e w' => ∃ a' cap', e = .returned (.slice a' S.way.length cap') ∧ Row w' a' cap' S.way ∧ Below w.heap.size w w' ∧ (∀ k, own a' = some k → w.heap.size ≤ k)) := fun w h => Clone_any w S.way S.way.length rfl h.row (by have := hS.len; omega)
  have H : Hid _ := h
  clear h
  go_enter Try.func19, Try.ntmps19
  go_wp2_with (go_at_call 25; refine (C.out _ H.out).mono ?_; rintro e w' ⟨a', cap', rfl, hR, hb, ho⟩)
  go_ret
  exact ⟨a', cap', rfl, hR, hb, ho⟩

/-! ### The law's there -/
def isIn (n : Nat) (i : Int) : Bool := decide (0 ≤ i) && decide (i < (n : Int))
theorem there_any (w : World) (h : NtIs w 28 nb a cap S) (i : Int) : Calls Try.prog 21 #[.pointer (some ⟨nb, 0, none⟩), .int .i64 i] w fun e w' => e = .returned (.bool (isIn S.way.length i)) ∧ w' = w := by
  have hc := h.c0
  by_cases h1 : 0 ≤ i
  · go_enter Try.func21, Try.ntmps21
    go_wp2
    go_ret
    exact ⟨by simp [isIn, h1], rfl⟩
  · go_enter Try.func21, Try.ntmps21
    go_wp2
    go_ret
    exact ⟨by simp [isIn]; omega, rfl⟩
end Go.Proofs.Ytamchicifjnmgaa
