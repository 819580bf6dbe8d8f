/- The law's waits: both disks tell the same sectors that wait; any step of both. -/
import Derived.Test.YtoafoopenmppgaaStq
namespace Go.Proofs.Ytoafoopenmppgaa
open Go.RowKit Go.Maps Go.ChangeMaps Go.Sort
set_option linter.unusedVariables false
set_option linter.unusedSimpArgs false
set_option maxRecDepth 100000
variable {w w' : World} {db lb mb m pb rb cap : Nat} {pl pk : Int} {S : Dk}

theorem rank_get (f : Nat → Option ByteArray) : ∀ (n i : Nat), i < n → (f i).isSome = true → ((List.range n).filter (fun j => (f j).isSome))[rank f i]? = some i
  | 0, i, h, _ => absurd h (by omega)
  | n + 1, i, h, hs => by
    rw [List.range_succ, List.filter_append]
    by_cases hi : i < n
    · have ih := rank_get f n i hi hs
      rw [List.getElem?_append_left (List.getElem?_eq_some_iff.1 ih).1]
      exact ih
    · have e : i = n := by omega
      subst e
      rw [List.getElem?_append_right (by unfold rank; omega)]
      simp [rank, hs]
theorem rank_all (S : Dk) : rank S.wait S.n = S.waitL.length := rfl

set_option maxHeartbeats 4000000 in
theorem waits_any (w : World) (hD : DkIs w db lb mb m S) (hP : PlIs w pb rb cap pl pk S) (hS : S.Ok) (hm : m ≤ 1000) :
    Calls Try.prog 15 #[.pointer (some ⟨db, 0, none⟩), .pointer (some ⟨pb, 0, none⟩)] w fun e w' => e = .returned (.bool true) ∧ Below w.heap.size w w' := by
  have C : Hid (∀ w, DkIs w db lb mb m S → _) := fun w h => Waiting_any w h hS (by omega)
  have HD : Hid (DkIs w db lb mb m S) := hD
  have HP : Hid (PlIs w pb rb cap pl pk S) := hP
  have hn2 := hS.n2
  have hL := waitL_length S
  clear hD hP
  go_enter Try.func15, Try.ntmps15
  go_wp2_with (go_at_call 23; refine (C.out _ HD.out).mono ?_; rintro e w1 ⟨a, g, cp, rfl, hag, hg, hcell, hbel⟩)
  have hP1 := HP.out.below hbel
  have d0 := hP1.pw.d0
  have HC : Hid _ := hcell
  clear hcell
  go_loopw [6, 7] (fun kv iv wr => ∃ (i k : Nat), kv = .int .i64 (k : Int) ∧ iv = .int .i64 (i : Int) ∧ i ≤ S.n ∧ Hid (k = rank S.wait i) ∧ k ≤ 8192 ∧ wr = w1) (fun _ iv _ => S.n - (intOf iv).toNat)
  case atStart => exact ⟨0, 0, rfl, rfl, by omega, rfl, by omega, rfl⟩
  case round =>
    obtain ⟨i, k, rfl, rfl, hi, hr, hk, rfl⟩ := hrel
    by_cases hin : i < S.n
    · have iI : (i : Int) < (S.n : Int) := by omega
      have r2 := hP1.row.c2 i hin
      cases hw : S.wait i with
      | none =>
        rw [hw] at r2
        simp only [Option.isSome_none] at r2
        go_wp2
        refine ⟨⟨i + 1, k, rfl, by simp, hin, ?_, hk, trivial⟩, by simp [intOf]; omega⟩
        show k = rank S.wait (i + 1)
        rw [rank_none hw]; exact hr.out
      | some cc =>
        rw [hw] at r2
        simp only [Option.isSome_some] at r2
        have hget := rank_get S.wait S.n i hin (by rw [hw]; rfl)
        rw [show (List.range S.n).filter (fun j => (S.wait j).isSome) = S.waitL from rfl, ← hr.out] at hget
        obtain ⟨hkl, hke⟩ := List.getElem?_eq_some_iff.1 hget
        have ha : a = some ⟨g, 0, none⟩ := by
          rcases hag with ⟨_, hnil⟩ | h
          · rw [hnil] at hkl; simp at hkl
          · exact h
        subst ha
        have hcl := HC.out k hkl
        rw [hke] at hcl
        have kI : (k : Int) < (S.waitL.length : Int) := by omega
        have hk2 : k + 1 ≤ 8192 := by omega
        clear hget hke
        go_wp2
        refine ⟨⟨i + 1, k + 1, by simp, by simp, hin, ?_, hk2, trivial⟩, by simp [intOf]; omega⟩
        show k + 1 = rank S.wait (i + 1)
        rw [rank_some hw, hr.out]
    · have hie : i = S.n := by omega
      subst hie
      have iI : ¬ ((S.n : Int) < (S.n : Int)) := by omega
      have hkk : k = S.waitL.length := by rw [hr.out, rank_all]
      subst hkk
      go_wp2
      go_ret
      exact ⟨by simp, hbel⟩

/-- What a step keeps. -/
structure StepOk (S S' : Dk) : Prop where
  ok : S'.Ok
  n : S'.n = S.n
  acts : S'.acts ≤ S.acts + 1
  downs : S'.downs ≤ S.downs + 1
theorem actDk_cnt (S : Dk) : (actDk S).acts ≤ S.acts + 1 ∧ (actDk S).downs ≤ S.downs + 1 := by
  unfold actDk offDk
  split
  · exact ⟨by simp only []; omega, by simp only []; omega⟩
  · split
    · exact ⟨by simp only []; omega, by simp only []; omega⟩
    · exact ⟨by simp only []; omega, by simp only []; omega⟩
theorem StepOk.same (hS : S.Ok) : StepOk S S := ⟨hS, rfl, by omega, by omega⟩
theorem StepOk.write (hS : S.Ok) (hd : S.downs < 1000000) (ha : S.acts < 1000000) (i : Int) (s : ByteArray) : StepOk S (writeDk S i s) := by
  refine ⟨writeDk_ok hS hd ha i s, writeDk_n S i s, ?_, ?_⟩
  all_goals
    have h := actDk_cnt S
    unfold writeDk
    split
    · omega
    · split
      · omega
      · split
        · first | exact h.1 | exact h.2
        · first | exact h.1 | exact h.2
theorem StepOk.sync (hS : S.Ok) (hd : S.downs < 1000000) (ha : S.acts < 1000000) : StepOk S (syncDk S) := by
  refine ⟨syncDk_ok hS hd ha, ?_, ?_, ?_⟩
  · unfold syncDk
    split
    · split
      · exact actDk_n S
      · exact actDk_n S
    · rfl
  all_goals
    have h := actDk_cnt S
    unfold syncDk
    split
    · split
      · first | exact h.1 | exact h.2
      · first | exact h.1 | exact h.2
    · omega
theorem StepOk.off (hS : S.Ok) (hd : S.downs < 1000000) (k : Int) : StepOk S (offDk S k) := ⟨offDk_ok hS k hd, rfl, by simp only [offDk]; omega, by simp only [offDk]; omega⟩
theorem StepOk.arm (hS : S.Ok) {i k : Int} (i0 : 0 ≤ i) (i1 : i ≤ 9223372036854775807) (k0 : 0 ≤ k) (k1 : k ≤ 18446744073709551615) : StepOk S { S with set := true, left := i, keep := k } :=
  ⟨⟨hS.n1, hS.n2, hS.wait, i0, i1, k0, k1, hS.a0, hS.a1, hS.d0, hS.d1⟩, rfl, by simp only []; omega, by simp only []; omega⟩
theorem StepOk.calm (hS : S.Ok) : StepOk S (calmDk S) :=
  ⟨⟨hS.n1, hS.n2, hS.wait, Int.le_refl _, by simp [calmDk], Int.le_refl _, by simp [calmDk], hS.a0, hS.a1, hS.d0, hS.d1⟩, rfl, by simp only [calmDk]; omega, by simp only [calmDk]; omega⟩
theorem StepOk.start (hS : S.Ok) : StepOk S { S with up := true } := ⟨up_ok hS _, rfl, by simp only []; omega, by simp only []; omega⟩

theorem step_any (w : World) (hD : DkIs w db lb mb m S) (hP : ∃ pl pk, PlIs w pb rb cap pl pk S) (hS : S.Ok) (hm : m < 1000) (hA : Apart db lb mb pb rb) (hd : S.downs < 1000000) (ha : S.acts < 1000000)
    (kind i k : Int) (i1 : i ≤ 9223372036854775807) (k0 : 0 ≤ k) (k1 : k ≤ 18446744073709551615) (s : ByteArray) (hs : s.size ≤ 9223372036854775807) :
    Calls Try.prog 10 #[.pointer (some ⟨db, 0, none⟩), .pointer (some ⟨pb, 0, none⟩), .agg #[.int .i64 kind, .int .i64 i, .string s, .int .u64 k]] w fun e w' => e = .returned (.bool true) ∧ ∃ S', StepOk S S' ∧ DkIs w' db lb mb (m + 1) S' ∧ (∃ pl pk, PlIs w' pb rb cap pl pk S') ∧ Off (five db lb mb pb rb) w w' := by
  obtain ⟨pl, pk, hP⟩ := hP
  have fin : ∀ {S' : Dk}, StepOk S S' → (Calls Try.prog 10 #[.pointer (some ⟨db, 0, none⟩), .pointer (some ⟨pb, 0, none⟩), .agg #[.int .i64 kind, .int .i64 i, .string s, .int .u64 k]] w fun e w' => e = .returned (.bool true) ∧ Both w' db lb mb (m + 1) pb rb cap S' ∧ Off (five db lb mb pb rb) w w') →
      Calls Try.prog 10 #[.pointer (some ⟨db, 0, none⟩), .pointer (some ⟨pb, 0, none⟩), .agg #[.int .i64 kind, .int .i64 i, .string s, .int .u64 k]] w fun e w' => e = .returned (.bool true) ∧ ∃ S', StepOk S S' ∧ DkIs w' db lb mb (m + 1) S' ∧ (∃ pl pk, PlIs w' pb rb cap pl pk S') ∧ Off (five db lb mb pb rb) w w' :=
    fun hk hc => hc.mono fun e w' ⟨h1, h2, h3⟩ => ⟨h1, _, hk, h2.d, h2.p, h3⟩
  by_cases e0 : kind = 0
  · subst e0
    cases hu : S.up
    · exact fin (StepOk.same hS) (step0_down w hD hP hS hm hA i k k0 k1 s hs hu)
    · by_cases hi : i < 0 ∨ (S.n : Int) ≤ i
      · exact fin (StepOk.same hS) (step0_range w hD hP hS hm hA i k k0 k1 s hs hu hi)
      · exact fin (StepOk.same hS) (step0_in w hD hP hS hm hA i k k0 k1 s hs hu ⟨by omega, by omega⟩)
  by_cases e1 : kind = 1
  · subst e1; exact fin (StepOk.write hS hd ha i s) (step1_all w hD hP hS hm hA i k k0 k1 s hs)
  by_cases e2 : kind = 2
  · subst e2; exact fin (StepOk.sync hS hd ha) (step2_all w hD hP hS hm hA i k k0 k1 s hs)
  by_cases e3 : kind = 3
  · subst e3
    cases hu : S.up
    · exact fin (StepOk.same hS) (step3_down w hD hP hS hm hA i k k0 k1 s hs hu)
    · exact fin (StepOk.off hS hd k) (step3_up w hD hP hS hm hA i k k0 k1 s hs hu)
  by_cases e4 : kind = 4
  · subst e4
    cases hu : S.up
    · exact fin (StepOk.same hS) (step4_ref w hD hP hS hm hA i k k0 k1 s hs (Or.inl hu))
    · by_cases hi : i < 0
      · exact fin (StepOk.same hS) (step4_ref w hD hP hS hm hA i k k0 k1 s hs (Or.inr hi))
      · exact fin (StepOk.arm hS (by omega) i1 k0 k1) (step4_arm w hD hP hS hm hA i k k0 k1 s hs hu (by omega))
  by_cases e5 : kind = 5
  · subst e5; exact fin (StepOk.calm hS) (step5_all w hD hP hS hm hA i k k0 k1 s hs)
  have n0 : (kind == 0) = false := by simpa using e0
  have n1 : (kind == 1) = false := by simpa using e1
  have n2 : (kind == 2) = false := by simpa using e2
  have n3 : (kind == 3) = false := by simpa using e3
  have n4 : (kind == 4) = false := by simpa using e4
  have n5 : (kind == 5) = false := by simpa using e5
  cases hu : S.up
  · exact fin (StepOk.start hS) (step6_down w hD hP hS hm hA kind i k k0 k1 s hs hu n0 n1 n2 n3 n4 n5)
  · exact fin (StepOk.same hS) (step6_up w hD hP hS hm hA kind i k k0 k1 s hs hu n0 n1 n2 n3 n4 n5)
end Go.Proofs.Ytoafoopenmppgaa
