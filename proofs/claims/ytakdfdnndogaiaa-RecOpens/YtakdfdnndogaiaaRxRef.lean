/- Why a record has no bytes: areWhole, tooLong, isFormed, refusal. -/
import Derived.Test.YtakdfdnndogaiaaRxRow
import Derived.Deep.RegionHeld3
namespace Go.Proofs.Ytakdfdnndogaiaa
open Go.RowKit
set_option linter.unusedVariables false
set_option linter.unusedSimpArgs false
set_option maxRecDepth 100000

theorem whole_take_succ {l : List Im} {i : Nat} (hi : i < l.length) : whole (l.take (i + 1)) = (whole (l.take i) && decide (l[i].2.size = 224)) := by
  rw [List.take_succ_eq_append_getElem hi]; simp only [whole, List.all_append, List.all_cons, List.all_nil, Bool.and_true]
theorem whole_false {l : List Im} {i : Nat} (hi : i < l.length) (h : ¬ l[i].2.size = 224) : whole l = false := by
  unfold whole
  rw [List.all_eq_false]
  exact ⟨l[i], List.getElem_mem hi, by simpa using h⟩
set_option maxHeartbeats 400000 in
theorem areWhole_any {w : World} {a : Option Addr} {n c : Nat} (l : List Im) (hl : l.length = n) (hn : n ≤ 1000) (hcs : Cs w a (encI l)) (ht : ∀ p ∈ l, p.2.size ≤ 9223372036854775807) :
    Calls Try.prog 66 #[.slice a n c] w fun r w' => r = .returned (.bool (whole l)) ∧ Below w.heap.size w w' := by
  go_enter Try.func66, Try.ntmps66
  go_wp2
  go_loopw [7] (fun ix wr => ∃ i : Nat, i ≤ n ∧ ix = .int .i64 (i : Int) ∧ whole (l.take i) = true ∧ Below w.heap.size w wr) (fun ix _ => n - (intOf ix).toNat)
  case atStart => exact ⟨0, Nat.zero_le _, rfl, rfl, Below.refl _ _⟩
  case round =>
    obtain ⟨i, hi, rfl, hw, hb⟩ := hrel
    by_cases hlt : i < n
    · obtain ⟨b', off, rfl, hb', HC⟩ := csI_at hcs (i := i) (by omega)
      obtain ⟨q0, q1⟩ := HC wr hb
      have hz := ht (l[i]'(by omega)) (List.getElem_mem _)
      have hi2 : (i : Int) < (n : Int) := by omega
      have HS : Hid _ := whole_take_succ (l := l) (i := i) (by omega)
      have HF : Hid _ := whole_false (l := l) (i := i) (by omega)
      have HW : Hid (whole (l.take i) = true) := hw
      have HB : Hid (Below w.heap.size w wr) := hb
      clear HC hcs ht hw hb
      generalize l[i]'(by omega) = p at *
      obtain ⟨p, t⟩ := p
      dsimp only at q0 q1 hz HS HF
      by_cases h2 : t.size = 224
      · have e : ((t.size : Int) != 224) = false := by simp [h2]
        go_wp2
        go_roundw
        case rel =>
          refine ⟨i + 1, by omega, by go_num, ?_, HB.out.alloc HB.out.size _⟩
          rw [HS.out, HW.out]; simp [h2]
        case measure => simp [intOf]; omega
      · have e : ((t.size : Int) != 224) = true := by simp; omega
        go_wp2
        go_ret
        rw [HF.out h2]
        exact ⟨rfl, HB.out.alloc HB.out.size _⟩
    · have hin : i = n := by omega
      subst hin
      have hi2 : ¬ (i : Int) < (i : Int) := by omega
      go_wp2
      go_ret
      rw [List.take_of_length_le (by omega)] at hw
      rw [hw]
      exact ⟨rfl, hb⟩
theorem tooLong_1 {w : World} {g : Nat} {t : ByteArray} (m : Int) (hg : w.cell? ⟨g, 0, none⟩ = some (.string t)) (ht : t.size ≤ 9223372036854775807) :
    Calls Try.prog 54 #[.int .i64 m, .slice (some ⟨g, 0, none⟩) 1 1] w fun r w' => r = .returned (.bool (decide (m < t.size))) ∧ w' = w := by
  by_cases h : m < (t.size : Int)
  · go_enter Try.func54, Try.ntmps54
    go_wp2
    refine wp_loop_rounds 2 ?_
    rw [rounds_succ]
    go_wp2
    go_ret
    exact ⟨by simp [h], rfl⟩
  · go_enter Try.func54, Try.ntmps54
    go_wp2
    refine wp_loop_rounds 2 ?_
    rw [rounds_succ]
    go_wp2
    rw [rounds_succ]
    go_wp2
    go_ret
    exact ⟨by simp [h], rfl⟩
theorem tooLong_2 {w : World} {g : Nat} {t u : ByteArray} (m : Int) (hg : w.cell? ⟨g, 0, none⟩ = some (.string t)) (hg' : w.cell? ⟨g, 1, none⟩ = some (.string u)) (ht : t.size ≤ 9223372036854775807) (hu : u.size ≤ 9223372036854775807) :
    Calls Try.prog 54 #[.int .i64 m, .slice (some ⟨g, 0, none⟩) 2 2] w fun r w' => r = .returned (.bool (decide (m < t.size) || decide (m < u.size))) ∧ w' = w := by
  by_cases h : m < (t.size : Int)
  · go_enter Try.func54, Try.ntmps54
    go_wp2
    refine wp_loop_rounds 3 ?_
    rw [rounds_succ]
    go_wp2
    go_ret
    exact ⟨by simp [h], rfl⟩
  · by_cases h2 : m < (u.size : Int)
    · go_enter Try.func54, Try.ntmps54
      go_wp2
      refine wp_loop_rounds 3 ?_
      rw [rounds_succ]
      go_wp2
      rw [rounds_succ]
      go_wp2
      go_ret
      exact ⟨by simp [h2], rfl⟩
    · go_enter Try.func54, Try.ntmps54
      go_wp2
      refine wp_loop_rounds 3 ?_
      rw [rounds_succ]
      go_wp2
      rw [rounds_succ]
      go_wp2
      rw [rounds_succ]
      go_wp2
      go_ret
      exact ⟨by simp [h, h2], rfl⟩
section
variable {w : World} {s : Sc} {T : Value} {a : Option Addr} {c : Nat} {l : List Im} {g : List Tb}
set_option maxHeartbeats 400000 in
theorem isFormed_any (hn : l.length ≤ 1000) (hcs : Cs w a (encI l)) (ht : ∀ p ∈ l, p.2.size ≤ 9223372036854775807) :
    Calls Try.prog 53 #[.agg (s.A (.slice a l.length c) T)] w fun r w' => r = .returned (.bool (formed ⟨s, l, g⟩)) ∧ Below w.heap.size w w' := by
  have CW : Hid (∀ w', Below w.heap.size w w' → Calls Try.prog 66 #[.slice a l.length c] w' fun r w'' => r = .returned (.bool (whole l)) ∧ Below w'.heap.size w' w'') := fun w' hb => areWhole_any l rfl hn (hcs.below hb) ht
  clear hcs ht
  unfold formed
  dsimp only
  by_cases h1 : s.kd = 1
  · rw [if_pos h1]
    have e1 : (s.kd == 1) = true := by simpa using h1
    by_cases hl : l.length = 1
    · have e2 : ((l.length : Int) == 1) = true := by simp [hl]
      have hd : decide (l.length = 1) = true := by simpa using hl
      rw [hd, Bool.true_and]
      generalize whole l = q at *
      clear h1 hl hd
      go_enter Try.func53, Try.ntmps53
      go_wp2_with (first
        | (refine wpList_box_rc (s := s) (I := _) (T := _) _ rfl _ rfl rfl ?_; intro w0 b0 N0; have k0 := N0.rc.c0; have k9 := N0.rc.c9)
        | (go_at_call 66; refine (CW.out _ N0.below).mono ?_; rintro e w1 ⟨rfl, b1⟩))
      go_ret
      exact ⟨rfl, thn N0.below b1⟩
    · have e2 : ((l.length : Int) == 1) = false := by simp; omega
      have hd : decide (l.length = 1) = false := by simpa using hl
      rw [hd, Bool.false_and]
      clear h1 hl hd
      go_enter Try.func53, Try.ntmps53
      go_wp2_with (refine wpList_box_rc (s := s) (I := _) (T := _) _ rfl _ rfl rfl ?_; intro w0 b0 N0; have k0 := N0.rc.c0; have k9 := N0.rc.c9)
      go_ret
      exact ⟨rfl, N0.below⟩
  · rw [if_neg h1]
    have e1 : (s.kd == 1) = false := by simpa using h1
    by_cases h2 : s.kd = 2
    · rw [if_pos h2]
      have e2 : (s.kd == 2) = true := by simpa using h2
      generalize whole l = q at *
      clear h1 h2
      go_enter Try.func53, Try.ntmps53
      go_wp2_with (first
        | (refine wpList_box_rc (s := s) (I := _) (T := _) _ rfl _ rfl rfl ?_; intro w0 b0 N0; have k0 := N0.rc.c0; have k9 := N0.rc.c9)
        | (go_at_call 66; refine (CW.out _ N0.below).mono ?_; rintro e w1 ⟨rfl, b1⟩))
      go_ret
      exact ⟨rfl, thn N0.below b1⟩
    · rw [if_neg h2]
      have e2 : (s.kd == 2) = false := by simpa using h2
      by_cases h6 : s.kd = 6
      · rw [if_pos h6]
        have e6 : (s.kd == 6) = true := by simpa using h6
        clear h1 h2 h6
        by_cases a3 : s.ac = 3
        · have f3 : (s.ac == 3) = true := by simpa using a3
          have hd : decide (s.ac = 3 ∨ s.ac = 4 ∨ s.ac = 5) = true := by simp [a3]
          rw [hd]
          clear a3 hd
          go_enter Try.func53, Try.ntmps53
          go_wp2_with (refine wpList_box_rc (s := s) (I := _) (T := _) _ rfl _ rfl rfl ?_; intro w0 b0 N0; have k0 := N0.rc.c0; have k4 := N0.rc.c4)
          go_ret
          exact ⟨rfl, N0.below⟩
        · have f3 : (s.ac == 3) = false := by simpa using a3
          by_cases a4 : s.ac = 4
          · have f4 : (s.ac == 4) = true := by simpa using a4
            have hd : decide (s.ac = 3 ∨ s.ac = 4 ∨ s.ac = 5) = true := by simp [a4]
            rw [hd]
            clear a3 a4 hd
            go_enter Try.func53, Try.ntmps53
            go_wp2_with (refine wpList_box_rc (s := s) (I := _) (T := _) _ rfl _ rfl rfl ?_; intro w0 b0 N0; have k0 := N0.rc.c0; have k4 := N0.rc.c4)
            go_ret
            exact ⟨rfl, N0.below⟩
          · have f4 : (s.ac == 4) = false := by simpa using a4
            have hd : decide (s.ac = 3 ∨ s.ac = 4 ∨ s.ac = 5) = (s.ac == 5) := by by_cases a5 : s.ac = 5 <;> simp [a3, a4, a5]
            rw [hd]
            clear a3 a4 hd
            generalize hq : (s.ac == 5) = q at *
            go_enter Try.func53, Try.ntmps53
            go_wp2_with (refine wpList_box_rc (s := s) (I := _) (T := _) _ rfl _ rfl rfl ?_; intro w0 b0 N0; have k0 := N0.rc.c0; have k4 := N0.rc.c4)
            go_ret
            exact ⟨rfl, N0.below⟩
      · rw [if_neg h6]
        have e6 : (s.kd == 6) = false := by simpa using h6
        clear h1 h2 h6
        go_enter Try.func53, Try.ntmps53
        go_wp2_with (refine wpList_box_rc (s := s) (I := _) (T := _) _ rfl _ rfl rfl ?_; intro w0 b0 N0; have k0 := N0.rc.c0; have k4 := N0.rc.c4)
        go_ret
        exact ⟨rfl, N0.below⟩
end
end Go.Proofs.Ytakdfdnndogaiaa
