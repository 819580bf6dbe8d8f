/- The document's ahead and change. -/
import Derived.Test.YtakdfdnndogaiaaRfPut
import Derived.Test.YtakdfdnndogaiaaRxRef
import Derived.Test.YtakdfdnndogaiaaRxLyC
namespace Go.Proofs.Ytakdfdnndogaiaa
open Go.RowKit
set_option linter.unusedVariables false
set_option linter.unusedSimpArgs false
set_option maxRecDepth 100000

section
variable {w : World} {s : Sc} {T I : Value} {a : Option Addr} {c : Nat} {l : List Im} {g : List Tb}
def refI (l : List Im) : Int := if whole l then 0 else 4
set_option maxHeartbeats 1000000 in
theorem ahead_im (hk : s.kd = 1 ∨ s.kd = 2) (hf : s.kd = 1 → l.length = 1) (hn : l.length ≤ 1000) (hcs : Cs w a (encI l)) (ht : ∀ p ∈ l, p.2.size ≤ 9223372036854775807) :
    Calls Try.prog 24 #[.agg (s.A (.slice a l.length c) T)] w fun r w' => r = .returned (.int .i64 (refI l)) ∧ Below w.heap.size w w' := by
  obtain ⟨B1, hB1⟩ : ∃ q, q = (s.kd == 1) := ⟨_, rfl⟩
  have e1 := hB1.symm
  have e2 : B1 = false → (s.kd == 2) = true := by
    intro h; rw [h] at e1; simp at e1 ⊢; omega
  have e3 : B1 = true → ((l.length : Int) != 1) = false := by
    intro h; rw [h] at e1; simp at e1; have := hf e1; simp [this]
  clear hk hf hB1
  cases B1
  · replace e2 := e2 rfl
    clear e3
    go_enter Try.func24, Try.ntmps24
    go_wp2_with (refine wpList_box_rc (s := s) (I := _) (T := _) _ rfl _ rfl rfl ?_; intro w0 b0 N0; have k0 := N0.rc.c0; have k9 := N0.rc.c9)
    have hb0 := N0.below
    have hcs0 := hcs.below hb0
    go_loop [3] (fun ix => ∃ i : Nat, i ≤ l.length ∧ ix = .int .i64 (i : Int) ∧ whole (l.take i) = true) (fun ix => l.length - (intOf ix).toNat)
    case atStart => exact ⟨0, Nat.zero_le _, rfl, rfl⟩
    case round =>
      obtain ⟨i, hi, rfl, hw⟩ := hrel
      by_cases hlt : i < l.length
      · obtain ⟨b', off, rfl, hb', HC⟩ := csI_at hcs0 (i := i) (by omega)
        obtain ⟨q0, q1⟩ := HC w0 (Below.refl _ _)
        have hz := ht (l[i]'(by omega)) (List.getElem_mem _)
        have hi2 : (i : Int) < (l.length : Int) := by omega
        have HS : Hid _ := whole_take_succ (l := l) (i := i) (by omega)
        have HF : Hid _ := whole_false (l := l) (i := i) (by omega)
        have HW : Hid (whole (l.take i) = true) := hw
        clear HC hcs0 hcs ht hw
        generalize l[i]'(by omega) = p at *
        obtain ⟨p, t⟩ := p
        dsimp only at q0 q1 hz HS HF
        by_cases h2 : t.size = 224
        · have e : ((t.size : Int) != 224) = false := by simp [h2]
          go_wp2
          go_round
          case rel =>
            refine ⟨i + 1, by omega, by go_num, ?_⟩
            rw [HS.out, HW.out]; simp [h2]
          case measure => simp [intOf]; omega
        · have e : ((t.size : Int) != 224) = true := by simp; omega
          go_wp2
          go_ret
          rw [refI, HF.out h2]
          exact ⟨rfl, hb0⟩
      · have hin : i = l.length := by omega
        have hi2 : ¬ (i : Int) < (l.length : Int) := by omega
        go_wp2
        go_ret
        rw [List.take_of_length_le (by omega)] at hw
        rw [refI, hw]
        exact ⟨rfl, hb0⟩
  · replace e3 := e3 rfl
    clear e2
    go_enter Try.func24, Try.ntmps24
    go_wp2_with (refine wpList_box_rc (s := s) (I := _) (T := _) _ rfl _ rfl rfl ?_; intro w0 b0 N0; have k0 := N0.rc.c0; have k9 := N0.rc.c9)
    have hb0 := N0.below
    have hcs0 := hcs.below hb0
    go_loop [3] (fun ix => ∃ i : Nat, i ≤ l.length ∧ ix = .int .i64 (i : Int) ∧ whole (l.take i) = true) (fun ix => l.length - (intOf ix).toNat)
    case atStart => exact ⟨0, Nat.zero_le _, rfl, rfl⟩
    case round =>
      obtain ⟨i, hi, rfl, hw⟩ := hrel
      by_cases hlt : i < l.length
      · obtain ⟨b', off, rfl, hb', HC⟩ := csI_at hcs0 (i := i) (by omega)
        obtain ⟨q0, q1⟩ := HC w0 (Below.refl _ _)
        have hz := ht (l[i]'(by omega)) (List.getElem_mem _)
        have hi2 : (i : Int) < (l.length : Int) := by omega
        have HS : Hid _ := whole_take_succ (l := l) (i := i) (by omega)
        have HF : Hid _ := whole_false (l := l) (i := i) (by omega)
        have HW : Hid (whole (l.take i) = true) := hw
        clear HC hcs0 hcs ht hw
        generalize l[i]'(by omega) = p at *
        obtain ⟨p, t⟩ := p
        dsimp only at q0 q1 hz HS HF
        by_cases h2 : t.size = 224
        · have e : ((t.size : Int) != 224) = false := by simp [h2]
          go_wp2
          go_round
          case rel =>
            refine ⟨i + 1, by omega, by go_num, ?_⟩
            rw [HS.out, HW.out]; simp [h2]
          case measure => simp [intOf]; omega
        · have e : ((t.size : Int) != 224) = true := by simp; omega
          go_wp2
          go_ret
          rw [refI, HF.out h2]
          exact ⟨rfl, hb0⟩
      · have hin : i = l.length := by omega
        have hi2 : ¬ (i : Int) < (l.length : Int) := by omega
        go_wp2
        go_ret
        rw [List.take_of_length_le (by omega)] at hw
        rw [refI, hw]
        exact ⟨rfl, hb0⟩
end
end Go.Proofs.Ytakdfdnndogaiaa
