/- The document's put and text: what they leave is what a writer's Num and Text do. -/
import Derived.Test.YtakdfdnndogaiaaRxMath
import Derived.Laws.BytesArg
namespace Go.Proofs.Ytakdfdnndogaiaa
open Go.RowKit
set_option linter.unusedVariables false
set_option linter.unusedSimpArgs false
set_option maxRecDepth 100000

theorem cv_one (w : World) (x : Int) :
    (convert 31 9 (.slice (some ⟨w.heap.size, 0, none⟩) 1 1)).run Try.prog (w.alloc (.cells #[.int .u8 x] 5)) = .ok (.string ⟨#[UInt8.ofNat x.toNat]⟩) (w.alloc (.cells #[.int .u8 x] 5)) := Pk.cv_one w x
set_option maxHeartbeats 1000000 in
theorem rput_any (A : ByteArray × Int) (n : Int) (k : Nat) (w : World) (hB : Bare A) (hz : A.1.size ≤ 100000000000) (h1 : 1 ≤ k) (h6 : k ≤ 6) :
    Calls Try.prog 25 #[.string A.1, .int .i64 n, .int .i64 (k : Int), .int .i64 A.2] w fun e w' => e = .returned (.tuple #[.string (stepW A n k).1, .int .i64 (stepW A n k).2]) ∧ Below w.heap.size w w' := by
  obtain ⟨a, e⟩ := A
  dsimp only at hz
  have hcv := cv_one
  have hb := Pk.limI_bd k h6
  go_enter Try.func25, Try.ntmps25
  go_wp2
  go_loop [10, 11] (fun o i => ∃ j : Nat, j ≤ k ∧ i = .int .i64 j ∧ o = .int .i64 (Pk.limI j)) (fun _ i => k - (intOf i).toNat)
  case atStart => exact ⟨0, Nat.zero_le _, rfl, rfl⟩
  case round =>
    obtain ⟨j, hj, rfl, rfl⟩ := hrel
    have hbj := Pk.limI_bd j (by omega)
    by_cases hlt : j < k
    · have hb2 := Pk.limI_bd (j + 1) (by omega)
      have HS : Hid (Pk.limI (j + 1) = 256 * Pk.limI j) := Pk.limI_succ j
      have h3 : 256 * Pk.limI j ≤ 281474976710656 := by rw [← HS.out]; exact hb2.2
      have h4 : 1 ≤ 256 * Pk.limI j := by rw [← HS.out]; exact hb2.1
      go_wp2
      go_round
      case rel => exact ⟨j + 1, by omega, by go_num, by rw [HS.out]⟩
      case measure => simp [intOf]; omega
    · have hjk : j = k := by omega
      subst hjk
      by_cases he : e = 0
      · subst he
        by_cases h0 : n < 0
        · have HE : Hid (stepW (a, 0) n (j : Int) = (⟨#[]⟩, 6)) := stepW_bad (by omega) (by omega) (Or.inl h0)
          go_wp2
          go_ret2
          rw [HE.out]
          exact ⟨rfl, Below.refl _ _⟩
        · by_cases h2 : Pk.limI j ≤ n
          · have HE : Hid (stepW (a, 0) n (j : Int) = (⟨#[]⟩, 6)) := stepW_bad (by omega) (by omega) (Or.inr (by rw [Int.toNat_natCast]; exact h2))
            go_wp2
            go_ret2
            rw [HE.out]
            exact ⟨rfl, Below.refl _ _⟩
          · obtain ⟨m, rfl⟩ : ∃ m : Nat, n = m := ⟨n.toNat, by omega⟩
            have HE : Hid (stepW (a, 0) (m : Int) (j : Int) = (a ++ Pk.beS m j, 0)) := (stepW_good (by omega) (by omega) (by omega) (by rw [Int.toNat_natCast]; omega) : stepW (a, 0) (m : Int) (j : Int) = (a ++ Pk.beS (m : Int).toNat (j : Int).toNat, 0))
            have hm : (m : Int) < Pk.limI j := by omega
            have hm2 : (m : Int) ≤ 281474976710656 := by omega
            have H2 : Hid (¬ Pk.limI j ≤ (m : Int)) := h2
            go_wp2
            go_loopw [1, 12, 13] (fun mv sv iv w' => ∃ i q : Nat, i ≤ j ∧ iv = .int .i64 i ∧ Hid (q = m / 256 ^ i) ∧ q ≤ 281474976710656 ∧ mv = .int .i64 q ∧ sv = .string (Pk.beS m i) ∧ Below w.heap.size w w') (fun _ _ iv _ => j - (intOf iv).toNat)
            case atStart => exact ⟨0, m, Nat.zero_le _, rfl, by simp [Hid], by omega, rfl, rfl, Below.refl _ _⟩
            case round =>
              obtain ⟨i, q, hi, rfl, hq, hq2, rfl, rfl, hbel⟩ := hrel
              have hsz : (Pk.beS m i).size ≤ 6 := by rw [Pk.beS_size]; omega
              by_cases hlt2 : i < j
              · go_wp2
                go_roundw
                case rel =>
                  refine ⟨i + 1, q / 256, by omega, by go_num, ?_, by omega, by go_num, ?_, hbel.alloc hbel.size _⟩
                  · show q / 256 = _
                    rw [hq.out, Nat.div_div_eq_div_mul, ← Nat.pow_succ]
                  · rw [Pk.beS_succ, hq.out]
                case measure => simp [intOf]; omega
              · have : i = j := by omega
                subst this
                go_wp2
                go_ret2
                rw [HE.out]
                exact ⟨rfl, hbel⟩
      · have he' : (e != 0) = true := by simpa using he
        have ha : a = ⟨#[]⟩ := hB he
        subst ha
        have HE : Hid (stepW (⟨#[]⟩, e) n (j : Int) = (⟨#[]⟩, e)) := stepW_had he
        go_wp2
        go_ret2
        rw [HE.out]
        exact ⟨rfl, Below.refl _ _⟩
theorem cv_two (w : World) (x y : Int) :
    (convert 31 9 (.slice (some ⟨w.heap.size, 0, none⟩) 2 2)).run Try.prog (w.alloc (.cells #[.int .u8 x, .int .u8 y] 5)) = .ok (.string ⟨#[UInt8.ofNat x.toNat, UInt8.ofNat y.toNat]⟩) (w.alloc (.cells #[.int .u8 x, .int .u8 y] 5)) := by
  have h := run_convert_bytes_arg (P := Try.prog) (w.alloc (.cells #[.int .u8 x, .int .u8 y] 5)) 31 5 Try.underlying31 Try.underlying5 w.heap.size 0 2 2 [x, y] rfl
    (fun i hi => by have : i = 0 ∨ i = 1 := by omega
                    rcases this with rfl | rfl <;> simp [go_sem]) 9 Try.underlying9
  rw [h]; rfl
theorem two_bytes (n : Nat) (h : n ≤ 65535) : (⟨#[UInt8.ofNat (n / 256), UInt8.ofNat (n % 256)]⟩ : ByteArray) = Pk.beS n 2 := by
  rw [Pk.beS_2, Nat.mod_eq_of_lt (show n / 256 < 256 by omega)]
set_option maxHeartbeats 400000 in
theorem rtext_any (A : ByteArray × Int) (t : ByteArray) (w : World) (hB : Bare A) (hz : A.1.size ≤ 100000000000) (ht : A.2 = 0 → t.size ≤ 65535) :
    Calls Try.prog 26 #[.string A.1, .string t, .int .i64 A.2] w fun e w' => e = .returned (.tuple #[.string (stepT A t).1, .int .i64 (stepT A t).2]) ∧ Below w.heap.size w w' := by
  obtain ⟨a, e⟩ := A
  dsimp only at hz ht ⊢
  have hcv := cv_two
  by_cases he : e = 0
  · subst he
    replace ht := ht rfl
    rw [stepT_good ht, ← two_bytes _ ht]
    have hz2 : (⟨#[UInt8.ofNat (t.size / 256), UInt8.ofNat (t.size % 256)]⟩ : ByteArray).size = 2 := rfl
    have hz3 : (a ++ (⟨#[UInt8.ofNat (t.size / 256), UInt8.ofNat (t.size % 256)]⟩ : ByteArray)).size ≤ 200000000000 := by rw [ByteArray.size_append, hz2]; omega
    go_enter Try.func26, Try.ntmps26
    go_wp2
    go_ret2
    exact ⟨rfl, (Below.refl _ _).alloc (Nat.le_refl _) _⟩
  · have he' : (e != 0) = true := by simpa using he
    have ha : a = ⟨#[]⟩ := hB he
    subst ha
    rw [stepT_had he]
    go_enter Try.func26, Try.ntmps26
    go_wp2
    go_ret2
    exact ⟨rfl, Below.refl _ _⟩
end Go.Proofs.Ytakdfdnndogaiaa
