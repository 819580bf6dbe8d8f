/- RecOpens: what is opened is what the document says. -/
import Derived.Test.YtakdfdnndogaiaaLwOpA
import Derived.Test.YtakdfdnndogaiaaLwOpB
import Derived.Test.YtakdfdnndogaiaaLwOpC
import Derived.Test.YtakdfdnndogaiaaLwOpD
import Derived.Test.YtakdfdnndogaiaaLwOpE
namespace Go.Proofs.Ytakdfdnndogaiaa
open Go.RowKit
set_option linter.unusedVariables false
set_option linter.unusedSimpArgs false
set_option maxRecDepth 100000

theorem toList_inj {a b : ByteArray} (h : a.toList = b.toList) : a = b := by
  rw [ByteArray.toList_eq, ByteArray.toList_eq] at h
  exact ByteArray.ext (Array.toList_inj.1 h)
theorem idx_at (s : ByteArray) (n : Nat) (h : n < s.size) : ∀ W, (Instr.index 9 (.string s) (.int .i64 (n : Int))).run Try.prog W = .ok (.int .u8 ((s[n]'h).toNat : Int)) W := by
  intro W
  rw [run_index_string (h := Try.underlying9), dif_pos ⟨by omega, by omega⟩]
  simp only [Int.toNat_natCast]
theorem slc_at (s : ByteArray) (a b : Nat) (h : a ≤ b) (hb : b ≤ s.size) : ∀ W, (Instr.slice 9 (.string s) (some (.int .i64 (a : Int))) (some (.int .i64 (b : Int))) none).run Try.prog W = .ok (.string (s.extract a b)) W := by
  intro W
  have := run_slice_string (P := Try.prog) W 9 s .i64 .i64 (a : Int) (b : Int) Try.underlying9 (by omega) (by omega) (by omega)
  rw [Int.toNat_natCast, Int.toNat_natCast] at this
  exact this
section
variable {w : World} {t u : ByteArray}
theorem opens_all0 (ht : ¬ (1000 : Int) < t.size) (htz : t.size ≤ 1000) (a : Int) : Calls Try.prog 7 #[.string t, .int .i64 a] w fun e w' => e = .returned (.bool true) ∧ Below w.heap.size w w' := by
  by_cases h0 : a < 0
  · exact opens_neg0 ht htz h0 (openM_out (Or.inl h0))
  by_cases h1 : (t.size : Int) < a
  · exact opens_far0 ht htz h0 h1 (openM_out (Or.inr h1))
  obtain ⟨n, rfl⟩ : ∃ n : Nat, a = n := ⟨a.toNat, by omega⟩
  by_cases h2 : (t.size : Int) - (n : Int) < 6
  · exact opens_six0 ht htz h0 h1 h2 (openM_six (by omega) (by omega))
  have ha : n + 6 ≤ t.size := by omega
  obtain ⟨k, hk⟩ : ∃ k : Nat, 256 * (t[n]'(by omega)).toNat + (t[n + 1]'(by omega)).toNat = k := ⟨_, rfl⟩
  have hi1 := idx_at t n (by omega)
  have hi2 := idx_at t (n + 1) (by omega)
  rw [show ((n + 1 : Nat) : Int) = (n : Int) + 1 by omega] at hi2
  have x1 := (t[n]'(by omega)).toNat_lt
  have y1 := (t[n + 1]'(by omega)).toNat_lt
  have hxy : 256 * ((t[n]'(by omega)).toNat : Int) + ((t[n + 1]'(by omega)).toNat : Int) = (k : Int) := by omega
  have G := fun (P : Prop) (h : (0 : Int) ≤ ((t[n]'(by omega)).toNat : Int) → ((t[n]'(by omega)).toNat : Int) < 256 → (0 : Int) ≤ ((t[n + 1]'(by omega)).toNat : Int) → ((t[n + 1]'(by omega)).toNat : Int) < 256 → (0 : Int) ≤ (k : Int) → (k : Int) < 65536 → P) => h (by omega) (by omega) (by omega) (by omega) (by omega) (by omega)
  by_cases h3 : (k : Int) < 1
  · exact G _ fun a1 a2 a3 a4 a5 a6 => opens_lit0 ht htz h0 h1 h2 a1 a2 a3 a4 hi1 hi2 hxy a5 a6 h3 (openM_form ha hk (Or.inl (by omega)))
  by_cases h4 : 4096 < (k : Int)
  · exact G _ fun a1 a2 a3 a4 a5 a6 => opens_big0 ht htz h0 h1 h2 a1 a2 a3 a4 hi1 hi2 hxy a5 a6 h3 h4 (openM_form ha hk (Or.inr (by omega)))
  by_cases h5 : (t.size : Int) - (n : Int) - 6 < (k : Int)
  · exact G _ fun a1 a2 a3 a4 a5 a6 => opens_sho0 ht htz h0 h1 h2 a1 a2 a3 a4 hi1 hi2 hxy a5 a6 h3 h4 h5 (openM_short ha hk (by omega) (by omega) (by omega))
  have hl : n + 6 + k ≤ t.size := by omega
  have hs1 := slc_at t (n + 6) (n + 6 + k) (by omega) hl
  have hs2 := slc_at t (n + 2) (n + 6 + k) (by omega) hl
  rw [show ((n + 6 : Nat) : Int) = (n : Int) + 6 by omega, show ((n + 6 + k : Nat) : Int) = (n : Int) + 6 + (k : Int) by omega] at hs1
  rw [show ((n + 2 : Nat) : Int) = (n : Int) + 2 by omega, show ((n + 6 + k : Nat) : Int) = (n : Int) + 6 + (k : Int) by omega] at hs2
  have z1 : (t.extract (n + 6) (n + 6 + k)).size ≤ 1000 := by rw [ext_size hl]; omega
  have z2 : (t.extract (n + 2) (n + 6 + k)).size ≤ 1000 := by rw [ext_size hl]; omega
  by_cases hs : Sm.sealV (t.extract (n + 6) (n + 6 + k)) = t.extract (n + 2) (n + 6 + k)
  · have ho := openM_of ha hk (by omega) (by omega) hl hs
    have hq : (Sm.sealV (t.extract (n + 6) (n + 6 + k))).toList = (t.extract (n + 2) (n + 6 + k)).toList := by rw [hs]
    by_cases hE : (ofM (t.extract (n + 6) (n + 6 + k))).2 = 0
    · rw [if_neg (by simpa using hE)] at ho
      exact G _ fun a1 a2 a3 a4 a5 a6 => opens_goo0 ht htz h0 h1 h2 a1 a2 a3 a4 hi1 hi2 hxy a5 a6 h3 h4 h5 hs1 hs2 z1 z2 hq hE ho
    · rw [if_pos hE] at ho
      exact G _ fun a1 a2 a3 a4 a5 a6 => opens_bad0 ht htz h0 h1 h2 a1 a2 a3 a4 hi1 hi2 hxy a5 a6 h3 h4 h5 hs1 hs2 z1 z2 hq hE ho
  · exact G _ fun a1 a2 a3 a4 a5 a6 => opens_sum0 ht htz h0 h1 h2 a1 a2 a3 a4 hi1 hi2 hxy a5 a6 h3 h4 h5 hs1 hs2 z1 z2 (fun e => hs (toList_inj e)) (openM_sum ha hk (by omega) (by omega) hl hs)
theorem opens_all1 (ht : (1000 : Int) < t.size) (htz : t.size ≤ 140737488351232) (hu : t.extract 0 1000 = u) (huz : u.size ≤ 1000) (a : Int) : Calls Try.prog 7 #[.string t, .int .i64 a] w fun e w' => e = .returned (.bool true) ∧ Below w.heap.size w w' := by
  by_cases h0 : a < 0
  · exact opens_neg1 ht htz hu huz h0 (openM_out (Or.inl h0))
  by_cases h1 : (u.size : Int) < a
  · exact opens_far1 ht htz hu huz h0 h1 (openM_out (Or.inr h1))
  obtain ⟨n, rfl⟩ : ∃ n : Nat, a = n := ⟨a.toNat, by omega⟩
  by_cases h2 : (u.size : Int) - (n : Int) < 6
  · exact opens_six1 ht htz hu huz h0 h1 h2 (openM_six (by omega) (by omega))
  have ha : n + 6 ≤ u.size := by omega
  obtain ⟨k, hk⟩ : ∃ k : Nat, 256 * (u[n]'(by omega)).toNat + (u[n + 1]'(by omega)).toNat = k := ⟨_, rfl⟩
  have hi1 := idx_at u n (by omega)
  have hi2 := idx_at u (n + 1) (by omega)
  rw [show ((n + 1 : Nat) : Int) = (n : Int) + 1 by omega] at hi2
  have x1 := (u[n]'(by omega)).toNat_lt
  have y1 := (u[n + 1]'(by omega)).toNat_lt
  have hxy : 256 * ((u[n]'(by omega)).toNat : Int) + ((u[n + 1]'(by omega)).toNat : Int) = (k : Int) := by omega
  have G := fun (P : Prop) (h : (0 : Int) ≤ ((u[n]'(by omega)).toNat : Int) → ((u[n]'(by omega)).toNat : Int) < 256 → (0 : Int) ≤ ((u[n + 1]'(by omega)).toNat : Int) → ((u[n + 1]'(by omega)).toNat : Int) < 256 → (0 : Int) ≤ (k : Int) → (k : Int) < 65536 → P) => h (by omega) (by omega) (by omega) (by omega) (by omega) (by omega)
  by_cases h3 : (k : Int) < 1
  · exact G _ fun a1 a2 a3 a4 a5 a6 => opens_lit1 ht htz hu huz h0 h1 h2 a1 a2 a3 a4 hi1 hi2 hxy a5 a6 h3 (openM_form ha hk (Or.inl (by omega)))
  by_cases h4 : 4096 < (k : Int)
  · exact G _ fun a1 a2 a3 a4 a5 a6 => opens_big1 ht htz hu huz h0 h1 h2 a1 a2 a3 a4 hi1 hi2 hxy a5 a6 h3 h4 (openM_form ha hk (Or.inr (by omega)))
  by_cases h5 : (u.size : Int) - (n : Int) - 6 < (k : Int)
  · exact G _ fun a1 a2 a3 a4 a5 a6 => opens_sho1 ht htz hu huz h0 h1 h2 a1 a2 a3 a4 hi1 hi2 hxy a5 a6 h3 h4 h5 (openM_short ha hk (by omega) (by omega) (by omega))
  have hl : n + 6 + k ≤ u.size := by omega
  have hs1 := slc_at u (n + 6) (n + 6 + k) (by omega) hl
  have hs2 := slc_at u (n + 2) (n + 6 + k) (by omega) hl
  rw [show ((n + 6 : Nat) : Int) = (n : Int) + 6 by omega, show ((n + 6 + k : Nat) : Int) = (n : Int) + 6 + (k : Int) by omega] at hs1
  rw [show ((n + 2 : Nat) : Int) = (n : Int) + 2 by omega, show ((n + 6 + k : Nat) : Int) = (n : Int) + 6 + (k : Int) by omega] at hs2
  have z1 : (u.extract (n + 6) (n + 6 + k)).size ≤ 1000 := by rw [ext_size hl]; omega
  have z2 : (u.extract (n + 2) (n + 6 + k)).size ≤ 1000 := by rw [ext_size hl]; omega
  by_cases hs : Sm.sealV (u.extract (n + 6) (n + 6 + k)) = u.extract (n + 2) (n + 6 + k)
  · have ho := openM_of ha hk (by omega) (by omega) hl hs
    have hq : (Sm.sealV (u.extract (n + 6) (n + 6 + k))).toList = (u.extract (n + 2) (n + 6 + k)).toList := by rw [hs]
    by_cases hE : (ofM (u.extract (n + 6) (n + 6 + k))).2 = 0
    · rw [if_neg (by simpa using hE)] at ho
      exact G _ fun a1 a2 a3 a4 a5 a6 => opens_goo1 ht htz hu huz h0 h1 h2 a1 a2 a3 a4 hi1 hi2 hxy a5 a6 h3 h4 h5 hs1 hs2 z1 z2 hq hE ho
    · rw [if_pos hE] at ho
      exact G _ fun a1 a2 a3 a4 a5 a6 => opens_bad1 ht htz hu huz h0 h1 h2 a1 a2 a3 a4 hi1 hi2 hxy a5 a6 h3 h4 h5 hs1 hs2 z1 z2 hq hE ho
  · exact G _ fun a1 a2 a3 a4 a5 a6 => opens_sum1 ht htz hu huz h0 h1 h2 a1 a2 a3 a4 hi1 hi2 hxy a5 a6 h3 h4 h5 hs1 hs2 z1 z2 (fun e => hs (toList_inj e)) (openM_sum ha hk (by omega) (by omega) hl hs)
end
theorem opens_walk (w : World) (t : ByteArray) (a : Int) (h : t.size ≤ 140737488351232) : Calls Try.prog 7 #[.string t, .int .i64 a] w fun e w' => e = .returned (.bool true) ∧ Below w.heap.size w w' := by
  by_cases hl : (1000 : Int) < t.size
  · exact opens_all1 hl h rfl (by rw [ByteArray.size_extract]; omega) a
  · exact opens_all0 hl (by omega) a
end Go.Proofs.Ytakdfdnndogaiaa
