/- The law's without: a list without one of its texts. -/
import Derived.Test.YtamchicifjnmgaaOps
namespace Go.Proofs.Ytamchicifjnmgaa
open Go.RowKit
set_option linter.unusedVariables false
set_option linter.unusedSimpArgs false
set_option maxRecDepth 100000

theorem Row.alloc {w : World} {a : Option Addr} {cap : Nat} {xs : List ByteArray} (h : Row w a cap xs) (o : Obj) : Row (w.alloc o) a cap xs := h.kept (fun k hk => heap_alloc_old w o (h.lt k hk))
/-- The first k texts, without the text i. -/
def pre (xs : List ByteArray) (i k : Nat) : List ByteArray := (xs.take k).eraseIdx i
theorem pre_zero (xs : List ByteArray) (i : Nat) : pre xs i 0 = [] := by simp [pre]
theorem pre_at (xs : List ByteArray) (i : Nat) (hi : i < xs.length) : pre xs i (i + 1) = pre xs i i := by
  simp only [pre, List.eraseIdx_eq_take_drop_succ, List.take_take, List.drop_take]
  simp
theorem pre_succ (xs : List ByteArray) (i k : Nat) (hk : k < xs.length) (hne : k ≠ i) : pre xs i (k + 1) = pre xs i k ++ [xs[k]] := by
  simp only [pre]
  rw [List.take_succ_eq_append_getElem hk]
  rcases Nat.lt_or_ge i k with h | h
  · rw [List.eraseIdx_append_of_lt_length (by simp; omega)]
  · have hl : (xs.take k).length = k := by simp; omega
    rw [List.eraseIdx_append_of_length_le (by omega), List.eraseIdx_of_length_le (l := xs.take k) (by omega), hl]
    have e : i - k = (i - k - 1) + 1 := by omega
    rw [e]; simp
theorem pre_all (xs : List ByteArray) (i : Nat) : pre xs i xs.length = xs.take i ++ xs.drop (i + 1) := by
  simp [pre, List.eraseIdx_eq_take_drop_succ]
theorem pre_le (xs : List ByteArray) (i k : Nat) : (pre xs i k).length ≤ k := by
  simp only [pre, List.length_eraseIdx, List.length_take]
  split <;> omega

/-- A list that the call made. -/
def Fresh (B : Nat) (a : Option Addr) : Prop := ∀ k, own a = some k → B ≤ k
theorem Fresh.grow {B : Nat} {a a' : Option Addr} {n : Nat} (h : Fresh B a) (hn : B ≤ n) (ho : own a' = own a ∨ own a' = some n) : Fresh B a' := fun k hk => by
  rcases ho with e | e
  · exact h k (e ▸ hk)
  · rw [e] at hk; cases hk; exact hn
theorem below_grow {B : Nat} {w w1 w2 : World} {a : Option Addr} (hb : Below B w w1) (hB : B ≤ w1.heap.size) (hf : Fresh B a) (hg : w1.grownBy w2 (own a)) : Below B w w2 :=
  hb.trans ⟨hg.os, hg.tape, hg.output, hg.size, fun k hk => hg.block k (by omega) (fun e => by have := hf k e.symm; omega)⟩

theorem without_any (w : World) {a : Option Addr} {cap : Nat} (xs : List ByteArray) (n : Nat) (hn : n = xs.length) (h : Row w a cap xs) (i : Nat) (hi : i < xs.length) (hz : n ≤ 1000) :
    Calls Try.prog 26 #[.slice a n cap, .int .i64 (i : Int)] w fun e w' => ∃ a' cap', e = .returned (.slice a' (n - 1) cap') ∧ Row w' a' cap' (xs.take i ++ xs.drop (i + 1)) ∧ Below w.heap.size w w' ∧ Fresh w.heap.size a' := by
  obtain ⟨g, rfl, hg, hl, hm⟩ := h.form (fun e => by rw [e] at hi; exact absurd hi (Nat.not_lt_zero _))
  have HR : Hid (Row w (some ⟨g, 0, none⟩) cap xs) := h
  have HN : Hid (n = xs.length) := hn
  have hin : i < n := by omega
  clear h hl hm hn
  go_enter Try.func26, Try.ntmps26
  go_wp2
  go_loopw [5, 6] (fun out kv wr => ∃ (k : Nat) (a' : Option Addr) (cap' m : Nat), out = .slice a' m cap' ∧ kv = .int .i64 (k : Int) ∧ k ≤ n ∧ Hid (m = (pre xs i k).length) ∧ Hid (Row wr a' cap' (pre xs i k)) ∧ Hid (Fresh w.heap.size a') ∧ Below w.heap.size w wr) (fun _ kv _ => n - (intOf kv).toNat)
  case atStart =>
    refine ⟨0, none, 0, 0, rfl, rfl, Nat.zero_le _, (by show _ = _; rw [pre_zero]; rfl), (by show Row _ _ _ _; rw [pre_zero]; exact Row.nil _), (by show Fresh _ _; intro k hk; cases hk), Below.refl _ _⟩
  case round =>
    obtain ⟨k, a', cap', m, rfl, rfl, hkn, hml, hrow, hfr, hb⟩ := hrel
    have hsz := hb.size
    by_cases hk : k < n
    · have hk' : (k : Int) < (n : Int) := by omega
      have hkx : k < xs.length := by have := HN.out; omega
      have hcell : wr.cell? ⟨g, k, none⟩ = some (.string xs[k]) := (hb.cell (by exact hg)).trans (HR.out.cell hkx)
      by_cases hki : k = i
      · subst hki
        go_wp2
        go_roundw
        case rel =>
          exact ⟨k + 1, a', cap', m, rfl, by go_num, by omega, (by show _ = _; rw [pre_at _ _ hkx]; exact hml.out), (by show Row _ _ _ _; rw [pre_at _ _ hkx]; exact hrow.out), hfr, hb⟩
        case measure => simp [intOf]; omega
      · have hne : ((k : Int) != (i : Int)) = true := by simp; omega
        have hm1 : m ≤ 1000 := by have := pre_le xs i k; have := hml.out; omega
        have HP : Hid (pre xs i (k + 1) = pre xs i k ++ [xs[k]]) := pre_succ xs i k hkx hki
        generalize xs[k] = t at hcell HP
        go_wp2_with (at_builtin; refine wpList_append_row rfl (.tmp 16) (.tmp 21) rfl rfl hml.out (hrow.out.alloc _) ⟨wr.heap.size, 0, none⟩ 1 1 [t] rfl rfl (one_new (by simp)) (by omega) ?_; intro a2 cap2 w2 hR hG hO)
        have hb2 : Below w.heap.size w w2 := below_grow (hb.alloc (by omega) _) (by simp; omega) hfr.out hG
        have hf2 : Fresh w.heap.size a2 := hfr.out.grow (by simp; omega) hO
        go_roundw
        case rel =>
          exact ⟨k + 1, a2, cap2, m + 1, rfl, by go_num, by omega, (by show _ = _; rw [HP.out, List.length_append, ← hml.out]; rfl), (by show Row _ _ _ _; rw [HP.out]; exact hR), hf2, hb2⟩
        case measure => simp [intOf]; omega
    · obtain rfl : k = n := by omega
      have hk' : ¬ (k : Int) < (k : Int) := by omega
      have e1 : pre xs i k = xs.take i ++ xs.drop (i + 1) := by rw [HN.out]; exact pre_all xs i
      have e2 : m = k - 1 := by rw [hml.out, e1]; have := HN.out; simp; omega
      have hR := hrow.out
      rw [e1] at hR
      subst e2
      clear hrow hml e1
      go_wp2
      go_ret
      exact ⟨a', cap', rfl, hR, hb, hfr.out⟩
end Go.Proofs.Ytamchicifjnmgaa
