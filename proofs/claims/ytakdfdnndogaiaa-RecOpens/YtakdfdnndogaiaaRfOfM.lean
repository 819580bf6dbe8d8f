/- The document reads bytes as the program does: mathematics. -/
import Derived.Test.YtakdfdnndogaiaaLwRnd
import Derived.Test.YtakdfdnndogaiaaRfRd
namespace Go.Proofs.Ytakdfdnndogaiaa
open Go.RowKit
set_option linter.unusedVariables false
set_option linter.unusedSimpArgs false
set_option maxRecDepth 100000

theorem toList_ne {a b : ByteArray} (h : ¬ a = b) : (a.toList == b.toList) = false := by
  rw [beq_eq_false_iff_ne, ByteArray.toList_eq, ByteArray.toList_eq]
  intro e
  exact h (ByteArray.ext (Array.ext' e))
theorem sN_had {q : Lf} {k : Int} (h : q.2 ≠ 0) (h1 : 1 ≤ k) (h6 : k ≤ 6) : sN q k = q := by
  rw [(nN_eq q k h1 h6).2, Pk.rdRaw_had h]
theorem sT_had {q : Lf} {m : Int} (h : q.2 ≠ 0) : sT q m = q := by
  have e2 : (Pk.rdNum q.1 q.2 2).2 = q := sN_had (k := 2) h (by omega) (by omega)
  unfold sT Pk.rdText Pk.rdTextSt
  rw [e2, rdFail_st, if_neg h]
  split <;> rw [Pk.rdRaw_had h]
theorem rdImS_had {q : Lf} {i : Nat} (h : (rdImS q i).2 ≠ 0) : ∀ n, i ≤ n → rdImS q n = rdImS q i := by
  intro n hn
  induction n with
  | zero => obtain rfl : i = 0 := by omega
            rfl
  | succ n ih =>
    by_cases e : i = n + 1
    · rw [e]
    · have := ih (by omega)
      show sT (sN (rdImS q n) 2) 224 = _
      rw [this, sN_had h (by omega) (by omega), sT_had h]
theorem rdTbS_had {q : Lf} {i : Nat} (h : (rdTbS q i).2 ≠ 0) : ∀ n, i ≤ n → rdTbS q n = rdTbS q i := by
  intro n hn
  induction n with
  | zero => obtain rfl : i = 0 := by omega
            rfl
  | succ n ih =>
    by_cases e : i = n + 1
    · rw [e]
    · have := ih (by omega)
      show sN (sN (rdTbS q n) 6) 6 = _
      rw [this, sN_had h (by omega) (by omega), sN_had h (by omega) (by omega)]
theorem clean_chg (K : Int) (hK : K = 3 ∨ K = 4 ∨ K = 5) (x y : Int) (q : Lf) : cleanS (rdChg K {kR K with tx := x, pv := y} q).1 = (rdChg K {kR K with tx := x, pv := y} q).1 := by
  rcases hK with rfl | rfl | rfl <;> simp [rdChg, cleanS, rcN, rcO, rcB, rc1, kR, zS, actOf]
theorem clean_und (a x y z : Int) (q : Lf) : cleanS (rdChg a {kR 6 with tx := x, pv := y, nx := z, ac := a} q).1 = (rdChg a {kR 6 with tx := x, pv := y, nx := z, ac := a} q).1 := by
  unfold rdChg
  by_cases h3 : a = 3
  · rw [if_pos h3]; simp [cleanS, rcN, rc1, kR, zS, actOf, h3]
  · by_cases h4 : a = 4
    · rw [if_neg h3, if_pos h4]; simp [cleanS, rcO, rc1, kR, zS, actOf, h4]
    · rw [if_neg h3, if_neg h4]; simp [cleanS, rcB, rc1, kR, zS, actOf, h3, h4]
theorem chg_kd (a : Int) (s : Sc) (q : Lf) : (rdChg a s q).1.kd = s.kd := by
  unfold rdChg; repeat' split
  all_goals rfl
theorem cleanM_nil {s : Sc} (h : cleanS s = s) : cleanM ⟨s, [], []⟩ = ⟨s, [], []⟩ := by
  unfold cleanM
  dsimp only
  rw [h, ite_self, ite_self]
theorem cleanM_rdM (t : ByteArray) : cleanM (rdM t).1 = (rdM t).1 := by
  unfold rdM
  dsimp only
  generalize nN (t, 0) 1 = k
  generalize sN (t, 0) 1 = q
  by_cases h12 : k = 1 ∨ k = 2
  · rw [if_pos h12]
    rcases h12 with rfl | rfl <;> simp [cleanM, cleanS, kR, zS]
  rw [if_neg h12]
  by_cases h345 : k = 3 ∨ k = 4 ∨ k = 5
  · rw [if_pos h345]
    exact cleanM_nil (clean_chg k h345 (nN q 6) (nN (sN q 6) 6) (sN (sN q 6) 6))
  rw [if_neg h345]
  by_cases h6 : k = 6
  · subst h6
    rw [if_pos rfl]
    exact cleanM_nil (clean_und (nN (sN (sN (sN q 6) 6) 6) 1) (nN q 6) (nN (sN q 6) 6) (nN (sN (sN q 6) 6) 6) (sN (sN (sN (sN q 6) 6) 6) 1))
  rw [if_neg h6]
  by_cases h78 : k = 7 ∨ k = 8
  · rw [if_pos h78]
    rcases h78 with rfl | rfl <;> simp [cleanM, cleanS, kR, zS]
  rw [if_neg h78]
  by_cases h9 : k = 9
  · subst h9; rw [if_pos rfl]; simp [cleanM, cleanS, kR, zS]
  rw [if_neg h9]
  by_cases h10 : k = 10
  · subst h10; rw [if_pos rfl]; simp [cleanM, cleanS, kR, zS]
  rw [if_neg h10]
  have a3 : ¬ (k = 3 ∨ k = 4 ∨ k = 5 ∨ k = 6) := by omega
  simp [cleanM, cleanS, kR, zS, h12, a3, h78, h9, h10]
/-- What the document says that bytes are. -/
def rofM (t : ByteArray) : Rm × Int :=
  if (rdM t).2.2 ≠ 0 then (zM, (rdM t).2.2) else if (bodyM (rdM t).1).2 = 0 ∧ (bodyM (rdM t).1).1 = t then ((rdM t).1, 0) else (zM, 4)
theorem rofM_eq (t : ByteArray) : rofM t = ofM t := by
  unfold rofM ofM
  have hc := cleanM_rdM t
  have hb := fun h => rdM_body (m := (rdM t).1) (t := t) hc h
  generalize rdM t = R at *
  obtain ⟨m, l, e⟩ := R
  dsimp only at *
  by_cases he : e = 0
  · subst he
    unfold Pk.rdEnd
    by_cases hl : 0 < l.size
    · rw [if_pos hl, rdFail_st, if_pos rfl]
      dsimp only
      rw [if_neg (by simp), if_pos (show (4 : Int) ≠ 0 by decide), if_neg]
      rintro ⟨h1, h2⟩
      have := hb (Prod.ext h2 h1)
      have h3 : l = ⟨#[]⟩ := congrArg (fun x : Rm × Lf => x.2.1) this
      rw [h3] at hl
      exact absurd hl (by simp [Pk.size_nil])
    · rw [if_neg hl]
  · have e2 : (Pk.rdEnd l e).2 = e := by
      unfold Pk.rdEnd
      rw [rdFail_st, if_neg he]
      split <;> rfl
    rw [e2, if_pos he]
end Go.Proofs.Ytakdfdnndogaiaa
