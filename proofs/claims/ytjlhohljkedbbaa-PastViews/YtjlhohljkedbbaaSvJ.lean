/- Views, plain: two of the same past are the same. -/
import Derived.Test.YtjlhohljkedbbaaSvI
namespace Go.Proofs.Ytjlhohljkedbbaa.Pa
open Go.RowKit Gm Go.Maps Go.Sort
open Go.Proofs.Ytjlhohljkedbbaa.So (CL encC encL encO cfC)
set_option linter.unusedVariables false
set_option linter.unusedSimpArgs false
set_option maxRecDepth 100000
section
variable {P : List Gn} {F G : Lit → Option Value} {C D D' : List CL} {lo hi : ByteArray}
theorem gn_eq (hn : P.Pairwise fun a b => a.txn ≠ b.txn) {g g' : Gn} (h : g ∈ P) (h' : g' ∈ P) (e : g.txn = g'.txn) : g = g' := by
  have a := fdP_of hn h
  have b := fdP_of hn h'
  rw [e, b] at a
  cases a
  rfl
theorem Al.uniq (hn : P.Pairwise fun a b => a.txn ≠ b.txn) (h1 : Al P F) (h2 : Al P G) (k : List UInt8) : F (.string k) = G (.string k) := by
  cases hF : F (.string k) with
  | none => exact ((h2.no k).2 ((h1.no k).1 hF)).symm
  | some v =>
    obtain ⟨k1, x, e1, rfl⟩ := h1.vs _ _ hF
    cases hG : G (.string k) with
    | none => rw [(h1.no k).2 ((h2.no k).1 hG)] at hF; cases hF
    | some u =>
      obtain ⟨k2, y, e2, rfl⟩ := h2.vs _ _ hG
      obtain ⟨g, hg, p, q1, q2, q3⟩ := h1.yes k x hF
      obtain ⟨g', hg', p', r1, r2, r3⟩ := h2.yes k y hG
      have a := q3 g' hg' (by rw [r1]; simp)
      have b := r3 g hg (by rw [q1]; simp)
      have e := gn_eq hn hg hg' (Int.le_antisymm a b)
      subst e
      rw [q1] at r1
      cases r1
      rw [q2, r2]
theorem ltK_trans {a b c : CL} (h : ltK a b) (k : ltK b c) : ltK a c := List.lt_trans h k
theorem adj_pw (h : adj C) : C.Pairwise ltK := by
  induction C with
  | nil => exact List.Pairwise.nil
  | cons a C ih =>
    have h2 : adj C := fun j hj => h (j + 1) (by simp; omega)
    refine List.pairwise_cons.2 ⟨fun b hb => ?_, ih h2⟩
    cases C with
    | nil => cases hb
    | cons c C =>
      have h0 : ltK a c := h 0 (by simp)
      rcases List.mem_cons.1 hb with rfl | h3
      · exact h0
      · exact ltK_trans h0 ((List.pairwise_cons.1 (ih h2)).1 b h3)
theorem pw_adj (h : C.Pairwise ltK) : adj C := fun j hj => (List.pairwise_iff_getElem.1 h) j (j + 1) (by omega) hj (by omega)
theorem eq_of_up : ∀ {D D' : List CL}, D.Perm D' → D.Pairwise ltK → D'.Pairwise ltK → D = D'
  | [], D', hp, _, _ => by rw [List.Perm.nil_eq hp]
  | a :: D, [], hp, _, _ => by cases hp.length_eq
  | a :: D, b :: D', hp, s1, s2 => by
    rw [List.pairwise_cons] at s1 s2
    have hab : a = b := by
      rcases List.mem_cons.1 (hp.mem_iff.1 (List.mem_cons_self ..)) with h | h
      · exact h
      · rcases List.mem_cons.1 (hp.mem_iff.2 (List.mem_cons_self ..)) with h' | h'
        · exact h'.symm
        · exact absurd (ltK_trans (s1.1 b h') (s2.1 a h)) (List.lt_irrefl _)
    subst hab
    rw [eq_of_up (List.Perm.cons_inv hp) s1.2 s2.2]
/-- The keys of what a view is made of are distinct. -/
theorem Vs.ne (hF : Al P F) (hC : C.Pairwise ltK) {M2 : List CL} (hM : M2I F lo hi (fun _ => false) M2) : (C.filter (keepC F) ++ M2).Pairwise fun a b => a.1 ≠ b.1 := by
  rw [List.pairwise_append]
  refine ⟨(hC.filter _).imp fun {a b} h e => ?_, hM.nd, fun a ha b hb e => ?_⟩
  · unfold ltK at h
    rw [e] at h
    exact List.lt_irrefl _ h
  · have h1 := (List.mem_filter.1 ha).2
    obtain ⟨x, h2, _⟩ := (hM.mem b).1 hb
    unfold keepC at h1
    rw [e, h2] at h1
    cases h1
theorem Vs.up' (h : Vs F C lo hi D) (hF : Al P F) (hC : C.Pairwise ltK) : D.Pairwise ltK := by
  obtain ⟨M2, hM, hp, _⟩ := h.ex
  have hne : D.Pairwise fun a b => a.1 ≠ b.1 := (hp.pairwise_iff (R := fun a b : CL => a.1 ≠ b.1) (fun h e => h e.symm)).2 (Vs.ne hF hC hM)
  refine (h.up.and hne).imp fun {a b} h => ?_
  have h1 : ¬ b.1.data.toList < a.1.data.toList := by
    have := h.1
    rw [So.ltC] at this
    exact of_decide_eq_false this
  have h2 := List.not_lt.1 h1
  unfold ltK
  rcases List.le_iff_lt_or_eq.1 h2 with h3 | h3
  · exact h3
  · exact absurd (ba_ext h3) h.2
theorem Vs.uniq (hn : P.Pairwise fun a b => a.txn ≠ b.txn) (h1 : Al P F) (h2 : Al P G) (hC : C.Pairwise ltK) (v1 : Vs F C lo hi D) (v2 : Vs G C lo hi D') : D = D' := by
  have e := fun k => h1.uniq hn h2 k
  obtain ⟨M, hM, hp, _⟩ := v1.ex
  obtain ⟨M', hM', hp', _⟩ := v2.ex
  have ek : keepC F = keepC G := funext fun c => by unfold keepC; rw [e]
  have em : M.Perm M' := by
    have n1 : M.Nodup := hM.nd.imp fun h e => h (by rw [e])
    have n2 : M'.Nodup := hM'.nd.imp fun h e => h (by rw [e])
    refine (List.perm_ext_iff_of_nodup n1 n2).2 fun c => ?_
    rw [hM.mem, hM'.mem, e]
  refine eq_of_up (hp.trans (List.Perm.trans ?_ hp'.symm)) (v1.up' h1 hC) (v2.up' h2 hC)
  rw [ek]
  exact List.Perm.append_left _ em
end
end Go.Proofs.Ytjlhohljkedbbaa.Pa
