/- FoldDiffs, plain; slices.Equal at []api.Cell. -/
import Derived.Test.YtkcpclmkbmeigabFdT
namespace Go.Proofs.Ytkcpclmkbmeigab.Fd
open Go.RowKit Gm Go.Maps
set_option linter.unusedVariables false
set_option linter.unusedSimpArgs false
set_option maxRecDepth 100000
def eB : ByteArray := ⟨#[]⟩
/-- The keys of S, each with nothing. -/
structure Wk (S K : List CL) : Prop where
  up : Ris K
  mem : ∀ c, c ∈ K ↔ (c.2 = eB ∧ ∃ x ∈ S, x.1 = c.1)
theorem Wk.start : Wk [] [] := ⟨List.Pairwise.nil, fun c => ⟨fun h => (by cases h), fun h => by obtain ⟨_, x, hx, _⟩ := h; cases hx⟩⟩
theorem Wk.step {S K : List CL} (h : Wk S K) (x : CL) : Wk (S ++ [x]) (putK K (x.1, eB)) := by
  refine ⟨putK_ris h.up _, fun c => ?_⟩
  rw [putK_mem h.up, h.mem c]
  constructor
  · rintro (h1 | ⟨h1, h2, y, h3, h4⟩)
    · subst h1
      exact ⟨rfl, x, by simp, rfl⟩
    · exact ⟨h2, y, by simp [h3], h4⟩
  · rintro ⟨h1, y, h2, h3⟩
    by_cases e : c.1 = x.1
    · exact Or.inl (Prod.ext e h1)
    · refine Or.inr ⟨e, h1, y, ?_, h3⟩
      rcases List.mem_append.1 h2 with h4 | h4
      · exact h4
      · rw [List.mem_singleton] at h4
        subst h4
        exact absurd h3.symm e
/-- .. but for those that are in both. -/
structure Wg (A B : List CL) (dn : Nat → Nat → Prop) (K : List CL) : Prop where
  up : Ris K
  mem : ∀ c, c ∈ K ↔ (c.2 = eB ∧ (∃ x ∈ A ++ B, x.1 = c.1) ∧ ¬ ∃ i k, dn i k ∧ ∃ (h1 : i < A.length) (h2 : k < B.length), A[i] = B[k] ∧ A[i].1 = c.1)
theorem Wg.start {A B K : List CL} {dn : Nat → Nat → Prop} (h : Wk (A ++ B) K) (hd : ∀ i k, ¬ dn i k) : Wg A B dn K :=
  ⟨h.up, fun c => by
    rw [h.mem c]
    exact ⟨fun ⟨h1, h2⟩ => ⟨h1, h2, fun ⟨i, k, h3, _⟩ => hd i k h3⟩, fun ⟨h1, h2, _⟩ => ⟨h1, h2⟩⟩⟩
theorem Wg.more {A B K : List CL} {dn dn' : Nat → Nat → Prop} (h : Wg A B dn K) (hd : ∀ i k, dn i k ↔ dn' i k) : Wg A B dn' K := by
  have : dn = dn' := funext fun i => funext fun k => propext (hd i k)
  rw [← this]; exact h
theorem Wg.ne {A B K : List CL} {dn dn' : Nat → Nat → Prop} {i k : Nat} (h : Wg A B dn K) (h1 : i < A.length) (h2 : k < B.length) (hne : A[i] ≠ B[k]) (hd : ∀ x y, dn' x y ↔ (dn x y ∨ (x = i ∧ y = k))) : Wg A B dn' K := by
  refine ⟨h.up, fun c => ?_⟩
  rw [h.mem c]
  refine and_congr Iff.rfl (and_congr Iff.rfl (not_congr ⟨?_, ?_⟩))
  · rintro ⟨x, y, h3, h4⟩
    exact ⟨x, y, (hd x y).2 (Or.inl h3), h4⟩
  · rintro ⟨x, y, h3, h4, h5, h6, h7⟩
    rcases (hd x y).1 h3 with h8 | ⟨rfl, rfl⟩
    · exact ⟨x, y, h8, h4, h5, h6, h7⟩
    · exact absurd h6 hne
theorem Wg.eq {A B K : List CL} {dn dn' : Nat → Nat → Prop} {i k : Nat} (h : Wg A B dn K) (h1 : i < A.length) (h2 : k < B.length) (he : A[i] = B[k]) (hd : ∀ x y, dn' x y ↔ (dn x y ∨ (x = i ∧ y = k))) : Wg A B dn' (delK K A[i].1) := by
  refine ⟨delK_ris h.up _, fun c => ?_⟩
  rw [delK_mem h.up, h.mem c]
  constructor
  · rintro ⟨h3, h4, h5, h6⟩
    refine ⟨h4, h5, ?_⟩
    rintro ⟨x, y, h7, h8, h9, h10, h11⟩
    rcases (hd x y).1 h7 with h12 | ⟨rfl, rfl⟩
    · exact h6 ⟨x, y, h12, h8, h9, h10, h11⟩
    · exact h3 h11.symm
  · rintro ⟨h4, h5, h6⟩
    refine ⟨fun e => h6 ⟨i, k, (hd i k).2 (Or.inr ⟨rfl, rfl⟩), h1, h2, he, e.symm⟩, h4, h5, ?_⟩
    rintro ⟨x, y, h7, h8⟩
    exact h6 ⟨x, y, (hd x y).2 (Or.inl h7), h8⟩
theorem up_uniq : ∀ {K L : List ByteArray}, K.Pairwise blt → L.Pairwise blt → (∀ c, c ∈ K ↔ c ∈ L) → K = L
  | [], [], _, _, _ => rfl
  | [], b :: L, _, _, h => by have := (h b).2 (List.mem_cons_self ..); cases this
  | a :: K, [], _, _, h => by have := (h a).1 (List.mem_cons_self ..); cases this
  | a :: K, b :: L, hk, hl, h => by
    have hk' := List.pairwise_cons.1 hk
    have hl' := List.pairwise_cons.1 hl
    have e : a = b := by
      rcases List.mem_cons.1 ((h a).1 (List.mem_cons_self ..)) with h1 | h1
      · exact h1
      · rcases List.mem_cons.1 ((h b).2 (List.mem_cons_self ..)) with h2 | h2
        · exact h2.symm
        · exact absurd (blt_trans (hl'.1 a h1) (hk'.1 b h2)) (blt_irr _)
    subst e
    congr 1
    refine up_uniq hk'.2 hl'.2 fun c => ⟨fun hc => ?_, fun hc => ?_⟩
    · rcases List.mem_cons.1 ((h c).1 (List.mem_cons_of_mem _ hc)) with h1 | h1
      · subst h1; exact absurd (hk'.1 c hc) (blt_irr _)
      · exact h1
    · rcases List.mem_cons.1 ((h c).2 (List.mem_cons_of_mem _ hc)) with h1 | h1
      · subst h1; exact absurd (hl'.1 c hc) (blt_irr _)
      · exact h1
section
variable {A B K : List CL} {dn : Nat → Nat → Prop} {D : List ByteArray}
theorem one_key (ha : Ris A) {x y : CL} (hx : x ∈ A) (hy : y ∈ A) (e : x.1 = y.1) : x = y := by
  obtain ⟨i, hi, e1⟩ := List.getElem_of_mem hx
  obtain ⟨j, hj, e2⟩ := List.getElem_of_mem hy
  have : i = j := ris_key ha hi hj (by rw [e1, e2]; exact e)
  subst this
  exact e1.symm.trans e2
theorem diff_want (hD : DfK A B D) (hK : Wg A B dn K) (hd : ∀ i k, i < A.length → k < B.length → dn i k) (ha : Ris A) (hb : Ris B) : D = K.map (·.1) := by
  refine up_uniq hD.up (List.pairwise_map.2 hK.up) fun k => ?_
  rw [hD.mem k, List.mem_map]
  constructor
  · intro h
    refine ⟨(k, eB), (hK.mem _).2 ⟨rfl, ?_, ?_⟩, rfl⟩
    · rcases h with ⟨c, h1, h2, _⟩ | ⟨⟨c, h1, h2⟩, _⟩
      · exact ⟨c, List.mem_append_right _ h1, h2⟩
      · exact ⟨c, List.mem_append_left _ h1, h2⟩
    · rintro ⟨i, j, _, h1, h2, h3, h4⟩
      rcases h with ⟨c, h5, h6, h7⟩ | ⟨_, h5⟩
      · have e : c = B[j] := one_key hb h5 (List.getElem_mem h2) (by rw [h6, ← h3]; exact h4.symm)
        exact h7 (by rw [e, ← h3]; exact List.getElem_mem h1)
      · exact h5 B[j] (List.getElem_mem h2) (by rw [← h3]; exact h4)
  · rintro ⟨c, hc, rfl⟩
    obtain ⟨h1, ⟨x, h2, h3⟩, h4⟩ := (hK.mem c).1 hc
    by_cases hB : ∃ y ∈ B, y.1 = c.1
    · obtain ⟨y, hy, e⟩ := hB
      refine Or.inl ⟨y, hy, e, fun hyA => h4 ?_⟩
      obtain ⟨i, hi, e1⟩ := List.getElem_of_mem hyA
      obtain ⟨j, hj, e2⟩ := List.getElem_of_mem hy
      exact ⟨i, j, hd i j hi hj, hi, hj, e1.trans e2.symm, by rw [e1]; exact e⟩
    · refine Or.inr ⟨?_, fun y hy e => hB ⟨y, hy, e⟩⟩
      rcases List.mem_append.1 h2 with h5 | h5
      · exact ⟨x, h5, h3⟩
      · exact absurd ⟨x, h5, h3⟩ hB
theorem diff_none (hD : DfK A B D) (ha : Ris A) (hb : Ris B) : D = [] ↔ A = B := by
  constructor
  · intro h
    subst h
    have hno : ∀ k, ¬ ((∃ c ∈ B, c.1 = k ∧ c ∉ A) ∨ ((∃ c ∈ A, c.1 = k) ∧ ∀ c ∈ B, c.1 ≠ k)) := fun k e => by have := (hD.mem k).2 e; cases this
    have hBA : ∀ c ∈ B, c ∈ A := fun c hc => Classical.byContradiction fun e => hno c.1 (Or.inl ⟨c, hc, rfl, e⟩)
    refine ris_uniq ha hb fun c => ⟨fun hc => Classical.byContradiction fun e => ?_, hBA c⟩
    refine hno c.1 (Or.inr ⟨⟨c, hc, rfl⟩, fun y hy e2 => ?_⟩)
    have := one_key ha (hBA y hy) hc e2
    exact e (this ▸ hy)
  · intro h
    subst h
    refine List.eq_nil_iff_forall_not_mem.2 fun k hk => ?_
    rcases (hD.mem k).1 hk with ⟨c, h1, _, h3⟩ | ⟨⟨c, h1, h2⟩, h3⟩
    · exact h3 h1
    · exact h3 c h1 h2
end
section
variable {w : World} {v1 v2 : Value} {K L : List CL}
set_option maxHeartbeats 2000000 in
theorem Equal_any (h1 : Rv w v1 K) (h2 : Rv w v2 L) (hn : K.length ≤ 100000) (hn2 : L.length ≤ 100000) : Calls Try.prog 27 #[v1, v2] w fun e w' => e = .returned (.bool (sameK K L)) ∧ Below w.heap.size w w' := by
  obtain ⟨a0, c0, rfl, -⟩ := h1.ex
  obtain ⟨a1, c1, rfl, -⟩ := h2.ex
  have H1 : Hid (Rv w (.slice a0 K.length c0) K) := h1
  have H2 : Hid (Rv w (.slice a1 L.length c1) L) := h2
  have mixed : Try.prog.follows .mixedOrders = true := by kernel_rfl
  clear h1 h2
  by_cases hl : K.length = L.length
  · obtain ⟨m, hm⟩ : ∃ m, L.length = m := ⟨_, rfl⟩
    have Hm : Hid (K.length = m ∧ L.length = m) := ⟨hl.trans hm, hm⟩
    rw [hl] at H1 hn ⊢
    rw [hm] at H1 H2 hn ⊢
    clear hm hl hn2
    go_enter Try.func27, Try.ntmps27
    go_wp2
    go_loopg [13] m (fun k vi wr => ∃ i : Nat, vi = .int .i64 (i : Int) ∧ m - i ≤ k ∧ i ≤ m ∧ Below w.heap.size w wr ∧ Hid (∀ j (h1 : j < K.length) (h2 : j < L.length), j < i → K[j] = L[j]))
    case atStart => exact ⟨0, rfl, by omega, by omega, Below.refl _ _, fun j _ _ hj => by omega⟩
    case round =>
      obtain ⟨i, rfl, hk, him, hB, HA⟩ := hrel
      have HB : Hid (Below w.heap.size w wr) := hB
      by_cases hlt : i < m
      · have hltI : (i : Int) < (m : Int) := by omega
        have hi1 : i < K.length := by have := Hm.out; omega
        have hi2 : i < L.length := by have := Hm.out; omega
        obtain ⟨g, o, rfl, _, c0', c1'⟩ := (H1.out.bel HB.out).at_ hi1
        obtain ⟨g', o', rfl, _, e0', e1'⟩ := (H2.out.bel HB.out).at_ hi2
        have d0 : wr.drew.cell? ⟨g, o + i * 2, none⟩ = some (.string K[i].1) := c0'
        have d1 : wr.drew.cell? ⟨g, o + i * 2 + 1, none⟩ = some (.string K[i].2) := c1'
        have f0 : wr.drew.cell? ⟨g', o' + i * 2, none⟩ = some (.string L[i].1) := e0'
        have f1 : wr.drew.cell? ⟨g', o' + i * 2 + 1, none⟩ = some (.string L[i].2) := e1'
        have heq : ∀ wx, (binOp .neq 41 (.agg #[.string K[i].1, .string K[i].2]) (.agg #[.string L[i].1, .string L[i].2])).run Try.prog wx = .ok (.bool (!eqC K[i] L[i])) wx := fun wx => (eqlsC wx K[i] L[i]).2
        have HL : Hid (eqC K[i] L[i] = true ↔ K[i] = L[i]) := eqC_iff
        generalize hl : eqC K[i] L[i] = bb at heq HL
        clear hl hB
        cases bb with
        | true =>
          have HT : Hid (K[i] = L[i]) := HL.out.1 rfl
          clear HL
          generalize K[i].1 = ka at c0' d0 heq
          generalize K[i].2 = kb at c1' d1 heq
          generalize L[i].1 = kc at e0' f0 heq
          generalize L[i].2 = kd at e1' f1 heq
          go_wp2_with fail
          go_big_region
          all_goals go_wp2
          go_roundg (m - (i + 1))
          case measure => omega
          case rel => exact ⟨i + 1, by first | rfl | go_num, Nat.le_refl _, by omega, bdr HB.out 1, fun j h1 h2 hj => by
            rcases Nat.lt_or_ge j i with h3 | h3
            · exact HA.out j h1 h2 h3
            · obtain rfl : j = i := by omega
              exact HT.out⟩
        | false =>
          have HT : Hid (sameK K L = false) := sameK_at hi1 hi2 (fun h => by have := HL.out.2 h; cases this)
          clear HL
          generalize K[i].1 = ka at c0' d0 heq
          generalize K[i].2 = kb at c1' d1 heq
          generalize L[i].1 = kc at e0' f0 heq
          generalize L[i].2 = kd at e1' f1 heq
          go_wp2_with fail
          go_big_region
          all_goals go_wp2
          go_ret
          exact ⟨by rw [HT.out]; rfl, bdr HB.out 1⟩
      · have hltI : ¬ (i : Int) < (m : Int) := by omega
        have HT : Hid (sameK K L = true) := sameK_all (Hm.out.1.trans Hm.out.2.symm) (fun j h1 h2 => HA.out j h1 h2 (by have := Hm.out; omega))
        go_wp2
        go_ret
        exact ⟨by rw [HT.out]; rfl, HB.out⟩
  · have HT : Hid (sameK K L = false) := sameK_len hl
    have hlI : ¬ ((K.length : Int) = (L.length : Int)) := by omega
    clear H1 H2
    generalize K.length = m1 at *
    generalize L.length = m2 at *
    go_enter Try.func27, Try.ntmps27
    go_wp2
    go_ret
    exact ⟨by rw [HT.out]; rfl, Below.refl _ _⟩
theorem Same_any (h1 : Rv w v1 K) (h2 : Rv w v2 L) (hn : K.length ≤ 100000) (hn2 : L.length ≤ 100000) : Calls Try.prog 16 #[v1, v2] w fun e w' => e = .returned (.bool (sameK K L)) ∧ Below w.heap.size w w' := by
  have C := Equal_any h1 h2 hn hn2
  obtain ⟨a0, c0, rfl, -⟩ := h1.ex
  obtain ⟨a1, c1, rfl, -⟩ := h2.ex
  clear h1 h2
  generalize sameK K L = bb at *
  generalize K.length = m1 at *
  generalize L.length = m2 at *
  go_enter Try.func16, Try.ntmps16
  go_wp2_with (go_at_call 27; refine C.mono ?_; rintro e w2 ⟨rfl, b2⟩)
  go_ret
  exact ⟨rfl, b2⟩
end
end Go.Proofs.Ytkcpclmkbmeigab.Fd
