/- View of the developers' past, in the words of the list. -/
import Derived.Test.YtjlhohljkedbbaaSvD
import Derived.Test.YtjlhohljkedbbaaPtC
namespace Go.Proofs.Ytjlhohljkedbbaa.Pa
open Go.RowKit Gm Go.Maps Go.Sort
open Go.Proofs.Ytjlhohljkedbbaa.So (CL encC encL encO cfC)
set_option linter.unusedVariables false
set_option linter.unusedSimpArgs false
set_option maxRecDepth 100000
/-- What all keys had: of several who turned one, the least number's word. -/
structure Al (P : List Gn) (F : Lit → Option Value) : Prop where
  vs : ∀ l v, F l = some v → ∃ k, ∃ x : Ws, l = .string k ∧ v = .agg x.A
  no : ∀ k, F (.string k) = none ↔ ∀ g ∈ P, lkK g.ks k = none
  yes : ∀ k (x : Ws), F (.string k) = some (.agg x.A) → ∃ g ∈ P, ∃ p, lkK g.ks k = some p ∧ x = p.2 ∧ ∀ g' ∈ P, lkK g'.ks k ≠ none → g.txn ≤ g'.txn
section
variable {L : List Dv} {W : Nat → Prop} {w : World} {pb : Nat} {P : List Gn}
theorem fK_inv {ks : List (ByteArray × Ws)} {l : Lit} {v : Value} (h : fK ks l = some v) : ∃ k, ∃ p, l = .string k ∧ lkK ks k = some p ∧ v = .agg p.2.A := by
  cases l <;> try (cases h; done)
  rename_i k
  rw [fK_at] at h
  cases hk : lkK ks k with
  | none => rw [hk] at h; cases h
  | some p => rw [hk] at h; cases h; exact ⟨k, p, rfl, hk, rfl⟩
/-- The least of the numbers that has a word gives it. -/
theorem tgM_least {l : Lit} {v : Value} : ∀ r : List Int, r.Pairwise (fun a b => a < b) → tgM L r.reverse l = some v → ∃ t ∈ r, fK (ksL L t) l = some v ∧ ∀ t' ∈ r, fK (ksL L t') l ≠ none → t ≤ t'
  | [], _, h => by cases h
  | t :: r, hp, h => by
    rw [List.pairwise_cons] at hp
    rw [List.reverse_cons, tgM_snoc] at h
    unfold tgS at h
    cases hk : fK (ksL L t) l with
    | some u =>
      rw [hk] at h
      cases h
      refine ⟨t, List.mem_cons_self .., hk, fun t' ht' _ => ?_⟩
      rcases List.mem_cons.1 ht' with rfl | h2
      · exact Int.le_refl _
      · exact Int.le_of_lt (hp.1 t' h2)
    | none =>
      rw [hk] at h
      obtain ⟨t0, h1, h2, h3⟩ := tgM_least r hp.2 h
      refine ⟨t0, List.mem_cons_of_mem _ h1, h2, fun t' ht' hn => ?_⟩
      rcases List.mem_cons.1 ht' with rfl | h4
      · exact absurd hk hn
      · exact h3 t' h4 hn
theorem tgM_some {l : Lit} : ∀ r : List Int, (∃ t ∈ r, fK (ksL L t) l ≠ none) → tgM L r.reverse l ≠ none
  | [], ⟨t, h, _⟩ => by cases h
  | t :: r, ⟨t0, h0, h1⟩ => by
    rw [List.reverse_cons, tgM_snoc]
    unfold tgS
    cases hk : fK (ksL L t) l with
    | some u => simp
    | none =>
      rcases List.mem_cons.1 h0 with rfl | h2
      · exact absurd hk h1
      · simpa using tgM_some r ⟨t0, h2, h1⟩
theorem al_of (hI : L.Pairwise fun a b => a.g.txn ≠ b.g.txn) : Al (L.map (·.g)) (tgM L (srtI (L.map fun d => d.g.txn)).reverse) := by
  have hup : (srtI (L.map fun d => d.g.txn)).Pairwise fun a b => a < b := srtI_up (List.pairwise_map.2 hI)
  have hof : ∀ d ∈ L, ksL L d.g.txn = d.g.ks := fun d hd => ksL_some (by
    unfold lkD
    have : ∀ (L : List Dv), (L.Pairwise fun a b => a.g.txn ≠ b.g.txn) → d ∈ L → L.find? (fun x => x.g.txn == d.g.txn) = some d := by
      intro L
      induction L with
      | nil => intro _ h; cases h
      | cons x L ih =>
        intro hp h
        rw [List.pairwise_cons] at hp
        rw [List.find?_cons]
        rcases List.mem_cons.1 h with rfl | h2
        · simp
        · rw [show (x.g.txn == d.g.txn) = false by simpa using hp.1 d h2]
          exact ih hp.2 h2
    exact this L hI hd)
  have hmem : ∀ t, t ∈ srtI (L.map fun d => d.g.txn) → ∃ d ∈ L, d.g.txn = t := fun t ht => List.mem_map.1 (mem_srtI.1 ht)
  refine ⟨fun l v h => ?_, fun k => ⟨fun h g hg => ?_, fun h => ?_⟩, fun k x h => ?_⟩
  · obtain ⟨t, _, h2, _⟩ := tgM_least _ hup h
    obtain ⟨k, p, e1, _, e2⟩ := fK_inv h2
    exact ⟨k, p.2, e1, e2⟩
  · obtain ⟨d, hd, rfl⟩ := List.mem_map.1 hg
    cases hk : lkK d.g.ks k with
    | none => rfl
    | some p =>
      exfalso
      refine tgM_some (L := L) (l := .string k) _ ⟨d.g.txn, mem_srtI.2 (List.mem_map.2 ⟨d, hd, rfl⟩), ?_⟩ h
      rw [hof d hd, fK_at, hk]
      simp
  · cases hk : tgM L (srtI (L.map fun d => d.g.txn)).reverse (.string k) with
    | none => rfl
    | some v =>
      exfalso
      obtain ⟨t, h1, h2, _⟩ := tgM_least _ hup hk
      obtain ⟨d, hd, rfl⟩ := hmem t h1
      rw [hof d hd, fK_at, h _ (List.mem_map.2 ⟨d, hd, rfl⟩)] at h2
      cases h2
  · obtain ⟨t, h1, h2, h3⟩ := tgM_least _ hup h
    obtain ⟨d, hd, rfl⟩ := hmem t h1
    rw [hof d hd] at h2
    obtain ⟨k', p, e1, e2, e3⟩ := fK_inv h2
    cases e1
    refine ⟨d.g, List.mem_map.2 ⟨d, hd, rfl⟩, p, e2, wsA_inj e3, fun g' hg' hn => ?_⟩
    obtain ⟨d', hd', rfl⟩ := List.mem_map.1 hg'
    refine h3 d'.g.txn (mem_srtI.2 (List.mem_map.2 ⟨d', hd', rfl⟩)) ?_
    rw [hof d' hd', fK_at]
    cases hq : lkK d'.g.ks k with
    | none => exact absurd hq hn
    | some _ => simp
/-- What View leaves, in the words of the list. -/
structure VpO (w : World) (P : List Gn) (C : List CL) (lo hi : ByteArray) (most : Int) (e : Ending) (w' : World) : Prop where
  ex : ∃ F, Al P F ∧ VwO w F C lo hi most e w'
theorem View_P {v : Value} {C : List CL} {lo hi : ByteArray} {most : Int} (h : Dp W w pb P) (hi' : Pi P) (hv : Rv w v C) (hn : C.length ≤ 1000) (hks : ∀ c ∈ C, c.1.size ≤ 9223372036854775807) :
    Calls Try.prog 10 #[.pointer (some ⟨pb, 0, none⟩), v, .string lo, .string hi, .int .i64 most] w fun e w' => VpO w P C lo hi most e w' := by
  obtain ⟨bl, bw, L, hI, rfl⟩ := h.ex
  have hll : L.length ≤ 100 := by have := hi'.le; rwa [List.length_map] at this
  have hal := al_of (hI.nd.imp fun h => h.1)
  have CT := together_any (K := 100) hI h.lt (by omega) (fun d hd => hi'.kl _ (List.mem_map.2 ⟨d, hd, rfl⟩)) (by omega) (fun d hd => hi'.wf _ (List.mem_map.2 ⟨d, hd, rfl⟩))
  refine (View_any (F := tgM L (srtI (L.map fun d => d.g.txn)).reverse) hI.is (CT.mono ?_) ⟨hal.vs⟩ hv hn hks).mono fun e w' hw => ⟨_, hal, hw⟩
  rintro e w' ⟨⟨b, n, rfl, k1, k2, k3⟩, hb⟩
  refine ⟨⟨b, n, rfl, k1, k2, ?_⟩, hb⟩
  have : (srtI (L.map fun d => d.g.txn)).reverse.length = L.length := by unfold srtI; rw [List.length_reverse, List.length_mergeSort, List.length_map]
  rw [this] at k3
  omega
end
end Go.Proofs.Ytjlhohljkedbbaa.Pa
