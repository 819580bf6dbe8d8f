/- The developers' past beside the document's: what the calls tell, in the words of the list. -/
import Derived.Test.YtjlhohljkedbbaaPtB
import Derived.Test.YtjlhohljkedbbaaPsT
namespace Go.Proofs.Ytjlhohljkedbbaa.Pa
open Go.RowKit Gm Go.Maps Go.Sort
set_option linter.unusedVariables false
set_option linter.unusedSimpArgs false
set_option maxRecDepth 100000
def fdP (P : List Gn) (t : Int) : Option Gn := P.find? fun g => g.txn == t
def lastP (P : List Gn) (t : Int) : Int := ((fdP P t).map fun g => g.last).getD 0
def cntP (P : List Gn) (t : Int) : Nat := ((fdP P t).map fun g => g.ks.length).getD 0
def txs (P : List Gn) : List Int := srtI (P.map fun g => g.txn)
def tabP (P : List Gn) : List (List Value) := (txs P).map fun t => [.int .i64 t, .int .i64 (lastP P t)]
/-- What is known of those who go on. -/
structure Pi (P : List Gn) : Prop where
  nd : P.Pairwise fun a b => a.txn ≠ b.txn
  kn : ∀ g ∈ P, g.ks.Pairwise fun a b => a.1.data.toList ≠ b.1.data.toList
  wf : ∀ g ∈ P, wfT g.txn
  ks : ∀ g ∈ P, ∀ p ∈ g.ks, p.1.size ≤ 9223372036854775807
  le : P.length ≤ 100
  kl : ∀ g ∈ P, g.ks.length ≤ 100
section
variable {W V : Nat → Prop} {w w' : World} {pb : Nat} {P : List Gn} {L : List Dv}
theorem Dp.pi (h : Dp W w pb P) (hw : ∀ g ∈ P, wfT g.txn) (hk : ∀ g ∈ P, ∀ p ∈ g.ks, p.1.size ≤ 9223372036854775807) (hl : P.length ≤ 100) (hkl : ∀ g ∈ P, g.ks.length ≤ 100) : Pi P := by
  obtain ⟨bl, bw, L, hI, rfl⟩ := h.ex
  refine ⟨List.pairwise_map.2 (hI.nd.imp fun h => h.1), fun g hg => ?_, hw, hk, hl, hkl⟩
  obtain ⟨d, hd, rfl⟩ := List.mem_map.1 hg
  exact hI.kn d hd
theorem fdP_map (L : List Dv) (t : Int) : fdP (L.map (·.g)) t = (lkD L t).map (·.g) := by
  unfold fdP lkD
  rw [List.find?_map]
  rfl
theorem lastP_map (L : List Dv) (t : Int) : lastP (L.map (·.g)) t = lastL L t := by
  unfold lastP lastL
  rw [fdP_map]
  cases lkD L t <;> rfl
/-- The keys of all, rising. -/
structure KyP (P : List Gn) (ks : List (List UInt8)) : Prop where
  up : ks.Pairwise fun a b => a < b
  mem : ∀ x, x ∈ ks ↔ ∃ g ∈ P, lkK g.ks x ≠ none
  le : ∀ x ∈ ks, x.length ≤ 9223372036854775807
structure KyR (w : World) (P : List Gn) (e : Ending) (w' : World) : Prop where
  ex : ∃ v ks, e = .returned v ∧ KyP P ks ∧ Row w' 9 1 v (sC ks) ∧ (∀ g, v.ownBlock = some g → w.heap.size ≤ g) ∧ ks.length ≤ 100000
  bel : Below w.heap.size w w'
theorem tgM_mem (x : List UInt8) : ∀ (ts : List Int) (f : Lit → Option Value), ((ts.foldl (tgS L) f) (.string x)).isSome = true ↔ (f (.string x)).isSome = true ∨ ∃ t ∈ ts, lkK (ksL L t) x ≠ none := by
  intro ts
  induction ts with
  | nil => intro f; simp
  | cons t ts ih =>
    intro f
    rw [List.foldl_cons, ih]
    have e : (tgS L f t (.string x)).isSome = true ↔ lkK (ksL L t) x ≠ none ∨ (f (.string x)).isSome = true := by
      unfold tgS
      rw [fK_at]
      cases lkK (ksL L t) x <;> simp
    rw [e]
    constructor
    · rintro ((h | h) | ⟨t', h1, h2⟩)
      · exact Or.inr ⟨t, List.mem_cons_self .., h⟩
      · exact Or.inl h
      · exact Or.inr ⟨t', List.mem_cons_of_mem _ h1, h2⟩
    · rintro (h | ⟨t', h1, h2⟩)
      · exact Or.inl (Or.inr h)
      · rcases List.mem_cons.1 h1 with rfl | h3
        · exact Or.inl (Or.inl h2)
        · exact Or.inr ⟨t', h3, h2⟩
theorem Keys_P (h : Dp W w pb P) (hi : Pi P) : Calls Try.prog 23 #[.pointer (some ⟨pb, 0, none⟩)] w fun e w' => KyR w P e w' := by
  obtain ⟨bl, bw, L, hI, rfl⟩ := h.ex
  have hll : L.length ≤ 100 := by have := hi.le; rwa [List.length_map] at this
  refine (Keys_any (K := 100) hI h.lt (by omega) (fun d hd => hi.kl _ (List.mem_map.2 ⟨d, hd, rfl⟩)) (by omega) (fun d hd => hi.wf _ (List.mem_map.2 ⟨d, hd, rfl⟩))).mono ?_
  rintro e w' ⟨n, hn, ⟨v, ks, rfl, hk, hr, ho, hlen⟩, hb⟩
  refine ⟨⟨v, ks, rfl, ⟨hk.up, fun x => ?_, hk.le⟩, hr, ho, by omega⟩, hb⟩
  rw [hk.mem]
  unfold tgM
  rw [tgM_mem]
  constructor
  · rintro (h | ⟨t, h1, h2⟩)
    · cases h
    · rw [List.mem_reverse] at h1
      obtain ⟨d, hd, rfl⟩ := List.mem_map.1 (mem_srtI.1 h1)
      rw [ksL_some (lkD_of hI.nd hd)] at h2
      exact ⟨d.g, List.mem_map.2 ⟨d, hd, rfl⟩, h2⟩
  · rintro ⟨g, hg, h2⟩
    obtain ⟨d, hd, rfl⟩ := List.mem_map.1 hg
    exact Or.inr ⟨d.g.txn, by rw [List.mem_reverse, mem_srtI]; exact List.mem_map.2 ⟨d, hd, rfl⟩, by rw [ksL_some (lkD_of hI.nd hd)]; exact h2⟩
/-! ### The list's own words -/
theorem srtI_up {l : List Int} (h : l.Nodup) : (srtI l).Pairwise fun a b => a < b := by
  have tr : ∀ a b c : Int, decide (a ≤ b) = true → decide (b ≤ c) = true → decide (a ≤ c) = true := fun a b c h1 h2 => by simp only [decide_eq_true_eq] at *; omega
  have to : ∀ a b : Int, (decide (a ≤ b) || decide (b ≤ a)) = true := fun a b => by simp only [Bool.or_eq_true, decide_eq_true_eq]; omega
  have hs := List.pairwise_mergeSort tr to l
  have hn : (srtI l).Nodup := (List.mergeSort_perm l _).nodup_iff.2 h
  refine (hs.and hn).imp fun {a b} h => ?_
  have h1 : a ≤ b := by simpa using h.1
  have h2 : a ≠ b := h.2
  omega
theorem Pi.txs_up (h : Pi P) : (txs P).Pairwise fun a b => a < b := srtI_up (List.pairwise_map.2 h.nd)
theorem txs_len (P : List Gn) : (txs P).length = P.length := by unfold txs srtI; rw [List.length_mergeSort, List.length_map]
theorem mem_txs {t : Int} : t ∈ txs P ↔ ∃ g ∈ P, g.txn = t := by unfold txs; rw [mem_srtI, List.mem_map]
theorem fdP_of (hn : P.Pairwise fun a b => a.txn ≠ b.txn) {g : Gn} (hg : g ∈ P) : fdP P g.txn = some g := by
  unfold fdP
  induction P with
  | nil => cases hg
  | cons x P ih =>
    rw [List.pairwise_cons] at hn
    rw [List.find?_cons]
    rcases List.mem_cons.1 hg with rfl | h
    · simp
    · have := hn.1 g h
      rw [show (x.txn == g.txn) = false by simpa using this]
      exact ih hn.2 h
/-- One of the numbers is found at its place. -/
theorem fnd_at (h : Pi P) {t : Int} (ht : t ∈ txs P) : ∃ hk : fnd P t < P.length, P[fnd P t].txn = t ∧ P[fnd P t].last = lastP P t ∧ P[fnd P t].ks.length = cntP P t ∧ fI P t = fnd P t := by
  have hk : fnd P t < P.length := fnd_lt.2 (mem_txs.1 ht)
  have e1 : P[fnd P t].txn = t := by
    have : (P[fnd P t].txn == t) = true := List.findIdx_getElem (w := hk)
    exact eq_of_beq this
  have e2 := fdP_of h.nd (List.getElem_mem hk)
  rw [e1] at e2
  refine ⟨hk, e1, ?_, ?_, if_pos hk⟩
  · unfold lastP; rw [e2]; rfl
  · unfold cntP; rw [e2]; rfl
theorem sum_perm {l l' : List Nat} (h : l.Perm l') : l.sum = l'.sum := h.sum_nat
theorem cnt_sum (h : Pi P) : ((txs P).map (cntP P)).sum = actsM P := by
  have h1 : ((txs P).map (cntP P)).Perm ((P.map fun g => g.txn).map (cntP P)) := (List.mergeSort_perm _ _).map _
  rw [sum_perm h1, List.map_map]
  unfold actsM
  congr 1
  exact List.map_congr_left fun g hg => by
    show cntP P g.txn = _
    unfold cntP
    rw [fdP_of h.nd hg]
    rfl
theorem acts_le (h : Pi P) : actsM P ≤ 10000 := by
  have : ∀ (Q : List Gn), (∀ g ∈ Q, g.ks.length ≤ 100) → (Q.map fun g => g.ks.length).sum ≤ Q.length * 100 := by
    intro Q hQ
    induction Q with
    | nil => simp
    | cons a l ih =>
      have h1 := hQ a (List.mem_cons_self ..)
      have h2 := ih (fun g hg => hQ g (List.mem_cons_of_mem _ hg))
      simp only [List.map_cons, List.sum_cons, List.length_cons]
      omega
  have h2 := this P h.kl
  have := h.le
  unfold actsM
  omega
/-- The document's get beside Get. -/
theorem g1_miss (key : ByteArray) (x : Ws) (t : Int) : ∀ (ks : List (ByteArray × Ws)) (s : Bool × Int × Bool), lkK ks key.data.toList = none → ks.foldl (g1 key x t) s = s := by
  intro ks
  induction ks with
  | nil => intro s _; rfl
  | cons p ks ih =>
    intro s h
    rw [lkK_none] at h
    rw [List.foldl_cons]
    have e : g1 key x t s p = s := by
      unfold g1 eqB
      simp only [bytes_list]
      have := h p (List.mem_cons_self ..)
      rw [show (p.1.data.toList == key.data.toList) = false by simpa using this]
      rfl
    rw [e]
    exact ih s (lkK_none.2 fun q hq => h q (List.mem_cons_of_mem _ hq))
theorem g1_hit (key : ByteArray) (x : Ws) (t : Int) : ∀ (ks : List (ByteArray × Ws)) (s : Bool × Int × Bool) (p : ByteArray × Ws), (ks.Pairwise fun a b => a.1.data.toList ≠ b.1.data.toList) → lkK ks key.data.toList = some p → ks.foldl (g1 key x t) s = if !s.1 || decide (t < s.2.1) then (true, t, eqW p.2 x) else s := by
  intro ks
  induction ks with
  | nil => intro s p _ h; cases h
  | cons q ks ih =>
    intro s p hn h
    rw [List.pairwise_cons] at hn
    rw [List.foldl_cons]
    by_cases e : q.1.data.toList = key.data.toList
    · have e2 : p = q := by
        unfold lkK at h
        rw [List.find?_cons, show (q.1.data.toList == key.data.toList) = true by simpa using e] at h
        cases h; rfl
      subst e2
      rw [g1_miss key x t ks _ (lkK_none.2 fun a ha e3 => hn.1 a ha (e.trans e3.symm))]
      unfold g1 eqB
      simp only [bytes_list]
      rw [show (p.1.data.toList == key.data.toList) = true by simpa using e]
      simp
    · have e2 : lkK ks key.data.toList = some p := by
        unfold lkK at h ⊢
        rw [List.find?_cons, show (q.1.data.toList == key.data.toList) = false by simpa using e] at h
        exact h
      have e3 : g1 key x t s q = s := by
        unfold g1 eqB
        simp only [bytes_list]
        rw [show (q.1.data.toList == key.data.toList) = false by simpa using e]
        rfl
      rw [e3]
      exact ih s p hn.2 e2
/-- What get has found: nothing, or the least that has the key. -/
structure GfI (Q : List Gn) (key : ByteArray) (x : Ws) (s : Bool × Int × Bool) : Prop where
  no : s.1 = false → ∀ g ∈ Q, lkK g.ks key.data.toList = none
  yes : s.1 = true → ∃ g ∈ Q, ∃ p, lkK g.ks key.data.toList = some p ∧ s.2.1 = g.txn ∧ s.2.2 = eqW p.2 x ∧ ∀ g' ∈ Q, lkK g'.ks key.data.toList ≠ none → g.txn ≤ g'.txn
theorem gfI (key : ByteArray) (x : Ws) : ∀ (Q R : List Gn) (s : Bool × Int × Bool), (∀ g ∈ Q ++ R, g.ks.Pairwise fun a b => a.1.data.toList ≠ b.1.data.toList) → GfI Q key x s → GfI (Q ++ R) key x (R.foldl (gI key x) s) := by
  intro Q R
  induction R generalizing Q with
  | nil => intro s _ h; simpa using h
  | cons g R ih =>
    intro s hn h
    rw [List.foldl_cons, show Q ++ g :: R = (Q ++ [g]) ++ R by simp]
    refine ih (Q ++ [g]) _ (by simpa using hn) ?_
    have hg := hn g (by simp)
    unfold gI
    cases hk : lkK g.ks key.data.toList with
    | none =>
      rw [g1_miss key x g.txn g.ks s hk]
      refine ⟨fun e a ha => ?_, fun e => ?_⟩
      · rcases List.mem_append.1 ha with h1 | h1
        · exact h.no e a h1
        · rw [List.mem_singleton] at h1; rw [h1]; exact hk
      · obtain ⟨g0, h0, p, h1, h2, h3, h4⟩ := h.yes e
        refine ⟨g0, List.mem_append_left _ h0, p, h1, h2, h3, fun a ha hne => ?_⟩
        rcases List.mem_append.1 ha with h5 | h5
        · exact h4 a h5 hne
        · rw [List.mem_singleton] at h5; rw [h5] at hne; exact absurd hk hne
    | some p =>
      rw [g1_hit key x g.txn g.ks s p hg hk]
      split
      · rename_i hc
        refine ⟨(fun e => by cases e), fun _ => ⟨g, by simp, p, hk, rfl, rfl, fun a ha hne => ?_⟩⟩
        rcases List.mem_append.1 ha with h5 | h5
        · cases hs : s.1 with
          | false => exact absurd (h.no hs a h5) hne
          | true =>
            obtain ⟨g0, h0, p0, h1, h2, h3, h4⟩ := h.yes hs
            have := h4 a h5 hne
            rw [hs] at hc
            simp at hc
            omega
        · rw [List.mem_singleton] at h5; rw [h5]; exact Int.le_refl _
      · rename_i hc
        have hs : s.1 = true := by cases hs : s.1 with | false => rw [hs] at hc; simp at hc | true => rfl
        rw [hs] at hc
        simp at hc
        refine ⟨fun e => (by rw [hs] at e; cases e), fun e => ?_⟩
        obtain ⟨g0, h0, p0, h1, h2, h3, h4⟩ := h.yes e
        refine ⟨g0, List.mem_append_left _ h0, p0, h1, h2, h3, fun a ha hne => ?_⟩
        rcases List.mem_append.1 ha with h5 | h5
        · exact h4 a h5 hne
        · rw [List.mem_singleton] at h5; rw [h5]; omega
theorem eqW_self (x : Ws) : eqW x x = true := by
  unfold eqW eqB
  simp
theorem Pi.inj (h : Pi P) {a b : Gn} (ha : a ∈ P) (hb : b ∈ P) (e : a.txn = b.txn) : a = b := by
  have h1 := fdP_of h.nd ha
  have h2 := fdP_of h.nd hb
  rw [e, h2] at h1
  exact (Option.some.inj h1).symm
/-- Get and get are of one word. -/
theorem get_both (h : Pi P) {key : ByteArray} {x : Ws} {is : Bool} (hg : GtO P key.data.toList x is) : (gF key x P).1 = is ∧ (is = true → (gF key x P).2.2 = true) := by
  have hf := gfI key x [] P (false, 0, false) (by simpa using h.kn) ⟨fun _ g hg => by (cases hg), fun e => by cases e⟩
  simp only [List.nil_append] at hf
  have e0 : P.foldl (gI key x) (false, 0, false) = gF key x P := rfl
  rw [e0] at hf
  cases is with
  | false =>
    refine ⟨?_, fun e => by cases e⟩
    cases hs : (gF key x P).1 with
    | false => rfl
    | true =>
      obtain ⟨g, h0, p, h1, _⟩ := hf.yes hs
      rw [(hg.no rfl).2 g h0] at h1
      cases h1
  | true =>
    obtain ⟨g, h0, p, h1, h2, h3⟩ := hg.yes rfl
    cases hs : (gF key x P).1 with
    | false => rw [hf.no hs g h0] at h1; cases h1
    | true =>
      refine ⟨rfl, fun _ => ?_⟩
      obtain ⟨g', h0', p', h1', h2', h3', h4'⟩ := hf.yes hs
      have a1 := h3 g' h0' (by rw [h1']; simp)
      have a2 := h4' g h0 (by rw [h1]; simp)
      obtain rfl := h.inj h0 h0' (by omega)
      rw [h1] at h1'
      cases h1'
      rw [h3', h2]
      exact eqW_self _
end
end Go.Proofs.Ytjlhohljkedbbaa.Pa
