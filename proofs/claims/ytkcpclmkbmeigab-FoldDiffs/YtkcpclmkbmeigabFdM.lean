/- fold, plain: what was committed, rising; what goes on. -/
import Derived.WalkKit
import Derived.Lib.Bytealg
namespace Go.Proofs.Ytkcpclmkbmeigab.Fd
open Go.RowKit
set_option linter.unusedVariables false
set_option linter.unusedSimpArgs false
set_option maxRecDepth 100000
abbrev CL := ByteArray × ByteArray
def encC (c : CL) : List Value := [.string c.1, .string c.2]
def blt (a b : ByteArray) : Prop := a.data.toList < b.data.toList
instance (a b : ByteArray) : Decidable (blt a b) := by unfold blt; infer_instance
theorem ba_eq {a b : ByteArray} (h : a.data.toList = b.data.toList) : a = b := by
  cases a; cases b
  simp only at h
  rw [Array.toList_inj] at h
  rw [h]
theorem blt_irr (a : ByteArray) : ¬ blt a a := List.lt_irrefl _
theorem blt_trans {a b c : ByteArray} (h : blt a b) (k : blt b c) : blt a c := List.lt_trans h k
theorem blt_tri {a b : ByteArray} (h : ¬ blt a b) (k : ¬ blt b a) : a = b := by
  have h1 := List.not_lt.1 h
  have h2 := List.not_lt.1 k
  exact ba_eq (List.le_antisymm h2 h1)
theorem blt_ne {a b : ByteArray} (h : blt a b) : a ≠ b := fun e => by subst e; exact blt_irr _ h
/-- Cells that rise. -/
def Ris (K : List CL) : Prop := K.Pairwise fun a b => blt a.1 b.1
/-- The place of a key. -/
def plc (K : List CL) (k : ByteArray) : Nat := K.findIdx fun c => !decide (blt c.1 k)
def isK (K : List CL) (k : ByteArray) : Bool := match K[plc K k]? with
  | some c => decide (c.1 = k)
  | none => false
theorem plc_le (K : List CL) (k : ByteArray) : plc K k ≤ K.length := List.findIdx_le_length
theorem plc_lt {K : List CL} {k : ByteArray} {i : Nat} (h : i < plc K k) : blt (K[i]'(Nat.lt_of_lt_of_le h (plc_le K k))).1 k := by
  have := List.not_of_lt_findIdx h
  simpa using this
theorem plc_ge {K : List CL} (hr : Ris K) {k : ByteArray} {i : Nat} (hi : i < K.length) (h : plc K k ≤ i) : ¬ blt K[i].1 k := by
  have h1 : plc K k < K.length := by omega
  have h2 : (!decide (blt (K[plc K k]'h1).1 k)) = true := List.findIdx_getElem (w := h1)
  have h2 : ¬ blt (K[plc K k]'h1).1 k := by simpa using h2
  by_cases e : plc K k = i
  · subst e; exact h2
  · have := List.pairwise_iff_getElem.1 hr (plc K k) i h1 hi (by omega)
    exact fun h3 => h2 (blt_trans this h3)
theorem isK_at {K : List CL} {k : ByteArray} (h : isK K k = true) : ∃ hp : plc K k < K.length, K[plc K k].1 = k := by
  unfold isK at h
  rcases Nat.lt_or_ge (plc K k) K.length with h1 | h1
  · rw [List.getElem?_eq_getElem h1] at h
    exact ⟨h1, by simpa using h⟩
  · rw [List.getElem?_eq_none h1] at h; cases h
theorem ris_key {K : List CL} (hr : Ris K) {i j : Nat} (hi : i < K.length) (hj : j < K.length) (e : K[i].1 = K[j].1) : i = j := by
  rcases Nat.lt_trichotomy i j with h | h | h
  · exact absurd e (blt_ne (List.pairwise_iff_getElem.1 hr i j hi hj h))
  · exact h
  · exact absurd e.symm (blt_ne (List.pairwise_iff_getElem.1 hr j i hj hi h))
theorem plc_of {K : List CL} (hr : Ris K) {k : ByteArray} {i : Nat} (hi : i < K.length) (e : K[i].1 = k) : plc K k = i := by
  have h1 : ¬ i < plc K k := fun h => by have := plc_lt h; rw [e] at this; exact blt_irr _ this
  by_cases h3 : plc K k = i
  · exact h3
  · have h2 : plc K k < K.length := by omega
    have := List.pairwise_iff_getElem.1 hr (plc K k) i h2 hi (by omega)
    rw [e] at this
    exact absurd this (plc_ge hr h2 (Nat.le_refl _))
theorem isK_of {K : List CL} (hr : Ris K) {c : CL} (h : c ∈ K) : isK K c.1 = true ∧ K[plc K c.1]? = some c := by
  obtain ⟨i, hi, e⟩ := List.getElem_of_mem h
  have hp := plc_of hr hi (by rw [e])
  unfold isK
  rw [hp, List.getElem?_eq_getElem hi, e]
  simp
theorem isK_iff {K : List CL} (hr : Ris K) {k : ByteArray} : isK K k = true ↔ ∃ c ∈ K, c.1 = k := by
  constructor
  · intro h
    obtain ⟨hp, e⟩ := isK_at h
    exact ⟨_, List.getElem_mem hp, e⟩
  · rintro ⟨c, hc, rfl⟩
    exact (isK_of hr hc).1
theorem isK_no {K : List CL} (hr : Ris K) {k : ByteArray} (h : isK K k = false) : ∀ c ∈ K, c.1 ≠ k := fun c hc e => by
  rw [(isK_iff hr).2 ⟨c, hc, e⟩] at h; cases h
theorem ris_take (K : List CL) (k : ByteArray) : ∀ q ∈ K.take (plc K k), blt q.1 k := fun q hq => by
  obtain ⟨i, hi, e⟩ := List.getElem_of_mem hq
  rw [List.length_take] at hi
  rw [List.getElem_take] at e
  rw [← e]
  exact plc_lt (by omega)
theorem ris_drop {K : List CL} (hr : Ris K) {k : ByteArray} (h : isK K k = false) : ∀ q ∈ K.drop (plc K k), blt k q.1 := fun q hq => by
  obtain ⟨i, hi, e⟩ := List.getElem_of_mem hq
  rw [List.length_drop] at hi
  rw [List.getElem_drop] at e
  have h1 := plc_ge hr (k := k) (i := plc K k + i) (by omega) (by omega)
  rw [e] at h1
  by_cases h2 : blt k q.1
  · exact h2
  · have : k = q.1 := blt_tri h2 h1
    exact absurd this.symm (isK_no hr h q (List.mem_of_mem_drop hq))
theorem ris_drop1 {K : List CL} (hr : Ris K) {k : ByteArray} (h : isK K k = true) : ∀ q ∈ K.drop (plc K k + 1), blt k q.1 := fun q hq => by
  obtain ⟨hp, e0⟩ := isK_at h
  obtain ⟨i, hi, e⟩ := List.getElem_of_mem hq
  rw [List.length_drop] at hi
  rw [List.getElem_drop] at e
  have := List.pairwise_iff_getElem.1 hr (plc K k) (plc K k + 1 + i) hp (by omega) (by omega)
  rw [e0, e] at this
  exact this
/-- Without a key. -/
def delK (K : List CL) (k : ByteArray) : List CL := if isK K k then K.take (plc K k) ++ K.drop (plc K k + 1) else K
/-- With a cell. -/
def putK (K : List CL) (c : CL) : List CL := K.take (plc K c.1) ++ [c] ++ K.drop (plc K c.1 + if isK K c.1 then 1 else 0)
theorem delK_ris {K : List CL} (hr : Ris K) (k : ByteArray) : Ris (delK K k) := by
  unfold delK
  split
  · have h2 : (K.take (plc K k) ++ K.drop (plc K k + 1)).Sublist K := by
      conv => rhs; rw [← List.take_append_drop (plc K k) K]
      exact (List.Sublist.refl _).append (List.drop_sublist_drop_left K (Nat.le_succ _))
    exact List.Pairwise.sublist h2 hr
  · exact hr
theorem delK_mem {K : List CL} (hr : Ris K) {k : ByteArray} {q : CL} : q ∈ delK K k ↔ (q.1 ≠ k ∧ q ∈ K) := by
  unfold delK
  cases h : isK K k with
  | true =>
    rw [if_pos rfl]
    obtain ⟨hp, e⟩ := isK_at h
    have h1 := ris_take K k
    have h2 := ris_drop1 hr h
    constructor
    · intro hq
      rcases List.mem_append.1 hq with h3 | h3
      · exact ⟨blt_ne (h1 q h3), List.mem_of_mem_take h3⟩
      · exact ⟨fun e => blt_ne (h2 q h3) e.symm, List.mem_of_mem_drop h3⟩
    · rintro ⟨h3, h4⟩
      rw [← List.take_append_drop (plc K k) K, List.mem_append] at h4
      rcases h4 with h4 | h4
      · exact List.mem_append_left _ h4
      · rw [List.drop_eq_getElem_cons hp, List.mem_cons] at h4
        rcases h4 with rfl | h4
        · exact absurd e h3
        · exact List.mem_append_right _ h4
  | false =>
    rw [if_neg (by simp)]
    exact ⟨fun hq => ⟨isK_no hr h q hq, hq⟩, fun h => h.2⟩
theorem putK_drop {K : List CL} (hr : Ris K) (k : ByteArray) : ∀ q ∈ K.drop (plc K k + if isK K k then 1 else 0), blt k q.1 := by
  cases h : isK K k with
  | true => rw [if_pos rfl]; exact ris_drop1 hr h
  | false => rw [if_neg (by simp)]; exact ris_drop hr h
theorem putK_ris {K : List CL} (hr : Ris K) (c : CL) : Ris (putK K c) := by
  unfold putK
  have h1 := ris_take K c.1
  have h2 := putK_drop hr c.1
  unfold Ris
  rw [List.append_assoc, List.pairwise_append]
  refine ⟨List.Pairwise.sublist (List.take_sublist _ _) hr, ?_, ?_⟩
  · rw [List.singleton_append, List.pairwise_cons]
    exact ⟨fun q hq => h2 q hq, List.Pairwise.sublist (List.drop_sublist _ _) hr⟩
  · intro a ha b hb
    rw [List.singleton_append, List.mem_cons] at hb
    rcases hb with rfl | hb
    · exact h1 a ha
    · exact blt_trans (h1 a ha) (h2 b hb)
theorem putK_mem {K : List CL} (hr : Ris K) {c q : CL} : q ∈ putK K c ↔ (q = c ∨ (q.1 ≠ c.1 ∧ q ∈ K)) := by
  have h1 := ris_take K c.1
  have h2 := putK_drop hr c.1
  unfold putK
  simp only [List.mem_append, List.mem_singleton]
  constructor
  · rintro ((h | h) | h)
    · exact Or.inr ⟨blt_ne (h1 q h), List.mem_of_mem_take h⟩
    · exact Or.inl h
    · exact Or.inr ⟨fun e => blt_ne (h2 q h) e.symm, List.mem_of_mem_drop h⟩
  · rintro (h | ⟨h3, h4⟩)
    · exact Or.inl (Or.inr h)
    · rw [← List.take_append_drop (plc K c.1) K, List.mem_append] at h4
      rcases h4 with h4 | h4
      · exact Or.inl (Or.inl h4)
      · right
        cases h : isK K c.1 with
        | true =>
          obtain ⟨hp, e⟩ := isK_at h
          rw [if_pos rfl]
          rw [List.drop_eq_getElem_cons hp, List.mem_cons] at h4
          rcases h4 with rfl | h4
          · exact absurd e h3
          · exact h4
        | false => rw [if_neg (by simp)]; exact h4
/-- Two lists that rise and have the same cells are one. -/
theorem ris_uniq : ∀ {K L : List CL}, Ris K → Ris L → (∀ c, c ∈ K ↔ c ∈ L) → K = L
  | [], [], _, _, _ => rfl
  | [], b :: L, _, _, h => by have := (h b).2 (List.mem_cons_self ..); cases this
  | a :: K, [], _, _, h => by have := (h a).1 (List.mem_cons_self ..); cases this
  | a :: K, b :: L, hk, hl, h => by
    have hk' := List.pairwise_cons.1 hk
    have hl' := List.pairwise_cons.1 hl
    have e : a = b := by
      rcases List.mem_cons.1 ((h a).1 (List.mem_cons_self ..)) with h1 | h1
      · exact h1
      · rcases List.mem_cons.1 ((h b).2 (List.mem_cons_self ..)) with h2 | h2
        · exact h2.symm
        · exact absurd (blt_trans (hl'.1 a h1) (hk'.1 b h2)) (blt_irr _)
    subst e
    congr 1
    refine ris_uniq hk'.2 hl'.2 fun c => ⟨fun hc => ?_, fun hc => ?_⟩
    · rcases List.mem_cons.1 ((h c).1 (List.mem_cons_of_mem _ hc)) with h1 | h1
      · subst h1; exact absurd (hk'.1 c hc) (blt_irr _)
      · exact h1
    · rcases List.mem_cons.1 ((h c).2 (List.mem_cons_of_mem _ hc)) with h1 | h1
      · subst h1; exact absurd (hl'.1 c hc) (blt_irr _)
      · exact h1
theorem delK_len (K : List CL) (k : ByteArray) : (delK K k).length ≤ K.length := by
  unfold delK
  split
  · rw [List.length_append, List.length_take, List.length_drop]; omega
  · exact Nat.le_refl _
theorem putK_len (K : List CL) (c : CL) : (putK K c).length ≤ K.length + 1 := by
  unfold putK
  rw [List.length_append, List.length_append, List.length_take, List.length_drop, List.length_singleton]
  have := plc_le K c.1
  split <;> omega
/-- What a key has. -/
structure Hs where
  v : ByteArray
  is : Bool
  deriving Inhabited
def Hs.A (h : Hs) : Array Value := #[.string h.v, .bool h.is]
def Hs.c (h : Hs) : List Value := [.string h.v, .bool h.is]
/-- What is committed of one key. -/
def comK (K : List CL) (k : ByteArray) (h : Hs) : List CL := if h.is then putK K (k, h.v) else delK K k
theorem comK_ris {K : List CL} (hr : Ris K) (k : ByteArray) (h : Hs) : Ris (comK K k h) := by
  unfold comK; split
  · exact putK_ris hr _
  · exact delK_ris hr _
theorem comK_mem {K : List CL} (hr : Ris K) {k : ByteArray} {h : Hs} {q : CL} : q ∈ comK K k h ↔ (if q.1 = k then (h.is = true ∧ q.2 = h.v) else q ∈ K) := by
  unfold comK
  by_cases e : q.1 = k
  · rw [if_pos e]
    cases hi : h.is with
    | true =>
      rw [if_pos rfl, putK_mem hr]
      constructor
      · rintro (h1 | h1)
        · exact ⟨rfl, by rw [h1]⟩
        · exact absurd e h1.1
      · rintro ⟨_, h2⟩
        exact Or.inl (Prod.ext e h2)
    | false =>
      rw [if_neg (by simp), delK_mem hr]
      exact ⟨fun h1 => absurd e h1.1, fun h1 => by cases h1.1⟩
  · rw [if_neg e]
    cases hi : h.is with
    | true =>
      rw [if_pos rfl, putK_mem hr]
      exact ⟨fun h1 => h1.elim (fun h2 => absurd (by rw [h2]) e) (fun h2 => h2.2), fun h1 => Or.inr ⟨e, h1⟩⟩
    | false =>
      rw [if_neg (by simp), delK_mem hr]
      exact ⟨fun h1 => h1.2, fun h1 => ⟨e, h1⟩⟩
theorem comK_len (K : List CL) (k : ByteArray) (h : Hs) : (comK K k h).length ≤ K.length + 1 := by
  unfold comK; split
  · exact putK_len K _
  · have := delK_len K k; omega
end Go.Proofs.Ytkcpclmkbmeigab.Fd
