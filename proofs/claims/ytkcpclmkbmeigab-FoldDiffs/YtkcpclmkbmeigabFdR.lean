/- Diff: what its maps hold. -/
import Derived.Test.YtkcpclmkbmeigabFdQ
import Derived.Test.YtkcpclmkbmeigabFdP
import Derived.Test.YtkcpclmkbmeigabGmE
import Derived.Deep.RegionHeldLaw
namespace Go.Proofs.Ytkcpclmkbmeigab.Fd
open Go.RowKit Gm Go.Maps
set_option linter.unusedVariables false
set_option linter.unusedSimpArgs false
set_option maxRecDepth 100000
theorem uN : Try.prog.underlying 61 = some (.map 9 3) := Try.underlying61
theorem zNv (w : World) : (zeroValue 3).run Try.prog w = .ok (.int .i64 0) w := by kernel_rfl
def eqH (x y : Hs) : Bool := (x.v.toList == y.v.toList) && ((x.is == y.is) && true)
theorem eqlsH (w : World) (x y : Hs) : (binOp .neq 60 (.agg x.A) (.agg y.A)).run Try.prog w = .ok (.bool (!eqH x y)) w := by
  refine (eql_of (by kernel_rfl) (by kernel_rfl) (fs := [⟨ "val", 9, 0, false, "", "gharry/fold", 0⟩, ⟨ "is", 4, 1, false, "", "gharry/fold", 16⟩]) (by kernel_rfl) ?_).2
  exact eq_field w 9998 (by decide) (by kernel_rfl) rfl rfl (run_equalIn_string w 9998 _ _ _ Try.underlying9) (eq_field w 9998 (by decide) (by kernel_rfl) rfl rfl (run_equalIn_bool' w 9998 _ _ _ Try.underlying4) (eq_none w _ _ _))
theorem eqH_iff {x y : Hs} : eqH x y = true ↔ x = y := by
  unfold eqH
  rw [Bool.and_true, Bool.and_eq_true, tl_eq, beq_iff_eq]
  exact ⟨fun h => by cases x; cases y; simp_all, fun h => by rw [h]; exact ⟨rfl, rfl⟩⟩
/-- The first map. -/
def haF (A : List CL) : List (ByteArray × Hs) := A.foldl (fun ks c => putH ks c.1 ⟨c.2, true⟩) []
theorem haF_snoc (A : List CL) (c : CL) : haF (A ++ [c]) = putH (haF A) c.1 ⟨c.2, true⟩ := by unfold haF; rw [List.foldl_append]; rfl
theorem haF_kn (A : List CL) : (haF A).Pairwise fun a b => a.1.data.toList ≠ b.1.data.toList := by
  unfold haF
  have : ∀ (A : List CL) (ks : List (ByteArray × Hs)), (ks.Pairwise fun a b => a.1.data.toList ≠ b.1.data.toList) → ((A.foldl (fun ks c => putH ks c.1 ⟨c.2, true⟩) ks).Pairwise fun a b => a.1.data.toList ≠ b.1.data.toList) := by
    intro A
    induction A with
    | nil => intro ks h; exact h
    | cons c A ih => intro ks h; exact ih _ (putH_kn h _ _)
  exact this A [] List.Pairwise.nil
theorem haF_len (A : List CL) : (haF A).length ≤ A.length := by
  have : ∀ (A : List CL) (ks : List (ByteArray × Hs)), (A.foldl (fun ks c => putH ks c.1 ⟨c.2, true⟩) ks).length ≤ ks.length + A.length := by
    intro A
    induction A with
    | nil => intro ks; simp
    | cons c A ih =>
      intro ks
      have h1 := ih (putH ks c.1 ⟨c.2, true⟩)
      have h2 : (putH ks c.1 ⟨c.2, true⟩).length ≤ ks.length + 1 := by
        unfold putH
        rw [List.length_append, List.length_singleton]
        have := List.length_filter_le (fun p : ByteArray × Hs => p.1.data.toList != c.1.data.toList) ks
        omega
      rw [List.foldl_cons, List.length_cons]
      omega
  have := this A []
  unfold haF
  simpa using this
/-- What it gives of a key. -/
def haG (A : List CL) (k : ByteArray) : Hs := ((lkK (haF A) k.data.toList).map (·.2)).getD zH
theorem ris_snoc {A : List CL} {c : CL} (h : Ris (A ++ [c])) : Ris A ∧ ∀ x ∈ A, x.1 ≠ c.1 := by
  obtain ⟨h1, _, h3⟩ := List.pairwise_append.1 h
  exact ⟨h1, fun x hx => blt_ne (h3 x hx c (List.mem_singleton_self c))⟩
theorem snoc_ind {P : List CL → Prop} (h0 : P []) (h1 : ∀ A c, P A → P (A ++ [c])) : ∀ A, P A := by
  intro A
  have : ∀ n, ∀ A : List CL, A.length = n → P A := by
    intro n
    induction n with
    | zero => intro A h; rw [List.eq_nil_of_length_eq_zero h]; exact h0
    | succ n ih =>
      intro A h
      have hne : A ≠ [] := fun e => by rw [e] at h; cases h
      rw [← List.dropLast_concat_getLast hne]
      exact h1 _ _ (ih _ (by rw [List.length_dropLast]; omega))
  exact this _ A rfl
theorem haF_lk : ∀ A : List CL, Ris A → ∀ k, lkK (haF A) k.data.toList = (A.find? fun c => decide (c.1 = k)).map fun c => (c.1, ⟨c.2, true⟩) := by
  refine snoc_ind (fun _ k => rfl) fun A c ih hr k => ?_
  obtain ⟨h1, h2⟩ := ris_snoc hr
  rw [haF_snoc, lkK_put, List.find?_append, List.find?_singleton]
  by_cases e : k = c.1
  · subst e
    rw [if_pos rfl, List.find?_eq_none.2 (fun x hx => by simpa using h2 x hx)]
    simp
  · rw [if_neg (fun e2 => e (ba_eq e2)), ih h1 k, show decide (c.1 = k) = false from decide_eq_false (fun e2 => e e2.symm)]
    simp
theorem haG_eq {A : List CL} (hr : Ris A) (c : CL) : haG A c.1 = ⟨c.2, true⟩ ↔ c ∈ A := by
  unfold haG
  rw [haF_lk A hr]
  constructor
  · intro h
    cases hf : A.find? fun x => decide (x.1 = c.1) with
    | none => rw [hf] at h; simp [zH] at h
    | some x =>
      rw [hf] at h
      have h1 := List.find?_some hf
      have h2 := List.mem_of_find?_eq_some hf
      simp at h h1
      rw [show c = x from Prod.ext h1.symm h.symm]
      exact h2
  · intro h
    cases hf : A.find? fun x => decide (x.1 = c.1) with
    | none =>
      have := List.find?_eq_none.1 hf c h
      simp at this
    | some x =>
      have h1 := List.find?_some hf
      have h2 := List.mem_of_find?_eq_some hf
      simp at h1
      obtain ⟨i, hi, e1⟩ := List.getElem_of_mem h
      obtain ⟨j, hj, e2⟩ := List.getElem_of_mem h2
      have : i = j := ris_key hr hi hj (by rw [e1, e2]; exact h1.symm)
      subst this
      rw [← e1, ← e2]
      rfl
theorem haF_key {A : List CL} (hr : Ris A) (k : ByteArray) : (lkK (haF A) k.data.toList).isSome = true ↔ ∃ c ∈ A, c.1 = k := by
  rw [haF_lk A hr, Option.isSome_map, List.find?_isSome]
  simp
/-- The second map. -/
def cnF (B : List CL) : Lit → Option Value
  | .string k => if (B.any fun c => c.1.data.toList == k) then some (.int .i64 1) else none
  | _ => none
theorem cnF_at (B : List CL) (k : ByteArray) : cnF B (.string k.data.toList) = if (B.any fun c => decide (c.1 = k)) then some (.int .i64 1) else none := by
  have : (fun c : CL => c.1.data.toList == k.data.toList) = fun c => decide (c.1 = k) := by
    funext c
    by_cases e : c.1 = k
    · rw [e]; simp
    · have : ¬ c.1.data.toList = k.data.toList := fun e2 => e (ba_eq e2)
      simp [e]
      exact fun h => this (by rw [h])
  unfold cnF
  simp only [this]
theorem cnF_snoc (B : List CL) (c : CL) (l : Lit) : cnF (B ++ [c]) l = updL (cnF B) (.string c.1.data.toList) (some (.int .i64 1)) l := by
  by_cases e : l = .string c.1.data.toList
  · subst e
    rw [updL_same _ (kS _)]
    simp [cnF]
  · rw [updL_other _ _ e]
    cases l <;> try rfl
    rename_i k
    have hk : (c.1.data.toList == k) = false := by
      cases hq : (c.1.data.toList == k) with
      | false => rfl
      | true => exact absurd (by rw [eq_of_beq hq]) e
    simp only [cnF, List.any_append, List.any_cons, List.any_nil, hk, Bool.or_false]
def inA (A : List CL) (c : CL) : Bool := A.any fun x => decide (x = c)
theorem inA_iff {A : List CL} {c : CL} : inA A c = true ↔ c ∈ A := by
  unfold inA
  rw [List.any_eq_true]
  exact ⟨fun ⟨x, hx, e⟩ => by rw [← of_decide_eq_true e]; exact hx, fun h => ⟨c, h, decide_eq_true rfl⟩⟩
theorem inA_no {A : List CL} {c : CL} : inA A c = false ↔ c ∉ A := by
  rw [← inA_iff]
  cases inA A c <;> simp
def kyB (A L : List CL) : List ByteArray := (L.filter fun c => !inA A c).map (·.1)
theorem kyB_snoc (A L : List CL) (c : CL) : kyB A (L ++ [c]) = if inA A c then kyB A L else kyB A L ++ [c.1] := by
  unfold kyB
  rw [List.filter_append]
  cases h : inA A c <;> simp [h]
/-- The last loop's keys. -/
structure KyE (A B : List CL) (left : Lit → Bool) (E : List ByteArray) : Prop where
  nd : E.Nodup
  mem : ∀ k, k ∈ E ↔ ((lkK (haF A) k.data.toList).isSome = true ∧ left (.string k.data.toList) = false ∧ ∀ c ∈ B, c.1 ≠ k)
theorem KyE.start (A B : List CL) : KyE A B (fun l => (fK (haF A) l).isSome) [] := by
  refine ⟨List.nodup_nil, fun k => ⟨fun h => (by cases h), fun h => ?_⟩⟩
  have h1 := h.1
  have h2 := h.2.1
  rw [fK_at, Option.isSome_map] at h2
  rw [h1] at h2
  cases h2
theorem KyE.step {A B : List CL} {left : Lit → Bool} {E : List ByteArray} (h : KyE A B left E) {k : ByteArray} (hk : (lkK (haF A) k.data.toList).isSome = true) (hl : left (.string k.data.toList) = true) : KyE A B (fun z => left z && !z.sameKey (.string k.data.toList)) (if (B.any fun c => decide (c.1 = k)) then E else E ++ [k]) := by
  have hs : ∀ x : ByteArray, x ≠ k → (Lit.string x.data.toList).sameKey (.string k.data.toList) = false := fun x hx => sameKey_ne (fun e2 => hx (ba_eq (by injection e2)))
  have hself : (Lit.string k.data.toList).sameKey (.string k.data.toList) = true := WideAt.sameKey_self (kS _)
  have hnot : k ∉ E := fun e => by have := ((h.mem k).1 e).2.1; rw [hl] at this; cases this
  have hd : ∀ x, (left (.string x.data.toList) && !(Lit.string x.data.toList).sameKey (.string k.data.toList)) = false ↔ (left (.string x.data.toList) = false ∨ x = k) := fun x => by
    by_cases e : x = k
    · subst e; rw [hself]; simp
    · rw [hs x e]; simp [e]
  split
  · rename_i hb
    obtain ⟨c, hc, e⟩ := List.any_eq_true.1 hb
    have e : c.1 = k := by simpa using e
    refine ⟨h.nd, fun x => ?_⟩
    rw [h.mem x, hd x]
    constructor
    · rintro ⟨h1, h2, h3⟩; exact ⟨h1, Or.inl h2, h3⟩
    · rintro ⟨h1, h2 | h2, h3⟩
      · exact ⟨h1, h2, h3⟩
      · subst h2; exact absurd e (h3 c hc)
  · rename_i hb
    have hb2 : ∀ c ∈ B, c.1 ≠ k := fun c hc e => hb (List.any_eq_true.2 ⟨c, hc, by simpa using e⟩)
    refine ⟨List.nodup_append.2 ⟨h.nd, by simp, fun a ha b hb3 => ?_⟩, fun x => ?_⟩
    · have : b = k := by simpa using hb3
      subst this
      exact fun e => hnot (e ▸ ha)
    · rw [List.mem_append, h.mem x, List.mem_singleton, hd x]
      constructor
      · rintro (⟨h1, h2, h3⟩ | rfl)
        · exact ⟨h1, Or.inl h2, h3⟩
        · exact ⟨hk, Or.inr rfl, hb2⟩
      · rintro ⟨h1, h2 | h2, h3⟩
        · exact Or.inl ⟨h1, h2, h3⟩
        · exact Or.inr h2
/-- What is told. -/
structure DfK (A B : List CL) (D : List ByteArray) : Prop where
  up : D.Pairwise blt
  mem : ∀ k, k ∈ D ↔ ((∃ c ∈ B, c.1 = k ∧ c ∉ A) ∨ ((∃ c ∈ A, c.1 = k) ∧ ∀ c ∈ B, c.1 ≠ k))
theorem kyB_mem {A B : List CL} {k : ByteArray} : k ∈ kyB A B ↔ ∃ c ∈ B, c.1 = k ∧ c ∉ A := by
  unfold kyB
  rw [List.mem_map]
  constructor
  · rintro ⟨c, hc, rfl⟩
    obtain ⟨h1, h2⟩ := List.mem_filter.1 hc
    exact ⟨c, h1, rfl, inA_no.1 (by simpa using h2)⟩
  · rintro ⟨c, h1, h2, h3⟩
    exact ⟨c, List.mem_filter.2 ⟨h1, by rw [inA_no.2 h3]; rfl⟩, h2⟩
theorem KyE.done {A B : List CL} {left : Lit → Bool} {E : List ByteArray} (h : KyE A B left E) (hl : ∀ l, left l = false) (ha : Ris A) (hb : Ris B) : (kyB A B ++ E).Nodup ∧ DfK A B (sortB (kyB A B ++ E)) := by
  have hn : (kyB A B ++ E).Nodup := by
    refine List.nodup_append.2 ⟨?_, h.nd, fun x hx y hy e => ?_⟩
    · unfold kyB
      refine List.pairwise_map.2 (List.Pairwise.sublist List.filter_sublist (List.Pairwise.imp (fun {a b} hab => ?_) hb))
      exact blt_ne hab
    · subst e
      obtain ⟨c, h1, h2, _⟩ := kyB_mem.1 hx
      exact ((h.mem x).1 hy).2.2 c h1 h2
  refine ⟨hn, sortB_up hn, fun k => ?_⟩
  rw [sortB_mem, List.mem_append, kyB_mem, h.mem k, haF_key ha k]
  simp [hl]
end Go.Proofs.Ytkcpclmkbmeigab.Fd
