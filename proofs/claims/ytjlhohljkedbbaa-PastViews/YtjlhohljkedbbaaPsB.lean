/- The developers' past: plain lemmas on what its maps hold. -/
import Derived.Test.YtjlhohljkedbbaaPsA
import Derived.Test.YtjlhohljkedbbaaPaN
namespace Go.Proofs.Ytjlhohljkedbbaa.Pa
open Go.RowKit Gm Go.Maps
set_option linter.unusedVariables false
set_option linter.unusedSimpArgs false
set_option maxRecDepth 100000
section
variable {P : List Gn} {L : List Dv} {t : Int}
theorem fnd_cons (g : Gn) (P : List Gn) (t : Int) : fnd (g :: P) t = if g.txn = t then 0 else fnd P t + 1 := by
  unfold fnd
  rw [List.findIdx_cons]
  by_cases h : g.txn = t
  · simp [h]
  · rw [show (g.txn == t) = false by simpa using h, if_neg h]; rfl
theorem kI (a : Int) : WideAt.IsKeyLit (.int .i64 a) := trivial
theorem kS (a : List UInt8) : WideAt.IsKeyLit (.string a) := trivial
theorem map_ne {f : Gn → Gn} (h : ∀ g ∈ P, g.txn ≠ t) : P.map (fun g => if g.txn = t then f g else g) = P := by
  conv => rhs; rw [← List.map_id P]
  refine List.map_congr_left fun g hg => ?_
  rw [if_neg (h g hg)]; rfl
theorem modify_fnd (hn : P.Pairwise fun a b => a.txn ≠ b.txn) (f : Gn → Gn) : P.modify (fnd P t) f = P.map fun g => if g.txn = t then f g else g := by
  induction P with
  | nil => simp [fnd]
  | cons g P ih =>
    rw [List.pairwise_cons] at hn
    rw [fnd_cons]
    by_cases h : g.txn = t
    · rw [if_pos h, List.map_cons, if_pos h, map_ne (fun x hx e => hn.1 x hx (h.trans e.symm))]
      rfl
    · rw [if_neg h, List.map_cons, if_neg h, ← ih hn.2]
      rfl
theorem erase_fnd (hn : P.Pairwise fun a b => a.txn ≠ b.txn) : P.eraseIdx (fnd P t) = P.filter fun g => g.txn != t := by
  induction P with
  | nil => simp [fnd]
  | cons g P ih =>
    rw [List.pairwise_cons] at hn
    rw [fnd_cons]
    by_cases h : g.txn = t
    · rw [if_pos h, List.filter_cons, if_neg (by simp [h]), List.eraseIdx_cons_zero]
      exact (List.filter_eq_self.2 fun x hx => by simpa using fun e => hn.1 x hx (h.trans e.symm)).symm
    · rw [if_neg h, List.filter_cons, if_pos (by simp [h]), ← ih hn.2, List.eraseIdx_cons_succ]
theorem turn_txn (g : Gn) (r : Rc) (n : Int) : (g.turn r n).txn = g.txn := by unfold Gn.turn; split <;> (try split) <;> rfl
theorem turn_last (g : Gn) (r : Rc) (n : Int) : (g.turn r n).last = n := by unfold Gn.turn; split <;> (try split) <;> rfl
/-- Those of P, one of them turned. -/
def tnG (r : Rc) (n : Int) (g : Gn) : Gn := if g.txn = r.tx then g.turn r n else g
def tnD (r : Rc) (n : Int) (d : Dv) : Dv := ⟨tnG r n d.g, d.b⟩
theorem tnG_txn (r : Rc) (n : Int) (g : Gn) : (tnG r n g).txn = g.txn := by unfold tnG; split; exact turn_txn ..; rfl
theorem lkD_map (r : Rc) (n : Int) (t : Int) : lkD (L.map (tnD r n)) t = (lkD L t).map (tnD r n) := by
  unfold lkD
  rw [List.find?_map]
  congr 1
  congr 1
  funext d
  simp [tnD, tnG_txn]
theorem lkD_none : lkD L t = none ↔ ∀ d ∈ L, d.g.txn ≠ t := by simp [lkD]
theorem lkD_of (hn : L.Pairwise fun a b => a.g.txn ≠ b.g.txn ∧ a.b ≠ b.b) {d : Dv} (hd : d ∈ L) : lkD L d.g.txn = some d := by
  unfold lkD
  induction L with
  | nil => cases hd
  | cons x L ih =>
    rw [List.pairwise_cons] at hn
    rw [List.find?_cons]
    rcases List.mem_cons.1 hd with rfl | h
    · simp
    · have := (hn.1 d h).1
      rw [show (x.g.txn == d.g.txn) = false by simpa using this]
      exact ih hn.2 h
theorem fnd_lt : fnd P t < P.length ↔ ∃ g ∈ P, g.txn = t := by
  unfold fnd
  rw [List.findIdx_lt_length]
  simp
theorem lkD_some (h : lkD L t = none) : ¬ fnd (L.map (·.g)) t < (L.map (·.g)).length := by
  rw [fnd_lt]
  rintro ⟨g, hg, e⟩
  obtain ⟨d, hd, rfl⟩ := List.mem_map.1 hg
  exact lkD_none.1 h d hd e
/-- What the maps hold behind a note. -/
theorem fL_turn {r : Rc} {n : Int} {d : Dv} (h : lkD L r.tx = some d) (l : Lit) : fL (L.map (tnD r n)) l = updL (fL L) (.int .i64 r.tx) (some (.int .i64 n)) l := by
  by_cases e : l = .int .i64 r.tx
  · subst e
    rw [updL_same _ (kI _)]
    simp only [fL]
    rw [lkD_map, h]
    have h2 := (lkD_mem h).2
    simp [tnD, tnG, h2, turn_last]
  · rw [updL_other _ _ e]
    cases l <;> try rfl
    rename_i q a
    cases q <;> try rfl
    simp only [fL]
    rw [lkD_map]
    cases h3 : lkD L a with
    | none => rfl
    | some x =>
      have h4 := (lkD_mem h3).2
      have : ¬ x.g.txn = r.tx := fun e2 => e (by rw [← h4, e2])
      simp [tnD, tnG, this]
theorem fW_turn (r : Rc) (n : Int) (l : Lit) : fW (L.map (tnD r n)) l = fW L l := by
  cases l <;> try rfl
  rename_i q a
  cases q <;> try rfl
  simp only [fW]
  rw [lkD_map, Option.map_map]
  rfl
theorem lkD_snoc (d : Dv) (t : Int) : lkD (L ++ [d]) t = (lkD L t).or (if d.g.txn = t then some d else none) := by
  unfold lkD
  rw [List.find?_append, List.find?_singleton]
  congr 1
  by_cases h : d.g.txn = t <;> simp [h]
theorem fL_snoc {d : Dv} (h : lkD L d.g.txn = none) (l : Lit) : fL (L ++ [d]) l = updL (fL L) (.int .i64 d.g.txn) (some (.int .i64 d.g.last)) l := by
  by_cases e : l = .int .i64 d.g.txn
  · subst e
    rw [updL_same _ (kI _)]
    simp only [fL]
    rw [lkD_snoc, h]
    simp
  · rw [updL_other _ _ e]
    cases l <;> try rfl
    rename_i q a
    cases q <;> try rfl
    simp only [fL]
    rw [lkD_snoc, if_neg (fun e2 => e (by rw [e2]))]
    cases lkD L a <;> rfl
theorem fW_snoc {d : Dv} (h : lkD L d.g.txn = none) (l : Lit) : fW (L ++ [d]) l = updL (fW L) (.int .i64 d.g.txn) (some (.map (some d.b))) l := by
  by_cases e : l = .int .i64 d.g.txn
  · subst e
    rw [updL_same _ (kI _)]
    simp only [fW]
    rw [lkD_snoc, h]
    simp
  · rw [updL_other _ _ e]
    cases l <;> try rfl
    rename_i q a
    cases q <;> try rfl
    simp only [fW]
    rw [lkD_snoc, if_neg (fun e2 => e (by rw [e2]))]
    cases lkD L a <;> rfl
theorem lkD_filter (t a : Int) : lkD (L.filter fun d => d.g.txn != t) a = if a = t then none else lkD L a := by
  unfold lkD
  rw [List.find?_filter]
  by_cases h : a = t
  · subst h
    rw [if_pos rfl, List.find?_eq_none]
    intro x hx
    simp
  · rw [if_neg h]
    congr 1
    funext d
    by_cases h2 : d.g.txn = a
    · simp [h2, h]
    · simp [h2]
theorem fL_drop (t : Int) (l : Lit) : fL (L.filter fun d => d.g.txn != t) l = updL (fL L) (.int .i64 t) none l := by
  by_cases e : l = .int .i64 t
  · subst e
    rw [updL_same _ (kI _)]
    simp only [fL]
    rw [lkD_filter, if_pos rfl]
    rfl
  · rw [updL_other _ _ e]
    cases l <;> try rfl
    rename_i q a
    cases q <;> try rfl
    simp only [fL]
    rw [lkD_filter, if_neg (fun e2 => e (by rw [e2]))]
theorem fW_drop (t : Int) (l : Lit) : fW (L.filter fun d => d.g.txn != t) l = updL (fW L) (.int .i64 t) none l := by
  by_cases e : l = .int .i64 t
  · subst e
    rw [updL_same _ (kI _)]
    simp only [fW]
    rw [lkD_filter, if_pos rfl]
    rfl
  · rw [updL_other _ _ e]
    cases l <;> try rfl
    rename_i q a
    cases q <;> try rfl
    simp only [fW]
    rw [lkD_filter, if_neg (fun e2 => e (by rw [e2]))]
theorem len_drop (hn : L.Pairwise fun a b => a.g.txn ≠ b.g.txn ∧ a.b ≠ b.b) (t : Int) : (L.filter fun d => d.g.txn != t).length = if (lkD L t).isSome then L.length - 1 else L.length := by
  induction L with
  | nil => rfl
  | cons x L ih =>
    rw [List.pairwise_cons] at hn
    have h1 := ih hn.2
    rw [List.filter_cons]
    by_cases h : x.g.txn = t
    · have h0 : lkD L t = none := lkD_none.2 fun d hd e => (hn.1 d hd).1 (h.trans e.symm)
      rw [h0] at h1
      simp only [lkD, List.find?_cons, h, beq_self_eq_true, Option.isSome_some, if_true, bne_self_eq_false, Bool.false_eq_true, if_false, List.length_cons]
      simpa using h1
    · have h2 : (x.g.txn == t) = false := by simpa using h
      have h3 : (x.g.txn != t) = true := by simpa using h
      have h4 : lkD (x :: L) t = lkD L t := by simp only [lkD, List.find?_cons, h2]
      rw [if_pos h3, List.length_cons, h1, h4, List.length_cons]
      cases h5 : lkD L t with
      | none => simp
      | some y =>
        have := List.length_pos_of_mem (lkD_mem h5).1
        simp
        omega
/-- What a key's map holds. -/
theorem fK_put {ks : List (ByteArray × Ws)} {k : ByteArray} (x : Ws) (h : lkK ks k.data.toList = none) (l : Lit) : fK (ks ++ [(k, x)]) l = updL (fK ks) (.string k.data.toList) (some (.agg x.A)) l := by
  by_cases e : l = .string k.data.toList
  · subst e
    rw [updL_same _ (kS _)]
    simp only [fK]
    unfold lkK at h ⊢
    rw [List.find?_append, h]
    simp
  · rw [updL_other _ _ e]
    cases l <;> try rfl
    rename_i a
    simp only [fK]
    unfold lkK
    rw [List.find?_append, List.find?_singleton, if_neg (fun e2 => e (by rw [← eq_of_beq e2]))]
    simp
theorem bytes_list (a : ByteArray) : a.toList = a.data.toList := ByteArray.toList_eq a
theorem has_lk (g : Gn) (k : ByteArray) : g.has k = (lkK g.ks k.data.toList).isSome := by
  unfold Gn.has lkK eqB
  simp only [bytes_list]
  induction g.ks with
  | nil => rfl
  | cons a l ih =>
    rw [List.any_cons, List.find?_cons, ih]
    cases a.1.data.toList == k.data.toList <;> rfl
theorem fW_at {t : Int} : fW L (.int .i64 t) = (lkD L t).map fun d => .map (some d.b) := rfl
theorem fL_at {t : Int} : fL L (.int .i64 t) = (lkD L t).map fun d => .int .i64 d.g.last := rfl
theorem fK_at {ks : List (ByteArray × Ws)} {k : List UInt8} : fK ks (.string k) = (lkK ks k).map fun p => .agg p.2.A := rfl
end
end Go.Proofs.Ytjlhohljkedbbaa.Pa
