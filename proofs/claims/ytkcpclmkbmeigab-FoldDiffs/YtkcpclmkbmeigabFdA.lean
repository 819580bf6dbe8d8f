/- The developers' fold in memory; what its maps hold, plain. -/
import Derived.Test.YtkcpclmkbmeigabFdS
import Derived.Test.YtkcpclmkbmeigabGp
import Derived.WalkSpells
import Derived.Sort.KeysCollected
namespace Go.Proofs.Ytkcpclmkbmeigab.Fd
open Go.RowKit Gm Go.Maps
set_option linter.unusedVariables false
set_option linter.unusedSimpArgs false
set_option maxRecDepth 100000
/-- One that goes on. -/
structure Gt where
  txn : Int
  ks : List (ByteArray × Hs)
  deriving Inhabited
/-- .. and the block of its keys' map. -/
structure Dv where
  g : Gt
  b : Nat
  deriving Inhabited
def lkD (L : List Dv) (t : Int) : Option Dv := L.find? fun d => d.g.txn == t
def fW (L : List Dv) : Lit → Option Value
  | .int .i64 t => (lkD L t).map fun d => .map (some d.b)
  | _ => none
def lkK (ks : List (ByteArray × Hs)) (k : List UInt8) : Option (ByteArray × Hs) := ks.find? fun p => p.1.data.toList == k
def fK (ks : List (ByteArray × Hs)) : Lit → Option Value
  | .string k => (lkK ks k).map fun p => .agg p.2.A
  | _ => none
def zH : Hs := ⟨⟨#[]⟩, false⟩
theorem KI : Keyed Try.prog 3 := int_keyed Try.underlying3
theorem KS : Keyed Try.prog 9 := string_keyed Try.underlying9
theorem uW : Try.prog.underlying 46 = some (.map 3 56) := Try.underlying46
theorem uK : Try.prog.underlying 56 = some (.map 9 60) := Try.underlying56
theorem zWv (w : World) : (zeroValue 56).run Try.prog w = .ok (.map none) w := by kernel_rfl
theorem zKv (w : World) : (zeroValue 60).run Try.prog w = .ok (.agg zH.A) w := by kernel_rfl
theorem stH : St 60 2 := ⟨⟨_, Try.underlying60⟩, by kernel_rfl⟩
theorem stF : St 48 3 := ⟨⟨_, Try.underlying48⟩, by kernel_rfl⟩
theorem stRc : St 28 13 := ⟨⟨_, Try.underlying28⟩, by kernel_rfl⟩
def wfT (t : Int) : Prop := (Lit.int .i64 t).wf = true
theorem keyI {t : Int} (h : wfT t) : keyOf Try.prog 3 (.int .i64 t) = some (.int .i64 t) := keyOf_int_mk Try.underlying3 h
theorem keyS {s : ByteArray} (h : s.size ≤ 9223372036854775807) : keyOf Try.prog 9 (.string s) = some (.string s.data.toList)   := WideMaps.keyOf_string_mk (P := Try.prog) Try.underlying9 h
theorem invI {key : Value} {l : Lit} (h : keyOf Try.prog 3 key = some l) : ∃ x : Int, key = .int .i64 x ∧ l = .int .i64 x := by
  obtain ⟨x, h1, h2, _⟩ := Maps.keyOf_int_inv Try.underlying3 h
  exact ⟨x, h1, h2⟩
theorem invS {key : Value} {l : Lit} (h : keyOf Try.prog 9 key = some l) : ∃ x : List UInt8, key = encStr x ∧ l = .string x := by
  obtain ⟨x, h1, h2, _⟩ := Maps.keyOf_str Try.underlying9 h
  exact ⟨x, h1, h2⟩
theorem oneH (x : Hs) : ∀ v ∈ x.A.toList, v.oneCell' = true := by intro v hv; simp [Hs.A] at hv; rcases hv with rfl | rfl <;> rfl
theorem np_bel {w w1 w2 : World} {b : Nat} {t : TypeId} {A A' : Array Value} (N : New w w1 b t A) (P : Put w1 w2 b t A') : Below w.heap.size w w2 := N.bel.trans ((P.fr (· = b) rfl).bel (fun j hj => by rw [hj, N.eq]; exact Nat.le_refl _) N.bel.size)
/-- The fold, its map at bw, the keys' maps at the blocks of L; all blocks among W. -/
structure FoI (W : Nat → Prop) (w : World) (fb : Nat) (v : Value) (bw : Nat) (K : List CL) (L : List Dv) (n : Int) : Prop where
  is : At w fb 48 #[v, .map (some bw), .int .i64 n]
  row : Row w 41 2 v (K.map encC)
  wa : Mp w 3 bw L.length (fW L)
  ks : ∀ d ∈ L, Mp w 9 d.b d.g.ks.length (fK d.g.ks)
  nd : L.Pairwise fun a b => a.g.txn ≠ b.g.txn ∧ a.b ≠ b.b
  kn : ∀ d ∈ L, d.g.ks.Pairwise fun a b => a.1.data.toList ≠ b.1.data.toList
  ne : ∀ d ∈ L, d.b ≠ bw
  w1 : W fb ∧ W bw
  wv : ∀ g, v.ownBlock = some g → W g
  w2 : ∀ d ∈ L, W d.b
  up : Ris K
structure Fo (W : Nat → Prop) (w : World) (fb : Nat) (K : List CL) (G : List Gt) (n : Int) : Prop where
  ex : ∃ v bw L, FoI W w fb v bw K L n ∧ L.map (·.g) = G
  lt : ∀ j, W j → j < w.heap.size
section
variable {W W' : Nat → Prop} {w w' : World} {fb bw : Nat} {v : Value} {K : List CL} {L : List Dv} {G : List Gt} {n t : Int}
theorem FoI.keep (h : FoI W w fb v bw K L n) (hb : ∀ j, W j → w'.heap[j]? = w.heap[j]?) : FoI W w' fb v bw K L n :=
  ⟨h.is.keep (hb _ h.w1.1), h.row.keep (fun g e => hb g (h.wv g e)), h.wa.keep (hb _ h.w1.2), fun d hd => (h.ks d hd).keep (hb _ (h.w2 d hd)), h.nd, h.kn, h.ne, h.w1, h.wv, h.w2, h.up⟩
theorem Fo.keep (h : Fo W w fb K G n) (hb : ∀ j, W j → w'.heap[j]? = w.heap[j]?) (hs : w.heap.size ≤ w'.heap.size) : Fo W w' fb K G n := by
  obtain ⟨v, bw, L, h1, h2⟩ := h.ex
  exact ⟨⟨v, bw, L, h1.keep hb, h2⟩, fun j hj => Nat.lt_of_lt_of_le (h.lt j hj) hs⟩
theorem Fo.bel (h : Fo W w fb K G n) (hb : Below w.heap.size w w') : Fo W w' fb K G n := h.keep (fun j hj => hb.block j (h.lt j hj)) hb.size
theorem Fo.up (h : Fo W w fb K G n) : Ris K := by obtain ⟨v, bw, L, h1, h2⟩ := h.ex; exact h1.up
theorem Fo.nd (h : Fo W w fb K G n) : G.Pairwise fun a b => a.txn ≠ b.txn := by
  obtain ⟨v, bw, L, h1, rfl⟩ := h.ex
  exact List.pairwise_map.2 (h1.nd.imp fun h => h.1)
theorem Fo.kn (h : Fo W w fb K G n) : ∀ g ∈ G, g.ks.Pairwise fun a b => a.1.data.toList ≠ b.1.data.toList := by
  obtain ⟨v, bw, L, h1, rfl⟩ := h.ex
  intro g hg
  obtain ⟨d, hd, rfl⟩ := List.mem_map.1 hg
  exact h1.kn d hd
theorem lkD_mem {d : Dv} (h : lkD L t = some d) : d ∈ L ∧ d.g.txn = t := ⟨List.mem_of_find?_eq_some h, by simpa using List.find?_some h⟩
theorem kI (a : Int) : WideAt.IsKeyLit (.int .i64 a) := trivial
theorem kS (a : List UInt8) : WideAt.IsKeyLit (.string a) := trivial
theorem lkD_none : lkD L t = none ↔ ∀ d ∈ L, d.g.txn ≠ t := by simp [lkD]
theorem lkD_of (hn : L.Pairwise fun a b => a.g.txn ≠ b.g.txn ∧ a.b ≠ b.b) {d : Dv} (hd : d ∈ L) : lkD L d.g.txn = some d := by
  unfold lkD
  induction L with
  | nil => cases hd
  | cons x L ih =>
    rw [List.pairwise_cons] at hn
    rw [List.find?_cons]
    rcases List.mem_cons.1 hd with rfl | h
    · simp
    · have := (hn.1 d h).1
      rw [show (x.g.txn == d.g.txn) = false by simpa using this]
      exact ih hn.2 h
theorem fW_at {t : Int} : fW L (.int .i64 t) = (lkD L t).map fun d => .map (some d.b) := rfl
theorem fK_at {ks : List (ByteArray × Hs)} {k : List UInt8} : fK ks (.string k) = (lkK ks k).map fun p => .agg p.2.A := rfl
theorem lkD_snoc (d : Dv) (t : Int) : lkD (L ++ [d]) t = (lkD L t).or (if d.g.txn = t then some d else none) := by
  unfold lkD
  rw [List.find?_append, List.find?_singleton]
  congr 1
  by_cases h : d.g.txn = t <;> simp [h]
theorem fW_snoc {d : Dv} (h : lkD L d.g.txn = none) (l : Lit) : fW (L ++ [d]) l = updL (fW L) (.int .i64 d.g.txn) (some (.map (some d.b))) l := by
  by_cases e : l = .int .i64 d.g.txn
  · subst e
    rw [updL_same _ (kI _)]
    simp only [fW]
    rw [lkD_snoc, h]
    simp
  · rw [updL_other _ _ e]
    cases l <;> try rfl
    rename_i q a
    cases q <;> try rfl
    simp only [fW]
    rw [lkD_snoc, if_neg (fun e2 => e (by rw [e2]))]
    cases lkD L a <;> rfl
theorem lkD_filter (t a : Int) : lkD (L.filter fun d => d.g.txn != t) a = if a = t then none else lkD L a := by
  unfold lkD
  rw [List.find?_filter]
  by_cases h : a = t
  · subst h
    rw [if_pos rfl, List.find?_eq_none]
    intro x hx
    simp
  · rw [if_neg h]
    congr 1
    funext d
    by_cases h2 : d.g.txn = a
    · simp [h2, h]
    · simp [h2]
theorem fW_drop (t : Int) (l : Lit) : fW (L.filter fun d => d.g.txn != t) l = updL (fW L) (.int .i64 t) none l := by
  by_cases e : l = .int .i64 t
  · subst e
    rw [updL_same _ (kI _)]
    simp only [fW]
    rw [lkD_filter, if_pos rfl]
    rfl
  · rw [updL_other _ _ e]
    cases l <;> try rfl
    rename_i q a
    cases q <;> try rfl
    simp only [fW]
    rw [lkD_filter, if_neg (fun e2 => e (by rw [e2]))]
theorem len_drop (hn : L.Pairwise fun a b => a.g.txn ≠ b.g.txn ∧ a.b ≠ b.b) (t : Int) : (L.filter fun d => d.g.txn != t).length = if (lkD L t).isSome then L.length - 1 else L.length := by
  induction L with
  | nil => rfl
  | cons x L ih =>
    rw [List.pairwise_cons] at hn
    have h1 := ih hn.2
    rw [List.filter_cons]
    by_cases h : x.g.txn = t
    · have h0 : lkD L t = none := lkD_none.2 fun d hd e => (hn.1 d hd).1 (h.trans e.symm)
      rw [h0] at h1
      simp only [lkD, List.find?_cons, h, beq_self_eq_true, Option.isSome_some, if_true, bne_self_eq_false, Bool.false_eq_true, if_false, List.length_cons]
      simpa using h1
    · have h2 : (x.g.txn == t) = false := by simpa using h
      have h3 : (x.g.txn != t) = true := by simpa using h
      have h4 : lkD (x :: L) t = lkD L t := by simp only [lkD, List.find?_cons, h2]
      rw [if_pos h3, List.length_cons, h1, h4, List.length_cons]
      cases h5 : lkD L t with
      | none => simp
      | some y =>
        have := List.length_pos_of_mem (lkD_mem h5).1
        simp
        omega
/-- A key's value laid among others. -/
def putH (ks : List (ByteArray × Hs)) (k : ByteArray) (x : Hs) : List (ByteArray × Hs) := ks.filter (fun p => p.1.data.toList != k.data.toList) ++ [(k, x)]
theorem lkK_put (ks : List (ByteArray × Hs)) (k : ByteArray) (x : Hs) (a : List UInt8) : lkK (putH ks k x) a = if a = k.data.toList then some (k, x) else lkK ks a := by
  unfold lkK putH
  rw [List.find?_append, List.find?_filter, List.find?_singleton]
  by_cases h : a = k.data.toList
  · subst h
    rw [if_pos rfl, List.find?_eq_none.2 (by intro p hp; simp)]
    simp
  · rw [if_neg h, if_neg (by simp; exact fun e => h e.symm), Option.or_none]
    congr 1
    funext p
    by_cases h2 : p.1.data.toList = a
    · rw [h2]; simp [h]
    · simp [h2]
theorem fK_put (ks : List (ByteArray × Hs)) (k : ByteArray) (x : Hs) (l : Lit) : fK (putH ks k x) l = updL (fK ks) (.string k.data.toList) (some (.agg x.A)) l := by
  by_cases e : l = .string k.data.toList
  · subst e
    rw [updL_same _ (kS _), fK_at, lkK_put, if_pos rfl]
    rfl
  · rw [updL_other _ _ e]
    cases l <;> try rfl
    rename_i a
    rw [fK_at, lkK_put, if_neg (fun e2 => e (by rw [e2]))]
    rfl
theorem lkK_none {ks : List (ByteArray × Hs)} {k : List UInt8} : lkK ks k = none ↔ ∀ p ∈ ks, p.1.data.toList ≠ k := by simp [lkK]
theorem lkK_mem {ks : List (ByteArray × Hs)} {k : List UInt8} {p : ByteArray × Hs} (h : lkK ks k = some p) : p ∈ ks ∧ p.1.data.toList = k := ⟨List.mem_of_find?_eq_some h, by simpa using List.find?_some h⟩
theorem putH_kn {ks : List (ByteArray × Hs)} (h : ks.Pairwise fun a b => a.1.data.toList ≠ b.1.data.toList) (k : ByteArray) (x : Hs) : (putH ks k x).Pairwise fun a b => a.1.data.toList ≠ b.1.data.toList := by
  unfold putH
  rw [List.pairwise_append]
  refine ⟨h.sublist List.filter_sublist, by simp, fun a ha b hb => ?_⟩
  rw [List.mem_singleton] at hb
  subst hb
  simpa using (List.mem_filter.1 ha).2
theorem putH_len {ks : List (ByteArray × Hs)} (h : ks.Pairwise fun a b => a.1.data.toList ≠ b.1.data.toList) (k : ByteArray) (x : Hs) : (putH ks k x).length = if (lkK ks k.data.toList).isSome then ks.length else ks.length + 1 := by
  unfold putH
  rw [List.length_append, List.length_singleton]
  induction ks with
  | nil => simp [lkK]
  | cons p ks ih =>
    rw [List.pairwise_cons] at h
    have h1 := ih h.2
    rw [List.filter_cons]
    by_cases e : p.1.data.toList = k.data.toList
    · have h0 : lkK ks k.data.toList = none := lkK_none.2 fun q hq e2 => h.1 q hq (e.trans e2.symm)
      rw [h0] at h1
      simp only [lkK, List.find?_cons, e, beq_self_eq_true, Option.isSome_some, if_true, bne_self_eq_false, Bool.false_eq_true, if_false, List.length_cons]
      simpa using h1
    · have h2 : (p.1.data.toList == k.data.toList) = false := by simpa using e
      have h3 : (p.1.data.toList != k.data.toList) = true := by simpa using e
      have h4 : lkK (p :: ks) k.data.toList = lkK ks k.data.toList := by simp only [lkK, List.find?_cons, h2]
      rw [if_pos h3, List.length_cons, h4, List.length_cons]
      split at h1 <;> rename_i h5 <;> simp only [h5, if_true, if_false, Bool.false_eq_true] <;> omega
theorem nd_b (hn : L.Pairwise fun a b => a.g.txn ≠ b.g.txn ∧ a.b ≠ b.b) {a b : Dv} (ha : a ∈ L) (hb : b ∈ L) (h : a.g.txn ≠ b.g.txn) : a.b ≠ b.b := by
  induction L with
  | nil => cases ha
  | cons x L ih =>
    rw [List.pairwise_cons] at hn
    rcases List.mem_cons.1 ha with rfl | h1 <;> rcases List.mem_cons.1 hb with rfl | h2
    · exact absurd rfl h
    · exact (hn.1 b h2).2
    · exact Ne.symm (hn.1 a h1).2
    · exact ih hn.2 h1 h2
/-- Who goes on, a key turned. -/
def lkG (G : List Gt) (t : Int) : Option Gt := G.find? fun g => g.txn == t
def tnG (t : Int) (k : ByteArray) (x : Hs) (g : Gt) : Gt := if g.txn = t then ⟨t, putH g.ks k x⟩ else g
def putG (G : List Gt) (t : Int) (k : ByteArray) (x : Hs) : List Gt := if (lkG G t).isSome then G.map (tnG t k x) else G ++ [⟨t, [(k, x)]⟩]
def dropG (G : List Gt) (t : Int) : List Gt := G.filter fun g => g.txn != t
theorem lkG_map (t : Int) : lkG (L.map (·.g)) t = (lkD L t).map (·.g) := by unfold lkG lkD; rw [List.find?_map]; rfl
def tnD (t : Int) (k : ByteArray) (x : Hs) (d : Dv) : Dv := ⟨tnG t k x d.g, d.b⟩
theorem tnG_txn (t : Int) (k : ByteArray) (x : Hs) (g : Gt) : (tnG t k x g).txn = g.txn := by unfold tnG; split <;> simp_all
theorem lkD_map (t : Int) (k : ByteArray) (x : Hs) (u : Int) : lkD (L.map (tnD t k x)) u = (lkD L u).map (tnD t k x) := by
  unfold lkD
  rw [List.find?_map]
  congr 1
  congr 1
  funext d
  simp [tnD, tnG_txn]
theorem fW_turn (t : Int) (k : ByteArray) (x : Hs) (l : Lit) : fW (L.map (tnD t k x)) l = fW L l := by
  cases l <;> try rfl
  rename_i q a
  cases q <;> try rfl
  simp only [fW]
  rw [lkD_map, Option.map_map]
  rfl
/-- A key's map turned. -/
theorem FoI.on (H : FoI W w fb v bw K L n) (HL : ∀ j, W j → j < w.heap.size) {d : Dv} {k : ByteArray} {x : Hs} (hd : lkD L t = some d) (o : ∀ j, j < w.heap.size → j ≠ d.b → w'.heap[j]? = w.heap[j]?)
    (hv : v.ownBlock ≠ some d.b) (MK : Mp w' 9 d.b (putH d.g.ks k x).length (fK (putH d.g.ks k x))) : FoI W w' fb v bw K (L.map (tnD t k x)) n := by
  obtain ⟨hm, ht⟩ := lkD_mem hd
  have hne := H.ne
  have at_ : ∀ x' ∈ L, (x' = d ∧ (tnD t k x x').g.ks = putH d.g.ks k x) ∨ (x'.b ≠ d.b ∧ (tnD t k x x').g = x'.g) := fun x' hx => by
    by_cases e : x'.g.txn = t
    · have e2 := lkD_of H.nd hx
      rw [e, hd] at e2
      cases e2
      exact Or.inl ⟨rfl, by simp only [tnD, tnG]; rw [if_pos e]⟩
    · exact Or.inr ⟨nd_b H.nd hx hm (fun e2 => e (e2.trans ht)), by simp only [tnD, tnG]; rw [if_neg e]⟩
  refine ⟨H.is.keep (o fb (HL _ H.w1.1) ((H.ks d hm).ne H.is).symm), H.row.keep (fun g e => o g (HL _ (H.wv g e)) (fun e2 => hv (by rw [← e2]; exact e))), ?_, fun y hy => ?_, ?_, fun y hy => ?_, fun y hy => ?_, H.w1, H.wv, fun y hy => ?_, H.up⟩
  · rw [List.length_map]
    exact (H.wa.keep (o bw (HL _ H.w1.2) (hne d hm).symm)).ext (fW_turn t k x)
  · obtain ⟨x', hx, rfl⟩ := List.mem_map.1 hy
    rcases at_ x' hx with ⟨rfl, e⟩ | ⟨e1, e2⟩
    · rw [e]; exact MK
    · rw [e2]; exact (H.ks x' hx).keep (o x'.b (HL _ (H.w2 x' hx)) e1)
  · exact List.pairwise_map.2 (H.nd.imp fun h => ⟨by simp only [tnD, tnG_txn]; exact h.1, h.2⟩)
  · obtain ⟨x', hx, rfl⟩ := List.mem_map.1 hy
    rcases at_ x' hx with ⟨rfl, e⟩ | ⟨e1, e2⟩
    · rw [e]; exact putH_kn (H.kn x' hx) k x
    · rw [e2]; exact H.kn x' hx
  · obtain ⟨x', hx, rfl⟩ := List.mem_map.1 hy
    exact hne x' hx
  · obtain ⟨x', hx, rfl⟩ := List.mem_map.1 hy
    exact H.w2 x' hx
/-- One more that goes on. -/
theorem FoI.snoc (H : FoI W w fb v bw K L n) (HL : ∀ j, W j → j < w.heap.size) {k : ByteArray} {x : Hs} (hn : lkD L t = none) {nb : Nat} (hb : w.heap.size ≤ nb) (o : ∀ j, j < w.heap.size → j ≠ bw → w'.heap[j]? = w.heap[j]?)
    (hv : v.ownBlock ≠ some bw) (M2 : Mp w' 3 bw (L.length + 1) (updL (fW L) (.int .i64 t) (some (.map (some nb))))) (MK : Mp w' 9 nb 1 (fK [(k, x)])) :
    FoI (fun j => W j ∨ j = nb) w' fb v bw K (L ++ [⟨⟨t, [(k, x)]⟩, nb⟩]) n := by
  have hne := H.ne
  have lt : ∀ j, W j → j ≠ nb := fun j hj => by have := HL j hj; omega
  refine ⟨H.is.keep (o fb (HL _ H.w1.1) (H.wa.ne H.is).symm), H.row.keep (fun g e => o g (HL _ (H.wv g e)) (fun e2 => hv (by rw [← e2]; exact e))), ?_, fun y hy => ?_, ?_, fun y hy => ?_, fun y hy => ?_, ⟨Or.inl H.w1.1, Or.inl H.w1.2⟩, fun g e => Or.inl (H.wv g e), fun y hy => ?_, H.up⟩
  · rw [List.length_append]
    exact M2.ext fun l => fW_snoc (d := ⟨⟨t, [(k, x)]⟩, nb⟩) hn l
  · rcases List.mem_append.1 hy with h | h
    · exact (H.ks y h).keep (o y.b (HL _ (H.w2 y h)) (hne y h))
    · rw [List.mem_singleton] at h
      subst h
      exact MK
  · rw [List.pairwise_append]
    refine ⟨H.nd, by simp, fun a ha b hb2 => ?_⟩
    rw [List.mem_singleton] at hb2
    subst hb2
    exact ⟨lkD_none.1 hn a ha, lt _ (H.w2 a ha)⟩
  · rcases List.mem_append.1 hy with h | h
    · exact H.kn y h
    · rw [List.mem_singleton] at h
      subst h
      simp
  · rcases List.mem_append.1 hy with h | h
    · exact hne y h
    · rw [List.mem_singleton] at h
      subst h
      exact Ne.symm (lt _ H.w1.2)
  · rcases List.mem_append.1 hy with h | h
    · exact Or.inl (H.w2 y h)
    · rw [List.mem_singleton] at h
      subst h
      exact Or.inr rfl
/-- One that ends. -/
theorem FoI.gone (h : FoI W w fb v bw K L n) (t : Int) (o : ∀ j, j ≠ bw → w'.heap[j]? = w.heap[j]?) (hv : v.ownBlock ≠ some bw) (M : Mp w' 3 bw (if (fW L (.int .i64 t)).isSome then L.length - 1 else L.length) (updL (fW L) (.int .i64 t) none)) : FoI W w' fb v bw K (L.filter fun d => d.g.txn != t) n := by
  have hne := h.ne
  have he : ∀ d ∈ L.filter (fun d => d.g.txn != t), d ∈ L := fun d hd => (List.mem_filter.1 hd).1
  have hl := len_drop h.nd t
  refine ⟨h.is.keep (o fb (fun e => h.wa.ne h.is e.symm)), h.row.keep (fun g e => o g (fun e2 => hv (by rw [← e2]; exact e))), ?_, fun d hd => (h.ks d (he d hd)).keep (o _ (hne d (he d hd))), h.nd.sublist List.filter_sublist, fun d hd => h.kn d (he d hd), fun d hd => hne d (he d hd), h.w1, h.wv, fun d hd => h.w2 d (he d hd), h.up⟩
  rw [hl]
  have e : (fW L (.int .i64 t)).isSome = (lkD L t).isSome := by rw [fW_at, Option.isSome_map]
  rw [e] at M
  exact M.ext (fW_drop t)
theorem row_neMp {k : Nat} {ty kt : TypeId} {u : Value} {M : List (List Value)} {b m : Nat} {f : Lit → Option Value} (r : Row w ty k u M) (h : Mp w kt b m f) : u.ownBlock ≠ some b := fun e => by
  obtain ⟨cur, hc⟩ := r.blkAt e
  obtain ⟨es, cl, h1⟩ := h.blk
  rw [hc] at h1
  cases h1
/-- What a call leaves. -/
structure FoO (W : Nat → Prop) (w w' : World) (fb : Nat) (K : List CL) (G : List Gt) (n : Int) : Prop where
  ex : ∃ W', Fo W' w' fb K G n ∧ Fr W W' w w'
end
end Go.Proofs.Ytkcpclmkbmeigab.Fd
