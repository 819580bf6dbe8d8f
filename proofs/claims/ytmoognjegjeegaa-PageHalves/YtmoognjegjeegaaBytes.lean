/- Pages as lists of bytes: what is read of them, and what turns them: mathematics, no Go. -/
import Derived.WalkKit
import Derived.Lib.Strings
namespace Go.Proofs.Ytmoognjegjeegaa
set_option linter.unusedVariables false
set_option linter.unusedSimpArgs false

/-! ### The order of strings -/
def ltL (x y : List UInt8) : Bool := Op.bytesLess x y
theorem ltL_irrefl : ∀ x : List UInt8, ltL x x = false
  | [] => by simp [ltL, Op.bytesLess]
  | a :: x => by
    have := ltL_irrefl x
    simp only [ltL] at this
    simp [ltL, Op.bytesLess, this]
theorem ltL_trans : ∀ x y z : List UInt8, ltL x y = true → ltL y z = true → ltL x z = true
  | [], [], _, h, _ => by simp [ltL, Op.bytesLess] at h
  | [], _ :: _, [], _, h => by simp [ltL, Op.bytesLess] at h
  | [], _ :: _, _ :: _, _, _ => by simp [ltL, Op.bytesLess]
  | _ :: _, [], _, h, _ => by simp [ltL, Op.bytesLess] at h
  | _ :: _, _ :: _, [], _, h => by simp [ltL, Op.bytesLess] at h
  | a :: x, b :: y, c :: z, h, k => by
    have ih := ltL_trans x y z
    simp only [ltL, Op.bytesLess, Bool.or_eq_true, Bool.and_eq_true, decide_eq_true_eq, beq_iff_eq] at h k ih ⊢
    rcases h with h | ⟨h, h'⟩
    · rcases k with k | ⟨k, _⟩
      · exact Or.inl (UInt8.lt_trans h k)
      · exact Or.inl (k ▸ h)
    · rcases k with k | ⟨k, k'⟩
      · exact Or.inl (h ▸ k)
      · exact Or.inr ⟨h.trans k, ih h' k'⟩
theorem ltL_total : ∀ x y : List UInt8, ltL x y = false → x ≠ y → ltL y x = true
  | [], [], _, h => absurd rfl h
  | [], _ :: _, h, _ => by simp [ltL, Op.bytesLess] at h
  | _ :: _, [], _, _ => by simp [ltL, Op.bytesLess]
  | a :: x, b :: y, h, k => by
    have ih := ltL_total x y
    simp only [ltL, Op.bytesLess, Bool.or_eq_false_iff, Bool.or_eq_true, Bool.and_eq_true, decide_eq_true_eq, decide_eq_false_iff_not, beq_iff_eq, Bool.and_eq_false_iff] at h k ih ⊢
    obtain ⟨h1, h2⟩ := h
    by_cases e : a = b
    · subst e
      refine Or.inr ⟨rfl, ih ?_ (fun e => k (by rw [e]))⟩
      rcases h2 with h2 | h2
      · simp at h2
      · exact h2
    · refine Or.inl ?_
      rcases UInt8.lt_or_lt_of_ne e with h | h
      · exact absurd h h1
      · exact h
def lt (a b : ByteArray) : Bool := Op.bytesLess a.toList b.toList
theorem toList_inj {a b : ByteArray} (h : a.toList = b.toList) : a = b := by
  rw [Lib.toList_data, Lib.toList_data] at h
  exact ByteArray.ext (Array.toList_inj.1 h)
theorem lt_irrefl (a : ByteArray) : lt a a = false := ltL_irrefl _
theorem lt_trans {a b c : ByteArray} (h : lt a b = true) (k : lt b c = true) : lt a c = true := ltL_trans _ _ _ h k
theorem lt_total {a b : ByteArray} (h : lt a b = false) (k : a ≠ b) : lt b a = true := ltL_total _ _ h (fun e => k (toList_inj e))
theorem lt_asymm {a b : ByteArray} (h : lt a b = true) : lt b a = false := by
  cases k : lt b a
  · rfl
  · have := lt_trans h k
    rw [lt_irrefl] at this
    cases this
theorem lt_ne {a b : ByteArray} (h : lt a b = true) : a ≠ b := fun e => by rw [e, lt_irrefl] at h; cases h
/-- Not (b < a or b = a). -/
theorem leq_not (a b : ByteArray) : (Op.bytesLess b.toList a.toList || b.toList == a.toList) = !lt a b := by
  cases h : lt a b
  · by_cases e : a = b
    · subst e; simp
    · have := lt_total h e
      simp only [lt] at this
      simp [this]
  · have h1 := lt_asymm h
    have h2 : (b.toList == a.toList) = false := by
      simp only [beq_eq_false_iff_ne]
      exact fun e => lt_ne h (toList_inj e).symm
    simp only [lt] at h1
    simp [h1, h2]

/-! ### Bytes by their places -/
/-- The j-th byte, as a number. -/
def g (s : List UInt8) (j : Nat) : Nat := (s[j]?.getD 0).toNat
theorem g_lt (s : List UInt8) (j : Nat) : g s j < 256 := UInt8.toNat_lt _
theorem g_of {s s' : List UInt8} {i j : Nat} (h : s'[i]? = s[j]?) : g s' i = g s j := by rw [g, h]; rfl
def seg (s : List UInt8) (a n : Nat) : List UInt8 := (s.drop a).take n
theorem seg_get (s : List UInt8) (a n j : Nat) : (seg s a n)[j]? = if j < n then s[a + j]? else none := by
  rw [seg, List.getElem?_take]
  split
  · rw [List.getElem?_drop]
  · rfl
theorem seg_length {s : List UInt8} {a n : Nat} (h : a + n ≤ s.length) : (seg s a n).length = n := by rw [seg, List.length_take, List.length_drop]; omega
theorem seg_congr {s s' : List UInt8} {a n : Nat} (h : ∀ j, a ≤ j → j < a + n → s'[j]? = s[j]?) : seg s' a n = seg s a n := by
  apply List.ext_getElem?
  intro j
  rw [seg_get, seg_get]
  split
  · exact h _ (by omega) (by omega)
  · rfl
/-- Bytes over others. -/
def ov (s : List UInt8) (a : Nat) (x : List UInt8) : List UInt8 := s.take a ++ x ++ s.drop (a + x.length)
theorem ov_length {s x : List UInt8} {a : Nat} (h : a + x.length ≤ s.length) : (ov s a x).length = s.length := by
  simp only [ov, List.length_append, List.length_take, List.length_drop]; omega
theorem ov_get {s x : List UInt8} {a : Nat} (h : a + x.length ≤ s.length) (j : Nat) : (ov s a x)[j]? = if a ≤ j ∧ j < a + x.length then x[j - a]? else s[j]? := by
  simp only [ov, List.append_assoc]
  by_cases h1 : j < a
  · rw [if_neg (by omega), List.getElem?_append_left (by rw [List.length_take]; omega), List.getElem?_take, if_pos h1]
  · rw [List.getElem?_append_right (by rw [List.length_take]; omega), List.length_take, Nat.min_eq_left (by omega)]
    by_cases h2 : j < a + x.length
    · rw [if_pos (by omega), List.getElem?_append_left (by omega)]
    · rw [if_neg (by omega), List.getElem?_append_right (by omega), List.getElem?_drop]
      congr 1; omega
theorem set_get (s : List UInt8) (a : Nat) (x : UInt8) (h : a < s.length) (j : Nat) : (s.set a x)[j]? = if j = a then some x else s[j]? := by
  rw [List.getElem?_set]
  by_cases e : a = j
  · subst e; simp [h]
  · rw [if_neg e, if_neg (fun x => e x.symm)]

/-! ### Cells -/
structure Cl where
  k : ByteArray
  v : ByteArray
theorem Cl.eq {a b : Cl} (h1 : a.k = b.k) (h2 : a.v = b.v) : a = b := by cases a; cases b; simp_all
def need (c : Cl) : Nat := 3 + c.k.size + c.v.size
def needs : List Cl → Nat
  | [] => 0
  | c :: r => need c + needs r
theorem needs_append : ∀ a b : List Cl, needs (a ++ b) = needs a + needs b
  | [], b => by simp [needs]
  | c :: a, b => by simp only [List.cons_append, needs, needs_append a b]; omega
theorem needs_take_succ {L : List Cl} {i : Nat} (h : i < L.length) : needs (L.take (i + 1)) = needs (L.take i) + need L[i] := by
  rw [List.take_succ_eq_append_getElem h, needs_append]; simp [needs]
theorem needs_take_le (L : List Cl) (i : Nat) : needs (L.take i) ≤ needs L := by
  have := needs_append (L.take i) (L.drop i)
  rw [List.take_append_drop] at this
  omega
theorem needs_split (L : List Cl) (i : Nat) : needs L = needs (L.take i) + needs (L.drop i) := by
  rw [← needs_append, List.take_append_drop]
/-- A list with a cell in a place; without one. -/
def ins (L : List Cl) (i : Nat) (c : Cl) : List Cl := L.take i ++ c :: L.drop i
def del (L : List Cl) (i : Nat) : List Cl := L.take i ++ L.drop (i + 1)
theorem needs_ins (L : List Cl) (i : Nat) (c : Cl) : needs (ins L i c) = needs L + need c := by
  rw [needs_split L i, ins, needs_append, needs]; omega
theorem needs_del {L : List Cl} {i : Nat} (h : i < L.length) : needs (del L i) + need L[i] = needs L := by
  rw [needs_split L i, del, needs_append, ← List.getElem_cons_drop h, needs]; omega
theorem three_le (L : List Cl) : 3 * L.length ≤ needs L := by
  induction L with
  | nil => simp [needs]
  | cons c r ih => simp only [needs, need, List.length_cons]; omega
def cellAt (s : List UInt8) (x : Nat) : Cl := ⟨⟨(seg s (x + 2) (g s x)).toArray⟩, ⟨(seg s (x + 2 + g s x) (g s (x + 1))).toArray⟩⟩
def slot (s : List UInt8) (i : Nat) : Nat := g s (223 - i)
def cell (s : List UInt8) (i : Nat) : Cl := cellAt s (slot s i)
def key (s : List UInt8) (i : Nat) : ByteArray := (cell s i).k
def val (s : List UInt8) (i : Nat) : ByteArray := (cell s i).v
def cnt (s : List UInt8) : Nat := g s 2
def en (s : List UInt8) : Nat := g s 3
def cells (s : List UInt8) : List Cl := (List.range (cnt s)).map (cell s)
theorem cells_length (s : List UInt8) : (cells s).length = cnt s := by simp [cells]
theorem cells_get {s : List UInt8} {i : Nat} (h : i < cnt s) : (cells s)[i]? = some (cell s i) := by simp [cells, h]
theorem cells_get' {s : List UInt8} {i : Nat} (h : i < (cells s).length) : (cells s)[i] = cell s i := by simp [cells]
theorem cellAt_congr {s s' : List UInt8} {x : Nat} (h : ∀ j, x ≤ j → j < x + 2 + g s x + g s (x + 1) → s'[j]? = s[j]?) : cellAt s' x = cellAt s x ∧ g s' x = g s x ∧ g s' (x + 1) = g s (x + 1) := by
  have e0 : g s' x = g s x := g_of (h _ (by omega) (by omega))
  have e1 : g s' (x + 1) = g s (x + 1) := g_of (h _ (by omega) (by omega))
  refine ⟨?_, e0, e1⟩
  rw [cellAt, cellAt, e0, e1, seg_congr (fun j h1 h2 => h j (by omega) (by omega)), seg_congr (fun j h1 h2 => h j (by omega) (by omega))]
/-- A cell's bytes lie in the heap. -/
structure At (s : List UInt8) (x : Nat) : Prop where
  lo : 4 ≤ x
  two : x + 2 ≤ en s
  k : g s x ≤ 16
  v : g s (x + 1) ≤ 32
  hi : x + 2 + g s x + g s (x + 1) ≤ en s
def atB (s : List UInt8) (x : Nat) : Bool := decide (4 ≤ x ∧ x + 2 ≤ en s ∧ g s x ≤ 16 ∧ g s (x + 1) ≤ 32 ∧ x + 2 + g s x + g s (x + 1) ≤ en s)
theorem atB_iff (s : List UInt8) (x : Nat) : atB s x = true ↔ At s x := by
  simp only [atB, decide_eq_true_eq]
  exact ⟨fun ⟨a, b, c, d, e⟩ => ⟨a, b, c, d, e⟩, fun ⟨a, b, c, d, e⟩ => ⟨a, b, c, d, e⟩⟩
/-- The head of a page. -/
structure Head (s : List UInt8) : Prop where
  len : s.length = 224
  kind : g s 0 ≤ 2
  level : g s 0 = 2 ∨ g s 1 = 0
  free : g s 0 = 0 → cnt s = 0
  en4 : 4 ≤ en s
  enn : en s + cnt s ≤ 224
def headB (s : List UInt8) : Bool := decide (s.length = 224 ∧ g s 0 ≤ 2 ∧ (g s 0 = 2 ∨ g s 1 = 0) ∧ (g s 0 = 0 → cnt s = 0) ∧ 4 ≤ en s ∧ en s + cnt s ≤ 224)
theorem headB_iff (s : List UInt8) : headB s = true ↔ Head s := by
  simp only [headB, decide_eq_true_eq]
  exact ⟨fun ⟨a, b, c, d, e, f⟩ => ⟨a, b, c, d, e, f⟩, fun ⟨a, b, c, d, e, f⟩ => ⟨a, b, c, d, e, f⟩⟩
/-- The i-th cell is right. -/
structure Ok (s : List UInt8) (i : Nat) : Prop where
  at_ : At s (slot s i)
  rise : 0 < i → lt (key s (i - 1)) (key s i) = true
/-- Bytes are a page. -/
structure Right (s : List UInt8) : Prop where
  head : Head s
  ok : ∀ i, i < cnt s → Ok s i
  fit : needs (cells s) ≤ 220
def okB (s : List UInt8) (i : Nat) : Bool := atB s (slot s i) && (i == 0 || lt (key s (i - 1)) (key s i))
theorem okB_iff (s : List UInt8) (i : Nat) : okB s i = true ↔ Ok s i := by
  simp only [okB, Bool.and_eq_true, Bool.or_eq_true, atB_iff, beq_iff_eq]
  exact ⟨fun ⟨a, b⟩ => ⟨a, fun h => by rcases b with b | b; omega; exact b⟩, fun ⟨a, b⟩ => ⟨a, by rcases Nat.eq_zero_or_pos i with h | h; exact Or.inl h; exact Or.inr (b h)⟩⟩
def allB (s : List UInt8) : Bool := (List.range (cnt s)).all (okB s) && decide (needs (cells s) ≤ 220)
def rightB (s : List UInt8) : Bool := headB s && allB s
theorem allB_iff (s : List UInt8) : allB s = true ↔ (∀ i, i < cnt s → Ok s i) ∧ needs (cells s) ≤ 220 := by
  simp only [allB, Bool.and_eq_true, List.all_eq_true, List.mem_range, okB_iff, decide_eq_true_eq]
theorem rightB_iff (s : List UInt8) : rightB s = true ↔ Right s := by
  simp only [rightB, Bool.and_eq_true, headB_iff, allB_iff]
  exact ⟨fun ⟨a, b, c⟩ => ⟨a, b, c⟩, fun ⟨a, b, c⟩ => ⟨a, b, c⟩⟩
theorem allB_no {s : List UInt8} {i : Nat} (hi : i < cnt s) (h : okB s i = false) : allB s = false := by
  cases e : allB s
  · rfl
  · rw [(okB_iff s i).2 (((allB_iff s).1 e).1 i hi)] at h; cases h
theorem At.ksize {s : List UInt8} {x : Nat} (h : At s x) (hs : en s ≤ s.length) : (cellAt s x).k.size = g s x := by
  show ((seg s (x + 2) (g s x)).toArray).size = _
  rw [List.size_toArray, seg_length (by have := h.hi; omega)]
theorem At.vsize {s : List UInt8} {x : Nat} (h : At s x) (hs : en s ≤ s.length) : (cellAt s x).v.size = g s (x + 1) := by
  show ((seg s (x + 2 + g s x) (g s (x + 1))).toArray).size = _
  rw [List.size_toArray, seg_length (by have := h.hi; omega)]
theorem Head.el {s : List UInt8} (h : Head s) : en s ≤ s.length := by have := h.enn; rw [h.len]; omega
theorem Head.slotlt {s : List UInt8} (h : Head s) : cnt s ≤ 220 := by have := h.enn; have := h.en4; omega
theorem rising {s : List UInt8} (h : Right s) : ∀ (j i : Nat), i < j → j < cnt s → lt (key s i) (key s j) = true
  | 0, i, hi, _ => absurd hi (Nat.not_lt_zero _)
  | j + 1, i, hi, hj => by
    have h1 := (h.ok (j + 1) hj).rise (by omega)
    rw [Nat.add_sub_cancel] at h1
    by_cases e : i = j
    · subst e; exact h1
    · exact lt_trans (rising h j i (by omega) (by omega)) h1
/-- What only looks at the head and the cells. -/
theorem Ok.need {s : List UInt8} (h : Head s) {i : Nat} (hi : Ok s i) : (cell s i).k.size ≤ 16 ∧ (cell s i).v.size ≤ 32 := by
  have h1 := hi.at_.ksize h.el
  have h2 := hi.at_.vsize h.el
  have := hi.at_.k
  have := hi.at_.v
  exact ⟨by rw [cell, h1]; omega, by rw [cell, h2]; omega⟩

/-! ### A key's place -/
def plc (L : List Cl) (x : ByteArray) : Nat := L.findIdx (fun c => !lt c.k x)
def isAt (L : List Cl) (x : ByteArray) : Bool := match L[plc L x]? with
  | some c => c.k.toList == x.toList
  | none => false
theorem plc_le (L : List Cl) (x : ByteArray) : plc L x ≤ L.length := List.findIdx_le_length
theorem plc_lt {L : List Cl} {x : ByteArray} {t : Nat} (h : t < plc L x) (ht : t < L.length) : lt L[t].k x = true := by
  have := List.not_of_lt_findIdx h
  simpa using this
theorem plc_at {L : List Cl} {x : ByteArray} (h : plc L x < L.length) : lt L[plc L x].k x = false := by
  have := List.findIdx_getElem (w := h)
  show lt L[List.findIdx (fun c => !lt c.k x) L].k x = false
  simpa using this
theorem plc_unique {L : List Cl} {x : ByteArray} {i : Nat} (hi : i ≤ L.length) (h1 : ∀ t (ht : t < L.length), t < i → lt L[t].k x = true) (h2 : ∀ ht : i < L.length, lt L[i].k x = false) : i = plc L x := by
  have hle := plc_le L x
  rcases Nat.lt_trichotomy i (plc L x) with h | h | h
  · have := plc_lt h (by omega)
    rw [h2] at this; cases this
  · exact h
  · have := h1 _ (by omega) h
    rw [plc_at] at this; cases this
end Go.Proofs.Ytmoognjegjeegaa
