/- The net in memory: its struct, its row of texts; what stays as it was; append onto such a row. -/
import Derived.Test.YtamchicifjnmgaaProg
import Derived.WalkKit
import Derived.ProofKit
import Derived.WalkSpells
import Derived.WalkLawsBesides
import Derived.Deep.QuietTactic
import Derived.BigQuiet
import Derived.Deep.MidRow
import Derived.Lib.SmallJoins
import Derived.Laws.AppendOwn
namespace Go.Proofs.Ytamchicifjnmgaa
open Go.RowKit
set_option linter.unusedVariables false
set_option linter.unusedSimpArgs false
set_option maxRecDepth 100000

/-- All blocks but those of B are as they were; new ones may have come. -/
structure Off (B : Nat → Prop) (w w' : World) : Prop where
  os : w'.os = w.os
  tape : w'.tape = w.tape
  output : w'.output = w.output
  size : w.heap.size ≤ w'.heap.size
  block : ∀ k, k < w.heap.size → ¬ B k → w'.heap[k]? = w.heap[k]?
theorem Off.refl (B : Nat → Prop) (w : World) : Off B w w := ⟨rfl, rfl, rfl, Nat.le_refl _, fun _ _ _ => rfl⟩
theorem Off.trans {B : Nat → Prop} {a b c : World} (h : Off B a b) (k : Off B b c) : Off B a c :=
  ⟨k.os.trans h.os, k.tape.trans h.tape, k.output.trans h.output, Nat.le_trans h.size k.size, fun i hi hn => (k.block i (Nat.lt_of_lt_of_le hi h.size) hn).trans (h.block i hi hn)⟩
theorem Off.mono {B B' : Nat → Prop} {a b : World} (h : Off B a b) (hB : ∀ k, k < a.heap.size → B k → B' k) : Off B' a b :=
  ⟨h.os, h.tape, h.output, h.size, fun k hk hn => h.block k hk (fun x => hn (hB k hk x))⟩
theorem Off.of_below {B : Nat → Prop} {w w' : World} (h : Below w.heap.size w w') : Off B w w' := ⟨h.os, h.tape, h.output, h.size, fun k hk _ => h.block k hk⟩
theorem Off.below {B : Nat → Prop} {b : Nat} {w w' : World} (h : Off B w w') (hb : ∀ k, B k → b ≤ k) (hB : b ≤ w.heap.size) : Below b w w' :=
  ⟨h.os, h.tape, h.output, h.size, fun k hk => h.block k (Nat.lt_of_lt_of_le hk hB) (fun x => by have := hb k x; omega)⟩
theorem Off.alloc {B : Nat → Prop} {a w : World} (h : Off B a w) (o : Obj) : Off B a (w.alloc o) :=
  h.trans (Off.of_below ((Below.refl _ _).alloc (Nat.le_refl _) o))
theorem Off.drew {B : Nat → Prop} {a w : World} (h : Off B a w) : Off B a w.drew := ⟨h.os, h.tape, h.output, h.size, h.block⟩
theorem Off.setCell {B : Nat → Prop} {a w : World} (h : Off B a w) {b : Nat} (hb : B b) (i : Nat) (v : Value) : Off B a (w.setCell ⟨b, i, none⟩ v) := by
  refine h.trans ⟨rfl, rfl, rfl, ?_, fun k _ hk => Below.heap_setCell w _ v k (fun e => hk (by rw [e]; exact hb))⟩
  simp [go_sem]
theorem Off.grown {B : Nat → Prop} {a w w' : World} {row : Option Nat} (h : Off B a w) (hg : w.grownBy w' row) (hr : ∀ k, row = some k → k < a.heap.size → B k) : Off B a w' :=
  ⟨hg.os.trans h.os, hg.tape.trans h.tape, hg.output.trans h.output, Nat.le_trans h.size hg.size, fun k hk hn => (hg.block k (Nat.lt_of_lt_of_le hk h.size) (fun e => hn (hr k e.symm hk))).trans (h.block k hk hn)⟩
theorem Off.cell {B : Nat → Prop} {w w' : World} (h : Off B w w') {p : Addr} (hp : p.block < w.heap.size) (hn : ¬ B p.block) : w'.cell? p = w.cell? p := World.cell?_of_block (h.block _ hp hn)
theorem Off.frozen {B : Nat → Prop} {w w' : World} (h : Off B w w') {p : Addr} (hp : p.block < w.heap.size) (hn : ¬ B p.block) : w'.frozen? p = w.frozen? p := World.frozen?_of_block (h.block _ hp hn)

/-! ### A row of texts -/
def strs (xs : List ByteArray) : List Value := xs.map Value.string
theorem strs_length (xs : List ByteArray) : (strs xs).length = xs.length := by simp [strs]
theorem strs_append (xs ys : List ByteArray) : strs (xs ++ ys) = strs xs ++ strs ys := by simp [strs]
theorem strs_get (xs : List ByteArray) (i : Nat) (hi : i < xs.length) : (strs xs)[i]? = some (.string xs[i]) := by simp [strs, hi]
theorem strs_one (xs : List ByteArray) : ∀ u ∈ strs xs, u.oneCell' = true := fun u hu => by
  obtain ⟨s, _, rfl⟩ := List.mem_map.1 hu; rfl
/-- The slice 'a, as long as xs, cap' bears the texts xs. -/
def Row (w : World) (a : Option Addr) (cap : Nat) (xs : List ByteArray) : Prop :=
  (a = none ∧ cap = 0 ∧ xs = []) ∨
  ∃ g cur, a = some ⟨g, 0, none⟩ ∧ w.heap[g]? = some (.cells cur 9 (0, 0)) ∧ xs.length ≤ cap ∧ cap ≤ maxLen ∧ cap ≤ cur.size ∧ cur.toList.take xs.length = strs xs
/-- The block of a slice. -/
def own (a : Option Addr) : Option Nat := a.map (·.block)
theorem Row.nil (w : World) : Row w none 0 [] := .inl ⟨rfl, rfl, rfl⟩
theorem Row.lt {w : World} {a : Option Addr} {cap : Nat} {xs : List ByteArray} (h : Row w a cap xs) : ∀ k, own a = some k → k < w.heap.size := by
  intro k hk
  rcases h with ⟨rfl, _, _⟩ | ⟨g, cur, rfl, hg, _⟩
  · cases hk
  · simp [own] at hk
    subst hk
    exact (Array.getElem?_eq_some_iff.1 hg).1
theorem Row.tag {w : World} {a : Option Addr} {cap : Nat} {xs : List ByteArray} (h : Row w a cap xs) {cs : Array Value} {t k : Nat} (hk : w.heap[k]? = some (.cells cs t)) (ht : t ≠ 9) : own a ≠ some k := by
  intro e
  rcases h with ⟨rfl, _, _⟩ | ⟨g, cur, rfl, hg, _⟩
  · cases e
  · simp [own] at e
    subst e
    rw [hg] at hk
    simp only [Option.some.injEq, Obj.cells.injEq] at hk
    exact ht hk.2.1.symm
theorem Row.kept {w w' : World} {a : Option Addr} {cap : Nat} {xs : List ByteArray} (h : Row w a cap xs) (hb : ∀ k, own a = some k → w'.heap[k]? = w.heap[k]?) : Row w' a cap xs := by
  rcases h with h0 | ⟨g, cur, rfl, hg, h1⟩
  · exact .inl h0
  · exact .inr ⟨g, cur, rfl, (hb g rfl).trans hg, h1⟩
theorem Row.form {w : World} {a : Option Addr} {cap : Nat} {xs : List ByteArray} (h : Row w a cap xs) (hx : xs ≠ []) : ∃ g, a = some ⟨g, 0, none⟩ ∧ g < w.heap.size ∧ xs.length ≤ cap ∧ cap ≤ maxLen := by
  rcases h with ⟨_, _, rfl⟩ | ⟨g, cur, rfl, hg, h1, h2, _⟩
  · exact absurd rfl hx
  · exact ⟨g, rfl, (Array.getElem?_eq_some_iff.1 hg).1, h1, h2⟩
theorem Row.cell {w : World} {g cap : Nat} {xs : List ByteArray} (h : Row w (some ⟨g, 0, none⟩) cap xs) {i : Nat} (hi : i < xs.length) : w.cell? ⟨g, i, none⟩ = some (.string xs[i]) := by
  rcases h with ⟨h0, _, _⟩ | ⟨g', cur, e, hg, h1, h2, h3, h4⟩
  · cases h0
  · cases e
    rw [cell_of_row w g i cur 9 (0, 0) hg]
    have := strs_get xs i hi
    rw [← h4, List.getElem?_take, if_pos hi] at this
    simpa using this
theorem Row.unfrozen {w : World} {g cap : Nat} {xs : List ByteArray} (h : Row w (some ⟨g, 0, none⟩) cap xs) (i : Nat) : w.frozen? ⟨g, i, none⟩ = false := by
  rcases h with ⟨h0, _, _⟩ | ⟨g', cur, e, hg, _⟩
  · cases h0
  · cases e
    exact Joins.unfrozen_of_block hg i
theorem Row.set {w : World} {g cap : Nat} {xs : List ByteArray} (h : Row w (some ⟨g, 0, none⟩) cap xs) (i : Nat) (hi : i < xs.length) (s : ByteArray) : Row (w.setCell ⟨g, i, none⟩ (.string s)) (some ⟨g, 0, none⟩) cap (xs.set i s) := by
  rcases h with ⟨h0, _, _⟩ | ⟨g', cur, e, hg, h1, h2, h3, h4⟩
  · cases h0
  · cases e
    refine .inr ⟨g, _, rfl, Joins.block_setCell hg _ , by simpa using h1, h2, by simpa using h3, ?_⟩
    rw [Array.toList_setIfInBounds, List.take_set, List.length_set, h4]
    simp [strs, List.map_set]
/-- The first texts of a row, with no room behind them. -/
theorem Row.head {w : World} {g cap : Nat} {xs : List ByteArray} (h : Row w (some ⟨g, 0, none⟩) cap xs) (i : Nat) (hi : i ≤ xs.length) : Row w (some ⟨g, 0, none⟩) i (xs.take i) := by
  rcases h with ⟨h0, _, _⟩ | ⟨g', cur, e, hg, h1, h2, h3, h4⟩
  · cases h0
  · cases e
    refine .inr ⟨g, cur, rfl, hg, by simp; omega, by omega, by omega, ?_⟩
    have e1 : (xs.take i).length = i := by simp; omega
    rw [e1]
    have := congrArg (List.take i) h4
    rw [List.take_take, Nat.min_eq_left hi] at this
    rw [this, strs, strs, List.map_take]
/-- A new row. -/
theorem Row.made (w : World) : Row (w.alloc (.cells #[] 9)) (some ⟨w.heap.size, 0, none⟩) 0 [] :=
  .inr ⟨w.heap.size, #[], rfl, heap_alloc_new w _, Nat.le_refl _, Nat.zero_le _, Nat.zero_le _, rfl⟩

theorem info9 : ∃ i, Try.prog.info? 9 = some i ∧ i.zero = some (.string ⟨#[]⟩) ∧ i.size = 1 ∧ i.bytes = 16 :=
  info_parts (show (Try.prog.info? 9).map (fun i => (i.zero, i.size, i.bytes)) = some (some (.string ⟨#[]⟩), 1, 16) by kernel_rfl)
/-- append onto a row of texts. -/
theorem row_append {w : World} (ty : TypeId) {a : Option Addr} {cap : Nat} {xs : List ByteArray} (h : Row w a cap xs) (ad : Addr) (m c : Nat) (news : List ByteArray) (hm : news.length = m)
    (hn : ∀ j s, news[j]? = some s → w.cell? (ad.add j) = some (.string s)) (hz : xs.length + m ≤ 100000) :
    ∃ a' cap' w', (Builtin.append_ #[26, 26] ty #[.slice a xs.length cap, .slice (some ad) m c]).run Try.prog w = .ok (.slice a' (xs.length + m) cap') w' ∧ Row w' a' cap' (xs ++ news) ∧
      w.grownBy w' (own a) ∧ (own a' = own a ∨ own a' = some w.heap.size) := by
  obtain ⟨i, hi, hz0, hz1, hz2⟩ := info9
  have hl : (strs news).length = m * i.size := by rw [strs_length, hz1, Nat.mul_one, hm]
  have hnews : ∀ j u, (strs news)[j]? = some u → w.cell? (ad.add j) = some u := by
    intro j u hu
    simp only [strs, List.getElem?_map, Option.map_eq_some_iff] at hu
    obtain ⟨s, hs, rfl⟩ := hu
    exact hn j s hs
  have hlen : (xs ++ news).length = xs.length + m := by rw [List.length_append, hm]
  have grown : ∀ (old : Nat), old < xs.length + m → ∀ (row : Option Nat),
      Row (w.drew.alloc (.cells ((strs xs).toArray ++ (strs news).toArray ++ Builtin.zeroCells (Value.string ⟨#[]⟩).cells (grownCap w (xs.length + m) old 9 - (xs.length + m))) 9)) (some ⟨w.heap.size, 0, none⟩) (grownCap w (xs.length + m) old 9) (xs ++ news) ∧
      w.grownBy (w.drew.alloc (.cells ((strs xs).toArray ++ (strs news).toArray ++ Builtin.zeroCells (Value.string ⟨#[]⟩).cells (grownCap w (xs.length + m) old 9 - (xs.length + m))) 9)) row := by
    intro old ho row
    have hge := grownCap_ge w (xs.length + m) old 9
    have hcm : grownCap w (xs.length + m) old 9 ≤ maxLen := grownCap_le_maxLen w (xs.length + m) old 9 (by unfold maxLen; omega)
    refine ⟨.inr ⟨w.heap.size, _, rfl, heap_alloc_new w.drew _, by rw [hlen]; exact hge, hcm, ?_, ?_⟩, ⟨rfl, rfl, rfl, by simp, fun k hk _ => heap_alloc_old w.drew _ hk⟩⟩
    · have e1 : (Value.string ⟨#[]⟩).cells.size = 1 := rfl
      simp only [Array.size_append, List.size_toArray, size_zeroCells, strs_length, e1]
      omega
    · rw [hlen]
      simp only [Array.toList_append]
      rw [← strs_append, List.take_left' (by rw [strs_length, hlen])]
  rcases h with ⟨rfl, rfl, rfl⟩ | ⟨g, cur, rfl, hg, h1, h2, h3, h4⟩
  · simp only [List.length_nil, Nat.zero_add, List.nil_append] at hlen grown ⊢
    by_cases hm0 : m = 0
    · subst hm0
      have hn0 : news = [] := List.eq_nil_of_length_eq_zero hm
      subst hn0
      refine ⟨none, 0, w, ?_, Row.nil w, ⟨rfl, rfl, rfl, Nat.le_refl _, fun _ _ _ => rfl⟩, .inl rfl⟩
      simp [Builtin.append_, run_underlying Try.underlying26, sizeOf, typeInfo, hi, Builtin.lenOf, Builtin.firstCells, loadCells, loadCellsFrom]
    · have hr := run_append_nil (P := Try.prog) w 26 ty 9 i _ Try.underlying26 hi hz0 ad m c (strs news) hl hnews (by omega) (by omega) (by rw [hz2]; omega)
      have hgr := grown 0 (by omega) (own none)
      have e0 : (strs []).toArray = (#[] : Array Value) := rfl
      rw [e0, Array.empty_append] at hgr
      exact ⟨_, _, _, hr, hgr.1, hgr.2, .inr rfl⟩
  · by_cases hroom : xs.length + m ≤ cap
    · have hfit : xs.length * i.size + (strs news).length ≤ cur.size := by rw [hl, hz1]; omega
      have hr := run_append_room (P := Try.prog) w 26 ty 9 i Try.underlying26 hi g xs.length cap cur hg ad m c (strs news) hl hnews (strs_one _) hroom hfit
      refine ⟨_, _, _, hr, .inr ⟨g, _, rfl, setRow_heap w g cur _ 9 _ hg, by rw [hlen]; exact hroom, h2, ?_, ?_⟩, ⟨rfl, rfl, rfl, by simp, fun k _ hk => setRow_other w g k _ (fun e => hk (by simp [own, e]))⟩, .inl rfl⟩
      · simp only [List.size_toArray, List.length_append, List.length_take, List.length_drop, Array.length_toList]
        omega
      · rw [hz1, Nat.mul_one, h4, ← strs_append, List.take_left' (by rw [strs_length])]
    · have holds : ∀ j u, (strs xs)[j]? = some u → w.cell? ((⟨g, 0, none⟩ : Addr).add j) = some u := by
        intro j u hu
        have hadd : (⟨g, 0, none⟩ : Addr).add j = ⟨g, j, none⟩ := by unfold Addr.add; split <;> simp_all
        rw [hadd, cell_of_row w g j cur 9 (0, 0) hg]
        rw [← h4, List.getElem?_take] at hu
        split at hu
        · simpa using hu
        · cases hu
      have hr := run_append_grow (P := Try.prog) w 26 ty 9 i _ Try.underlying26 hi hz0 ⟨g, 0, none⟩ xs.length cap (strs xs) (by rw [strs_length, hz1, Nat.mul_one]) holds ad m c (strs news) hl hnews (by omega) (by omega) (growslice_fits (by omega) (by rw [hz2]; omega))
      have hgr := grown cap (by omega) (own (some ⟨g, 0, none⟩))
      exact ⟨_, _, _, hr, hgr.1, hgr.2, .inr rfl⟩

theorem wp_append_row {w : World} {o : Oper} {act : Act} {K : Act → World → Prop} {Q : Exit → Act → World → Prop} (s x : Operand)
    (ho : o.op = .call { callee := .builtin .append, args := #[s, x], argTypes := #[26, 26] })
    {a : Option Addr} {cap n : Nat} {xs : List ByteArray} (hs : act.eval s = .slice a n cap) (hl : n = xs.length) (hrow : Row w a cap xs)
    (ad : Addr) (m c : Nat) (news : List ByteArray) (hx : act.eval x = .slice (some ad) m c) (hm : news.length = m) (hn : ∀ j s, news[j]? = some s → w.cell? (ad.add j) = some (.string s)) (hz : n + m ≤ 100000)
    (h : ∀ a' cap' w', Row w' a' cap' (xs ++ news) → w.grownBy w' (own a) → (own a' = own a ∨ own a' = some w.heap.size) → K (act.put o.dst (.slice a' (n + m) cap')) w') : o.wp Try.prog act w K Q := by
  subst hl
  obtain ⟨a', cap', w', hr, h2, h3, h4⟩ := row_append o.type hrow ad m c news hm hn hz
  unfold Oper.wp execOp
  simp only [ho, resolve, invoke, builtin, Sem.run_bind, Sem.run_pure, Result.andThen_ok, List.map_toArray, List.map_cons, List.map_nil, hs, hx, hr]
  exact h a' cap' w' h2 h3 h4
theorem wpList_append_row {w : World} {ops : Array Oper} {rest : List Oper} {o : Oper} {act : Act} {Q : Exit → Act → World → Prop} (hgd : o.guard = none) (s x : Operand)
    (ho : o.op = .call { callee := .builtin .append, args := #[s, x], argTypes := #[26, 26] })
    {a : Option Addr} {cap n : Nat} {xs : List ByteArray} (hs : act.eval s = .slice a n cap) (hl : n = xs.length) (hrow : Row w a cap xs)
    (ad : Addr) (m c : Nat) (news : List ByteArray) (hx : act.eval x = .slice (some ad) m c) (hm : news.length = m) (hn : ∀ j s, news[j]? = some s → w.cell? (ad.add j) = some (.string s)) (hz : n + m ≤ 100000)
    (h : ∀ a' cap' w', Row w' a' cap' (xs ++ news) → w.grownBy w' (own a) → (own a' = own a ∨ own a' = some w.heap.size) → wpList Try.prog ops Q rest (act.put o.dst (.slice a' (n + m) cap')) w') : wpList Try.prog ops Q (o :: rest) act w :=
  wpList_plain hgd fun _ hK => wp_append_row s x ho hs hl hrow ad m c news hx hm hn hz fun a' cap' w' h2 h3 h4 => hK _ _ (h a' cap' w' h2 h3 h4)
theorem step_append_row {w : World} {ops : Array Oper} {o : Oper} {act : Act} {K : Act → World → Prop} {Q : Exit → Act → World → Prop} {E : Prop} (hgd : o.guard = none) (s x : Operand)
    (ho : o.op = .call { callee := .builtin .append, args := #[s, x], argTypes := #[26, 26] })
    {a : Option Addr} {cap n : Nat} {xs : List ByteArray} (hs : act.eval s = .slice a n cap) (hl : n = xs.length) (hrow : Row w a cap xs)
    (ad : Addr) (m c : Nat) (news : List ByteArray) (hx : act.eval x = .slice (some ad) m c) (hm : news.length = m) (hn : ∀ j s, news[j]? = some s → w.cell? (ad.add j) = some (.string s)) (hz : n + m ≤ 100000)
    (h : ∀ a' cap' w', Row w' a' cap' (xs ++ news) → w.grownBy w' (own a) → (own a' = own a ∨ own a' = some w.heap.size) → K (act.put o.dst (.slice a' (n + m) cap')) w') :
    if Region.wanted o (yielded ops act.tmps) = true then Oper.wp Try.prog o act w K Q else E := by
  have hw : Region.wanted o (yielded ops act.tmps) = true := by simp [Region.wanted, hgd]
  rw [if_pos hw]
  exact wp_append_row s x ho hs hl hrow ad m c news hx hm hn hz h
/-- One new text, in a block of its own. -/
theorem one_new {w : World} {B : Nat} {s : ByteArray} (h : w.cell? ⟨B, 0, none⟩ = some (.string s)) : ∀ j t, [s][j]? = some t → w.cell? ((⟨B, 0, none⟩ : Addr).add j) = some (.string t) := by
  intro j t ht
  have hadd : (⟨B, 0, none⟩ : Addr).add j = ⟨B, j, none⟩ := by unfold Addr.add; split <;> simp_all
  match j with
  | 0 => simp at ht; subst ht; rw [hadd]; exact h
  | j + 1 => simp at ht

/-! ### The net, and the document's -/
structure Nt where
  way : List ByteArray
  sent : Int
  lost : Int
structure Nt.Ok (S : Nt) : Prop where
  len : S.way.length ≤ 128
  s0 : 0 ≤ S.sent
  s1 : S.sent ≤ 1000000
  l0 : 0 ≤ S.lost
  l1 : S.lost ≤ 1000000
structure NtIs (w : World) (t nb : Nat) (a : Option Addr) (cap : Nat) (S : Nt) : Prop where
  blk : w.heap[nb]? = some (.cells #[.slice a S.way.length cap, .int .i64 S.sent, .int .i64 S.lost] t)
  row : Row w a cap S.way
  tag : t ≠ 9
/-- The blocks of a net. -/
def netB (nb : Nat) (a : Option Addr) : Nat → Prop := fun k => k = nb ∨ own a = some k
theorem nb_mem (nb : Nat) (a : Option Addr) : netB nb a nb := Or.inl rfl
section
variable {w w' : World} {t nb : Nat} {a : Option Addr} {cap : Nat} {S : Nt}
theorem NtIs.lt (h : NtIs w t nb a cap S) : nb < w.heap.size := (Array.getElem?_eq_some_iff.1 h.blk).1
theorem NtIs.ne (h : NtIs w t nb a cap S) : own a ≠ some nb := h.row.tag h.blk h.tag
theorem NtIs.c (h : NtIs w t nb a cap S) (i : Nat) : w.cell? ⟨nb, i, none⟩ = (#[.slice a S.way.length cap, .int .i64 S.sent, .int .i64 S.lost] : Array Value)[i]? := Joins.cell_of_block h.blk i
theorem NtIs.c0 (h : NtIs w t nb a cap S) : w.cell? ⟨nb, 0, none⟩ = some (.slice a S.way.length cap) := h.c 0
theorem NtIs.c1 (h : NtIs w t nb a cap S) : w.cell? ⟨nb, 1, none⟩ = some (.int .i64 S.sent) := h.c 1
theorem NtIs.c2 (h : NtIs w t nb a cap S) : w.cell? ⟨nb, 2, none⟩ = some (.int .i64 S.lost) := h.c 2
theorem NtIs.f (h : NtIs w t nb a cap S) (i : Nat) : w.frozen? ⟨nb, i, none⟩ = false := Joins.unfrozen_of_block h.blk i
theorem NtIs.mem_lt (h : NtIs w t nb a cap S) {k : Nat} (hk : netB nb a k) : k < w.heap.size := by
  rcases hk with rfl | e
  · exact h.lt
  · exact h.row.lt k e
theorem NtIs.keep (h : NtIs w t nb a cap S) (hb : ∀ k, netB nb a k → w'.heap[k]? = w.heap[k]?) : NtIs w' t nb a cap S :=
  ⟨(hb nb (Or.inl rfl)).trans h.blk, h.row.kept (fun k hk => hb k (Or.inr hk)), h.tag⟩
theorem NtIs.off {B : Nat → Prop} (h : NtIs w t nb a cap S) (ho : Off B w w') (hn : ∀ k, netB nb a k → ¬ B k) : NtIs w' t nb a cap S :=
  h.keep (fun k hk => ho.block k (h.mem_lt hk) (hn k hk))
theorem NtIs.below (h : NtIs w t nb a cap S) (ho : Below w.heap.size w w') : NtIs w' t nb a cap S := h.keep (fun k hk => ho.block k (h.mem_lt hk))
theorem NtIs.drew (h : NtIs w t nb a cap S) : NtIs w.drew t nb a cap S := h.keep (fun _ _ => rfl)
theorem NtIs.set1 (h : NtIs w t nb a cap S) (x : Int) : NtIs (w.setCell ⟨nb, 1, none⟩ (.int .i64 x)) t nb a cap { S with sent := x } :=
  ⟨by rw [Joins.block_setCell h.blk]; rfl, h.row.kept (fun k hk => Below.heap_setCell w _ _ k (fun e => h.ne (by rw [hk, e]))), h.tag⟩
theorem NtIs.set2 (h : NtIs w t nb a cap S) (x : Int) : NtIs (w.setCell ⟨nb, 2, none⟩ (.int .i64 x)) t nb a cap { S with lost := x } :=
  ⟨by rw [Joins.block_setCell h.blk]; rfl, h.row.kept (fun k hk => Below.heap_setCell w _ _ k (fun e => h.ne (by rw [hk, e]))), h.tag⟩
/-- Another list is stored in the net. -/
theorem NtIs.set0 {w1 : World} {row : Option Nat} (h : NtIs w t nb a cap S) {a' : Option Addr} {cap' n : Nat} {xs : List ByteArray} (hg : w.grownBy w1 row) (hr : row ≠ some nb) (hrow : Row w1 a' cap' xs) (hn : n = xs.length) :
    NtIs (w1.setCell ⟨nb, 0, none⟩ (.slice a' n cap')) t nb a' cap' { S with way := xs } := by
  subst hn
  have hb : w1.heap[nb]? = some (.cells #[.slice a S.way.length cap, .int .i64 S.sent, .int .i64 S.lost] t) := (hg.block nb h.lt (fun e => hr e.symm)).trans h.blk
  have hne : own a' ≠ some nb := hrow.tag hb h.tag
  exact ⟨by rw [Joins.block_setCell hb]; rfl, hrow.kept (fun k hk => Below.heap_setCell w1 _ _ k (fun e => hne (by rw [hk, e]))), h.tag⟩
/-- Between an append and the store behind it. -/
theorem NtIs.mid {w1 : World} (h : NtIs w t nb a cap S) (hg : w.grownBy w1 (own a)) : w1.cell? ⟨nb, 0, none⟩ = some (.slice a S.way.length cap) ∧ w1.frozen? ⟨nb, 0, none⟩ = false := by
  have hb : w1.heap[nb]? = some (.cells #[.slice a S.way.length cap, .int .i64 S.sent, .int .i64 S.lost] t) := (hg.block nb h.lt (fun e => h.ne e.symm)).trans h.blk
  exact ⟨Joins.cell_of_block hb 0, Joins.unfrozen_of_block hb 0⟩
theorem NtIs.alloc (h : NtIs w t nb a cap S) (o : Obj) : NtIs (w.alloc o) t nb a cap S := h.below ((Below.refl _ _).alloc (Nat.le_refl _) o)
theorem NtIs.own0 {w1 : World} (h : NtIs w t nb a cap S) {a' : Option Addr} {cap' n : Nat} {xs : List ByteArray} (hg : w.grownBy w1 (own a)) (hrow : Row w1 a' cap' xs) (hn : n = xs.length) :
    NtIs (w1.setCell ⟨nb, 0, none⟩ (.slice a' n cap')) t nb a' cap' { S with way := xs } := h.set0 hg h.ne hrow hn
theorem NtIs.drewN (h : NtIs w t nb a cap S) (n : Nat) : NtIs (w.drewN n) t nb a cap S := h.keep (fun _ _ => by simp)
/-- One text of the net is stored. -/
theorem NtIs.setRow {g : Nat} (h : NtIs w t nb (some ⟨g, 0, none⟩) cap S) (i : Nat) (hi : i < S.way.length) (s : ByteArray) : NtIs (w.setCell ⟨g, i, none⟩ (.string s)) t nb (some ⟨g, 0, none⟩) cap { S with way := S.way.set i s } := by
  have hne : nb ≠ g := fun e => h.ne (by simp [own, e])
  refine ⟨?_, h.row.set i hi s, h.tag⟩
  rw [Below.heap_setCell w _ _ nb hne, h.blk]
  simp
end
/-- What becomes of a net's memory in a call of it. -/
structure Turn (w w' : World) (nb : Nat) (a a' : Option Addr) : Prop where
  off : Off (netB nb a) w w'
  near : ∀ k, own a' = some k → own a = some k ∨ w.heap.size ≤ k
theorem Turn.refl (w : World) (nb : Nat) (a : Option Addr) : Turn w w nb a a := ⟨Off.refl _ _, fun k h => Or.inl h⟩
theorem Turn.trans {w w1 w2 : World} {nb : Nat} {a a1 a2 : Option Addr} (h : Turn w w1 nb a a1) (k : Turn w1 w2 nb a1 a2) : Turn w w2 nb a a2 := by
  refine ⟨⟨k.off.os.trans h.off.os, k.off.tape.trans h.off.tape, k.off.output.trans h.off.output, Nat.le_trans h.off.size k.off.size, fun i hi hn => ?_⟩, fun i hi => ?_⟩
  · refine (k.off.block i (Nat.lt_of_lt_of_le hi h.off.size) ?_).trans (h.off.block i hi hn)
    rintro (e | e)
    · exact hn (Or.inl e)
    · rcases h.near i e with e | e
      · exact hn (Or.inr e)
      · omega
  · rcases k.near i hi with e | e
    · exact h.near i e
    · exact Or.inr (Nat.le_trans h.off.size e)
theorem Turn.set {w w1 : World} {nb : Nat} {a a1 : Option Addr} (h : Turn w w1 nb a a1) (i : Nat) (v : Value) : Turn w (w1.setCell ⟨nb, i, none⟩ v) nb a a1 := ⟨h.off.setCell (Or.inl rfl) i v, h.near⟩
theorem Turn.drew {w w1 : World} {nb : Nat} {a a1 : Option Addr} (h : Turn w w1 nb a a1) : Turn w w1.drew nb a a1 := ⟨h.off.drew, h.near⟩
theorem Turn.grow {w w1 w2 : World} {nb : Nat} {a a1 : Option Addr} (ho : Off (netB nb a) w w1) (hg : w1.grownBy w2 (own a)) (hn : own a1 = own a ∨ own a1 = some w1.heap.size) : Turn w w2 nb a a1 := by
  refine ⟨ho.grown hg (fun k hk _ => Or.inr hk), fun k hk => ?_⟩
  rcases hn with e | e
  · exact Or.inl (e ▸ hk)
  · rw [e] at hk; cases hk; exact Or.inr ho.size
/-- Behind a call the net is S. -/
def Got (w w' : World) (t nb : Nat) (a : Option Addr) (S : Nt) : Prop := ∃ a' cap', NtIs w' t nb a' cap' S ∧ Turn w w' nb a a'
theorem Got.mk {w w' : World} {t nb : Nat} {a a' : Option Addr} {cap' : Nat} {S : Nt} (h : NtIs w' t nb a' cap' S) (ht : Turn w w' nb a a') : Got w w' t nb a S := ⟨a', cap', h, ht⟩
theorem Got.trans {w w1 w2 : World} {t nb : Nat} {a a1 : Option Addr} {S : Nt} (ht : Turn w w1 nb a a1) (h : Got w1 w2 t nb a1 S) : Got w w2 t nb a S := by
  obtain ⟨a', cap', h1, h2⟩ := h; exact ⟨a', cap', h1, ht.trans h2⟩
theorem Got.off {w w' : World} {t nb : Nat} {a : Option Addr} {S : Nt} (h : Got w w' t nb a S) : Off (netB nb a) w w' := by obtain ⟨a', cap', h1, h2⟩ := h; exact h2.off
theorem NtIs.got {w : World} {t nb : Nat} {a : Option Addr} {cap : Nat} {S : Nt} (h : NtIs w t nb a cap S) : Got w w t nb a S := ⟨a, cap, h, Turn.refl _ _ _⟩
end Go.Proofs.Ytamchicifjnmgaa
