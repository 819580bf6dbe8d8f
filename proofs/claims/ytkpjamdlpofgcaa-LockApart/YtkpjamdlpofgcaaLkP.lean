/- A table beside the law's own list: one predicate for both, through each call. -/
import Derived.Test.YtkpjamdlpofgcaaLkO
import Derived.Test.YtkpjamdlpofgcaaLkB
import Derived.Test.YtkpjamdlpofgcaaLkD
import Derived.Test.YtkpjamdlpofgcaaLkE
namespace Go.Proofs.Ytkpjamdlpofgcaa
open Go.RowKit
set_option linter.unusedVariables false
set_option linter.unusedSimpArgs false
set_option maxRecDepth 100000
/-- A table (L, n) and a list of the law's own (M), apart from one another. -/
structure Pl (B : Nat) (w0 w : World) (tb : Nat) (v lv : Value) (L M : List Hd) (n : Int) : Prop where
  is : TbIs B w tb v L n
  l : Hs B w lv M
  ap : ∀ g, v.ownBlock = some g → lv.ownBlock ≠ some g
  bel : Below B w0 w
  hB : B ≤ w.heap.size
section
variable {B tb b3 b6 : Nat} {w0 w w' : World} {v v' lv lv' : Value} {L L' M M' : List Hd} {n n' : Int} {h : Hd} {o : Op5}
theorem Hs.ne_tb (hl : Hs B w lv M) (ht : TbIs B w tb v L n) : lv.ownBlock ≠ some tb := fun e => by
  obtain ⟨_, _, cur, hc⟩ := hl.blkAt e
  rw [ht.blk] at hc
  simp at hc
theorem Pl.bl (p : Pl B w0 w tb v lv L M n) (hb : Below w.heap.size w w') : Pl B w0 w' tb v lv L M n := ⟨p.is.bel hb, p.l.bel hb, p.ap, p.bel.trans (hb.mono p.hB), Nat.le_trans p.hB hb.size⟩
theorem Pl.ask (p : Pl B w0 w tb v lv L M n) (t : TbTo B w w' tb v v' L' n') : Pl B w0 w' tb v' lv L' M n' :=
  ⟨t.is, p.l.keep fun g e => t.fr g (p.l.blkAt e).2.1 (fun e2 => p.l.ne_tb p.is (by rw [e, e2])) (fun e2 => p.ap g e2 e), fun g e e2 => (t.new g e).elim (fun e3 => p.ap g e3 e2) (fun e3 => by have := (p.l.blkAt e2).2.1; omega), p.bel.trans t.bel, Nat.le_trans p.hB t.bel.size⟩
theorem Pl.left (p : Pl B w0 w tb v lv L M n) (hb : Below w.heap.size w w') (hl : Hs w.heap.size w' lv' M') : Pl B w0 w' tb v lv' L M' n :=
  ⟨p.is.bel hb, hl.less p.hB, fun g e e2 => by have := (p.is.hs.blkAt e).2.1; have := (hl.blkAt e2).1; omega, p.bel.trans (hb.mono p.hB), Nat.le_trans p.hB hb.size⟩
theorem Pl.app (p : Pl B w0 w tb v lv L M n) (A : App B w w' lv lv' M') : Pl B w0 w' tb v lv' L M' n := by
  have hne := p.l.ne_tb p.is
  refine ⟨⟨(A.grow.block tb p.is.lt (fun e => hne e.symm)).trans p.is.blk, p.is.hs.keep fun g e => A.grow.block g (p.is.hs.blkAt e).2.1 (fun e2 => p.ap g e e2.symm), p.is.ge⟩, A.hs, fun g e e2 => ?_, p.bel.trans (grown_below A.grow (fun g e => (p.l.blkAt e).1) p.hB), Nat.le_trans p.hB A.grow.size⟩
  rcases A.own with e3 | e3
  · exact p.ap g e (e3.symm.trans e2)
  · rw [e2] at e3
    have := (p.is.hs.blkAt e).2.1
    cases e3
    omega
/-- Beside them the call that is asked, and its hold. -/
structure Rn (B : Nat) (w0 w : World) (tb : Nat) (v lv : Value) (L M : List Hd) (n : Int) (b3 : Nat) (o : Op5) (b6 : Nat) (h : Hd) : Prop where
  p : Pl B w0 w tb v lv L M n
  r : OpAt w b3 o
  q : HdAt w b6 h
  av : v.ownBlock ≠ some b6
  al : lv.ownBlock ≠ some b6
theorem Rn.bl (R : Rn B w0 w tb v lv L M n b3 o b6 h) (hb : Below w.heap.size w w') : Rn B w0 w' tb v lv L M n b3 o b6 h := ⟨R.p.bl hb, R.r.bel hb, R.q.bel hb, R.av, R.al⟩
theorem OpAt.ne_tb (r : OpAt w b3 o) (ht : TbIs B w tb v L n) : b3 ≠ tb := fun e => by
  subst e
  have := r.blk
  rw [ht.blk] at this
  simp at this
theorem OpAt.ne_hs (r : OpAt w b3 o) (ht : Hs B w v L) : v.ownBlock ≠ some b3 := fun e => by
  obtain ⟨_, _, cur, hc⟩ := ht.blkAt e
  rw [r.blk] at hc
  simp at hc
theorem HdAt.ne_tb (r : HdAt w b6 h) (ht : TbIs B w tb v L n) : b6 ≠ tb := fun e => by
  subst e
  have := r.blk
  rw [ht.blk] at this
  simp at this
theorem Rn.ask (R : Rn B w0 w tb v lv L M n b3 o b6 h) (t : TbTo B w w' tb v v' L' n') : Rn B w0 w' tb v' lv L' M n' b3 o b6 h :=
  ⟨R.p.ask t, ⟨(t.fr b3 R.r.lt (R.r.ne_tb R.p.is) (R.r.ne_hs R.p.is.hs)).trans R.r.blk⟩, ⟨(t.fr b6 R.q.lt (R.q.ne_tb R.p.is) R.av).trans R.q.blk⟩, fun e => (t.new b6 e).elim R.av (fun h => by have := R.q.lt; omega), R.al⟩
theorem Rn.app (R : Rn B w0 w tb v lv L M n b3 o b6 h) (A : App B w w' lv lv' M') : Rn B w0 w' tb v lv' L M' n b3 o b6 h :=
  ⟨R.p.app A, ⟨(A.grow.block b3 R.r.lt (fun e => R.r.ne_hs R.p.l e.symm)).trans R.r.blk⟩, ⟨(A.grow.block b6 R.q.lt (fun e => R.al e.symm)).trans R.q.blk⟩, R.av, fun e => by
    rcases A.own with e3 | e3
    · exact R.al (e3.symm.trans e)
    · rw [e] at e3
      have := R.q.lt
      cases e3
      omega⟩
theorem Rn.new (p : Pl B w0 w tb v lv L M n) (r : OpAt w b3 o) (q : HdAt w b6 h) (hf : ∀ g, v.ownBlock = some g ∨ lv.ownBlock = some g → g ≠ b6) : Rn B w0 w tb v lv L M n b3 o b6 h := ⟨p, r, q, fun e => hf _ (Or.inl e) rfl, fun e => hf _ (Or.inr e) rfl⟩
end
theorem info_op (n : Op5) : (Try.prog.info? 34).map (·.size) = some n.A.size := by
  have : (Try.prog.info? 34).map (·.size) = some 6 := by kernel_rfl
  exact this
def zO : Op5 := ⟨0, zH⟩
theorem zero_op (w : World) : (zeroValue 34).run Try.prog w = .ok (.agg zO.A) w := by kernel_rfl
section
variable {ops : Array Oper} {rest : List Oper} {o : Oper} {a : Act} {Q : Exit → Act → World → Prop}
theorem wpList_new_op (w : World) (hg : o.guard = none) (hop : o.op = Op.alloc 34)
    (h : ∀ w' b, OpAt w' b zO → Below w.heap.size w w' → w.heap.size ≤ b → wpList Try.prog ops Q rest (a.put o.dst (.pointer (some ⟨b, 0, none⟩))) w') : wpList Try.prog ops Q (o :: rest) a w := by
  refine wpList_plain hg fun K' hK' => ?_
  unfold Oper.wp
  simp [execOp, hop, Instr.alloc, zero_op, Result.andThen, Value.cells]
  exact hK' _ _ (h _ _ ⟨(MapKept.heap_alloc w _).1⟩ ((Below.refl _ _).alloc (Nat.le_refl _) _) (Nat.le_refl _))
theorem wpList_load_op {b : Nat} {n : Op5} (w : World) (hg : o.guard = none) (x : Operand) (hop : o.op = Op.load 34 x) (hx : a.eval x = .pointer (some ⟨b, 0, none⟩)) (hs : OpAt w b n)
    (h : wpList Try.prog ops Q rest (a.put o.dst (.agg n.A)) w) : wpList Try.prog ops Q (o :: rest) a w :=
  wpList_load_row hg 34 x hop b hx 34 _ (0, 0) _ hs.blk Try.underlying34 rfl (info_op n) h
theorem wpList_load_opm {g of : Nat} {n : Op5} (w : World) (hg : o.guard = none) (x : Operand) (hop : o.op = Op.load 34 x) (hx : a.eval x = .pointer (some ⟨g, of, none⟩)) (hr : w.rangeAt g of n.A.toList)
    (h : wpList Try.prog ops Q rest (a.put o.dst (.agg n.A)) w) : wpList Try.prog ops Q (o :: rest) a w :=
  wpList_load_mid hg 34 x hop g of hx _ _ hr Try.underlying34 rfl (info_op n) h
theorem op_one {n : Op5} : ∀ v ∈ n.A.toList, v.oneCell' = true := by
  intro v hv
  simp [Op5.A] at hv
  rcases hv with rfl | rfl | rfl | rfl | rfl | rfl
  all_goals rfl
theorem OpAt.f {w : World} {b : Nat} {n : Op5} (h : OpAt w b n) (i : Nat) : w.frozen? ⟨b, i, none⟩ = false := Joins.unfrozen_of_block h.blk i
theorem setCells_op {w : World} {b : Nat} {s : Op5} (h : OpAt w b s) (s' : Op5) : w.setCells b 0 s'.A.toList = w.setRow b s'.A := by
  have hth : ∀ j, j < 6 → ((w.cell? ⟨b, 0 + j, none⟩).isSome = true) := fun j hj => by
    rw [cell_of_row w b _ _ 34 (0, 0) h.blk]
    simp [Op5.A, hj]
  have e1 := run_storeCells_at Try.prog b 0 34 s'.A.toList 0 s.A w h.blk (by simp [Op5.A]) op_one
  have e2 := run_storeCells_cells (P := Try.prog) b 0 s'.A.toList 0 w (fun j hj => by have := hth j (by simpa [Op5.A] using hj); simpa using this) (fun j hj => by have := h.f (0 + 0 + j); simpa using this) op_one
  have e : (List.take (0 + 0) s.A.toList ++ s'.A.toList ++ List.drop (0 + 0 + s'.A.toList.length) s.A.toList).toArray = s'.A := rfl
  rw [e, e2] at e1
  simpa using e1
theorem wpList_put_op {b : Nat} {s s' : Op5} (w : World) (hg : o.guard = none) (x y : Operand) (hop : o.op = Op.store 34 x y)
    (hx : a.eval x = .pointer (some ⟨b, 0, none⟩)) (hy : a.eval y = .agg s'.A) (hs : OpAt w b s)
    (h : ∀ w', OpAt w' b s' → (∀ B, B ≤ b → Below B w w') → wpList Try.prog ops Q rest (a.put o.dst undef) w') : wpList Try.prog ops Q (o :: rest) a w := by
  refine wpList_store_mid hg 34 x y hop b 0 s'.A hx hy ?_ (info_op s') (Array.all_eq_true_iff_forall_mem.2 (fun v hv => op_one v (by simpa using hv))) ?_
  · intro j hj
    refine ⟨?_, hs.f _⟩
    rw [cell_of_row w b _ _ 34 (0, 0) hs.blk]
    have : j < 6 := hj
    simp [Op5.A, this]
  · rw [setCells_op hs s']
    exact h _ ⟨setRow_heap w b _ _ 34 _ hs.blk⟩ fun B h1 => ⟨rfl, rfl, rfl, by simp, fun k hk => setRow_other w b k _ (by omega)⟩
end
/-! ### What the document's answer is, case by case -/
theorem ask_bad {L : List Hd} {n : Int} {h : Hd} (hr : rightM h = false) : askM L n h = (1, L, n) := if_pos hr
theorem ask_locked {L : List Hd} {n : Int} {h : Hd} (hr : rightM h = true) (hb : L.any (fun g => barM g h) = true) : askM L n h = (12, L, n) := by
  unfold askM
  rw [if_neg (by simp [hr]), if_pos hb]
theorem ask_has {L : List Hd} {n : Int} {h : Hd} (hr : rightM h = true) (hb : L.any (fun g => barM g h) = false) (he : L.any (fun g => enoM g h) = true) : askM L n h = (0, L, n) := by
  unfold askM
  rw [if_neg (by simp [hr]), if_neg (by simp [hb]), if_pos he]
theorem ask_new {L : List Hd} {n : Int} {h : Hd} (hr : rightM h = true) (hb : L.any (fun g => barM g h) = false) (he : L.any (fun g => enoM g h) = false) : askM L n h = (0, L ++ [h], n + 1) := by
  unfold askM
  rw [if_neg (by simp [hr]), if_neg (by simp [hb]), if_neg (by simp [he])]
theorem who_nil {L : List Hd} {h : Hd} (hb : L.any (fun g => barM g h) = false) : whoM L h = [] := by
  have : L.filter (fun g => barM g h) = [] := by
    rw [List.filter_eq_nil_iff]
    intro g hg hq
    have := List.any_eq_false.1 hb g hg
    exact this hq
  unfold whoM
  rw [this]
  rfl
theorem who_pos {L : List Hd} {h : Hd} (hb : L.any (fun g => barM g h) = true) : 0 < (whoM L h).length := by
  obtain ⟨g, hg, hq⟩ := List.any_eq_true.1 hb
  have hm : g ∈ L.filter (fun g => barM g h) := List.mem_filter.2 ⟨hg, hq⟩
  unfold whoM
  have grow : ∀ (F : List Hd) (o : List Int), o.length ≤ (F.foldl addT o).length := by
    intro F
    induction F with
    | nil => intro o; exact Nat.le_refl _
    | cons a F ih => intro o; exact Nat.le_trans (by unfold addT; split <;> simp) (ih (addT o a))
  cases hF : L.filter (fun g => barM g h) with
  | nil => rw [hF] at hm; cases hm
  | cons a F =>
    have := grow F (addT [] a)
    have h1 : (addT [] a).length = 1 := by simp [addT]
    simp only [List.foldl_cons]
    omega
theorem who_len (L : List Hd) (h : Hd) : (whoM L h).length ≤ L.length := by
  unfold whoM
  exact Nat.le_trans (fold_len _) (List.length_filter_le _ _)
end Go.Proofs.Ytkpjamdlpofgcaa
