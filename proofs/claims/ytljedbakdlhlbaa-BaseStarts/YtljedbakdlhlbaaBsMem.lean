/- A base in memory; what stays as it was. -/
import Derived.Test.YtljedbakdlhlbaaPkWrA
import Derived.Test.YtljedbakdlhlbaaBsM
import Derived.Laws.StructEq
import Derived.Deep.MidRow
import Derived.Lib.SmallJoins
import Derived.Laws.AppendOwn
import Derived.Laws.ResultCell
import Derived.Laws.Rows
import Derived.Deep.WholeRow
import Derived.Deep.RegionLaw
import Derived.BigRegion
namespace Go.Proofs.Ytljedbakdlhlbaa
open Go.RowKit
set_option linter.unusedVariables false
set_option linter.unusedSimpArgs false
set_option maxRecDepth 100000

/-- A record lies whole in block b. -/
structure BsAt (w : World) (b : Nat) (s : Bs) : Prop where
  blk : w.heap[b]? = some (.cells s.A 23)
section
variable {w w' : World} {b c : Nat} {s : Bs}
theorem BsAt.c0 (h : BsAt w b s) : w.cell? ⟨b, 0, none⟩ = some (.int .i64 s.nd) := Joins.cell_of_block h.blk 0
theorem BsAt.c1 (h : BsAt w b s) : w.cell? ⟨b, 1, none⟩ = some (.int .i64 s.bt) := Joins.cell_of_block h.blk 1
theorem BsAt.c2 (h : BsAt w b s) : w.cell? ⟨b, 2, none⟩ = some (.int .i64 s.gn) := Joins.cell_of_block h.blk 2
theorem BsAt.c3 (h : BsAt w b s) : w.cell? ⟨b, 3, none⟩ = some (.int .i64 s.ck) := Joins.cell_of_block h.blk 3
theorem BsAt.c4 (h : BsAt w b s) : w.cell? ⟨b, 4, none⟩ = some (.int .i64 s.rd) := Joins.cell_of_block h.blk 4
theorem BsAt.c5 (h : BsAt w b s) : w.cell? ⟨b, 5, none⟩ = some (.int .i64 s.sn) := Joins.cell_of_block h.blk 5
theorem BsAt.c6 (h : BsAt w b s) : w.cell? ⟨b, 6, none⟩ = some (.int .i64 s.jn) := Joins.cell_of_block h.blk 6
theorem BsAt.f (h : BsAt w b s) (i : Nat) : w.frozen? ⟨b, i, none⟩ = false := Joins.unfrozen_of_block h.blk i
theorem BsAt.lt (h : BsAt w b s) : b < w.heap.size := (Array.getElem?_eq_some_iff.1 h.blk).1
theorem BsAt.below (h : BsAt w b s) (hb : Below w.heap.size w w') : BsAt w' b s := ⟨(hb.block b h.lt).trans h.blk⟩
theorem BsAt.off (h : BsAt w b s) (hb : Pk.Off c w w') (hn : b ≠ c) : BsAt w' b s := ⟨(hb.block b h.lt hn).trans h.blk⟩
theorem BsAt.drew (h : BsAt w b s) : BsAt w.drew b s := ⟨h.blk⟩
theorem BsAt.new (w : World) (s : Bs) : BsAt (w.alloc (.cells s.A 23)) w.heap.size s := ⟨(MapKept.heap_alloc w _).1⟩
theorem BsAt.set (h : BsAt w b s) {k : Nat} {v : Value} {s' : Bs} (e : s.A.setIfInBounds k v = s'.A) : BsAt (w.setCell ⟨b, k, none⟩ v) b s' := by
  refine ⟨?_⟩
  rw [← e]
  exact Joins.block_setCell h.blk _
end
theorem rc_size (s : Bs) : s.A.size = 7 := rfl
theorem info_bs (s : Bs) : (Try.prog.info? 23).map (·.size) = some s.A.size := by
  have : (Try.prog.info? 23).map (·.size) = some 7 := by kernel_rfl
  exact this
theorem zero_bs (w : World) : (zeroValue 23).run Try.prog w = .ok (.agg Bs.zero.A) w := by kernel_rfl
theorem thn {w w1 w2 : World} (h : Below w.heap.size w w1) (k : Below w1.heap.size w1 w2) : Below w.heap.size w w2 := h.trans (k.mono h.size)
/-- A new record in memory; one that was turned. -/
structure NewB (w w' : World) (b : Nat) (s : Bs) : Prop where
  rc : BsAt w' b s
  below : Below w.heap.size w w'
  eq : b = w.heap.size
structure PutB (w w' : World) (b : Nat) (s : Bs) : Prop where
  rc : BsAt w' b s
  off : Pk.Off b w w'
theorem PutB.below {w w' : World} {b B : Nat} {s : Bs} (h : PutB w w' b s) (hB : B ≤ b) (hw : B ≤ w.heap.size) : Below B w w' := h.off.below hB hw
section
variable {ops : Array Oper} {rest : List Oper} {o : Oper} {a : Act} {Q : Exit → Act → World → Prop}
/-- The walk stands at this operation. -/
theorem wpList_at {w : World} (p : Op) (h : o.op = p) (hw : wpList Try.prog ops Q (o :: rest) a w) : wpList Try.prog ops Q (o :: rest) a w := hw
theorem wpList_box_bs {s : Bs} (w : World) (hg : o.guard = none) (x : Operand) (hop : o.op = Op.box 23 x) (hx : a.eval x = .agg s.A)
    (h : ∀ w' b, NewB w w' b s → wpList Try.prog ops Q rest (a.put o.dst (.pointer (some ⟨b, 0, none⟩))) w') : wpList Try.prog ops Q (o :: rest) a w := by
  refine wpList_plain hg fun K' hK' => ?_
  unfold Oper.wp
  simp [execOp, hop, hx, Instr.box, Result.andThen, Value.cells]
  exact hK' _ _ (h _ _ ⟨⟨(MapKept.heap_alloc w _).1⟩, (Below.refl _ _).alloc (Nat.le_refl _) _, rfl⟩)
theorem wpList_new_bs (w : World) (hg : o.guard = none) (hop : o.op = Op.alloc 23)
    (h : ∀ w' b, NewB w w' b Bs.zero → wpList Try.prog ops Q rest (a.put o.dst (.pointer (some ⟨b, 0, none⟩))) w') : wpList Try.prog ops Q (o :: rest) a w := by
  refine wpList_plain hg fun K' hK' => ?_
  unfold Oper.wp
  simp [execOp, hop, Instr.alloc, zero_bs, Result.andThen, Value.cells]
  exact hK' _ _ (h _ _ ⟨⟨(MapKept.heap_alloc w _).1⟩, (Below.refl _ _).alloc (Nat.le_refl _) _, rfl⟩)
theorem wpList_load_bs {b : Nat} {s : Bs} (w : World) (hg : o.guard = none) (x : Operand) (hop : o.op = Op.load 23 x) (hx : a.eval x = .pointer (some ⟨b, 0, none⟩)) (hs : BsAt w b s)
    (h : wpList Try.prog ops Q rest (a.put o.dst (.agg s.A)) w) : wpList Try.prog ops Q (o :: rest) a w :=
  wpList_load_row hg 23 x hop b hx 23 _ (0, 0) _ hs.blk Try.underlying23 rfl (info_bs s) h
theorem setCells_bs {w : World} {b : Nat} {s : Bs} (h : BsAt w b s) (s' : Bs) (h1 : ∀ v ∈ s'.A.toList, v.oneCell' = true) : w.setCells b 0 s'.A.toList = w.setRow b s'.A := by
  have hth : ∀ j, j < 7 → ((w.cell? ⟨b, 0 + j, none⟩).isSome = true) := fun j hj => by
    rw [cell_of_row w b _ _ 23 (0, 0) h.blk]
    simp [rc_size, hj]
  have e1 := run_storeCells_at Try.prog b 0 23 s'.A.toList 0 s.A w h.blk (by simp [rc_size]) h1
  have e2 := run_storeCells_cells (P := Try.prog) b 0 s'.A.toList 0 w (fun j hj => by have := hth j (by simpa [rc_size] using hj); simpa using this) (fun j hj => by have := h.f (0 + 0 + j); simpa using this) h1
  have e : (List.take (0 + 0) s.A.toList ++ s'.A.toList ++ List.drop (0 + 0 + s'.A.toList.length) s.A.toList).toArray = s'.A := rfl
  rw [e, e2] at e1
  simpa using e1
theorem wpList_put_bs {b : Nat} {s s' : Bs} (w : World) (hg : o.guard = none) (x y : Operand) (hop : o.op = Op.store 23 x y)
    (hx : a.eval x = .pointer (some ⟨b, 0, none⟩)) (hy : a.eval y = .agg s'.A) (hs : BsAt w b s) 
    (h : ∀ w', PutB w w' b s' → wpList Try.prog ops Q rest (a.put o.dst undef) w') : wpList Try.prog ops Q (o :: rest) a w := by
  have h1 : ∀ v ∈ s'.A.toList, v.oneCell' = true := by
    intro v hv
    simp [Bs.A] at hv
    rcases hv with rfl | rfl | rfl | rfl | rfl | rfl | rfl
    all_goals first | rfl | assumption
  refine wpList_store_mid hg 23 x y hop b 0 s'.A hx hy ?_ (info_bs s') (Array.all_eq_true_iff_forall_mem.2 (fun v hv => h1 v (by simpa using hv))) ?_
  · intro j hj
    refine ⟨?_, hs.f _⟩
    rw [cell_of_row w b _ _ 23 (0, 0) hs.blk]
    have : j < 7 := hj
    simp [rc_size, this]
  · rw [setCells_bs hs s' h1]
    refine h _ ⟨⟨setRow_heap w b _ _ 23 _ hs.blk⟩, ⟨rfl, rfl, rfl, by simp, fun k _ hk => setRow_other w b k _ hk⟩⟩
/-- A field is laid. -/
theorem wpList_fput {b k : Nat} {s s' : Bs} {v : Value} (w : World) (hg : o.guard = none) (t : TypeId) (x y : Operand) (hop : o.op = Op.store t x y)
    (hx : a.eval x = .pointer (some ⟨b, k, none⟩)) (hy : a.eval y = v) (hs : BsAt w b s) (hk : k < 7) (h1 : v.oneCell' = true) (hi : (Try.prog.info? t).map (·.size) = some 1)
    (e : s.A.setIfInBounds k v = s'.A)
    (h : ∀ w', PutB w w' b s' → wpList Try.prog ops Q rest (a.put o.dst undef) w') : wpList Try.prog ops Q (o :: rest) a w := by
  have hc : ∃ u, w.cell? ⟨b, k, none⟩ = some u := by
    rw [cell_of_row w b _ _ 23 (0, 0) hs.blk]
    exact ⟨_, Array.getElem?_eq_getElem (by rw [rc_size]; exact hk)⟩
  obtain ⟨u, hu⟩ := hc
  have hf := hs.f k
  refine wpList_plain hg fun K' hK' => ?_
  unfold Oper.wp
  have hrun : (Instr.storeAt t (.pointer (some ⟨b, k, none⟩)) v).run Try.prog w = .ok () (w.setCell ⟨b, k, none⟩ v) := by
    have hcs : v.cells = #[v] := by cases v <;> first | rfl | cases h1
    have g1 : ∀ j, j < [v].length → (w.cell? ⟨b, k + 0 + j, none⟩).isSome = true := by
      intro j hj
      obtain rfl : j = 0 := by simpa using hj
      simp [hu]
    have g2 : ∀ j, j < [v].length → w.frozen? ⟨b, k + 0 + j, none⟩ = false := by
      intro j hj
      obtain rfl : j = 0 := by simpa using hj
      simpa using hf
    have := run_storeCells_cells (P := Try.prog) b k [v] 0 w g1 g2 (fun x hx => by simp at hx; subst hx; exact h1)
    cases hq : Try.prog.info? t with
    | none => simp [hq] at hi
    | some i =>
      have hs : i.size = 1 := by simpa [hq] using hi
      simp only [Nat.add_zero] at this
      simp [Instr.storeAt, Instr.sureAddr, storeVar, sizeOf, typeInfo, hq, hcs, hs, this, World.setCells]
  simp [execOp, hop, hx, hy, hrun, Result.andThen]
  exact hK' _ _ (h _ ⟨hs.set e, (Pk.Off.refl _ _).setCell _ _⟩)
end
/-! ### Results that lie in a block -/
theorem results_bs1 {fn : Func} {p : Tmp} (h : fn.results = #[.cell p 23]) (tmps : Array Value) (w : World) {b : Nat} {s : Bs}
    (hp : tmps.getD p undef = .pointer (some ⟨b, 0, none⟩)) (hg : BsAt w b s) : (results fn tmps).run Try.prog w = .ok (.agg s.A) w := by
  have hl := run_loadVar_row (P := Try.prog) w b 23 23 s.A (0, 0) _ hg.blk Try.underlying23 rfl (info_bs s)
  have hp' : tmps[p]?.getD undef = .pointer (some ⟨b, 0, none⟩) := by simpa using hp
  simp only [results, h]
  simp [Sem.run_bind, Result.andThen, hp', asAddr, hl]
theorem results_bs2 {fn : Func} {p u : Tmp} (h : fn.results = #[.cell p 23, .tmp u]) (tmps : Array Value) (w : World) {b : Nat} {s : Bs}
    (hp : tmps.getD p undef = .pointer (some ⟨b, 0, none⟩)) (hg : BsAt w b s) : (results fn tmps).run Try.prog w = .ok (.tuple #[.agg s.A, tmps.getD u undef]) w := by
  have hl := run_loadVar_row (P := Try.prog) w b 23 23 s.A (0, 0) _ hg.blk Try.underlying23 rfl (info_bs s)
  have hp' : tmps[p]?.getD undef = .pointer (some ⟨b, 0, none⟩) := by simpa using hp
  simp only [results, h]
  simp [Sem.run_bind, Result.andThen, hp', asAddr, hl]
/-! ### Two bases are the same -/
def Bs.eq (s t : Bs) : Bool := s.nd == t.nd && (s.bt == t.bt && (s.gn == t.gn && (s.ck == t.ck && (s.rd == t.rd && (s.sn == t.sn && s.jn == t.jn)))))
theorem Bs.eq_self (s : Bs) : s.eq s = true := by simp [Bs.eq]
theorem Bs.eq_iff (s t : Bs) : s.eq t = true ↔ s = t := by
  cases s; cases t
  simp [Bs.eq]
theorem part_int (w : World) (A : Array Value) (i : Nat) (v : Value) (h : A[i]? = some v) : (part 3 A i).run Try.prog w = .ok v w := by
  have hi : (isAgg 3).run Try.prog w = .ok false w := by kernel_rfl
  simp [part, Sem.run_bind, hi, Result.andThen, h]
theorem eq_field (w : World) (d : Nat) (A B : Array Value) (a b : Int) (f : Field) (fs : List Field) (hn : f.name ≠ "_") (ht : f.type = 3) (h1 : A[f.offset]? = some (.int .i64 a)) (h2 : B[f.offset]? = some (.int .i64 b)) (r : Bool)
    (h : (Op.eqFields (d + 1) A B fs).run Try.prog w = .ok r w) : (Op.eqFields (d + 1) A B (f :: fs)).run Try.prog w = .ok (a == b && r) w := by
  rw [Op.eqFields, if_pos hn]
  rw [ht]
  simp only [Sem.run_bind, part_int w A _ _ h1, part_int w B _ _ h2, Result.andThen_ok, run_equalIn_int w d 3 .i64 .i64 a b Try.underlying3]
  cases hc : (a == b)
  · simp
  · simpa using h
theorem equalIn_bs (w : World) (s t : Bs) (d : Nat) : (Op.equalIn (d + 2) 23 (.agg s.A) (.agg t.A)).run Try.prog w = .ok (s.eq t) w := by
  rw [run_equalIn_struct w (d + 1) 23 s.A t.A (by kernel_rfl) (by kernel_rfl)]
  have hf : (Try.prog.fieldsOf 23).toList = [⟨ "Node", 3, 0, false, "", "", 0⟩, ⟨ "Boot", 3, 1, false, "", "", 8⟩, ⟨ "Gen", 3, 2, false, "", "", 16⟩, ⟨ "Check", 3, 3, false, "", "", 24⟩, ⟨ "Redo", 3, 4, false, "", "", 32⟩, ⟨ "Seen", 3, 5, false, "", "", 40⟩, ⟨ "Joined", 3, 6, false, "", "", 48⟩] := by kernel_rfl
  rw [hf]
  refine eq_field w d s.A t.A _ _ _ _ (by decide) rfl rfl rfl _ ?_
  refine eq_field w d s.A t.A _ _ _ _ (by decide) rfl rfl rfl _ ?_
  refine eq_field w d s.A t.A _ _ _ _ (by decide) rfl rfl rfl _ ?_
  refine eq_field w d s.A t.A _ _ _ _ (by decide) rfl rfl rfl _ ?_
  refine eq_field w d s.A t.A _ _ _ _ (by decide) rfl rfl rfl _ ?_
  refine eq_field w d s.A t.A _ _ _ _ (by decide) rfl rfl rfl _ ?_
  have := eq_field w d s.A t.A s.jn t.jn ⟨ "Joined", 3, 6, false, "", "", 48⟩ [] (by decide) rfl rfl rfl true rfl
  simpa using this
theorem eql_bs (w : World) (s t : Bs) : (binOp .eql 23 (.agg s.A) (.agg t.A)).run Try.prog w = .ok (.bool (s.eq t)) w := by
  rw [run_eql_struct, equalIn_bs w s t 9998]; rfl
theorem neq_bs (w : World) (s t : Bs) : (binOp .neq 23 (.agg s.A) (.agg t.A)).run Try.prog w = .ok (.bool (!s.eq t)) w := by
  rw [run_neq_struct, equalIn_bs w s t 9998]; rfl
theorem guard_bs (w : World) (op : BinOp) (x y : Operand) (s t : Bs) : (eqGuard op 23 x y (.agg s.A) (.agg t.A)).run Try.prog w = .ok () w := run_eqGuard_agg w op 23 x y s.A t.A (by kernel_rfl)
end Go.Proofs.Ytljedbakdlhlbaa
