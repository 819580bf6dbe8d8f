/- A log's record in memory: its scalars and its two slices; what stays as it was. -/
import Derived.Test.YtakdfdnndogaiaaPkWrA
import Derived.Test.YtakdfdnndogaiaaPkMath
import Derived.Deep.MidRow
import Derived.Lib.SmallJoins
import Derived.Laws.AppendOwn
import Derived.Laws.ResultCell
import Derived.Laws.Rows
import Derived.Deep.WholeRow
import Derived.Deep.RegionLaw
import Derived.BigRegion
namespace Go.Proofs.Ytakdfdnndogaiaa
open Go.RowKit
set_option linter.unusedVariables false
set_option linter.unusedSimpArgs false
set_option maxRecDepth 100000

/-- What a record has, but for its slices. -/
structure Sc where
  kd : Int
  tx : Int
  pv : Int
  pg : Int
  ac : Int
  ky : ByteArray
  ol : ByteArray
  nw : ByteArray
  nx : Int
  ep : Int
  nd : Int
def Sc.A (s : Sc) (I T : Value) : Array Value := #[.int .i64 s.kd, .int .i64 s.tx, .int .i64 s.pv, .int .i64 s.pg, .int .i64 s.ac, .string s.ky, .string s.ol, .string s.nw, .int .i64 s.nx, I, T, .int .i64 s.ep, .int .i64 s.nd]
def nilV : Value := .slice none 0 0
def zS : Sc := ⟨0, 0, 0, 0, 0, ⟨#[]⟩, ⟨#[]⟩, ⟨#[]⟩, 0, 0, 0⟩
/-- A record lies whole in block b. -/
structure RcAt (w : World) (b : Nat) (s : Sc) (I T : Value) : Prop where
  blk : w.heap[b]? = some (.cells (s.A I T) 25)
section
variable {w w' : World} {b c : Nat} {s : Sc} {I T : Value}
theorem RcAt.c0 (h : RcAt w b s I T) : w.cell? ⟨b, 0, none⟩ = some (.int .i64 s.kd) := Joins.cell_of_block h.blk 0
theorem RcAt.c1 (h : RcAt w b s I T) : w.cell? ⟨b, 1, none⟩ = some (.int .i64 s.tx) := Joins.cell_of_block h.blk 1
theorem RcAt.c2 (h : RcAt w b s I T) : w.cell? ⟨b, 2, none⟩ = some (.int .i64 s.pv) := Joins.cell_of_block h.blk 2
theorem RcAt.c3 (h : RcAt w b s I T) : w.cell? ⟨b, 3, none⟩ = some (.int .i64 s.pg) := Joins.cell_of_block h.blk 3
theorem RcAt.c4 (h : RcAt w b s I T) : w.cell? ⟨b, 4, none⟩ = some (.int .i64 s.ac) := Joins.cell_of_block h.blk 4
theorem RcAt.c5 (h : RcAt w b s I T) : w.cell? ⟨b, 5, none⟩ = some (.string s.ky) := Joins.cell_of_block h.blk 5
theorem RcAt.c6 (h : RcAt w b s I T) : w.cell? ⟨b, 6, none⟩ = some (.string s.ol) := Joins.cell_of_block h.blk 6
theorem RcAt.c7 (h : RcAt w b s I T) : w.cell? ⟨b, 7, none⟩ = some (.string s.nw) := Joins.cell_of_block h.blk 7
theorem RcAt.c8 (h : RcAt w b s I T) : w.cell? ⟨b, 8, none⟩ = some (.int .i64 s.nx) := Joins.cell_of_block h.blk 8
theorem RcAt.c9 (h : RcAt w b s I T) : w.cell? ⟨b, 9, none⟩ = some I := Joins.cell_of_block h.blk 9
theorem RcAt.c10 (h : RcAt w b s I T) : w.cell? ⟨b, 10, none⟩ = some T := Joins.cell_of_block h.blk 10
theorem RcAt.c11 (h : RcAt w b s I T) : w.cell? ⟨b, 11, none⟩ = some (.int .i64 s.ep) := Joins.cell_of_block h.blk 11
theorem RcAt.c12 (h : RcAt w b s I T) : w.cell? ⟨b, 12, none⟩ = some (.int .i64 s.nd) := Joins.cell_of_block h.blk 12
theorem RcAt.f (h : RcAt w b s I T) (i : Nat) : w.frozen? ⟨b, i, none⟩ = false := Joins.unfrozen_of_block h.blk i
theorem RcAt.lt (h : RcAt w b s I T) : b < w.heap.size := (Array.getElem?_eq_some_iff.1 h.blk).1
theorem RcAt.below (h : RcAt w b s I T) (hb : Below w.heap.size w w') : RcAt w' b s I T := ⟨(hb.block b h.lt).trans h.blk⟩
theorem RcAt.off (h : RcAt w b s I T) (hb : Pk.Off c w w') (hn : b ≠ c) : RcAt w' b s I T := ⟨(hb.block b h.lt hn).trans h.blk⟩
theorem RcAt.drew (h : RcAt w b s I T) : RcAt w.drew b s I T := ⟨h.blk⟩
theorem RcAt.new (w : World) (s : Sc) (I T : Value) : RcAt (w.alloc (.cells (s.A I T) 25)) w.heap.size s I T := ⟨(MapKept.heap_alloc w _).1⟩
theorem RcAt.set (h : RcAt w b s I T) {k : Nat} {v : Value} {s' : Sc} {I' T' : Value} (e : (s.A I T).setIfInBounds k v = s'.A I' T') : RcAt (w.setCell ⟨b, k, none⟩ v) b s' I' T' := by
  refine ⟨?_⟩
  rw [← e]
  exact Joins.block_setCell h.blk _
end
theorem rc_size (s : Sc) (I T : Value) : (s.A I T).size = 13 := rfl
theorem info_rc (s : Sc) (I T : Value) : (Try.prog.info? 25).map (·.size) = some (s.A I T).size := by
  have : (Try.prog.info? 25).map (·.size) = some 13 := by kernel_rfl
  exact this
theorem zero_rc (w : World) : (zeroValue 25).run Try.prog w = .ok (.agg (zS.A nilV nilV)) w := by kernel_rfl
theorem thn {w w1 w2 : World} (h : Below w.heap.size w w1) (k : Below w1.heap.size w1 w2) : Below w.heap.size w w2 := h.trans (k.mono h.size)
/-- A new record in memory; one that was turned. -/
structure NewR (w w' : World) (b : Nat) (s : Sc) (I T : Value) : Prop where
  rc : RcAt w' b s I T
  below : Below w.heap.size w w'
  eq : b = w.heap.size
structure PutR (w w' : World) (b : Nat) (s : Sc) (I T : Value) : Prop where
  rc : RcAt w' b s I T
  off : Pk.Off b w w'
theorem PutR.below {w w' : World} {b B : Nat} {s : Sc} {I T : Value} (h : PutR w w' b s I T) (hB : B ≤ b) (hw : B ≤ w.heap.size) : Below B w w' := h.off.below hB hw
section
variable {ops : Array Oper} {rest : List Oper} {o : Oper} {a : Act} {Q : Exit → Act → World → Prop}
/-- The walk stands at this operation. -/
theorem wpList_at {w : World} (p : Op) (h : o.op = p) (hw : wpList Try.prog ops Q (o :: rest) a w) : wpList Try.prog ops Q (o :: rest) a w := hw
theorem wpList_box_rc {s : Sc} {I T : Value} (w : World) (hg : o.guard = none) (x : Operand) (hop : o.op = Op.box 25 x) (hx : a.eval x = .agg (s.A I T))
    (h : ∀ w' b, NewR w w' b s I T → wpList Try.prog ops Q rest (a.put o.dst (.pointer (some ⟨b, 0, none⟩))) w') : wpList Try.prog ops Q (o :: rest) a w := by
  refine wpList_plain hg fun K' hK' => ?_
  unfold Oper.wp
  simp [execOp, hop, hx, Instr.box, Result.andThen, Value.cells]
  exact hK' _ _ (h _ _ ⟨⟨(MapKept.heap_alloc w _).1⟩, (Below.refl _ _).alloc (Nat.le_refl _) _, rfl⟩)
theorem wpList_new_rc (w : World) (hg : o.guard = none) (hop : o.op = Op.alloc 25)
    (h : ∀ w' b, NewR w w' b zS nilV nilV → wpList Try.prog ops Q rest (a.put o.dst (.pointer (some ⟨b, 0, none⟩))) w') : wpList Try.prog ops Q (o :: rest) a w := by
  refine wpList_plain hg fun K' hK' => ?_
  unfold Oper.wp
  simp [execOp, hop, Instr.alloc, zero_rc, Result.andThen, Value.cells]
  exact hK' _ _ (h _ _ ⟨⟨(MapKept.heap_alloc w _).1⟩, (Below.refl _ _).alloc (Nat.le_refl _) _, rfl⟩)
theorem wpList_load_rc {b : Nat} {s : Sc} {I T : Value} (w : World) (hg : o.guard = none) (x : Operand) (hop : o.op = Op.load 25 x) (hx : a.eval x = .pointer (some ⟨b, 0, none⟩)) (hs : RcAt w b s I T)
    (h : wpList Try.prog ops Q rest (a.put o.dst (.agg (s.A I T))) w) : wpList Try.prog ops Q (o :: rest) a w :=
  wpList_load_row hg 25 x hop b hx 25 _ (0, 0) _ hs.blk Try.underlying25 rfl (info_rc s I T) h
theorem setCells_rc {w : World} {b : Nat} {s : Sc} {I T : Value} (h : RcAt w b s I T) (s' : Sc) (I' T' : Value) (h1 : ∀ v ∈ (s'.A I' T').toList, v.oneCell' = true) : w.setCells b 0 (s'.A I' T').toList = w.setRow b (s'.A I' T') := by
  have hth : ∀ j, j < 13 → ((w.cell? ⟨b, 0 + j, none⟩).isSome = true) := fun j hj => by
    rw [cell_of_row w b _ _ 25 (0, 0) h.blk]
    simp [rc_size, hj]
  have e1 := run_storeCells_at Try.prog b 0 25 (s'.A I' T').toList 0 (s.A I T) w h.blk (by simp [rc_size]) h1
  have e2 := run_storeCells_cells (P := Try.prog) b 0 (s'.A I' T').toList 0 w (fun j hj => by have := hth j (by simpa [rc_size] using hj); simpa using this) (fun j hj => by have := h.f (0 + 0 + j); simpa using this) h1
  have e : (List.take (0 + 0) (s.A I T).toList ++ (s'.A I' T').toList ++ List.drop (0 + 0 + (s'.A I' T').toList.length) (s.A I T).toList).toArray = s'.A I' T' := rfl
  rw [e, e2] at e1
  simpa using e1
theorem wpList_put_rc {b : Nat} {s s' : Sc} {I T I' T' : Value} (w : World) (hg : o.guard = none) (x y : Operand) (hop : o.op = Op.store 25 x y)
    (hx : a.eval x = .pointer (some ⟨b, 0, none⟩)) (hy : a.eval y = .agg (s'.A I' T')) (hs : RcAt w b s I T) (hI : I'.oneCell' = true) (hT : T'.oneCell' = true)
    (h : ∀ w', PutR w w' b s' I' T' → wpList Try.prog ops Q rest (a.put o.dst undef) w') : wpList Try.prog ops Q (o :: rest) a w := by
  have h1 : ∀ v ∈ (s'.A I' T').toList, v.oneCell' = true := by
    intro v hv
    simp [Sc.A] at hv
    rcases hv with rfl | rfl | rfl | rfl | rfl | rfl | rfl | rfl | rfl | rfl | rfl | rfl | rfl
    all_goals first | rfl | assumption
  refine wpList_store_mid hg 25 x y hop b 0 (s'.A I' T') hx hy ?_ (info_rc s' I' T') (Array.all_eq_true_iff_forall_mem.2 (fun v hv => h1 v (by simpa using hv))) ?_
  · intro j hj
    refine ⟨?_, hs.f _⟩
    rw [cell_of_row w b _ _ 25 (0, 0) hs.blk]
    have : j < 13 := hj
    simp [rc_size, this]
  · rw [setCells_rc hs s' I' T' h1]
    refine h _ ⟨⟨setRow_heap w b _ _ 25 _ hs.blk⟩, ⟨rfl, rfl, rfl, by simp, fun k _ hk => setRow_other w b k _ hk⟩⟩
/-- A field is laid. -/
theorem wpList_fput {b k : Nat} {s s' : Sc} {I T I' T' v : Value} (w : World) (hg : o.guard = none) (t : TypeId) (x y : Operand) (hop : o.op = Op.store t x y)
    (hx : a.eval x = .pointer (some ⟨b, k, none⟩)) (hy : a.eval y = v) (hs : RcAt w b s I T) (hk : k < 13) (h1 : v.oneCell' = true) (hi : (Try.prog.info? t).map (·.size) = some 1)
    (e : (s.A I T).setIfInBounds k v = s'.A I' T')
    (h : ∀ w', PutR w w' b s' I' T' → wpList Try.prog ops Q rest (a.put o.dst undef) w') : wpList Try.prog ops Q (o :: rest) a w := by
  have hc : ∃ u, w.cell? ⟨b, k, none⟩ = some u := by
    rw [cell_of_row w b _ _ 25 (0, 0) hs.blk]
    exact ⟨_, Array.getElem?_eq_getElem (by rw [rc_size]; exact hk)⟩
  obtain ⟨u, hu⟩ := hc
  have hf := hs.f k
  refine wpList_plain hg fun K' hK' => ?_
  unfold Oper.wp
  have hrun : (Instr.storeAt t (.pointer (some ⟨b, k, none⟩)) v).run Try.prog w = .ok () (w.setCell ⟨b, k, none⟩ v) := by
    have hcs : v.cells = #[v] := by cases v <;> first | rfl | cases h1
    have g1 : ∀ j, j < [v].length → (w.cell? ⟨b, k + 0 + j, none⟩).isSome = true := by
      intro j hj
      obtain rfl : j = 0 := by simpa using hj
      simp [hu]
    have g2 : ∀ j, j < [v].length → w.frozen? ⟨b, k + 0 + j, none⟩ = false := by
      intro j hj
      obtain rfl : j = 0 := by simpa using hj
      simpa using hf
    have := run_storeCells_cells (P := Try.prog) b k [v] 0 w g1 g2 (fun x hx => by simp at hx; subst hx; exact h1)
    cases hq : Try.prog.info? t with
    | none => simp [hq] at hi
    | some i =>
      have hs : i.size = 1 := by simpa [hq] using hi
      simp only [Nat.add_zero] at this
      simp [Instr.storeAt, Instr.sureAddr, storeVar, sizeOf, typeInfo, hq, hcs, hs, this, World.setCells]
  simp [execOp, hop, hx, hy, hrun, Result.andThen]
  exact hK' _ _ (h _ ⟨hs.set e, (Pk.Off.refl _ _).setCell _ _⟩)
end
/-! ### Results that lie in a block -/
theorem results_rc1 {fn : Func} {p : Tmp} (h : fn.results = #[.cell p 25]) (tmps : Array Value) (w : World) {b : Nat} {s : Sc} {I T : Value}
    (hp : tmps.getD p undef = .pointer (some ⟨b, 0, none⟩)) (hg : RcAt w b s I T) : (results fn tmps).run Try.prog w = .ok (.agg (s.A I T)) w := by
  have hl := run_loadVar_row (P := Try.prog) w b 25 25 (s.A I T) (0, 0) _ hg.blk Try.underlying25 rfl (info_rc s I T)
  have hp' : tmps[p]?.getD undef = .pointer (some ⟨b, 0, none⟩) := by simpa using hp
  simp only [results, h]
  simp [Sem.run_bind, Result.andThen, hp', asAddr, hl]
theorem results_rc2 {fn : Func} {p u : Tmp} (h : fn.results = #[.cell p 25, .tmp u]) (tmps : Array Value) (w : World) {b : Nat} {s : Sc} {I T : Value}
    (hp : tmps.getD p undef = .pointer (some ⟨b, 0, none⟩)) (hg : RcAt w b s I T) : (results fn tmps).run Try.prog w = .ok (.tuple #[.agg (s.A I T), tmps.getD u undef]) w := by
  have hl := run_loadVar_row (P := Try.prog) w b 25 25 (s.A I T) (0, 0) _ hg.blk Try.underlying25 rfl (info_rc s I T)
  have hp' : tmps[p]?.getD undef = .pointer (some ⟨b, 0, none⟩) := by simpa using hp
  simp only [results, h]
  simp [Sem.run_bind, Result.andThen, hp', asAddr, hl]
theorem results_rc3 {fn : Func} {p u v : Tmp} (h : fn.results = #[.cell p 25, .tmp u, .tmp v]) (tmps : Array Value) (w : World) {b : Nat} {s : Sc} {I T : Value}
    (hp : tmps.getD p undef = .pointer (some ⟨b, 0, none⟩)) (hg : RcAt w b s I T) : (results fn tmps).run Try.prog w = .ok (.tuple #[.agg (s.A I T), tmps.getD u undef, tmps.getD v undef]) w := by
  have hl := run_loadVar_row (P := Try.prog) w b 25 25 (s.A I T) (0, 0) _ hg.blk Try.underlying25 rfl (info_rc s I T)
  have hp' : tmps[p]?.getD undef = .pointer (some ⟨b, 0, none⟩) := by simpa using hp
  simp only [results, h]
  simp [Sem.run_bind, Result.andThen, hp', asAddr, hl]
end Go.Proofs.Ytakdfdnndogaiaa
