/- Pages and rows of cells in memory; what stays as it was; append onto a row of cells. -/
import Derived.Test.YtmoognjegjeegaaProg
import Derived.Test.YtmoognjegjeegaaBytes
import Derived.WalkKit
import Derived.ProofKit
import Derived.WalkSpells
import Derived.WalkLawsBesides
import Derived.Deep.QuietTactic
import Derived.BigQuiet
import Derived.Deep.MidRow
import Derived.Lib.SmallJoins
import Derived.Laws.AppendOwn
import Derived.Lib.BufferWrite
import Derived.Lib.SlBytesRow
import Derived.Laws.Cover1
import Derived.Deep.WholeRow
import Derived.Laws.IdiomCopy
import Derived.Laws.ResultCell
import Derived.Laws.Rows
import Derived.Lib.SlBuf
namespace Go.Proofs.Ytmoognjegjeegaa
open Go.RowKit
set_option linter.unusedVariables false
set_option linter.unusedSimpArgs false
set_option maxRecDepth 100000

/-- All blocks but those of B are as they were; new ones may have come. -/
structure Off (B : Nat → Prop) (w w' : World) : Prop where
  os : w'.os = w.os
  tape : w'.tape = w.tape
  output : w'.output = w.output
  size : w.heap.size ≤ w'.heap.size
  block : ∀ k, k < w.heap.size → ¬ B k → w'.heap[k]? = w.heap[k]?
theorem Off.refl (B : Nat → Prop) (w : World) : Off B w w := ⟨rfl, rfl, rfl, Nat.le_refl _, fun _ _ _ => rfl⟩
theorem Off.trans {B : Nat → Prop} {a b c : World} (h : Off B a b) (k : Off B b c) : Off B a c :=
  ⟨k.os.trans h.os, k.tape.trans h.tape, k.output.trans h.output, Nat.le_trans h.size k.size, fun i hi hn => (k.block i (Nat.lt_of_lt_of_le hi h.size) hn).trans (h.block i hi hn)⟩
theorem Off.mono {B B' : Nat → Prop} {a b : World} (h : Off B a b) (hB : ∀ k, k < a.heap.size → B k → B' k) : Off B' a b :=
  ⟨h.os, h.tape, h.output, h.size, fun k hk hn => h.block k hk (fun x => hn (hB k hk x))⟩
theorem Off.of_below {B : Nat → Prop} {w w' : World} (h : Below w.heap.size w w') : Off B w w' := ⟨h.os, h.tape, h.output, h.size, fun k hk _ => h.block k hk⟩
theorem Off.below {B : Nat → Prop} {b : Nat} {w w' : World} (h : Off B w w') (hb : ∀ k, B k → b ≤ k) (hB : b ≤ w.heap.size) : Below b w w' :=
  ⟨h.os, h.tape, h.output, h.size, fun k hk => h.block k (Nat.lt_of_lt_of_le hk hB) (fun x => by have := hb k x; omega)⟩
theorem Off.alloc {B : Nat → Prop} {a w : World} (h : Off B a w) (o : Obj) : Off B a (w.alloc o) :=
  h.trans (Off.of_below ((Below.refl _ _).alloc (Nat.le_refl _) o))
theorem Off.drew {B : Nat → Prop} {a w : World} (h : Off B a w) : Off B a w.drew := ⟨h.os, h.tape, h.output, h.size, h.block⟩
theorem Off.setCell {B : Nat → Prop} {a w : World} (h : Off B a w) {b : Nat} (hb : B b) (i : Nat) (v : Value) : Off B a (w.setCell ⟨b, i, none⟩ v) := by
  refine h.trans ⟨rfl, rfl, rfl, ?_, fun k _ hk => Below.heap_setCell w _ v k (fun e => hk (by rw [e]; exact hb))⟩
  simp [go_sem]
theorem Off.grown {B : Nat → Prop} {a w w' : World} {row : Option Nat} (h : Off B a w) (hg : w.grownBy w' row) (hr : ∀ k, row = some k → k < a.heap.size → B k) : Off B a w' :=
  ⟨hg.os.trans h.os, hg.tape.trans h.tape, hg.output.trans h.output, Nat.le_trans h.size hg.size, fun k hk hn => (hg.block k (Nat.lt_of_lt_of_le hk h.size) (fun e => hn (hr k e.symm hk))).trans (h.block k hk hn)⟩
theorem Off.cell {B : Nat → Prop} {w w' : World} (h : Off B w w') {p : Addr} (hp : p.block < w.heap.size) (hn : ¬ B p.block) : w'.cell? p = w.cell? p := World.cell?_of_block (h.block _ hp hn)
theorem Off.frozen {B : Nat → Prop} {w w' : World} (h : Off B w w') {p : Addr} (hp : p.block < w.heap.size) (hn : ¬ B p.block) : w'.frozen? p = w.frozen? p := World.frozen?_of_block (h.block _ hp hn)

/-! ### A page in memory -/
def pgL (s : List UInt8) : List Value := Lib.byteCells s
def pgA (s : List UInt8) : Array Value := (pgL s).toArray
def pgV (s : List UInt8) : Value := .agg (pgA s)
theorem pgL_length (s : List UInt8) : (pgL s).length = s.length := Lib.byteCells_length s
theorem pgA_size (s : List UInt8) : (pgA s).size = s.length := by rw [pgA, List.size_toArray, pgL_length]
theorem pgL_one (s : List UInt8) : ∀ v ∈ pgL s, v.oneCell' = true := Lib.byteCells_one _
theorem pgL_get (s : List UInt8) (j : Nat) (hj : j < s.length) : (pgL s)[j]? = some (.int .u8 (g s j)) := by
  simp [pgL, Lib.byteCells, g, List.getElem?_eq_getElem hj]
/-- 224 noughts. -/
def zs : List UInt8 := List.replicate 224 0
theorem zs_length : zs.length = 224 := by simp [zs]
theorem zero_sheet (w : World) : (zeroValue 63).run Try.prog w = .ok (pgV zs) w := by kernel_rfl
theorem info_sheet : (Try.prog.info? 63).map (·.size) = some 224 := by kernel_rfl
theorem row_sheet : Try.prog.underlying 63 = some (.array 224 5) := by kernel_rfl
/-- Block b is a page's bytes s. -/
structure Sh (w : World) (b : Nat) (s : List UInt8) : Prop where
  blk : w.heap[b]? = some (.cells (pgA s) 63)
  len : s.length = 224
section
variable {w w' : World} {b : Nat} {s : List UInt8}
theorem Sh.lt (h : Sh w b s) : b < w.heap.size := (Array.getElem?_eq_some_iff.1 h.blk).1
theorem Sh.cell (h : Sh w b s) {j : Nat} (hj : j < 224) : w.cell? ⟨b, j, none⟩ = some (.int .u8 (g s j)) := by
  rw [cell_of_row w b j (pgA s) 63 (0, 0) h.blk]
  have := pgL_get s j (by rw [h.len]; exact hj)
  simpa [pgA] using this
theorem Sh.unfrozen (h : Sh w b s) (j : Nat) : w.frozen? ⟨b, j, none⟩ = false := Joins.unfrozen_of_block h.blk j
theorem Sh.range (h : Sh w b s) : w.rangeAt b 0 (pgL s) := fun j v hv => by
  rw [cell_of_row w b _ (pgA s) 63 (0, 0) h.blk]; simpa [pgA] using hv
theorem Sh.there (h : Sh w b s) : w.there b 0 224 := fun j hj => ⟨by rw [Nat.zero_add, h.cell hj]; rfl, h.unfrozen _⟩
theorem Sh.of_block (h : Sh w b s) (hb : w'.heap[b]? = w.heap[b]?) : Sh w' b s := ⟨hb.trans h.blk, h.len⟩
theorem Sh.below (h : Sh w b s) (hb : Below w.heap.size w w') : Sh w' b s := h.of_block (hb.block b h.lt)
theorem Sh.off {B : Nat → Prop} (h : Sh w b s) (hb : Off B w w') (hn : ¬ B b) : Sh w' b s := h.of_block (hb.block b h.lt hn)
theorem Sh.drew (h : Sh w b s) : Sh w.drew b s := ⟨h.blk, h.len⟩
theorem Sh.drewN (h : Sh w b s) (n : Nat) : Sh (w.drewN n) b s := ⟨h.blk, h.len⟩
theorem Sh.alloc (h : Sh w b s) (o : Obj) : Sh (w.alloc o) b s := h.below ((Below.refl _ _).alloc (Nat.le_refl _) o)
theorem Sh.new (w : World) (hs : s.length = 224) : Sh (w.alloc (.cells (pgA s) 63)) w.heap.size s := ⟨(MapKept.heap_alloc w _).1, hs⟩
theorem Sh.set (h : Sh w b s) (j : Nat) (x : UInt8) (n : Int) (hn : n = (x.toNat : Int)) : Sh (w.setCell ⟨b, j, none⟩ (.int .u8 n)) b (s.set j x) := by
  subst hn
  refine ⟨?_, by simpa using h.len⟩
  rw [Joins.block_setCell h.blk]
  congr 2
  simp [pgA, pgL, Lib.byteCells, List.map_set]
theorem Sh.setRow (h : Sh w b s) {t : List UInt8} (ht : t.length = 224) : Sh (w.setRow b (pgA t)) b t := ⟨setRow_heap w b (pgA s) _ 63 _ h.blk, ht⟩
end
/-- The bytes of a string. -/
def bts (p : ByteArray) : List UInt8 := p.data.toList
theorem bts_length (p : ByteArray) : (bts p).length = p.size := Array.length_toList
/-- The string of bytes. -/
def tx (s : List UInt8) : ByteArray := ⟨s.toArray⟩
theorem tx_bts (p : ByteArray) : tx (bts p) = p := by cases p; simp [tx, bts]
theorem bts_tx (s : List UInt8) : bts (tx s) = s := by simp [tx, bts]
theorem tx_size (s : List UInt8) : (tx s).size = s.length := by simp [tx, ByteArray.size]

/-! ### Values of a whole page -/
theorem wpList_alloc_sh {ops : Array Oper} {rest : List Oper} {o : Oper} {a : Act} {Q : Exit → Act → World → Prop} (w : World) (hg : o.guard = none) (hop : o.op = Op.alloc 63)
    (h : wpList Try.prog ops Q rest (a.put o.dst (.pointer (some ⟨w.heap.size, 0, none⟩))) (w.alloc (.cells (pgA zs) 63))) : wpList Try.prog ops Q (o :: rest) a w := by
  refine wpList_plain hg fun K' hK' => ?_
  unfold Oper.wp
  simp [execOp, hop, Instr.alloc, zero_sheet, Result.andThen, pgV, Value.cells]
  exact hK' _ _ h
theorem wpList_load_sh {ops : Array Oper} {rest : List Oper} {o : Oper} {a : Act} {Q : Exit → Act → World → Prop} (w : World) (hg : o.guard = none) (x : Operand) (hop : o.op = Op.load 63 x)
    (b : Nat) (hx : a.eval x = .pointer (some ⟨b, 0, none⟩)) (s : List UInt8) (hs : Sh w b s)
    (h : wpList Try.prog ops Q rest (a.put o.dst (pgV s)) w) : wpList Try.prog ops Q (o :: rest) a w :=
  wpList_load_mid hg 63 x hop b 0 hx (pgL s) _ hs.range row_sheet rfl (by rw [pgL_length, hs.len]; exact info_sheet) h
theorem setCells_pg {w : World} {b : Nat} {s : List UInt8} (t : List UInt8) (h : Sh w b s) (ht : t.length = 224) : w.setCells b 0 (pgL t) = w.setRow b (pgA t) := by
  have h1 := run_storeCells_at Try.prog b 0 63 (pgL t) 0 (pgA s) w h.blk (by rw [pgL_length, ht, pgA_size, h.len]; omega) (pgL_one t)
  have h2 := run_storeCells_cells (P := Try.prog) b 0 (pgL t) 0 w (fun j hj => (h.there j (by rw [pgL_length] at hj; omega)).1) (fun j hj => (h.there j (by rw [pgL_length] at hj; omega)).2) (pgL_one t)
  have e : (List.take (0 + 0) (pgA s).toList ++ pgL t ++ List.drop (0 + 0 + (pgL t).length) (pgA s).toList).toArray = pgA t := by
    rw [List.drop_of_length_le (by rw [pgL_length, ht, Array.length_toList, pgA_size, h.len]; omega)]
    simp [pgA]
  rw [e, h2] at h1
  simpa using h1
theorem run_store_sh (w : World) {b : Nat} {s : List UInt8} (t : List UInt8) (h : Sh w b s) (ht : t.length = 224) : (Instr.storeAt 63 (.pointer (some ⟨b, 0, none⟩)) (pgV t)).run Try.prog w = .ok () (w.setRow b (pgA t)) := by
  have := run_storeAt_mid (P := Try.prog) w b 0 63 (pgA t) (by rw [pgA_size, ht]; exact h.there) (by rw [pgA_size, ht]; exact info_sheet) (all_oneCell_toArray (pgL_one t))
  rw [show (pgA t).toList = pgL t by simp [pgA], setCells_pg t h ht] at this
  exact this
theorem wpList_store_sh {ops : Array Oper} {rest : List Oper} {o : Oper} {a : Act} {Q : Exit → Act → World → Prop} (w : World) (hg : o.guard = none) (x y : Operand) (hop : o.op = Op.store 63 x y)
    {b : Nat} (hx : a.eval x = .pointer (some ⟨b, 0, none⟩)) {s t : List UInt8} (hy : a.eval y = pgV t) (hs : Sh w b s) (ht : t.length = 224)
    (h : wpList Try.prog ops Q rest (a.put o.dst undef) (w.setRow b (pgA t))) : wpList Try.prog ops Q (o :: rest) a w := by
  refine wpList_plain hg fun K' hK' => ?_
  have hrun := run_store_sh w t hs ht
  unfold Oper.wp
  simp [execOp, hop, hx, hy, hrun, Result.andThen]
  exact hK' _ _ h
theorem Off.setRow {B : Nat → Prop} {a w : World} (h : Off B a w) {b : Nat} (hb : B b) (R : Array Value) : Off B a (w.setRow b R) :=
  h.trans ⟨rfl, rfl, rfl, by simp, fun k _ hk => setRow_other _ _ _ _ (fun e => hk (by rw [e]; exact hb))⟩
theorem below_setRow {B : Nat} {a w : World} (h : Below B a w) {b : Nat} (hb : B ≤ b) (R : Array Value) : Below B a (w.setRow b R) :=
  h.trans ⟨rfl, rfl, rfl, by simp, fun k hk => setRow_other _ _ _ _ (by omega)⟩
/-- A new page in memory; a page that was turned. -/
structure New (w w' : World) (b : Nat) (s : List UInt8) : Prop where
  sh : Sh w' b s
  below : Below w.heap.size w w'
  le : w.heap.size ≤ b
structure Put (w w' : World) (b : Nat) (s : List UInt8) : Prop where
  sh : Sh w' b s
  off : Off (fun k => k = b) w w'
theorem Put.below {w w' : World} {b B : Nat} {s : List UInt8} (h : Put w w' b s) (hB : B ≤ b) (hw : B ≤ w.heap.size) : Below B w w' := h.off.below (fun k e => by subst e; exact hB) hw
theorem zero63 : Value.agg Try.zeroCells63 = pgV zs := by kernel_rfl
theorem info_pg {s : List UInt8} (h : s.length = 224) : (Try.prog.info? 63).map (·.size) = some (pgA s).size := by rw [pgA_size, h]; exact info_sheet
theorem wpList_new_sh {ops : Array Oper} {rest : List Oper} {o : Oper} {a : Act} {Q : Exit → Act → World → Prop} (w : World) (hg : o.guard = none) (hop : o.op = Op.alloc 63)
    (h : ∀ w' b, New w w' b zs → wpList Try.prog ops Q rest (a.put o.dst (.pointer (some ⟨b, 0, none⟩))) w') : wpList Try.prog ops Q (o :: rest) a w :=
  wpList_alloc_sh w hg hop (h _ _ ⟨Sh.new w zs_length, (Below.refl _ _).alloc (Nat.le_refl _) _, Nat.le_refl _⟩)
theorem wpList_put_sh {ops : Array Oper} {rest : List Oper} {o : Oper} {a : Act} {Q : Exit → Act → World → Prop} (w : World) (hg : o.guard = none) (x y : Operand) (hop : o.op = Op.store 63 x y)
    {b : Nat} (hx : a.eval x = .pointer (some ⟨b, 0, none⟩)) {s t : List UInt8} (hy : a.eval y = pgV t) (hs : Sh w b s) (ht : t.length = 224)
    (h : ∀ w', Put w w' b t → wpList Try.prog ops Q rest (a.put o.dst undef) w') : wpList Try.prog ops Q (o :: rest) a w :=
  wpList_store_sh w hg x y hop hx hy hs ht (h _ ⟨hs.setRow ht, (Off.refl (fun k => k = b) w).setRow (B := fun k => k = b) rfl _⟩)
theorem run_copy_all (w : World) {b : Nat} {s : List UInt8} (p : ByteArray) (h : Sh w b s) (hp : p.size = 224) (ty : TypeId) : (Builtin.copy_ #[74, 9] ty #[.slice (some ⟨b, 0, none⟩) 224 224, .string p]).run Try.prog w = .ok (.int .i64 224) (w.setRow b (pgA (bts p))) := by
  have := Lib.run_copy_row_string (P := Try.prog) w 74 9 ty 5 b 0 224 224 p (pgA s) 63 Try.underlying74 (by kernel_rfl) h.blk (by omega) (by rw [pgA_size, h.len]; omega)
  rw [this]
  have e : (List.take 0 (pgA s).toList ++ Lib.byteCells p.data.toList ++ List.drop (0 + p.size) (pgA s).toList).toArray = pgA (bts p) := by
    rw [List.drop_of_length_le (by rw [Array.length_toList, pgA_size, h.len]; omega)]
    simp [pgA, pgL, bts]
  rw [e, hp]
  rfl
theorem wpList_copy_all {ops : Array Oper} {rest : List Oper} {o : Oper} {a : Act} {Q : Exit → Act → World → Prop} (w : World) (hg : o.guard = none) (x y : Operand) (hop : o.op = .call { callee := .builtin .copy, args := #[x, y], argTypes := #[74, 9] })
    {b : Nat} (hx : a.eval x = .slice (some ⟨b, 0, none⟩) 224 224) {s : List UInt8} {p : ByteArray} (hy : a.eval y = .string p) (hs : Sh w b s) (hp : p.size = 224)
    (h : ∀ w', Put w w' b (bts p) → wpList Try.prog ops Q rest (a.put o.dst (.int .i64 224)) w') : wpList Try.prog ops Q (o :: rest) a w :=
  Lib.wpList_copy_run w hg x y 74 9 hop _ _ hx hy (run_copy_all w p hs hp _) (h _ ⟨hs.setRow (by rw [bts_length, hp]), (Off.refl (fun k => k = b) w).setRow (B := fun k => k = b) rfl _⟩)
/-! ### Cells in memory -/
structure Cs (w : World) (a : Option Addr) (L : List Cl) : Prop where
  at_ : ∀ i (hi : i < L.length), ∃ b off, a = some ⟨b, off, none⟩ ∧ b < w.heap.size ∧ w.cell? ⟨b, off + i * 2, none⟩ = some (.string L[i].k) ∧ w.cell? ⟨b, off + i * 2 + 1, none⟩ = some (.string L[i].v)
section
variable {w w' : World} {a : Option Addr} {L : List Cl}
theorem Cs.nil (w : World) (a : Option Addr) : Cs w a [] := ⟨fun i hi => absurd hi (Nat.not_lt_zero _)⟩
theorem Cs.below (h : Cs w a L) (hb : Below w.heap.size w w') : Cs w' a L := ⟨fun i hi => by
  obtain ⟨b, off, h0, h1, h2, h3⟩ := h.at_ i hi
  exact ⟨b, off, h0, Nat.lt_of_lt_of_le h1 hb.size, (hb.cell (by exact h1)).trans h2, (hb.cell (by exact h1)).trans h3⟩⟩
theorem Cs.drewN (h : Cs w a L) (n : Nat) : Cs (w.drewN n) a L := ⟨h.at_⟩
theorem Cs.off {B : Nat → Prop} (h : Cs w a L) (hb : Off B w w') (hn : ∀ b off, a = some ⟨b, off, none⟩ → ¬ B b) : Cs w' a L := ⟨fun i hi => by
  obtain ⟨b, off, h0, h1, h2, h3⟩ := h.at_ i hi
  exact ⟨b, off, h0, Nat.lt_of_lt_of_le h1 hb.size, (hb.cell (by exact h1) (hn b off h0)).trans h2, (hb.cell (by exact h1) (hn b off h0)).trans h3⟩⟩
end
def clV (c : Cl) : Value := .agg #[.string c.k, .string c.v]
theorem wpList_cell_put {ops : Array Oper} {rest : List Oper} {o : Oper} {a : Act} {Q : Exit → Act → World → Prop} (w : World) (hg : o.guard = none) (x y : Operand) (hop : o.op = Op.store 28 x y)
    {b i : Nat} (hx : a.eval x = .pointer (some ⟨b, i, none⟩)) {k v : ByteArray} (hy : a.eval y = .agg #[.string k, .string v]) (ht : w.there b i 2)
    (h : wpList Try.prog ops Q rest (a.put o.dst undef) ((w.setCell ⟨b, i, none⟩ (.string k)).setCell ⟨b, i + 1, none⟩ (.string v))) : wpList Try.prog ops Q (o :: rest) a w :=
  wpList_store_mid hg 28 x y hop b i #[.string k, .string v] hx hy ht (by kernel_rfl) (all_oneCell_toArray (cs := [.string k, .string v]) (fun u hu => by rcases List.mem_cons.1 hu with rfl | hu; rfl; rcases List.mem_cons.1 hu with rfl | hu; rfl; cases hu)) h
/-! ### Results that lie in a block -/
theorem results_row_tmp {P : Program} {fn : Func} {p u : Tmp} {ty : TypeId} (h : fn.results = #[.cell p ty, .tmp u]) (tmps : Array Value) (w : World) (g : Nat) (t : TypeId) (cs : Array Value) (fr : Nat × Nat) (d : TypeDesc)
    (hp : tmps.getD p undef = .pointer (some ⟨g, 0, none⟩)) (hg : w.heap[g]? = some (.cells cs t fr))
    (hu : P.underlying ty = some d) (hd : (match d with | .struct _ | .array _ _ => true | _ => false) = true) (hi : (P.info? ty).map (·.size) = some cs.size) :
    (results fn tmps).run P w = .ok (.tuple #[.agg cs, tmps.getD u undef]) w := by
  rw [results_cell_tmp h, hp]
  simp [asAddr, run_loadVar_row w g t ty cs fr d hg hu hd hi, Result.andThen]
theorem info_cell : (Try.prog.info? 28).map (·.size) = some 2 := by kernel_rfl
theorem block_set2 {w : World} {b t : Nat} {x y : Value} (h : w.heap[b]? = some (.cells #[x, y] t)) (u v : Value) : ((w.setCell ⟨b, 0, none⟩ u).setCell ⟨b, 1, none⟩ v).heap[b]? = some (.cells #[u, v] t) := by
  rw [Joins.block_setCell (Joins.block_setCell h _)]
  simp
end Go.Proofs.Ytmoognjegjeegaa
