/- Blocks, structs and rows of any type in memory; frames by ownership. -/
import Derived.Test.YtkcpclmkbmeigabProg
import Derived.WalkKit
import Derived.Below
import Derived.Lib.SmallJoins
import Derived.Lib.SliceRun
import Derived.Deep.MidRow
import Derived.Laws.AppendOwn
import Derived.Laws.Append
import Derived.Deep.WholeRow
import Derived.Laws.ResultCell
import Derived.Laws.Rows
namespace Go.Proofs.Ytkcpclmkbmeigab.Gm
open Go.RowKit
set_option linter.unusedVariables false
set_option linter.unusedSimpArgs false
set_option maxRecDepth 100000
theorem lt_of {w : World} {j : Nat} {o : Obj} (h : w.heap[j]? = some o) : j < w.heap.size := (Array.getElem?_eq_some_iff.1 h).1
theorem thn {w w1 w2 : World} (h : Below w.heap.size w w1) (k : Below w1.heap.size w1 w2) : Below w.heap.size w w2 := h.trans (k.mono h.size)
theorem bl1 {w : World} (o : Obj) : Below w.heap.size w (w.alloc o) := (Below.refl _ _).alloc (Nat.le_refl _) _
theorem bdr {w w' : World} {B : Nat} (h : Below B w w') (q : Nat) : Below B w (w'.drewN q) := ⟨h.os, h.tape, h.output, h.size, h.block⟩
/-- All blocks but those of W stand; W' has no more than W had, and new ones. -/
structure Fr (W W' : Nat → Prop) (w w' : World) : Prop where
  os : w'.os = w.os
  tape : w'.tape = w.tape
  output : w'.output = w.output
  size : w.heap.size ≤ w'.heap.size
  blk : ∀ j, j < w.heap.size → ¬ W j → w'.heap[j]? = w.heap[j]?
  sub : ∀ j, W' j → W j ∨ w.heap.size ≤ j
section
variable {W W' W2 V : Nat → Prop} {w w' w2 : World}
theorem Fr.refl (W : Nat → Prop) (w : World) : Fr W W w w := ⟨rfl, rfl, rfl, Nat.le_refl _, fun _ _ _ => rfl, fun _ h => Or.inl h⟩
theorem Fr.trans (h : Fr W W' w w') (k : Fr W' W2 w' w2) : Fr W W2 w w2 := ⟨k.os.trans h.os, k.tape.trans h.tape, k.output.trans h.output, Nat.le_trans h.size k.size, fun j hj hn => (k.blk j (Nat.lt_of_lt_of_le hj h.size) (fun e => (h.sub j e).elim hn (fun e2 => by omega))).trans (h.blk j hj hn), fun j hj => (k.sub j hj).elim (h.sub j) (fun e => Or.inr (Nat.le_trans h.size e))⟩
theorem Fr.of_below (h : Below w.heap.size w w') (W : Nat → Prop) : Fr W W w w' := ⟨h.os, h.tape, h.output, h.size, fun j hj _ => h.block j hj, fun _ h => Or.inl h⟩
theorem Fr.below (h : Fr W W' w w') (k : Below w'.heap.size w' w2) : Fr W W' w w2 := h.trans (Fr.of_below k W')
theorem Fr.is (h : Fr W W' w w') {j : Nat} {o : Obj} (hj : w.heap[j]? = some o) (hn : ¬ W j) : w'.heap[j]? = some o := (h.blk j (lt_of hj) hn).trans hj
theorem Fr.not (h : Fr W W' w w') {j : Nat} (hj : j < w.heap.size) (hn : ¬ W j) : ¬ W' j := fun e => (h.sub j e).elim hn (fun e2 => by omega)
theorem Fr.more (h : Fr W W' w w') (hV : ∀ j, V j → W j ∨ w.heap.size ≤ j) : Fr W V w w' := ⟨h.os, h.tape, h.output, h.size, h.blk, hV⟩
theorem Fr.grown {r : Option Nat} (h : w.grownBy w' r) (hr : ∀ g, r = some g → W g) : Fr W W w w' := ⟨h.os, h.tape, h.output, h.size, fun j hj hn => h.block j hj (fun e => hn (hr j e.symm)), fun _ h => Or.inl h⟩
theorem Fr.wide (h : Fr W W' w w') (hV : ∀ j, W j → V j) : Fr V (fun j => W' j ∨ V j) w w' := ⟨h.os, h.tape, h.output, h.size, fun j hj hn => h.blk j hj (fun e => hn (hV j e)), fun j hj => hj.elim (fun e => (h.sub j e).imp (hV j) id) Or.inl⟩
theorem Fr.set {b : Nat} (h : Fr W W' w w') (hb : W' b) (i : Nat) (v : Value) : Fr W W' w (w'.setCell ⟨b, i, none⟩ v) := h.trans ⟨rfl, rfl, rfl, by simp [World.setCell], fun j hj hn => Below.heap_setCell w' _ v j (fun e => hn (by rw [e]; exact hb)), fun _ h => Or.inl h⟩
/-- Nothing below B is turned: B lies ahead of all of W. -/
theorem Fr.bel {B : Nat} (h : Fr W W' w w') (hW : ∀ j, W j → B ≤ j) (hB : B ≤ w.heap.size) : Below B w w' := ⟨h.os, h.tape, h.output, h.size, fun k hk => h.blk k (Nat.lt_of_lt_of_le hk hB) (fun e => by have := hW k e; omega)⟩
end
/-- Block b holds these cells. -/
structure At (w : World) (b : Nat) (t : TypeId) (A : Array Value) : Prop where
  blk : w.heap[b]? = some (.cells A t)
section
variable {w w' : World} {b : Nat} {t : TypeId} {A A' : Array Value} {W W' : Nat → Prop}
theorem At.c (h : At w b t A) (i : Nat) : w.cell? ⟨b, i, none⟩ = A[i]? := Joins.cell_of_block h.blk i
theorem At.f (h : At w b t A) (i : Nat) : w.frozen? ⟨b, i, none⟩ = false := Joins.unfrozen_of_block h.blk i
theorem At.lt (h : At w b t A) : b < w.heap.size := lt_of h.blk
theorem At.keep (h : At w b t A) (hb : w'.heap[b]? = w.heap[b]?) : At w' b t A := ⟨hb.trans h.blk⟩
theorem At.bel (h : At w b t A) (hb : Below w.heap.size w w') : At w' b t A := h.keep (hb.block b h.lt)
theorem At.fr (h : At w b t A) (hf : Fr W W' w w') (hn : ¬ W b) : At w' b t A := h.keep (hf.blk b h.lt hn)
theorem At.new (w : World) (A : Array Value) (t : TypeId) : At (w.alloc (.cells A t)) w.heap.size t A := ⟨(MapKept.heap_alloc w _).1⟩
theorem At.set (h : At w b t A) (i : Nat) (v : Value) : At (w.setCell ⟨b, i, none⟩ v) b t (A.setIfInBounds i v) := ⟨Joins.block_setCell h.blk _⟩
theorem At.range (h : At w b t A) : w.rangeAt b 0 A.toList := fun j v hv => by
  rw [Nat.zero_add, h.c]; simpa using hv
theorem At.tag (h : At w b t A) {t' : TypeId} {A' : Array Value} (h' : w.heap[b]? = some (.cells A' t')) : t' = t := by
  rw [h.blk] at h'; simp at h'; exact h'.2.symm
end
/-- What a struct's type is. -/
structure St (t : TypeId) (k : Nat) : Prop where
  un : ∃ fs, Try.prog.underlying t = some (.struct fs)
  info : (Try.prog.info? t).map (·.size) = some k
structure New (w w' : World) (b : Nat) (t : TypeId) (A : Array Value) : Prop where
  is : At w' b t A
  bel : Below w.heap.size w w'
  eq : b = w.heap.size
structure Put (w w' : World) (b : Nat) (t : TypeId) (A : Array Value) : Prop where
  is : At w' b t A
  off : ∀ j, j ≠ b → w'.heap[j]? = w.heap[j]?
  fr : ∀ W : Nat → Prop, W b → Fr W W w w'
section
variable {ops : Array Oper} {rest : List Oper} {o : Oper} {a : Act} {Q : Exit → Act → World → Prop} {t : TypeId} {k : Nat} {A A' : Array Value}
theorem wpList_at {w : World} (p : Op) (h : o.op = p) (hw : wpList Try.prog ops Q (o :: rest) a w) : wpList Try.prog ops Q (o :: rest) a w := hw
theorem wpList_box_at (w : World) (hg : o.guard = none) (x : Operand) (hop : o.op = Op.box t x) (hx : a.eval x = .agg A)
    (h : ∀ w' b, New w w' b t A → wpList Try.prog ops Q rest (a.put o.dst (.pointer (some ⟨b, 0, none⟩))) w') : wpList Try.prog ops Q (o :: rest) a w := by
  refine wpList_plain hg fun K' hK' => ?_
  unfold Oper.wp
  simp [execOp, hop, hx, Instr.box, Result.andThen, Value.cells]
  exact hK' _ _ (h _ _ ⟨At.new _ _ _, bl1 _, rfl⟩)
theorem wpList_new_at (w : World) (hz : ∀ w, (zeroValue t).run Try.prog w = .ok (.agg A) w) (hg : o.guard = none) (hop : o.op = Op.alloc t)
    (h : ∀ w' b, New w w' b t A → wpList Try.prog ops Q rest (a.put o.dst (.pointer (some ⟨b, 0, none⟩))) w') : wpList Try.prog ops Q (o :: rest) a w := by
  refine wpList_plain hg fun K' hK' => ?_
  unfold Oper.wp
  simp [execOp, hop, Instr.alloc, hz, Result.andThen, Value.cells]
  exact hK' _ _ (h _ _ ⟨At.new _ _ _, bl1 _, rfl⟩)
theorem wpList_load_at (hS : St t k) {b : Nat} (w : World) (hg : o.guard = none) (x : Operand) (hop : o.op = Op.load t x) (hx : a.eval x = .pointer (some ⟨b, 0, none⟩)) (hs : At w b t A) (hk : A.size = k)
    (h : wpList Try.prog ops Q rest (a.put o.dst (.agg A)) w) : wpList Try.prog ops Q (o :: rest) a w := by
  obtain ⟨d, h1⟩ := hS.un
  exact wpList_load_row hg t x hop b hx t A (0, 0) _ hs.blk h1 rfl (by rw [hk]; exact hS.info) h
theorem wpList_load_in (hS : St t k) {g of : Nat} (w : World) (hg : o.guard = none) (x : Operand) (hop : o.op = Op.load t x) (hx : a.eval x = .pointer (some ⟨g, of, none⟩)) (hr : w.rangeAt g of A.toList) (hk : A.size = k)
    (h : wpList Try.prog ops Q rest (a.put o.dst (.agg A)) w) : wpList Try.prog ops Q (o :: rest) a w := by
  obtain ⟨d, h1⟩ := hS.un
  exact wpList_load_mid hg t x hop g of hx A.toList _ hr h1 rfl (by rw [Array.length_toList, hk]; exact hS.info) (by simpa using h)
theorem setCells_at {w : World} {b : Nat} (h : At w b t A) (hk : A'.size = A.size) (h1 : ∀ v ∈ A'.toList, v.oneCell' = true) : w.setCells b 0 A'.toList = w.setRow b A' := by
  have hth : ∀ j, j < A.size → ((w.cell? ⟨b, 0 + j, none⟩).isSome = true) := fun j hj => by
    rw [h.c]
    simp [hj]
  have e1 := run_storeCells_at Try.prog b 0 t A'.toList 0 A w h.blk (by simp [hk]) h1
  have e2 := run_storeCells_cells (P := Try.prog) b 0 A'.toList 0 w (fun j hj => by have := hth j (by rw [← hk]; simpa using hj); simpa using this) (fun j hj => by have := h.f (0 + 0 + j); simpa using this) h1
  have e : (List.take (0 + 0) A.toList ++ A'.toList ++ List.drop (0 + 0 + A'.toList.length) A.toList).toArray = A' := by
    have : List.drop (0 + 0 + A'.toList.length) A.toList = [] := List.drop_eq_nil_of_le (by simp [hk])
    rw [this]
    simp
  rw [e, e2] at e1
  simpa using e1
theorem wpList_put_at (hS : St t k) {b : Nat} (w : World) (hg : o.guard = none) (x y : Operand) (hop : o.op = Op.store t x y)
    (hx : a.eval x = .pointer (some ⟨b, 0, none⟩)) (hy : a.eval y = .agg A') (hs : At w b t A) (hk : A.size = k) (hk' : A'.size = k) (h1 : ∀ v ∈ A'.toList, v.oneCell' = true)
    (h : ∀ w', Put w w' b t A' → wpList Try.prog ops Q rest (a.put o.dst undef) w') : wpList Try.prog ops Q (o :: rest) a w := by
  refine wpList_store_mid hg t x y hop b 0 A' hx hy ?_ (by rw [hk']; exact hS.info) (Array.all_eq_true_iff_forall_mem.2 (fun v hv => h1 v (by simpa using hv))) ?_
  · intro j hj
    refine ⟨?_, hs.f _⟩
    rw [hs.c]
    have : j < A.size := by omega
    simp [this]
  · rw [setCells_at hs (by omega) h1]
    refine h _ ⟨⟨setRow_heap w b _ _ t _ hs.blk⟩, fun k hk => setRow_other w b k _ hk, fun W hW => ⟨rfl, rfl, rfl, by simp, fun k _ hk => setRow_other w b k _ (fun e => hk (e ▸ hW)), fun _ h => Or.inl h⟩⟩
/-- One operation of a region that draws its order: a load of one cell, a struct's or a slice's making, a store of one cell. -/
theorem wp_load1 {K : Act → World → Prop} {b k' : Nat} {v : Value} (w : World) (x : Operand) (hop : o.op = Op.load t x) (hx : a.eval x = .pointer (some ⟨b, k', none⟩)) (hr : (Instr.loadAt t (.pointer (some ⟨b, k', none⟩))).run Try.prog w = .ok v w) (h : K (a.put o.dst v) w) : o.wp Try.prog a w K Q := by
  unfold Oper.wp
  simp [execOp, hop, hx, hr, Result.andThen]
  exact h
theorem wp_build1 {K : Act → World → Prop} {sl el : TypeId} (w : World) (x : Operand) (hop : o.op = Op.buildSlice sl 1 #[(0, x)]) {u : Value} {A : Array Value} (hx : a.eval x = u)
    (hb : ∀ w, (Instr.buildSlice sl 1 #[(0, u)]).run Try.prog w = .ok (.slice (some ⟨w.heap.size, 0, none⟩) 1 1) (w.alloc (.cells A el)))
    (h : ∀ w' b, New w w' b el A → K (a.put o.dst (.slice (some ⟨b, 0, none⟩) 1 1)) w') : o.wp Try.prog a w K Q := by
  unfold Oper.wp execOp
  simp only [hop, List.map_toArray, List.map_cons, List.map_nil, hx, Sem.run_bind, Sem.run_pure, Result.andThen_ok, hb]
  exact h _ _ ⟨At.new _ _ _, bl1 _, rfl⟩
/-- One cell is stored. -/
theorem run_set1 {b k : Nat} {u v : Value} (w : World) (t : TypeId) (hu : w.cell? ⟨b, k, none⟩ = some u) (hf : w.frozen? ⟨b, k, none⟩ = false) (h1 : v.oneCell' = true) (hi : (Try.prog.info? t).map (·.size) = some 1) : (Instr.storeAt t (.pointer (some ⟨b, k, none⟩)) v).run Try.prog w = .ok () (w.setCell ⟨b, k, none⟩ v) := by
  have hcs : v.cells = #[v] := by cases v <;> first | rfl | cases h1
  have g1 : ∀ j, j < [v].length → (w.cell? ⟨b, k + 0 + j, none⟩).isSome = true := by
    intro j hj
    obtain rfl : j = 0 := by simpa using hj
    simp [hu]
  have g2 : ∀ j, j < [v].length → w.frozen? ⟨b, k + 0 + j, none⟩ = false := by
    intro j hj
    obtain rfl : j = 0 := by simpa using hj
    simpa using hf
  have := run_storeCells_cells (P := Try.prog) b k [v] 0 w g1 g2 (fun x hx => by simp at hx; subst hx; exact h1)
  cases hq : Try.prog.info? t with
  | none => simp [hq] at hi
  | some i =>
    have hs : i.size = 1 := by simpa [hq] using hi
    simp only [Nat.add_zero] at this
    simp [Instr.storeAt, Instr.sureAddr, storeVar, sizeOf, typeInfo, hq, hcs, hs, this, World.setCells]
theorem wpList_set1 {b k' : Nat} {u v : Value} (w : World) (hg : o.guard = none) (t : TypeId) (x y : Operand) (hop : o.op = Op.store t x y) (hx : a.eval x = .pointer (some ⟨b, k', none⟩)) (hy : a.eval y = v) (hu : w.cell? ⟨b, k', none⟩ = some u) (hf : w.frozen? ⟨b, k', none⟩ = false) (h1 : v.oneCell' = true) (hi : (Try.prog.info? t).map (·.size) = some 1)
    (h : ∀ w', w' = w.setCell ⟨b, k', none⟩ v → wpList Try.prog ops Q rest (a.put o.dst undef) w') : wpList Try.prog ops Q (o :: rest) a w := by
  refine wpList_plain hg fun K' hK' => ?_
  have hrun := run_set1 (v := v) w t hu hf h1 hi
  unfold Oper.wp
  simp [execOp, hop, hx, hy, hrun, Result.andThen]
  exact hK' _ _ (h _ rfl)
theorem wp_set1 {K : Act → World → Prop} {b k' : Nat} {u v : Value} (w : World) (t : TypeId) (x y : Operand) (hop : o.op = Op.store t x y) (hx : a.eval x = .pointer (some ⟨b, k', none⟩)) (hy : a.eval y = v) (hu : w.cell? ⟨b, k', none⟩ = some u) (hf : w.frozen? ⟨b, k', none⟩ = false) (h1 : v.oneCell' = true) (hi : (Try.prog.info? t).map (·.size) = some 1)
    (h : ∀ w', w' = w.setCell ⟨b, k', none⟩ v → K (a.put o.dst undef) w') : o.wp Try.prog a w K Q := by
  have hrun := run_set1 (v := v) w t hu hf h1 hi
  unfold Oper.wp
  simp [execOp, hop, hx, hy, hrun, Result.andThen]
  exact h _ rfl
theorem results_at1 (hS : St t k) {fn : Func} {p : Tmp} (h : fn.results = #[.cell p t]) (tmps : Array Value) (w : World) {b : Nat}
    (hp : tmps.getD p undef = .pointer (some ⟨b, 0, none⟩)) (hg : At w b t A) (hk : A.size = k) : (results fn tmps).run Try.prog w = .ok (.agg A) w := by
  obtain ⟨d, h1⟩ := hS.un
  exact results_cell_row h tmps w b t A (0, 0) _ hp hg.blk h1 rfl (by rw [hk]; exact hS.info)
theorem results_at2 (hS : St t k) {fn : Func} {p u : Tmp} (h : fn.results = #[.cell p t, .tmp u]) (tmps : Array Value) (w : World) {b : Nat}
    (hp : tmps.getD p undef = .pointer (some ⟨b, 0, none⟩)) (hg : At w b t A) (hk : A.size = k) : (results fn tmps).run Try.prog w = .ok (.tuple #[.agg A, tmps.getD u undef]) w := by
  obtain ⟨d, h1⟩ := hS.un
  have hl := run_loadVar_row (P := Try.prog) w b t t A (0, 0) _ hg.blk h1 rfl (by rw [hk]; exact hS.info)
  have hp' : tmps[p]?.getD undef = .pointer (some ⟨b, 0, none⟩) := by simpa using hp
  simp only [results, h]
  simp [Sem.run_bind, Result.andThen, hp', asAddr, hl]
end
/-! ### Rows -/
/-- A row of elements of k cells each. -/
structure Row (w : World) (t : TypeId) (k : Nat) (v : Value) (L : List (List Value)) : Prop where
  ks : ∀ c ∈ L, c.length = k
  row : w.ownsRow 0 t k v L.length L.flatten
theorem flat_len {k : Nat} : ∀ {L : List (List Value)}, (∀ c ∈ L, c.length = k) → L.flatten.length = L.length * k
  | [], _ => by simp
  | c :: L, h => by
    have := flat_len (L := L) (fun d hd => h d (List.mem_cons_of_mem _ hd))
    simp only [List.flatten_cons, List.length_append, this, h c (List.mem_cons_self ..), List.length_cons, Nat.add_mul]
    omega
theorem flat_get {k : Nat} : ∀ {L : List (List Value)}, (∀ c ∈ L, c.length = k) → ∀ (i : Nat) (hi : i < L.length) (j : Nat), j < k → L.flatten[i * k + j]? = (L[i])[j]?
  | [], _, i, hi, _, _ => absurd hi (Nat.not_lt_zero _)
  | c :: L, h, i, hi, j, hj => by
    have hc := h c (List.mem_cons_self ..)
    cases i with
    | zero => rw [List.flatten_cons, Nat.zero_mul, Nat.zero_add, List.getElem?_append_left (by rw [hc]; exact hj)]; rfl
    | succ i =>
      have := flat_get (L := L) (fun d hd => h d (List.mem_cons_of_mem _ hd)) i (by simpa using hi) j hj
      rw [List.flatten_cons, List.getElem?_append_right (by rw [hc, Nat.add_mul]; omega), hc, show (i + 1) * k + j - k = i * k + j by rw [Nat.add_mul]; omega, this]
      rfl
section
variable {w w' : World} {t : TypeId} {k : Nat} {v : Value} {L M : List (List Value)} {W W' : Nat → Prop}
theorem Row.nil (w : World) (t : TypeId) (k : Nat) : Row w t k (.slice none 0 0) [] := ⟨(fun c h => by cases h), by simp, Or.inl ⟨rfl, rfl⟩⟩
theorem Row.empty {b : Nat} (h : At w b t #[]) : Row w t k (.slice (some ⟨b, 0, none⟩) 0 0) [] := ⟨(fun c h => by cases h), by simp, Or.inr ⟨b, 0, #[], rfl, Nat.zero_le _, h.blk, by simp, by unfold maxLen; omega, by simp, by simp⟩⟩
theorem Row.sl (h : Row w t k v L) : ∃ a c, v = .slice a L.length c ∧ L.length ≤ c := by
  rcases h.row.2 with ⟨h1, h2⟩ | ⟨g, cap, cur, e, _, _, h3, _⟩
  · exact ⟨none, 0, by rw [h1, h2], by omega⟩
  · exact ⟨_, _, e, h3⟩
theorem Row.one (h : Row w t k v L) : v.oneCell' = true := by obtain ⟨a, c, rfl, _⟩ := h.sl; rfl
theorem Row.blkAt {g : Nat} (h : Row w t k v L) (e : v.ownBlock = some g) : ∃ cur, w.heap[g]? = some (.cells cur t) := by
  rcases h.row.2 with ⟨h1, h2⟩ | ⟨g', cap, cur, e', hB, hg, h3⟩
  · rw [h1] at e; cases e
  · rw [e'] at e; cases e; exact ⟨cur, hg⟩
theorem Row.lt {g : Nat} (h : Row w t k v L) (e : v.ownBlock = some g) : g < w.heap.size := by obtain ⟨cur, hc⟩ := h.blkAt e; exact lt_of hc
theorem Row.ne {g b : Nat} {t' : TypeId} {A : Array Value} (h : Row w t k v L) (hb : At w b t' A) (ht : t ≠ t') : v.ownBlock ≠ some b := fun e => by
  obtain ⟨cur, hc⟩ := h.blkAt e
  exact ht (hb.tag hc)
theorem Row.keep (h : Row w t k v L) (hb : ∀ g, v.ownBlock = some g → w'.heap[g]? = w.heap[g]?) : Row w' t k v L := by
  refine ⟨h.ks, h.row.1, ?_⟩
  rcases h.row.2 with h2 | ⟨g, cap, cur, e, hB, hg, h3⟩
  · exact Or.inl h2
  · exact Or.inr ⟨g, cap, cur, e, hB, (hb g (by rw [e]; rfl)).trans hg, h3⟩
theorem Row.bel (h : Row w t k v L) (hb : Below w.heap.size w w') : Row w' t k v L := h.keep fun g e => hb.block g (h.lt e)
theorem Row.fr (h : Row w t k v L) (hf : Fr W W' w w') (hn : ∀ g, v.ownBlock = some g → ¬ W g) : Row w' t k v L := h.keep fun g e => hf.blk g (h.lt e) (hn g e)
theorem Row.at_ {a : Option Addr} {n c : Nat} (h : Row w t k (.slice a n c) L) {i : Nat} (hi : i < L.length) : ∃ g, a = some ⟨g, 0, none⟩ ∧ g < w.heap.size ∧ ∀ w' : World, w'.heap[g]? = w.heap[g]? → w'.rangeAt g (i * k) L[i] ∧ ∀ j, w'.frozen? ⟨g, j, none⟩ = false := by
  rcases h.row.2 with ⟨_, h2⟩ | ⟨g, cap, cur, e, hB, hg, h3, h4, h5, h6⟩
  · omega
  · cases e
    refine ⟨g, rfl, lt_of hg, fun w' hw => ⟨?_, fun j => Joins.unfrozen_of_block (hw.trans hg) j⟩⟩
    intro j u hu
    have hj : j < k := by
      have := (List.getElem?_eq_some_iff.1 hu).1
      rwa [h.ks _ (List.getElem_mem hi)] at this
    have hk := flat_get h.ks i hi j hj
    rw [hu] at hk
    rw [cell_of_row w' g _ cur t (0, 0) (hw.trans hg)]
    rw [← h6, List.getElem?_take] at hk
    split at hk
    · simpa using hk
    · cases hk
theorem Row.seg {g n c : Nat} (h : Row w t k (.slice (some ⟨g, 0, none⟩) n c) L) {A M R : List (List Value)} (e : L = A ++ M ++ R) : ∀ j u, M.flatten[j]? = some u → w.cell? ⟨g, A.length * k + j, none⟩ = some u := by
  intro j u hu
  have ha := flat_len (L := A) (k := k) (fun d hd => h.ks d (by rw [e]; simp [hd]))
  rcases h.row.2 with ⟨e', _⟩ | ⟨g', cap, cur, e', hB, hg, h3, h4, h5, h6⟩
  · cases e'
  · cases e'
    rw [cell_of_row w g _ cur t (0, 0) hg]
    have hj := (List.getElem?_eq_some_iff.1 hu).1
    have hf : L.flatten[A.length * k + j]? = some u := by
      rw [e, List.flatten_append, List.flatten_append, List.append_assoc, List.getElem?_append_right (by omega), ha, List.getElem?_append_left (by omega), ← hu]
      congr 1
      omega
    rw [← h6, List.getElem?_take] at hf
    split at hf
    · simpa using hf
    · cases hf
/-- One cell of an element is stored. -/
theorem Row.set {g n c : Nat} (h : Row w t k (.slice (some ⟨g, 0, none⟩) n c) L) {i j : Nat} (hi : i < L.length) (hj : j < k) (u : Value) : Row (w.setCell ⟨g, i * k + j, none⟩ u) t k (.slice (some ⟨g, 0, none⟩) n c) (L.set i (L[i].set j u)) := by
  have hf := flat_len h.ks
  refine ⟨fun d hd => ?_, ?_, ?_⟩
  · rcases List.mem_or_eq_of_mem_set hd with h1 | h1
    · exact h.ks d h1
    · rw [h1, List.length_set]; exact h.ks _ (List.getElem_mem hi)
  · have := flat_len (L := L.set i (L[i].set j u)) (k := k) (fun d hd => ?_)
    · rw [this]
    · rcases List.mem_or_eq_of_mem_set hd with h1 | h1
      · exact h.ks d h1
      · rw [h1, List.length_set]; exact h.ks _ (List.getElem_mem hi)
  · rcases h.row.2 with ⟨e, _⟩ | ⟨g', cap, cur, e, hB, hg, h3, h4, h5, h6⟩
    · cases e
    · cases e
      refine Or.inr ⟨g, c, cur.setIfInBounds (i * k + j) u, by rw [List.length_set], hB, Joins.block_setCell hg _, by rw [List.length_set]; exact h3, h4, by rw [Array.size_setIfInBounds]; exact h5, ?_⟩
      have hlt : i * k + j < L.length * k := by
        have : (i + 1) * k ≤ L.length * k := Nat.mul_le_mul_right _ hi
        rw [Nat.add_mul] at this
        omega
      have e1 : (L.set i (L[i].set j u)).flatten = L.flatten.set (i * k + j) u := by
        clear h6 h5 h4 h3 hg hB hf hlt
        have hk := h.ks
        clear h
        induction L generalizing i with
        | nil => simp at hi
        | cons d L ih =>
          have hd := hk d (List.mem_cons_self ..)
          cases i with
          | zero => simp only [List.set_cons_zero, List.flatten_cons, List.getElem_cons_zero, Nat.zero_mul, Nat.zero_add]; rw [List.set_append_left _ _ (by omega)]
          | succ i =>
            have := ih (i := i) (by simpa using hi) (fun c hc => hk c (List.mem_cons_of_mem _ hc))
            simp only [List.set_cons_succ, List.flatten_cons, List.getElem_cons_succ]
            rw [this, List.set_append_right _ _ (by rw [hd, Nat.add_mul]; omega), hd, show (i + 1) * k + j - k = i * k + j by rw [Nat.add_mul]; omega]
      rw [e1, List.length_set, ← h6, Array.toList_setIfInBounds, List.take_set]
end
/-- An element type of k cells, and its slices'. -/
structure El (sl el : TypeId) (k : Nat) (z : Value) : Prop where
  un : Try.prog.underlying sl = some (.slice el)
  info : ∃ i, Try.prog.info? el = some i ∧ i.zero = some z ∧ i.size = k ∧ i.bytes ≤ 200
  zc : z.cells.size = k
  k0 : 0 < k
theorem append_gen {sl el : TypeId} {k : Nat} {z : Value} (hE : El sl el k z) {w : World} {v : Value} {L M : List (List Value)} (hR : Row w el k v L) (g of c : Nat) (hM : ∀ d ∈ M, d.length = k)
    (hnews : ∀ j u, M.flatten[j]? = some u → w.cell? ⟨g, of + j, none⟩ = some u) (h1 : ∀ u ∈ M.flatten, u.oneCell' = true) (hn : L.length + M.length ≤ 100000) (ty : TypeId) :
    ∃ v' w', (Builtin.append_ #[sl, sl] ty #[v, .slice (some ⟨g, of, none⟩) M.length c]).run Try.prog w = .ok v' w' ∧ Row w' el k v' (L ++ M) ∧ w.grownBy w' v.ownBlock ∧ (v'.ownBlock = v.ownBlock ∨ v'.ownBlock = some w.heap.size) := by
  obtain ⟨i, hi, hz0, hz1, hz2⟩ := hE.info
  have hrow := hR.row
  have hl : M.flatten.length = M.length * k := flat_len hM
  have hadd : ∀ j, (⟨g, of, none⟩ : Addr).add j = ⟨g, of + j, none⟩ := fun j => Addr.add_mid g of j
  have hnews' : ∀ j u, M.flatten[j]? = some u → w.cell? ((⟨g, of, none⟩ : Addr).add j) = some u := fun j u hu => by rw [hadd]; exact hnews j u hu
  have hby : (L.length + M.length) * i.bytes ≤ 140737488355328 := Nat.le_trans (Nat.mul_le_mul hn hz2) (by omega)
  obtain ⟨v', w', hr, ho, hgr, _⟩ := run_append_own (P := Try.prog) w 0 sl ty el i z k i.bytes hE.un hi hz0 hz1 rfl hE.zc hE.k0 v L.length L.flatten hrow ⟨g, of, none⟩ M.length c M.flatten hl hnews' h1 (by unfold maxLen; omega) hby (Nat.zero_le _)
  refine ⟨v', w', hr, ⟨fun d hd => (List.mem_append.1 hd).elim (hR.ks d) (hM d), by rw [List.length_append, List.flatten_append]; exact ho⟩, hgr, ?_⟩
  have hl1 : M.flatten.length = M.length * i.size := by rw [hz1]; exact hl
  rcases hrow.2 with ⟨rfl, hn0⟩ | ⟨b, cap, cur, rfl, hbg, hgg, hnc, hcm, hcs, htake⟩
  · rcases Nat.eq_zero_or_pos M.length with h0 | hmp
    · have hf := run_firstCells_some (P := Try.prog) w i.size 0 ⟨g, of, none⟩ 0 c [] (by simp) (fun j u hu => by simp at hu)
      have hr2 : (Builtin.append_ #[sl, sl] ty #[.slice none 0 0, .slice (some ⟨g, of, none⟩) 0 c]).run Try.prog w = .ok (.slice none 0 0) w := by simp [Builtin.append_, run_underlying hE.un, sizeOf, typeInfo, hi, Builtin.lenOf, hf]
      rw [h0, hr2] at hr
      injection hr with e1 e2
      subst e1
      exact Or.inl rfl
    · have hr2 := run_append_nil (P := Try.prog) w sl ty el i z hE.un hi hz0 ⟨g, of, none⟩ M.length c M.flatten hl1 hnews' hmp (by omega) (by rw [hn0, Nat.zero_add] at hby; omega)
      rw [hr2] at hr
      injection hr with e1 e2
      subst e1
      exact Or.inr rfl
  · by_cases hroom : L.length + M.length ≤ cap
    · have hr2 := run_append_room (P := Try.prog) w sl ty el i hE.un hi b L.length cap cur hgg ⟨g, of, none⟩ M.length c M.flatten hl1 hnews' h1 hroom (by rw [hz1, hcs, hl, ← Nat.add_mul]; exact Nat.mul_le_mul_right _ hroom)
      rw [hr2] at hr
      injection hr with e1 e2
      subst e1
      exact Or.inl rfl
    · have holds : ∀ j u, L.flatten[j]? = some u → w.cell? ((⟨b, 0, none⟩ : Addr).add j) = some u := by
        intro j u hu
        rw [Addr.add_mid, Nat.zero_add, cell_of_row w b j cur el (0, 0) hgg]
        rw [← htake, List.getElem?_take] at hu
        split at hu
        · simpa using hu
        · cases hu
      have hr2 := run_append_grow (P := Try.prog) w sl ty el i z hE.un hi hz0 ⟨b, 0, none⟩ L.length cap L.flatten (by rw [hz1, hrow.1]) holds ⟨g, of, none⟩ M.length c M.flatten hl1 hnews' (by omega) (by omega) (growslice_fits (by omega) (by omega))
      rw [hr2] at hr
      injection hr with e1 e2
      subst e1
      exact Or.inr rfl
/-- What an append leaves. -/
structure App (w w' : World) (t : TypeId) (k : Nat) (v v' : Value) (L : List (List Value)) : Prop where
  row : Row w' t k v' L
  grow : w.grownBy w' v.ownBlock
  own : v'.ownBlock = v.ownBlock ∨ v'.ownBlock = some w.heap.size
theorem App.fr {w w' : World} {t : TypeId} {k : Nat} {v v' : Value} {L : List (List Value)} (h : App w w' t k v v' L) {W W' : Nat → Prop} (hW : ∀ g, v.ownBlock = some g → W g) (hW' : ∀ j, W' j → W j ∨ v'.ownBlock = some j) : Fr W W' w w' :=
  (Fr.grown h.grow hW).more fun j hj => (hW' j hj).elim Or.inl fun e => by
    rcases h.own with e2 | e2
    · exact Or.inl (hW j (e2.symm.trans e))
    · rw [e2] at e; cases e; exact Or.inr (Nat.le_refl _)
theorem App.bel {w w' : World} {t : TypeId} {k B : Nat} {v v' : Value} {L : List (List Value)} (h : App w w' t k v v' L) (hv : ∀ g, v.ownBlock = some g → B ≤ g) (hB : B ≤ w.heap.size) : Below B w w' :=
  (h.fr (W := fun j => v.ownBlock = some j) (W' := fun j => v.ownBlock = some j) (fun g e => e) (fun j hj => Or.inl hj)).bel hv hB
section
variable {ops : Array Oper} {rest : List Oper} {o : Oper} {act : Act} {Q : Exit → Act → World → Prop} {sl el : TypeId} {k : Nat} {z : Value}
theorem wpList_build1 (w : World) (hg : o.guard = none) (x : Operand) (hop : o.op = Op.buildSlice sl 1 #[(0, x)]) {u : Value} {A : Array Value} (hx : act.eval x = u)
    (hb : ∀ w, (Instr.buildSlice sl 1 #[(0, u)]).run Try.prog w = .ok (.slice (some ⟨w.heap.size, 0, none⟩) 1 1) (w.alloc (.cells A el)))
    (h : ∀ w' b, New w w' b el A → wpList Try.prog ops Q rest (act.put o.dst (.slice (some ⟨b, 0, none⟩) 1 1)) w') : wpList Try.prog ops Q (o :: rest) act w := by
  refine wpList_plain hg fun K' hK' => ?_
  unfold Oper.wp execOp
  simp only [hop, List.map_toArray, List.map_cons, List.map_nil, hx, Sem.run_bind, Sem.run_pure, Result.andThen_ok, hb]
  exact hK' _ _ (h _ _ ⟨At.new _ _ _, bl1 _, rfl⟩)
theorem wpList_build0 (w : World) (hg : o.guard = none) (hop : o.op = Op.buildSlice sl 0 #[]) (hb : ∀ w, (Instr.buildSlice sl 0 #[]).run Try.prog w = .ok (.slice (some ⟨w.heap.size, 0, none⟩) 0 0) (w.alloc (.cells #[] el)))
    (h : ∀ w' b, New w w' b el #[] → wpList Try.prog ops Q rest (act.put o.dst (.slice (some ⟨b, 0, none⟩) 0 0)) w') : wpList Try.prog ops Q (o :: rest) act w := by
  refine wpList_plain hg fun K' hK' => ?_
  unfold Oper.wp execOp
  simp only [hop, List.map_toArray, List.map_nil, Sem.run_bind, Sem.run_pure, Result.andThen_ok, hb]
  exact hK' _ _ (h _ _ ⟨At.new _ _ _, bl1 _, rfl⟩)
theorem wpList_append (hE : El sl el k z) {w : World} (hgd : o.guard = none) (s x : Operand) (ho : o.op = .call { callee := .builtin .append, args := #[s, x], argTypes := #[sl, sl] }) {v : Value} {L M : List (List Value)} {g of c m : Nat}
    (hs : act.eval s = v) (hR : Row w el k v L) (hx : act.eval x = .slice (some ⟨g, of, none⟩) m c) (hm : M.length = m) (hM : ∀ d ∈ M, d.length = k) (hnews : ∀ j u, M.flatten[j]? = some u → w.cell? ⟨g, of + j, none⟩ = some u) (h1 : ∀ u ∈ M.flatten, u.oneCell' = true) (hn : L.length + M.length ≤ 100000)
    (K : ∀ a' c' w', App w w' el k v (.slice a' (L.length + m) c') (L ++ M) → wpList Try.prog ops Q rest (act.put o.dst (.slice a' (L.length + m) c')) w') : wpList Try.prog ops Q (o :: rest) act w := by
  refine wpList_plain hgd fun K' hK => ?_
  subst hm
  obtain ⟨v', w', hr, h2, h3, h4⟩ := append_gen hE hR g of c hM hnews h1 hn o.type
  obtain ⟨a', c', e, _⟩ := h2.sl
  unfold Oper.wp execOp
  simp only [ho, resolve, invoke, builtin, Sem.run_bind, Sem.run_pure, Result.andThen_ok, List.map_toArray, List.map_cons, List.map_nil, hs, hx, hr]
  rw [List.length_append] at e
  subst e
  exact hK _ _ (K _ _ w' ⟨h2, h3, h4⟩)
/-- One element, which was built. -/
theorem wpList_push (hE : El sl el k z) {w : World} (hgd : o.guard = none) (s x : Operand) (ho : o.op = .call { callee := .builtin .append, args := #[s, x], argTypes := #[sl, sl] }) {v : Value} {L : List (List Value)} {A : Array Value} {b c : Nat}
    (hs : act.eval s = v) (hR : Row w el k v L) (hx : act.eval x = .slice (some ⟨b, 0, none⟩) 1 c) (hb : At w b el A) (hk : A.size = k) (h1 : ∀ u ∈ A.toList, u.oneCell' = true) (hn : L.length ≤ 90000)
    (K : ∀ a' c' w', App w w' el k v (.slice a' (L.length + 1) c') (L ++ [A.toList]) → wpList Try.prog ops Q rest (act.put o.dst (.slice a' (L.length + 1) c')) w') : wpList Try.prog ops Q (o :: rest) act w :=
  wpList_append hE hgd s x ho (M := [A.toList]) hs hR hx rfl (fun d hd => by rw [List.mem_singleton] at hd; rw [hd, Array.length_toList, hk]) (fun j u hu => hb.range j u (by simpa using hu)) (fun u hu => h1 u (by simpa using hu)) (by simp; omega) K
/-- The same within a region that draws its order. -/
theorem step_push (hE : El sl el k z) {K : Act → World → Prop} {E : Prop} {w : World} (hgd : o.guard = none) (s x : Operand) (ho : o.op = .call { callee := .builtin .append, args := #[s, x], argTypes := #[sl, sl] }) {v : Value} {L : List (List Value)} {A : Array Value} {b c : Nat}
    (hs : act.eval s = v) (hR : Row w el k v L) (hx : act.eval x = .slice (some ⟨b, 0, none⟩) 1 c) (hb : At w b el A) (hk : A.size = k) (h1 : ∀ u ∈ A.toList, u.oneCell' = true) (hn : L.length ≤ 90000)
    (hK : ∀ a' c' w', App w w' el k v (.slice a' (L.length + 1) c') (L ++ [A.toList]) → K (act.put o.dst (.slice a' (L.length + 1) c')) w') :
    if Region.wanted o (yielded ops act.tmps) = true then Oper.wp Try.prog o act w K Q else E := by
  have hw : Region.wanted o (yielded ops act.tmps) = true := by simp [Region.wanted, hgd]
  rw [if_pos hw]
  obtain ⟨v', w', hr, h2, h3, h4⟩ := append_gen hE hR b 0 c (M := [A.toList]) (fun d hd => by rw [List.mem_singleton] at hd; rw [hd, Array.length_toList, hk]) (fun j u hu => hb.range j u (by simpa using hu)) (fun u hu => h1 u (by simpa using hu)) (by simp; omega) o.type
  obtain ⟨a', c', e, _⟩ := h2.sl
  unfold Oper.wp execOp
  rw [List.length_singleton] at hr
  simp only [ho, resolve, invoke, builtin, Sem.run_bind, Sem.run_pure, Result.andThen_ok, List.map_toArray, List.map_cons, List.map_nil, hs, hx, hr]
  rw [List.length_append, List.length_singleton] at e
  subst e
  exact hK _ _ w' ⟨h2, h3, h4⟩
end
end Go.Proofs.Ytkcpclmkbmeigab.Gm
