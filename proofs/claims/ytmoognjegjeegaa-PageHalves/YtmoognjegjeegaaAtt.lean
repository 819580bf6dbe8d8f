/- A cell by its place: At. -/
import Derived.Test.YtmoognjegjeegaaApi
namespace Go.Proofs.Ytmoognjegjeegaa
open Go.RowKit
set_option linter.unusedVariables false
set_option linter.unusedSimpArgs false
set_option maxRecDepth 100000

structure Cb (w : World) (b : Nat) (k v : ByteArray) : Prop where
  blk : w.heap[b]? = some (.cells #[.string k, .string v] 28)
section
variable {w w' : World} {b : Nat} {k v : ByteArray}
theorem Cb.lt (h : Cb w b k v) : b < w.heap.size := (Array.getElem?_eq_some_iff.1 h.blk).1
theorem Cb.of_block (h : Cb w b k v) (hb : w'.heap[b]? = w.heap[b]?) : Cb w' b k v := ⟨hb.trans h.blk⟩
theorem Cb.below (h : Cb w b k v) (hb : Below w.heap.size w w') : Cb w' b k v := h.of_block (hb.block b h.lt)
theorem Cb.there (h : Cb w b k v) : w.there b 0 2 := fun j hj => by
  rw [cell_of_row w b _ _ 28 (0, 0) h.blk]
  refine ⟨?_, Joins.unfrozen_of_block h.blk _⟩
  match j, hj with
  | 0, _ => rfl
  | 1, _ => rfl
structure NewC (w w' : World) (b : Nat) (k v : ByteArray) : Prop where
  cb : Cb w' b k v
  below : Below w.heap.size w w'
  le : w.heap.size ≤ b
structure PutC (w w' : World) (b : Nat) (k v : ByteArray) : Prop where
  cb : Cb w' b k v
  off : Off (fun k => k = b) w w'
theorem PutC.below {B : Nat} (h : PutC w w' b k v) (hB : B ≤ b) (hw : B ≤ w.heap.size) : Below B w w' := h.off.below (fun k e => by subst e; exact hB) hw
theorem zero_cell (w : World) : (zeroValue 28).run Try.prog w = .ok (.agg #[.string ⟨#[]⟩, .string ⟨#[]⟩]) w := by kernel_rfl
theorem wpList_new_cb {ops : Array Oper} {rest : List Oper} {o : Oper} {a : Act} {Q : Exit → Act → World → Prop} (w : World) (hg : o.guard = none) (hop : o.op = Op.alloc 28)
    (h : ∀ w' b, NewC w w' b ⟨#[]⟩ ⟨#[]⟩ → wpList Try.prog ops Q rest (a.put o.dst (.pointer (some ⟨b, 0, none⟩))) w') : wpList Try.prog ops Q (o :: rest) a w := by
  refine wpList_plain hg fun K' hK' => ?_
  unfold Oper.wp
  simp [execOp, hop, Instr.alloc, zero_cell, Result.andThen, Value.cells]
  exact hK' _ _ (h _ _ ⟨⟨(MapKept.heap_alloc w _).1⟩, (Below.refl _ _).alloc (Nat.le_refl _) _, Nat.le_refl _⟩)
theorem wpList_put_cb {ops : Array Oper} {rest : List Oper} {o : Oper} {a : Act} {Q : Exit → Act → World → Prop} (w : World) (hg : o.guard = none) (x y : Operand) (hop : o.op = Op.store 28 x y)
    (hx : a.eval x = .pointer (some ⟨b, 0, none⟩)) {k' v' : ByteArray} (hy : a.eval y = .agg #[.string k', .string v']) (hs : Cb w b k v)
    (h : ∀ w', PutC w w' b k' v' → wpList Try.prog ops Q rest (a.put o.dst undef) w') : wpList Try.prog ops Q (o :: rest) a w :=
  wpList_cell_put w hg x y hop hx hy hs.there (h _ ⟨⟨block_set2 hs.blk _ _⟩, ((Off.refl (fun k => k = b) w).setCell (B := fun k => k = b) rfl 0 _).setCell (B := fun k => k = b) rfl 1 _⟩)
end
theorem opened_at {w w1 w2 w3 : World} {b : Nat} {s t : List UInt8} (h1 : Below w.heap.size w w1) (N : New w1 w2 b s) (P : Put w2 w3 b t) {c : Nat} (hc : c < w.heap.size) : w3.heap[c]? = w1.heap[c]? := by
  have z1 := h1.size
  have z2 := N.below.size
  have z3 := N.le
  exact (N.below.trans (P.below z3 z2)).block c (by omega)

theorem At_wrong (w : World) (p : ByteArray) (i : Int) (hz : p.size ≤ 140737488351232) (h : ¬ Right (bts p)) : Calls Try.prog 11 #[.string p, .int .i64 i] w fun e w' => e = .returned (.tuple #[.agg #[.string ⟨#[]⟩, .string ⟨#[]⟩], .int .i64 4]) ∧ Below w.heap.size w w' := by
  have hTl := zs_length
  have CR : Hid (∀ w, Calls Try.prog 37 #[.string p] w fun e w' => e = .returned (.tuple #[pgV zs, .bool false]) ∧ Below w.heap.size w w') := fun w => read_wrong w p hz h
  clear h
  go_enter Try.func11, Try.ntmps11
  go_wp2_with (first | (go_at_call 37; refine (CR.out _).mono ?_; rintro e w1 ⟨rfl, hb1⟩) | (refine wpList_new_cb _ rfl rfl ?_; intro w0 b0 N0) | (refine wpList_new_sh _ rfl rfl ?_; intro w2 b2 N2) | (refine wpList_put_sh _ rfl _ _ rfl rfl (t := zs) rfl N2.sh hTl ?_; intro w3 P3) | (refine wpList_put_cb _ rfl _ _ rfl rfl rfl ((N0.cb.below hb1).of_block (opened_at hb1 N2 P3 N0.cb.lt)) ?_; intro w4 P4))
  refine bodyPost_ret (results_row_tmp rfl _ _ b0 28 _ (0, 0) _ rfl P4.cb.blk Try.underlying28 rfl info_cell) rfl ?_
  have z0 := N0.below.size
  have z1 := (opened hb1 N2 P3).size
  exact ⟨rfl, (thn N0.below (opened hb1 N2 P3)).trans (P4.below N0.le (by omega))⟩
theorem At_none (w : World) (p : ByteArray) (i : Int) (h : Right (bts p)) (hi : i < 0 ∨ (cnt (bts p) : Int) ≤ i) : Calls Try.prog 11 #[.string p, .int .i64 i] w fun e w' => e = .returned (.tuple #[.agg #[.string ⟨#[]⟩, .string ⟨#[]⟩], .int .i64 8]) ∧ Below w.heap.size w w' := by
  have hTl : (bts p).length = 224 := h.head.len
  have CR : Hid (∀ w, Calls Try.prog 37 #[.string p] w fun e w' => e = .returned (.tuple #[pgV (bts p), .bool true]) ∧ Below w.heap.size w w') := fun w => read_right w p h
  have C2 : Hid (∀ w b, Sh w b (bts p) → Calls Try.prog 39 #[.pointer (some ⟨b, 0, none⟩)] w fun e w' => e = .returned (.int .i64 (cnt (bts p) : Nat)) ∧ w' = w) := fun w b h' => count_any w h'
  clear h
  generalize bts p = T at *
  by_cases h0 : i < 0
  · clear hi
    go_enter Try.func11, Try.ntmps11
    go_wp2_with (first | (go_at_call 37; refine (CR.out _).mono ?_; rintro e w1 ⟨rfl, hb1⟩) | (refine wpList_new_cb _ rfl rfl ?_; intro w0 b0 N0) | (refine wpList_new_sh _ rfl rfl ?_; intro w2 b2 N2) | (refine wpList_put_sh _ rfl _ _ rfl rfl (t := T) rfl N2.sh hTl ?_; intro w3 P3) | (refine wpList_put_cb _ rfl _ _ rfl rfl rfl ((N0.cb.below hb1).of_block (opened_at hb1 N2 P3 N0.cb.lt)) ?_; intro w4 P4))
    refine bodyPost_ret (results_row_tmp rfl _ _ b0 28 _ (0, 0) _ rfl P4.cb.blk Try.underlying28 rfl info_cell) rfl ?_
    have z0 := N0.below.size
    have z1 := (opened hb1 N2 P3).size
    exact ⟨rfl, (thn N0.below (opened hb1 N2 P3)).trans (P4.below N0.le (by omega))⟩
  · have h1 : (cnt T : Int) ≤ i := by omega
    clear hi
    go_enter Try.func11, Try.ntmps11
    go_wp2_with (first | (go_at_call 37; refine (CR.out _).mono ?_; rintro e w1 ⟨rfl, hb1⟩) | (refine wpList_new_cb _ rfl rfl ?_; intro w0 b0 N0) | (refine wpList_new_sh _ rfl rfl ?_; intro w2 b2 N2) | (refine wpList_put_sh _ rfl _ _ rfl rfl (t := T) rfl N2.sh hTl ?_; intro w3 P3) | (go_at_call 39; refine (C2.out _ _ P3.sh).mono ?_; rintro e w5 ⟨rfl, rfl⟩) | (refine wpList_put_cb _ rfl _ _ rfl rfl rfl ((N0.cb.below hb1).of_block (opened_at hb1 N2 P3 N0.cb.lt)) ?_; intro w4 P4))
    refine bodyPost_ret (results_row_tmp rfl _ _ b0 28 _ (0, 0) _ rfl P4.cb.blk Try.underlying28 rfl info_cell) rfl ?_
    have z0 := N0.below.size
    have z1 := (opened hb1 N2 P3).size
    exact ⟨rfl, (thn N0.below (opened hb1 N2 P3)).trans (P4.below N0.le (by omega))⟩
theorem At_right (w : World) (p : ByteArray) (i : Nat) (h : Right (bts p)) (hi : i < cnt (bts p)) : Calls Try.prog 11 #[.string p, .int .i64 (i : Int)] w fun e w' => e = .returned (.tuple #[.agg #[.string (cell (bts p) i).k, .string (cell (bts p) i).v], .int .i64 0]) ∧ Below w.heap.size w w' := by
  have hTl : (bts p).length = 224 := h.head.len
  have CR : Hid (∀ w, Calls Try.prog 37 #[.string p] w fun e w' => e = .returned (.tuple #[pgV (bts p), .bool true]) ∧ Below w.heap.size w w') := fun w => read_right w p h
  have C2 : Hid (∀ w b, Sh w b (bts p) → Calls Try.prog 39 #[.pointer (some ⟨b, 0, none⟩)] w fun e w' => e = .returned (.int .i64 (cnt (bts p) : Nat)) ∧ w' = w) := fun w b h' => count_any w h'
  have hn := h.head.slotlt
  have C3 : Hid (∀ w b, Sh w b (bts p) → Calls Try.prog 40 #[.pointer (some ⟨b, 0, none⟩), .int .i64 (i : Int)] w fun e w' => e = .returned (.agg #[.string (cell (bts p) i).k, .string (cell (bts p) i).v]) ∧ Below w.heap.size w w') := fun w b h' => cell_any w h' i (by omega) (h.ok i hi).at_ (by have := h.head.enn; omega)
  clear h
  generalize cell (bts p) i = c at *
  generalize bts p = T at *
  have hi' : ¬ (cnt T : Int) ≤ (i : Int) := by omega
  go_enter Try.func11, Try.ntmps11
  go_wp2_with (first | (go_at_call 37; refine (CR.out _).mono ?_; rintro e w1 ⟨rfl, hb1⟩) | (refine wpList_new_cb _ rfl rfl ?_; intro w0 b0 N0) | (refine wpList_new_sh _ rfl rfl ?_; intro w2 b2 N2) | (refine wpList_put_sh _ rfl _ _ rfl rfl (t := T) rfl N2.sh hTl ?_; intro w3 P3) | (go_at_call 39; refine (C2.out _ _ P3.sh).mono ?_; rintro e w5 ⟨rfl, rfl⟩) | (go_at_call 40; refine (C3.out _ _ P3.sh).mono ?_; rintro e w6 ⟨rfl, hb6⟩) | (refine wpList_put_cb _ rfl _ _ rfl rfl rfl (((N0.cb.below hb1).of_block (opened_at hb1 N2 P3 N0.cb.lt)).below hb6) ?_; intro w4 P4))
  refine bodyPost_ret (results_row_tmp rfl _ _ b0 28 _ (0, 0) _ rfl P4.cb.blk Try.underlying28 rfl info_cell) rfl ?_
  have z0 := N0.below.size
  have z1 := (opened hb1 N2 P3).size
  have z6 := hb6.size
  exact ⟨rfl, (thn (thn N0.below (opened hb1 N2 P3)) hb6).trans (P4.below N0.le (by omega))⟩
end Go.Proofs.Ytmoognjegjeegaa
