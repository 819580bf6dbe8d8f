/- The program's read: readPlaces, readChange, readImages, readTable. The program's read: readChange, readImages, readTable. The law's Few: a record of at most 20 images, and of at most 300 transactions. The document's put and text: what they leave is what a writer's Num and Text do. The document's put, text and change, as steps of one state. The document's Body: a record's bytes, or why it has none. The document's Body, of records with images and with a table. The document's ahead and change. The document's ahead: why a record has no bytes. The document's Clean. The document's Body, of any record. The document's Same: a record is one with itself, wherever its slices lie. What the laws of rec have in common: the record that they cut. -/
import Derived.Test.YtgcfbjecmmnlhaaGreatMaf
import Derived.Test.YtgcfbjecmmnlhaaGreatMac
import Derived.Test.YtgcfbjecmmnlhaaGreatMad
import Derived.Test.YtgcfbjecmmnlhaaGreatMae
import Derived.Laws.BytesArg
import Derived.Deep.RegionHeld3
namespace Go.Proofs.YtgcfbjecmmnlhaaGreat
open Go.RowKit
set_option linter.unusedVariables false
set_option linter.unusedSimpArgs false
set_option maxRecDepth 100000

/-- A reader in block b. -/
structure RdS (w : World) (b : Nat) (q : Lf) : Prop where
  rd : Pk.isRd w b q.1 q.2
  sz : q.1.size ≤ 140737488351232
section
variable {w w' : World} {b c : Nat} {q : Lf}
theorem RdS.lt (h : RdS w b q) : b < w.heap.size := h.rd.lt
theorem RdS.below (h : RdS w b q) (hb : Below w.heap.size w w') : RdS w' b q := ⟨h.rd.below hb, h.sz⟩
theorem RdS.off (h : RdS w b q) (hb : Pk.Off c w w') (hn : b ≠ c) : RdS w' b q := ⟨h.rd.off hb hn, h.sz⟩
theorem RdS.num (h : RdS w b q) (k : Int) : Calls Tryz.prog 70 #[.pointer (some ⟨b, 0, none⟩), .int .i64 k] w fun r w' => r = .returned (.int .i64 (nN q k)) ∧ RdS w' b (sN q k) ∧ Pk.Off b w w' :=
  (Pk.Num_any b q.1 q.2 k w h.sz h.rd).mono fun e w' ⟨he, h1, o1⟩ => ⟨he, ⟨h1, Nat.le_trans (sN_size q k) h.sz⟩, o1⟩
theorem RdS.text (h : RdS w b q) (m : Int) : Calls Tryz.prog 117 #[.pointer (some ⟨b, 0, none⟩), .int .i64 m] w fun r w' => r = .returned (.string (tT q m)) ∧ RdS w' b (sT q m) ∧ Pk.Off b w w' :=
  (Pk.RText_any b q.1 q.2 m w h.sz h.rd).mono fun e w' ⟨he, h1, o1⟩ => ⟨he, ⟨h1, Nat.le_trans (sT_size q m) h.sz⟩, o1⟩
end
/-- Cells in a block. -/
structure Blk (w : World) (b : Nat) (C : Array Value) (t : TypeId) : Prop where
  blk : w.heap[b]? = some (.cells C t)
structure PutB (w w' : World) (b : Nat) (C : Array Value) (t : TypeId) : Prop where
  bl : Blk w' b C t
  off : Pk.Off b w w'
section
variable {w w' : World} {b c : Nat} {C : Array Value} {t : TypeId}
theorem Blk.lt (h : Blk w b C t) : b < w.heap.size := (Array.getElem?_eq_some_iff.1 h.blk).1
theorem Blk.below (h : Blk w b C t) (hb : Below w.heap.size w w') : Blk w' b C t := ⟨(hb.block b h.lt).trans h.blk⟩
theorem Blk.off (h : Blk w b C t) (hb : Pk.Off c w w') (hn : b ≠ c) : Blk w' b C t := ⟨(hb.block b h.lt hn).trans h.blk⟩
theorem Blk.cell (h : Blk w b C t) (k : Nat) : w.cell? ⟨b, k, none⟩ = C[k]? := Joins.cell_of_block h.blk k
theorem wpList_bput {k : Nat} {v : Value} {ops : Array Oper} {rest : List Oper} {o : Oper} {a : Act} {Q : Exit → Act → World → Prop} (w : World) (hg : o.guard = none) (ty : TypeId) (x y : Operand) (hop : o.op = Op.store ty x y)
    (hx : a.eval x = .pointer (some ⟨b, k, none⟩)) (hy : a.eval y = v) (hs : Blk w b C t) (hk : k < C.size) (h1 : v.oneCell' = true) (hi : (Tryz.prog.info? ty).map (·.size) = some 1)
    (h : ∀ w', PutB w w' b (C.setIfInBounds k v) t → wpList Tryz.prog ops Q rest (a.put o.dst undef) w') : wpList Tryz.prog ops Q (o :: rest) a w := by
  have hc : ∃ u, w.cell? ⟨b, k, none⟩ = some u := by
    rw [hs.cell k]
    exact ⟨_, Array.getElem?_eq_getElem hk⟩
  obtain ⟨u, hu⟩ := hc
  have hf : w.frozen? ⟨b, k, none⟩ = false := Joins.unfrozen_of_block hs.blk k
  refine wpList_plain hg fun K' hK' => ?_
  unfold Oper.wp
  have hrun : (Instr.storeAt ty (.pointer (some ⟨b, k, none⟩)) v).run Tryz.prog w = .ok () (w.setCell ⟨b, k, none⟩ v) := by
    have hcs : v.cells = #[v] := by cases v <;> first | rfl | cases h1
    have g1 : ∀ j, j < [v].length → (w.cell? ⟨b, k + 0 + j, none⟩).isSome = true := by
      intro j hj
      obtain rfl : j = 0 := by simpa using hj
      simp [hu]
    have g2 : ∀ j, j < [v].length → w.frozen? ⟨b, k + 0 + j, none⟩ = false := by
      intro j hj
      obtain rfl : j = 0 := by simpa using hj
      simpa using hf
    have := run_storeCells_cells (P := Tryz.prog) b k [v] 0 w g1 g2 (fun x hx => by simp at hx; subst hx; exact h1)
    cases hq : Tryz.prog.info? ty with
    | none => simp [hq] at hi
    | some i =>
      have hs : i.size = 1 := by simpa [hq] using hi
      simp only [Nat.add_zero] at this
      simp [Instr.storeAt, Instr.sureAddr, storeVar, sizeOf, typeInfo, hq, hcs, hs, this, World.setCells]
  simp [execOp, hop, hx, hy, hrun, Result.andThen]
  exact hK' _ _ (h _ ⟨⟨Joins.block_setCell hs.blk _⟩, (Pk.Off.refl _ _).setCell _ _⟩)
end
/-- All blocks but b and c are as they were. -/
structure Off2 (b c : Nat) (w w' : World) : Prop where
  os : w'.os = w.os
  tape : w'.tape = w.tape
  output : w'.output = w.output
  size : w.heap.size ≤ w'.heap.size
  block : ∀ k, k < w.heap.size → k ≠ b → k ≠ c → w'.heap[k]? = w.heap[k]?
section
variable {w w1 w2 : World} {b c d : Nat}
theorem Off2.refl (b c : Nat) (w : World) : Off2 b c w w := ⟨rfl, rfl, rfl, Nat.le_refl _, fun _ _ _ _ => rfl⟩
theorem Off2.left (h : Off2 b c w w1) (o : Pk.Off b w1 w2) : Off2 b c w w2 := ⟨o.os.trans h.os, o.tape.trans h.tape, o.output.trans h.output, Nat.le_trans h.size o.size, fun k hk hb hc => (o.block k (Nat.lt_of_lt_of_le hk h.size) hb).trans (h.block k hk hb hc)⟩
theorem Off2.right (h : Off2 b c w w1) (o : Pk.Off c w1 w2) : Off2 b c w w2 := ⟨o.os.trans h.os, o.tape.trans h.tape, o.output.trans h.output, Nat.le_trans h.size o.size, fun k hk hb hc => (o.block k (Nat.lt_of_lt_of_le hk h.size) hc).trans (h.block k hk hb hc)⟩
theorem Off2.below (h : Off2 b c w w1) (o : Below w1.heap.size w1 w2) : Off2 b c w w2 := ⟨o.os.trans h.os, o.tape.trans h.tape, o.output.trans h.output, Nat.le_trans h.size o.size, fun k hk hb hc => (o.block k (Nat.lt_of_lt_of_le hk h.size)).trans (h.block k hk hb hc)⟩
theorem Off2.trans (h : Off2 b c w w1) (o : Off2 b c w1 w2) : Off2 b c w w2 := ⟨o.os.trans h.os, o.tape.trans h.tape, o.output.trans h.output, Nat.le_trans h.size o.size, fun k hk hb hc => (o.block k (Nat.lt_of_lt_of_le hk h.size) hb hc).trans (h.block k hk hb hc)⟩
theorem Off2.bel {B : Nat} (h : Off2 b c w w1) (hb : B ≤ b) (hc : B ≤ c) (hB : B ≤ w.heap.size) : Below B w w1 := ⟨h.os, h.tape, h.output, h.size, fun k hk => h.block k (by omega) (by omega) (by omega)⟩
theorem Off2.one (h : Off2 b c w w1) (hc : w.heap.size ≤ c) : Pk.Off b w w1 := ⟨h.os, h.tape, h.output, h.size, fun k hk hb => h.block k hk hb (by omega)⟩
end
/-- The reader, the places and the row of pointers while they are read. -/
structure RpS (w wx : World) (b g b0 : Nat) (G C : Array Value) (t : TypeId) (q : Lf) : Prop where
  rd : RdS wx b q
  gp : Blk wx g G 154
  bl : Blk wx b0 C t
  off : Off2 b b0 w wx
  n1 : b ≠ g
  n2 : b ≠ b0
  n3 : g ≠ b0
section
variable {w wx wq : World} {b g b0 : Nat} {G C : Array Value} {t : TypeId} {q : Lf}
theorem RpS.num (h : RpS w wx b g b0 G C t q) (k : Int) : Calls Tryz.prog 70 #[.pointer (some ⟨b, 0, none⟩), .int .i64 k] wx fun r w' => r = .returned (.int .i64 (nN q k)) ∧ RpS w w' b g b0 G C t (sN q k) :=
  (h.rd.num k).mono fun e w' ⟨he, h1, o1⟩ => ⟨he, ⟨h1, h.gp.off o1 (fun e => h.n1 e.symm), h.bl.off o1 (fun e => h.n2 e.symm), h.off.left o1, h.n1, h.n2, h.n3⟩⟩
theorem RpS.put {C' : Array Value} (h : RpS w wx b g b0 G C t q) (P : PutB wx wq b0 C' t) : RpS w wq b g b0 G C' t q :=
  ⟨h.rd.off P.off h.n2, h.gp.off P.off h.n3, P.bl, h.off.right P.off, h.n1, h.n2, h.n3⟩
end
set_option maxHeartbeats 1000000 in
theorem readPlaces_2 {w : World} {b g b0 k0 k1 : Nat} {C : Array Value} {t : TypeId} {q : Lf} (H : RpS w w b g b0 #[.pointer (some ⟨b0, k0, none⟩), .pointer (some ⟨b0, k1, none⟩)] C t q) (h0 : k0 < C.size) (h1 : k1 < C.size) :
    Calls Tryz.prog 107 #[.pointer (some ⟨b, 0, none⟩), .slice (some ⟨g, 0, none⟩) 2 2] w fun e w' => e = .returned (.tuple #[]) ∧ RdS w' b (sN (sN q 6) 6) ∧ Blk w' b0 ((C.setIfInBounds k0 (.int .i64 (nN q 6))).setIfInBounds k1 (.int .i64 (nN (sN q 6) 6))) t ∧ Off2 b b0 w w' := by
  have h1' : ∀ v, k1 < (C.setIfInBounds k0 v).size := fun v => by simpa using h1
  have z0 := H.gp.cell 0
  have z1 := H.gp.cell 1
  simp only [List.getElem?_toArray, List.getElem?_cons_zero, List.getElem?_cons_succ] at z0 z1
  go_enter Tryz.func107, Tryz.ntmps107
  go_wp2
  refine wp_loop_rounds 3 ?_
  rw [rounds_succ]
  go_wp2_with (first
    | (go_at_call 70; refine (H.num _).mono ?_; clear H; rintro e w1 ⟨rfl, H⟩)
    | (refine wpList_bput _ rfl 3 (.tmp 15) (.tmp 14) rfl rfl rfl H.bl h0 rfl (by kernel_rfl) ?_; intro w2 P2; have H1 := H.put P2; clear H P2; have H := H1; clear H1; have z1 := H.gp.cell 1; simp only [List.getElem?_toArray, List.getElem?_cons_zero, List.getElem?_cons_succ] at z1))
  rw [rounds_succ]
  go_wp2_with (first
    | (go_at_call 70; refine (H.num _).mono ?_; clear H; rintro e w1 ⟨rfl, H⟩)
    | (refine wpList_bput _ rfl 3 (.tmp 15) (.tmp 14) rfl rfl rfl H.bl (h1' _) rfl (by kernel_rfl) ?_; intro w2 P2; have H1 := H.put P2; clear H P2; have H := H1; clear H1))
  rw [rounds_succ]
  go_wp2
  go_end0
  exact ⟨rfl, H.rd, H.bl, H.off⟩
set_option maxHeartbeats 1000000 in
theorem readPlaces_3 {w : World} {b g b0 k0 k1 k2 : Nat} {C : Array Value} {t : TypeId} {q : Lf} (H : RpS w w b g b0 #[.pointer (some ⟨b0, k0, none⟩), .pointer (some ⟨b0, k1, none⟩), .pointer (some ⟨b0, k2, none⟩)] C t q) (h0 : k0 < C.size) (h1 : k1 < C.size) (h2 : k2 < C.size) :
    Calls Tryz.prog 107 #[.pointer (some ⟨b, 0, none⟩), .slice (some ⟨g, 0, none⟩) 3 3] w fun e w' => e = .returned (.tuple #[]) ∧ RdS w' b (sN (sN (sN q 6) 6) 6) ∧ Blk w' b0 (((C.setIfInBounds k0 (.int .i64 (nN q 6))).setIfInBounds k1 (.int .i64 (nN (sN q 6) 6))).setIfInBounds k2 (.int .i64 (nN (sN (sN q 6) 6) 6))) t ∧ Off2 b b0 w w' := by
  have h1' : ∀ v, k1 < (C.setIfInBounds k0 v).size := fun v => by simpa using h1
  have h2' : ∀ v u, k2 < ((C.setIfInBounds k0 v).setIfInBounds k1 u).size := fun v u => by simpa using h2
  have z0 := H.gp.cell 0
  simp only [List.getElem?_toArray, List.getElem?_cons_zero, List.getElem?_cons_succ] at z0
  go_enter Tryz.func107, Tryz.ntmps107
  go_wp2
  refine wp_loop_rounds 4 ?_
  rw [rounds_succ]
  go_wp2_with (first
    | (go_at_call 70; refine (H.num _).mono ?_; clear H; rintro e w1 ⟨rfl, H⟩)
    | (refine wpList_bput _ rfl 3 (.tmp 15) (.tmp 14) rfl rfl rfl H.bl h0 rfl (by kernel_rfl) ?_; intro w2 P2; have H1 := H.put P2; clear H P2; have H := H1; clear H1; have z1 := H.gp.cell 1; simp only [List.getElem?_toArray, List.getElem?_cons_zero, List.getElem?_cons_succ] at z1))
  rw [rounds_succ]
  go_wp2_with (first
    | (go_at_call 70; refine (H.num _).mono ?_; clear H; rintro e w1 ⟨rfl, H⟩)
    | (refine wpList_bput _ rfl 3 (.tmp 15) (.tmp 14) rfl rfl rfl H.bl (h1' _) rfl (by kernel_rfl) ?_; intro w2 P2; have H1 := H.put P2; clear H P2; have H := H1; clear H1; have z2 := H.gp.cell 2; simp only [List.getElem?_toArray, List.getElem?_cons_zero, List.getElem?_cons_succ] at z2))
  rw [rounds_succ]
  go_wp2_with (first
    | (go_at_call 70; refine (H.num _).mono ?_; clear H; rintro e w1 ⟨rfl, H⟩)
    | (refine wpList_bput _ rfl 3 (.tmp 15) (.tmp 14) rfl rfl rfl H.bl (h2' _ _) rfl (by kernel_rfl) ?_; intro w2 P2; have H1 := H.put P2; clear H P2; have H := H1; clear H1))
  rw [rounds_succ]
  go_wp2
  go_end0
  exact ⟨rfl, H.rd, H.bl, H.off⟩
end Go.Proofs.YtgcfbjecmmnlhaaGreat

namespace Go.Proofs.YtgcfbjecmmnlhaaGreat
open Go.RowKit
set_option linter.unusedVariables false
set_option linter.unusedSimpArgs false
set_option maxRecDepth 100000

/-- A reader in block b beside a record in block b0. -/
structure RcS (w wx : World) (b b0 : Nat) (s : Sc) (I T : Value) (q : Lf) : Prop where
  rd : RdS wx b q
  rc : RcAt wx b0 s I T
  off : Off2 b b0 w wx
  ne : b ≠ b0
section
variable {w wx wq : World} {b b0 : Nat} {s s' : Sc} {I T I' T' : Value} {q : Lf}
theorem RcS.num (h : RcS w wx b b0 s I T q) (k : Int) : Calls Tryz.prog 70 #[.pointer (some ⟨b, 0, none⟩), .int .i64 k] wx fun r w' => r = .returned (.int .i64 (nN q k)) ∧ RcS w w' b b0 s I T (sN q k) :=
  (h.rd.num k).mono fun e w' ⟨he, h1, o1⟩ => ⟨he, ⟨h1, h.rc.off o1 (fun e => h.ne e.symm), h.off.left o1, h.ne⟩⟩
theorem RcS.text (h : RcS w wx b b0 s I T q) (m : Int) : Calls Tryz.prog 117 #[.pointer (some ⟨b, 0, none⟩), .int .i64 m] wx fun r w' => r = .returned (.string (tT q m)) ∧ RcS w w' b b0 s I T (sT q m) :=
  (h.rd.text m).mono fun e w' ⟨he, h1, o1⟩ => ⟨he, ⟨h1, h.rc.off o1 (fun e => h.ne e.symm), h.off.left o1, h.ne⟩⟩
theorem RcS.put (h : RcS w wx b b0 s I T q) (P : PutR wx wq b0 s' I' T') : RcS w wq b b0 s' I' T' q := ⟨h.rd.off P.off h.ne, P.rc, h.off.right P.off, h.ne⟩
theorem RcS.below (h : RcS w wx b b0 s I T q) (hb : Below wx.heap.size wx wq) : RcS w wq b b0 s I T q := ⟨h.rd.below hb, h.rc.below hb, h.off.below hb, h.ne⟩
/-- The same, and the pointers to the values. -/
structure RvS (w wx : World) (b b0 g : Nat) (s : Sc) (I T : Value) (q : Lf) (P : Array Value) : Prop where
  r : RcS w wx b b0 s I T q
  pg : Blk wx g P 148
  n1 : g ≠ b
  n2 : g ≠ b0
theorem RvS.text {g : Nat} {P : Array Value} (h : RvS w wx b b0 g s I T q P) (m : Int) : Calls Tryz.prog 117 #[.pointer (some ⟨b, 0, none⟩), .int .i64 m] wx fun r w' => r = .returned (.string (tT q m)) ∧ RvS w w' b b0 g s I T (sT q m) P :=
  (h.r.rd.text m).mono fun e w' ⟨he, h1, o1⟩ => ⟨he, ⟨⟨h1, h.r.rc.off o1 (fun e => h.r.ne e.symm), h.r.off.left o1, h.r.ne⟩, h.pg.off o1 h.n1, h.n1, h.n2⟩⟩
theorem RvS.put {g : Nat} {P : Array Value} (h : RvS w wx b b0 g s I T q P) (Q : PutR wx wq b0 s' I' T') : RvS w wq b b0 g s' I' T' q P := ⟨h.r.put Q, h.pg.off Q.off h.n2, h.n1, h.n2⟩
end
section
variable {w : World} {b b0 : Nat} {s : Sc} {I T : Value} {q : Lf}
set_option maxHeartbeats 1000000 in
theorem readChange_3 (H : RcS w w b b0 s I T q) (ha : actOf s = 3) : Calls Tryz.prog 108 #[.pointer (some ⟨b, 0, none⟩), .pointer (some ⟨b0, 0, none⟩)] w fun e w' => e = .returned (.tuple #[]) ∧ RcS w w' b b0 (rcN s q) I T (sT (rq1 q) 32) := by
  have CV : Hid (∀ wr q', RcS w wr b b0 (rc1 s q) I T q' → Calls Tryz.prog 101 #[.pointer (some ⟨b0, 0, none⟩)] wr fun e w' => ∃ g, e = .returned (.slice (some ⟨g, 0, none⟩) 1 1) ∧ RvS w w' b b0 g (rc1 s q) I T q' #[.pointer (some ⟨b0, 7, none⟩)]) := fun wr q' R => by
    refine (values_3 R.rc ha).mono ?_
    rintro e w' ⟨he, hw'⟩
    refine ⟨wr.heap.size, he, ?_⟩
    subst hw'
    refine ⟨R.below ((Below.refl _ _).alloc (Nat.le_refl _) _), ⟨(MapKept.heap_alloc wr _).1⟩, by have := R.rd.lt; omega, by have := R.rc.lt; omega⟩
  go_enter Tryz.func108, Tryz.ntmps108
  go_wp2_with (first
    | (go_at_call 70; refine (H.num _).mono ?_; clear H; rintro e w1 ⟨rfl, H⟩)
    | (refine wpList_at (Op.store 3 (.tmp 10) (.tmp 8)) rfl ?_; refine wpList_fput (s' := {s with pg := nN q 2}) (I' := I) (T' := T) _ rfl 3 (.tmp 10) (.tmp 8) rfl rfl rfl H.rc (by omega) rfl (by kernel_rfl) rfl ?_; intro w2 P2; have H1 := H.put P2; clear H P2; have H := H1; clear H1)
    | (go_at_call 117; refine (H.text _).mono ?_; clear H; rintro e w3 ⟨rfl, H⟩; rw [show sT (sN q 2) 16 = rq1 q from rfl] at H)
    | (refine wpList_at (Op.store 9 (.tmp 15) (.tmp 13)) rfl ?_; refine wpList_fput (s' := (rc1 s q)) (I' := I) (T' := T) _ rfl 9 (.tmp 15) (.tmp 13) rfl rfl rfl H.rc (by omega) rfl (by kernel_rfl) ?_ ?_; exact rc1_set s q I T; intro w2 P2; have H1 := H.put P2; clear H P2; have H := H1; clear H1)
    | (go_at_call 101; refine (CV.out _ _ H).mono ?_; clear H; rintro e w4 ⟨g, rfl, LV⟩; have g0 := LV.pg.cell 0; simp only [List.getElem?_toArray, List.getElem?_cons_zero, List.getElem?_cons_succ] at g0))
  refine wp_loop_rounds 2 ?_
  rw [rounds_succ]
  go_wp2_with (first
    | (go_at_call 117; refine (LV.text _).mono ?_; clear LV; rintro e w4 ⟨rfl, LV⟩)
    | (refine wpList_at (Op.store 9 (.tmp 26) (.tmp 25)) rfl ?_; refine wpList_fput (s' := (rcN s q)) (I' := I) (T' := T) _ rfl 9 (.tmp 26) (.tmp 25) rfl rfl rfl LV.r.rc (by omega) rfl (by kernel_rfl) ?_ ?_; exact rcN_set s q I T; intro w5 P5; have L1 := LV.put P5; clear LV P5; have LV := L1; clear L1; have g0 := LV.pg.cell 0; simp only [List.getElem?_toArray, List.getElem?_cons_zero, List.getElem?_cons_succ] at g0))
  rw [rounds_succ]
  go_wp2
  go_end0
  exact ⟨rfl, LV.r⟩
set_option maxHeartbeats 1000000 in
theorem readChange_4 (H : RcS w w b b0 s I T q) (ha : actOf s = 4) : Calls Tryz.prog 108 #[.pointer (some ⟨b, 0, none⟩), .pointer (some ⟨b0, 0, none⟩)] w fun e w' => e = .returned (.tuple #[]) ∧ RcS w w' b b0 (rcO s q) I T (sT (rq1 q) 32) := by
  have CV : Hid (∀ wr q', RcS w wr b b0 (rc1 s q) I T q' → Calls Tryz.prog 101 #[.pointer (some ⟨b0, 0, none⟩)] wr fun e w' => ∃ g, e = .returned (.slice (some ⟨g, 0, none⟩) 1 1) ∧ RvS w w' b b0 g (rc1 s q) I T q' #[.pointer (some ⟨b0, 6, none⟩)]) := fun wr q' R => by
    refine (values_4 R.rc ha).mono ?_
    rintro e w' ⟨he, hw'⟩
    refine ⟨wr.heap.size, he, ?_⟩
    subst hw'
    refine ⟨R.below ((Below.refl _ _).alloc (Nat.le_refl _) _), ⟨(MapKept.heap_alloc wr _).1⟩, by have := R.rd.lt; omega, by have := R.rc.lt; omega⟩
  go_enter Tryz.func108, Tryz.ntmps108
  go_wp2_with (first
    | (go_at_call 70; refine (H.num _).mono ?_; clear H; rintro e w1 ⟨rfl, H⟩)
    | (refine wpList_at (Op.store 3 (.tmp 10) (.tmp 8)) rfl ?_; refine wpList_fput (s' := {s with pg := nN q 2}) (I' := I) (T' := T) _ rfl 3 (.tmp 10) (.tmp 8) rfl rfl rfl H.rc (by omega) rfl (by kernel_rfl) rfl ?_; intro w2 P2; have H1 := H.put P2; clear H P2; have H := H1; clear H1)
    | (go_at_call 117; refine (H.text _).mono ?_; clear H; rintro e w3 ⟨rfl, H⟩; rw [show sT (sN q 2) 16 = rq1 q from rfl] at H)
    | (refine wpList_at (Op.store 9 (.tmp 15) (.tmp 13)) rfl ?_; refine wpList_fput (s' := (rc1 s q)) (I' := I) (T' := T) _ rfl 9 (.tmp 15) (.tmp 13) rfl rfl rfl H.rc (by omega) rfl (by kernel_rfl) ?_ ?_; exact rc1_set s q I T; intro w2 P2; have H1 := H.put P2; clear H P2; have H := H1; clear H1)
    | (go_at_call 101; refine (CV.out _ _ H).mono ?_; clear H; rintro e w4 ⟨g, rfl, LV⟩; have g0 := LV.pg.cell 0; simp only [List.getElem?_toArray, List.getElem?_cons_zero, List.getElem?_cons_succ] at g0))
  refine wp_loop_rounds 2 ?_
  rw [rounds_succ]
  go_wp2_with (first
    | (go_at_call 117; refine (LV.text _).mono ?_; clear LV; rintro e w4 ⟨rfl, LV⟩)
    | (refine wpList_at (Op.store 9 (.tmp 26) (.tmp 25)) rfl ?_; refine wpList_fput (s' := (rcO s q)) (I' := I) (T' := T) _ rfl 9 (.tmp 26) (.tmp 25) rfl rfl rfl LV.r.rc (by omega) rfl (by kernel_rfl) ?_ ?_; exact rcO_set s q I T; intro w5 P5; have L1 := LV.put P5; clear LV P5; have LV := L1; clear L1; have g0 := LV.pg.cell 0; simp only [List.getElem?_toArray, List.getElem?_cons_zero, List.getElem?_cons_succ] at g0))
  rw [rounds_succ]
  go_wp2
  go_end0
  exact ⟨rfl, LV.r⟩
set_option maxHeartbeats 1000000 in
theorem readChange_o (H : RcS w w b b0 s I T q) (h3 : actOf s ≠ 3) (h4 : actOf s ≠ 4) : Calls Tryz.prog 108 #[.pointer (some ⟨b, 0, none⟩), .pointer (some ⟨b0, 0, none⟩)] w fun e w' => e = .returned (.tuple #[]) ∧ RcS w w' b b0 (rcB s q) I T (sT (sT (rq1 q) 32) 32) := by
  have CV : Hid (∀ wr q', RcS w wr b b0 (rc1 s q) I T q' → Calls Tryz.prog 101 #[.pointer (some ⟨b0, 0, none⟩)] wr fun e w' => ∃ g, e = .returned (.slice (some ⟨g, 0, none⟩) 2 2) ∧ RvS w w' b b0 g (rc1 s q) I T q' #[.pointer (some ⟨b0, 6, none⟩), .pointer (some ⟨b0, 7, none⟩)]) := fun wr q' R => by
    refine (values_o R.rc h3 h4).mono ?_
    rintro e w' ⟨he, hw'⟩
    refine ⟨wr.heap.size, he, ?_⟩
    subst hw'
    refine ⟨R.below (((Below.refl _ _).drew).alloc (Nat.le_refl _) _), ⟨(MapKept.heap_alloc wr.drew _).1⟩, by have := R.rd.lt; omega, by have := R.rc.lt; omega⟩
  go_enter Tryz.func108, Tryz.ntmps108
  go_wp2_with (first
    | (go_at_call 70; refine (H.num _).mono ?_; clear H; rintro e w1 ⟨rfl, H⟩)
    | (refine wpList_at (Op.store 3 (.tmp 10) (.tmp 8)) rfl ?_; refine wpList_fput (s' := {s with pg := nN q 2}) (I' := I) (T' := T) _ rfl 3 (.tmp 10) (.tmp 8) rfl rfl rfl H.rc (by omega) rfl (by kernel_rfl) rfl ?_; intro w2 P2; have H1 := H.put P2; clear H P2; have H := H1; clear H1)
    | (go_at_call 117; refine (H.text _).mono ?_; clear H; rintro e w3 ⟨rfl, H⟩; rw [show sT (sN q 2) 16 = rq1 q from rfl] at H)
    | (refine wpList_at (Op.store 9 (.tmp 15) (.tmp 13)) rfl ?_; refine wpList_fput (s' := (rc1 s q)) (I' := I) (T' := T) _ rfl 9 (.tmp 15) (.tmp 13) rfl rfl rfl H.rc (by omega) rfl (by kernel_rfl) ?_ ?_; exact rc1_set s q I T; intro w2 P2; have H1 := H.put P2; clear H P2; have H := H1; clear H1)
    | (go_at_call 101; refine (CV.out _ _ H).mono ?_; clear H; rintro e w4 ⟨g, rfl, LV⟩; have g0 := LV.pg.cell 0; simp only [List.getElem?_toArray, List.getElem?_cons_zero, List.getElem?_cons_succ] at g0; have g1 := LV.pg.cell 1; simp only [List.getElem?_toArray, List.getElem?_cons_zero, List.getElem?_cons_succ] at g1))
  refine wp_loop_rounds 3 ?_
  rw [rounds_succ]
  go_wp2_with (first
    | (go_at_call 117; refine (LV.text _).mono ?_; clear LV; rintro e w4 ⟨rfl, LV⟩)
    | (refine wpList_at (Op.store 9 (.tmp 26) (.tmp 25)) rfl ?_; refine wpList_fput (s' := (rcO s q)) (I' := I) (T' := T) _ rfl 9 (.tmp 26) (.tmp 25) rfl rfl rfl LV.r.rc (by omega) rfl (by kernel_rfl) ?_ ?_; exact rcO_set s q I T; intro w5 P5; have L1 := LV.put P5; clear LV P5; have LV := L1; clear L1; have g0 := LV.pg.cell 0; simp only [List.getElem?_toArray, List.getElem?_cons_zero, List.getElem?_cons_succ] at g0; have g1 := LV.pg.cell 1; simp only [List.getElem?_toArray, List.getElem?_cons_zero, List.getElem?_cons_succ] at g1))
  rw [rounds_succ]
  go_wp2_with (first
    | (go_at_call 117; refine (LV.text _).mono ?_; clear LV; rintro e w4 ⟨rfl, LV⟩)
    | (refine wpList_at (Op.store 9 (.tmp 26) (.tmp 25)) rfl ?_; refine wpList_fput (s' := (rcB s q)) (I' := I) (T' := T) _ rfl 9 (.tmp 26) (.tmp 25) rfl rfl rfl LV.r.rc (by omega) rfl (by kernel_rfl) ?_ ?_; exact rcB_set s q I T; intro w5 P5; have L1 := LV.put P5; clear LV P5; have LV := L1; clear L1; have g0 := LV.pg.cell 0; simp only [List.getElem?_toArray, List.getElem?_cons_zero, List.getElem?_cons_succ] at g0; have g1 := LV.pg.cell 1; simp only [List.getElem?_toArray, List.getElem?_cons_zero, List.getElem?_cons_succ] at g1))
  rw [rounds_succ]
  go_wp2
  go_end0
  exact ⟨rfl, LV.r⟩
theorem readChange_any (H : RcS w w b b0 s I T q) (act : Int) (ha : act = actOf s) : Calls Tryz.prog 108 #[.pointer (some ⟨b, 0, none⟩), .pointer (some ⟨b0, 0, none⟩)] w fun e w' => e = .returned (.tuple #[]) ∧ RcS w w' b b0 (rdChg act s q).1 I T (rdChg act s q).2 := by
  unfold rdChg
  rw [ha]
  by_cases h3 : actOf s = 3
  · rw [if_pos h3]
    exact readChange_3 H h3
  · by_cases h4 : actOf s = 4
    · rw [if_neg h3, if_pos h4]
      exact readChange_4 H h4
    · rw [if_neg h3, if_neg h4]
      exact readChange_o H h3 h4
end
theorem Own.off {el : TypeId} {B b : Nat} {w w' : World} {a : Option Addr} {cap : Nat} {xs : List P2} (h : Own el B w a cap xs) (o : Pk.Off b w w') (hb : b < B) : Own el B w' a cap xs :=
  ⟨h.row.kept (fun k hk => o.block k (h.row.lt k hk) (fun e => by have := h.fresh k hk; omega)), h.fresh⟩
theorem Pk.Off.bel {b : Nat} {w w1 w2 : World} (h : Pk.Off b w w1) (hb : Below w.heap.size w1 w2) : Pk.Off b w w2 := ⟨hb.os.trans h.os, hb.tape.trans h.tape, hb.output.trans h.output, Nat.le_trans h.size hb.size, fun k hk hkb => (hb.block k hk).trans (h.block k hk hkb)⟩
theorem RdS.bel {w w' : World} {b B : Nat} {q : Lf} (h : RdS w b q) (hb : Below B w w') (hB : b < B) : RdS w' b q := ⟨(hb.block b hB).trans h.rd, h.sz⟩
theorem cs_one (w : World) (p : P2) (t : TypeId) : Cs (w.alloc (.cells #[p.1, p.2] t)) (some ⟨w.heap.size, 0, none⟩) [p] := ⟨fun i hi => by
  have h0 : i = 0 := by simpa using hi
  subst h0
  exact ⟨w.heap.size, 0, rfl, by simp, Joins.cell_of_block (MapKept.heap_alloc w _).1 0, Joins.cell_of_block (MapKept.heap_alloc w _).1 1⟩⟩
set_option maxHeartbeats 1000000 in
theorem readImages_any {w : World} {b : Nat} {q : Lf} (h : RdS w b q) : Calls Tryz.prog 106 #[.pointer (some ⟨b, 0, none⟩)] w fun e w' => (∃ v, e = .returned v ∧ Fr w' v (encI (rdImL (sN q 1) (nN q 1).toNat)) w.heap.size) ∧ RdS w' b (rdImS (sN q 1) (nN q 1).toNat) ∧ Pk.Off b w w' := by
  obtain ⟨n, hn⟩ : ∃ n : Nat, nN q 1 = n := ⟨(nN q 1).toNat, by have := nN_nonneg q 1; omega⟩
  have hn2 : n ≤ 255 := by have := nN_one q; omega
  have hbl := h.lt
  have C0 : Hid (Calls Tryz.prog 70 #[.pointer (some ⟨b, 0, none⟩), .int .i64 1] w fun r w' => r = .returned (.int .i64 (n : Int)) ∧ RdS w' b (sN q 1) ∧ Pk.Off b w w') := by rw [← hn]; exact h.num 1
  have HN : Hid ((nN q 1).toNat = n) := (by rw [hn]; rfl : (nN q 1).toNat = n)
  rw [HN.out]
  generalize sN q 1 = q1 at *
  clear hn h HN
  go_enter Tryz.func106, Tryz.ntmps106
  go_wp2_with (go_at_call 70; refine C0.out.mono ?_; clear C0; rintro e w1 ⟨rfl, h1, o1⟩)
  go_loopw [3, 8] (fun pv ix wr => ∃ (j : Nat) (a : Option Addr) (c : Nat), j ≤ n ∧ ix = .int .i64 (j : Int) ∧ pv = .slice a j c ∧ Own 111 w.heap.size wr a c (encI (rdImL q1 j)) ∧ RdS wr b (rdImS q1 j) ∧ Pk.Off b w wr) (fun _ ix _ => n - (intOf ix).toNat)
  case atStart => exact ⟨0, none, 0, Nat.zero_le _, rfl, rfl, Own.nil _ _ _, h1, o1⟩
  case round =>
    clear h1 o1
    obtain ⟨j, a, c, hj, rfl, rfl, hO, hR, ho⟩ := hrel
    by_cases hlt : j < n
    · have hi2 : (j : Int) < (n : Int) := by omega
      have hln : j = (encI (rdImL q1 j)).length := by rw [encI_length, rdImL_length]
      have HS : Hid (encI (rdImL q1 (j + 1)) = encI (rdImL q1 j) ++ [(.int .i64 (rdImF q1 j).1, .string (rdImF q1 j).2)]) := (by rw [rdImL_succ, encI_append]; rfl : encI (rdImL q1 (j + 1)) = encI (rdImL q1 j) ++ [(.int .i64 (rdImF q1 j).1, .string (rdImF q1 j).2)])
      have HQ : Hid (rdImS q1 (j + 1) = sT (sN (rdImS q1 j) 2) 224) := (rfl : rdImS q1 (j + 1) = sT (sN (rdImS q1 j) 2) 224)
      have HF : Hid (rdImF q1 j = (nN (rdImS q1 j) 2, tT (sN (rdImS q1 j) 2) 224)) := (rfl : rdImF q1 j = (nN (rdImS q1 j) 2, tT (sN (rdImS q1 j) 2) 224))
      have HL : Hid (j = (encI (rdImL q1 j)).length) := hln
      clear hln
      generalize encI (rdImL q1 j) = xs at *
      generalize rdImS q1 j = qj at *
      have hzz := ho.size
      have hBz : w.heap.size ≤ wr.heap.size := hzz
      go_wp2_with (first
        | (go_at_call 70; refine (hR.num _).mono ?_; clear hR; rintro e w2 ⟨rfl, hR2, o2⟩; have hO2 := hO.off o2 hbl; have ho2 := ho.trans o2; clear hO ho o2)
        | (go_at_call 117; refine (hR2.text _).mono ?_; clear hR2; rintro e w3 ⟨rfl, hR3, o3⟩; have hO3 := hO2.off o3 hbl; have ho3 := ho2.trans o3; clear hO2 ho2 o3; have BA : Below w3.heap.size w3 (w3.alloc (.cells #[.int .i64 (nN qj 2), .string (tT (sN qj 2) 224)] 111)) := (Below.refl _ _).alloc (Nat.le_refl _) _; have hO4 := hO3.below BA; have hz4 : w.heap.size ≤ (w3.alloc (.cells #[.int .i64 (nN qj 2), .string (tT (sN qj 2) 224)] 111)).heap.size := Nat.le_trans ho3.size BA.size)
        | (refine wpList_append_own' two_im (B := w.heap.size) rfl (.tmp 14) (.tmp 18) rfl rfl HL.out hO4 hz4 rfl (m := 1) (news := [(.int .i64 (nN qj 2), .string (tT (sN qj 2) 224))]) rfl (fun e => by cases e) (cs_one w3 (.int .i64 (nN qj 2), .string (tT (sN qj 2) 224)) 111) (fun p hp => by simp at hp; subst hp; exact ⟨rfl, rfl⟩) (by omega) ?_; intro a5 c5 w5 hO5 B5))
      go_roundw
      case rel =>
        refine ⟨j + 1, a5, c5, by omega, by go_num, rfl, ?_, ?_, ?_⟩
        · rw [HS.out, HF.out]; exact hO5
        · rw [HQ.out]; exact (hR3.below BA).bel B5 hbl
        · exact (ho3.trans (Pk.Off.of_below BA)).bel B5
      case measure => simp [intOf]; omega
    · have hjn : j = n := by omega
      subst hjn
      have hi2 : ¬ (j : Int) < (j : Int) := by omega
      go_wp2
      go_ret
      refine ⟨⟨_, rfl, ?_⟩, hR, ho⟩
      have := hO.fr
      rw [encI_length, rdImL_length] at this
      exact this
set_option maxHeartbeats 1000000 in
theorem readTable_any {w : World} {b : Nat} {q : Lf} (h : RdS w b q) : Calls Tryz.prog 109 #[.pointer (some ⟨b, 0, none⟩)] w fun e w' => (∃ v, e = .returned v ∧ Fr w' v (encT (rdTbL (sN q 1) (nN q 1).toNat)) w.heap.size) ∧ RdS w' b (rdTbS (sN q 1) (nN q 1).toNat) ∧ Pk.Off b w w' := by
  obtain ⟨n, hn⟩ : ∃ n : Nat, nN q 1 = n := ⟨(nN q 1).toNat, by have := nN_nonneg q 1; omega⟩
  have hn2 : n ≤ 255 := by have := nN_one q; omega
  have hbl := h.lt
  have C0 : Hid (Calls Tryz.prog 70 #[.pointer (some ⟨b, 0, none⟩), .int .i64 1] w fun r w' => r = .returned (.int .i64 (n : Int)) ∧ RdS w' b (sN q 1) ∧ Pk.Off b w w') := by rw [← hn]; exact h.num 1
  have HN : Hid ((nN q 1).toNat = n) := (by rw [hn]; rfl : (nN q 1).toNat = n)
  rw [HN.out]
  generalize sN q 1 = q1 at *
  clear hn h HN
  go_enter Tryz.func109, Tryz.ntmps109
  go_wp2_with (go_at_call 70; refine C0.out.mono ?_; clear C0; rintro e w1 ⟨rfl, h1, o1⟩)
  go_loopw [3, 7] (fun pv ix wr => ∃ (j : Nat) (a : Option Addr) (c : Nat), j ≤ n ∧ ix = .int .i64 (j : Int) ∧ pv = .slice a j c ∧ Own 113 w.heap.size wr a c (encT (rdTbL q1 j)) ∧ RdS wr b (rdTbS q1 j) ∧ Pk.Off b w wr) (fun _ ix _ => n - (intOf ix).toNat)
  case atStart => exact ⟨0, none, 0, Nat.zero_le _, rfl, rfl, Own.nil _ _ _, h1, o1⟩
  case round =>
    clear h1 o1
    obtain ⟨j, a, c, hj, rfl, rfl, hO, hR, ho⟩ := hrel
    by_cases hlt : j < n
    · have hi2 : (j : Int) < (n : Int) := by omega
      have hln : j = (encT (rdTbL q1 j)).length := by rw [encT_length, rdTbL_length]
      have HS : Hid (encT (rdTbL q1 (j + 1)) = encT (rdTbL q1 j) ++ [(.int .i64 (rdTbF q1 j).1, .int .i64 (rdTbF q1 j).2)]) := (by rw [rdTbL_succ, encT_append]; rfl : encT (rdTbL q1 (j + 1)) = encT (rdTbL q1 j) ++ [(.int .i64 (rdTbF q1 j).1, .int .i64 (rdTbF q1 j).2)])
      have HQ : Hid (rdTbS q1 (j + 1) = sN (sN (rdTbS q1 j) 6) 6) := (rfl : rdTbS q1 (j + 1) = sN (sN (rdTbS q1 j) 6) 6)
      have HF : Hid (rdTbF q1 j = (nN (rdTbS q1 j) 6, nN (sN (rdTbS q1 j) 6) 6)) := (rfl : rdTbF q1 j = (nN (rdTbS q1 j) 6, nN (sN (rdTbS q1 j) 6) 6))
      have HL : Hid (j = (encT (rdTbL q1 j)).length) := hln
      clear hln
      generalize encT (rdTbL q1 j) = xs at *
      generalize rdTbS q1 j = qj at *
      have hBz := ho.size
      have hbr := hR.lt
      have CP : Hid (∀ w2, w2 = (wr.alloc (.cells #[.int .i64 0, .int .i64 0] 113)).alloc (.cells #[.pointer (some ⟨wr.heap.size, 0, none⟩), .pointer (some ⟨wr.heap.size, 1, none⟩)] 154) → Calls Tryz.prog 107 #[.pointer (some ⟨b, 0, none⟩), .slice (some ⟨wr.heap.size + 1, 0, none⟩) 2 2] w2 fun e w' => e = .returned (.tuple #[]) ∧ RdS w' b (sN (sN qj 6) 6) ∧ Blk w' wr.heap.size #[.int .i64 (nN qj 6), .int .i64 (nN (sN qj 6) 6)] 113 ∧ Pk.Off b wr w') := fun w2 h2 => by
        have b1 : Below wr.heap.size wr (wr.alloc (.cells #[.int .i64 0, .int .i64 0] 113)) := (Below.refl _ _).alloc (Nat.le_refl _) _
        have b2 : Below (wr.alloc (.cells #[.int .i64 0, .int .i64 0] 113)).heap.size (wr.alloc (.cells #[.int .i64 0, .int .i64 0] 113)) w2 := by subst h2; exact (Below.refl _ _).alloc (Nat.le_refl _) _
        have hz : (wr.alloc (.cells #[.int .i64 0, .int .i64 0] 113)).heap.size = wr.heap.size + 1 := by simp
        have bl : Blk w2 wr.heap.size #[.int .i64 0, .int .i64 0] 113 := (Blk.mk (MapKept.heap_alloc wr _).1).below b2
        have gp : Blk w2 (wr.heap.size + 1) #[.pointer (some ⟨wr.heap.size, 0, none⟩), .pointer (some ⟨wr.heap.size, 1, none⟩)] 154 := by
          have := (MapKept.heap_alloc (wr.alloc (.cells #[.int .i64 0, .int .i64 0] 113)) (.cells #[.pointer (some ⟨wr.heap.size, 0, none⟩), .pointer (some ⟨wr.heap.size, 1, none⟩)] 154)).1
          rw [hz] at this
          subst h2
          exact ⟨this⟩
        refine (readPlaces_2 (k0 := 0) (k1 := 1) (C := #[.int .i64 0, .int .i64 0]) ⟨(hR.below b1).below b2, gp, bl, Off2.refl _ _ _, by omega, by omega, by omega⟩ (by simp) (by simp)).mono ?_
        rintro e w3 ⟨he, h3, g3, o3⟩
        have bb := thn b1 b2
        have z2 := bb.size
        refine ⟨he, h3, g3, ⟨o3.os.trans bb.os, o3.tape.trans bb.tape, o3.output.trans bb.output, Nat.le_trans z2 o3.size, fun k hk hkb => (o3.block k (by omega) hkb (by omega)).trans (bb.block k hk)⟩⟩
      go_wp2_with (first
        | (go_at_call 107; refine (CP.out _ rfl).mono ?_; clear CP; rintro e w3 ⟨rfl, hR3, bl3, o3⟩; have hO3 := hO.off o3 hbl; have ho3 := ho.trans o3; clear hO; have BA : Below w3.heap.size w3 (w3.alloc (.cells #[.int .i64 (nN qj 6), .int .i64 (nN (sN qj 6) 6)] 113)) := (Below.refl _ _).alloc (Nat.le_refl _) _; have hO4 := hO3.below BA; have hz4 : w.heap.size ≤ (w3.alloc (.cells #[.int .i64 (nN qj 6), .int .i64 (nN (sN qj 6) 6)] 113)).heap.size := Nat.le_trans ho3.size BA.size; have m0 := bl3.cell 0; have m1 := bl3.cell 1; simp only [List.getElem?_toArray, List.getElem?_cons_zero, List.getElem?_cons_succ] at m0 m1)
        | (refine wpList_append_own' two_tb (B := w.heap.size) rfl (.tmp 14) (.tmp 16) rfl rfl HL.out hO4 hz4 rfl (m := 1) (news := [(.int .i64 (nN qj 6), .int .i64 (nN (sN qj 6) 6))]) rfl (fun e => by cases e) (cs_one w3 (.int .i64 (nN qj 6), .int .i64 (nN (sN qj 6) 6)) 113) (fun p hp => by simp at hp; subst hp; exact ⟨rfl, rfl⟩) (by omega) ?_; intro a5 c5 w5 hO5 B5))
      go_roundw
      case rel =>
        refine ⟨j + 1, a5, c5, by omega, by go_num, rfl, ?_, ?_, ?_⟩
        · rw [HS.out, HF.out]; exact hO5
        · rw [HQ.out]; exact (hR3.below BA).bel B5 hbl
        · exact (ho3.trans (Pk.Off.of_below BA)).bel B5
      case measure => simp [intOf]; omega
    · have hjn : j = n := by omega
      subst hjn
      have hi2 : ¬ (j : Int) < (j : Int) := by omega
      go_wp2
      go_ret
      refine ⟨⟨_, rfl, ?_⟩, hR, ho⟩
      have := hO.fr
      rw [encT_length, rdTbL_length] at this
      exact this
end Go.Proofs.YtgcfbjecmmnlhaaGreat

namespace Go.Proofs.YtgcfbjecmmnlhaaGreat
open Go.RowKit
set_option linter.unusedVariables false
set_option linter.unusedSimpArgs false
set_option maxRecDepth 100000

def fewM (m : Rm) : Rm := ⟨m.s, m.im.take 20, m.tb.take 300⟩
section
variable {w : World} {s : Sc} {a a' : Option Addr} {n n' c c' : Nat}
end
theorem Held.few {m : Rm} (h : Held m) : Small (fewM m) := by
  refine ⟨?_, ?_, ?_, h.ky, h.ol, h.nw⟩
  · show (m.im.take 20).length ≤ 1000
    rw [List.length_take]; omega
  · show (m.tb.take 300).length ≤ 1000
    rw [List.length_take]; omega
  · intro p hp
    exact h.t p (List.mem_of_mem_take hp)
end Go.Proofs.YtgcfbjecmmnlhaaGreat

namespace Go.Proofs.YtgcfbjecmmnlhaaGreat
open Go.RowKit
set_option linter.unusedVariables false
set_option linter.unusedSimpArgs false
set_option maxRecDepth 100000

theorem cv_one (w : World) (x : Int) :
    (convert 83 9 (.slice (some ⟨w.heap.size, 0, none⟩) 1 1)).run Tryz.prog (w.alloc (.cells #[.int .u8 x] 5)) = .ok (.string ⟨#[UInt8.ofNat x.toNat]⟩) (w.alloc (.cells #[.int .u8 x] 5)) := Pk.cv_one w x
theorem cv_two (w : World) (x y : Int) :
    (convert 83 9 (.slice (some ⟨w.heap.size, 0, none⟩) 2 2)).run Tryz.prog (w.alloc (.cells #[.int .u8 x, .int .u8 y] 5)) = .ok (.string ⟨#[UInt8.ofNat x.toNat, UInt8.ofNat y.toNat]⟩) (w.alloc (.cells #[.int .u8 x, .int .u8 y] 5)) := by
  have h := run_convert_bytes_arg (P := Tryz.prog) (w.alloc (.cells #[.int .u8 x, .int .u8 y] 5)) 83 5 Tryz.underlying83 Tryz.underlying5 w.heap.size 0 2 2 [x, y] rfl
    (fun i hi => by have : i = 0 ∨ i = 1 := by omega
                    rcases this with rfl | rfl <;> simp [go_sem]) 9 Tryz.underlying9
  rw [h]; rfl
theorem two_bytes (n : Nat) (h : n ≤ 65535) : (⟨#[UInt8.ofNat (n / 256), UInt8.ofNat (n % 256)]⟩ : ByteArray) = Pk.beS n 2 := by
  rw [Pk.beS_2, Nat.mod_eq_of_lt (show n / 256 < 256 by omega)]
end Go.Proofs.YtgcfbjecmmnlhaaGreat

namespace Go.Proofs.YtgcfbjecmmnlhaaGreat
open Go.RowKit
set_option linter.unusedVariables false
set_option linter.unusedSimpArgs false
set_option maxRecDepth 100000

theorem stepW_err {A : ByteArray × Int} {n k : Int} (h : (stepW A n k).2 = 0) : A.2 = 0 := by
  rcases Classical.em (A.2 = 0) with h0 | h0
  · exact h0
  · obtain ⟨a, e⟩ := A
    rw [stepW_had h0] at h
    exact h
theorem stepT_err {A : ByteArray × Int} {t : ByteArray} (h : (stepT A t).2 = 0) : A.2 = 0 := by
  rcases Classical.em (A.2 = 0) with h0 | h0
  · exact h0
  · obtain ⟨a, e⟩ := A
    rw [stepT_had h0] at h
    exact h
/-- What is laid, or the error; e0: the error that stood ahead. -/
structure Stt (e0 : Int) (A : ByteArray × Int) (j : Nat) : Prop where
  bare : Bare A
  sz : A.1.size ≤ j
  er : A.2 = 0 → e0 = 0
section
variable {e0 : Int} {A : ByteArray × Int} {j : Nat}
theorem Stt.start (e0 : Int) : Stt e0 (⟨#[]⟩, e0) 0 := ⟨fun _ => rfl, Nat.le_refl _, fun h => h⟩
theorem Stt.stepW (h : Stt e0 A j) (n k : Int) : Stt e0 (stepW A n k) (j + 6) := ⟨h.bare.stepW n k, by have := stepW_size A n k; have := h.sz; omega, fun e => h.er (stepW_err e)⟩
theorem Stt.stepT (h : Stt e0 A j) (t : ByteArray) : Stt e0 (stepT A t) (j + 65537) := ⟨h.bare.stepT t, by have := stepT_size A t; have := h.sz; omega, fun e => h.er (stepT_err e)⟩
theorem Stt.mono {j' : Nat} (h : Stt e0 A j) (hj : j ≤ j') : Stt e0 A j' := ⟨h.bare, Nat.le_trans h.sz hj, h.er⟩
end
theorem layI_had (l : List Im) {e : Int} (h : e ≠ 0) : layI l (⟨#[]⟩, e) = (⟨#[]⟩, e) := by
  induction l with
  | nil => rfl
  | cons p r ih =>
    show layI r (stepT (stepW (⟨#[]⟩, e) p.1 2) p.2) = _
    rw [stepW_had h, stepT_had h, ih]
theorem layB_had (l : List Tb) {e : Int} (h : e ≠ 0) : layB l (⟨#[]⟩, e) = (⟨#[]⟩, e) := by
  induction l with
  | nil => rfl
  | cons p r ih =>
    show layB r (stepW (stepW (⟨#[]⟩, e) p.1 6) p.2 6) = _
    rw [stepW_had h, stepW_had h, ih]
theorem layC_had (s : Sc) {e : Int} (h : e ≠ 0) : layC s (⟨#[]⟩, e) = (⟨#[]⟩, e) := by
  unfold layC layV
  rw [stepW_had h, stepT_had h, stepT_had h, stepT_had h, stepT_had h]
  split
  · rfl
  · split <;> rfl
theorem laidF_had (m : Rm) {e : Int} (h : e ≠ 0) : laidF m (⟨#[]⟩, e) = (⟨#[]⟩, e) := by
  unfold laidF
  dsimp only [layP, List.foldl]
  simp only [stepW_had h, layI_had _ h, layB_had _ h, layC_had _ h]
  repeat' split
  all_goals rfl
section
variable {w : World} {s : Sc} {I T : Value} {e0 : Int} {A : ByteArray × Int} {j : Nat}
end
end Go.Proofs.YtgcfbjecmmnlhaaGreat

namespace Go.Proofs.YtgcfbjecmmnlhaaGreat
open Go.RowKit
set_option linter.unusedVariables false
set_option linter.unusedSimpArgs false
set_option maxRecDepth 100000

def finM (A : ByteArray × Int) : ByteArray × Int := if A.2 = 0 ∧ 4096 < A.1.size then (⟨#[]⟩, 3) else A
theorem finM_err {A : ByteArray × Int} (h : A.2 ≠ 0) : finM A = A := by unfold finM; rw [if_neg (fun e => h e.1)]
theorem finM_long {A : ByteArray × Int} (h : A.2 = 0) (h2 : 4096 < A.1.size) : finM A = (⟨#[]⟩, 3) := by unfold finM; rw [if_pos ⟨h, h2⟩]
theorem finM_good {A : ByteArray × Int} (h2 : ¬ 4096 < A.1.size) : finM A = A := by unfold finM; rw [if_neg (fun e => h2 e.2)]
/-- The record that was cleaned lies in block b. -/
structure BdS (w wx : World) (b : Nat) (s : Sc) (I T : Value) (l : List Im) (g : List Tb) : Prop where
  rc : RcAt wx b s I T
  bel : Below w.heap.size w wx
  im : SlI wx I l
  tb : SlT wx T g
section
variable {w wx wq : World} {b : Nat} {s : Sc} {I T : Value} {l : List Im} {g : List Tb}
theorem BdS.below (h : BdS w wx b s I T l g) (hb : Below wx.heap.size wx wq) : BdS w wq b s I T l g := ⟨h.rc.below hb, thn h.bel hb, h.im.below hb, h.tb.below hb⟩
theorem BdS.mk' {w1 w2 w3 : World} (B1 : Below w.heap.size w w1) (hI : SlI w1 I l) (hT : SlT w1 T g) (N : NewR w1 w2 b zS nilV nilV) (P : PutR w2 w3 b s I T) : BdS w w3 b s I T l g := by
  have e := N.eq
  have z := N.below.size
  have hb : Below w1.heap.size w1 w3 := N.below.trans (P.below (by omega) z)
  exact ⟨P.rc, thn B1 hb, hI.below hb, hT.below hb⟩
end
section
variable {w : World} {s s0 : Sc} {I0 T0 : Value} {l : List Im} {g : List Tb} {e0 : Int}
end
end Go.Proofs.YtgcfbjecmmnlhaaGreat

namespace Go.Proofs.YtgcfbjecmmnlhaaGreat
open Go.RowKit
set_option linter.unusedVariables false
set_option linter.unusedSimpArgs false
set_option maxRecDepth 100000

section
variable {w : World} {s s0 : Sc} {I0 T0 : Value} {l : List Im} {g : List Tb} {e0 : Int}
end
end Go.Proofs.YtgcfbjecmmnlhaaGreat

namespace Go.Proofs.YtgcfbjecmmnlhaaGreat
open Go.RowKit
set_option linter.unusedVariables false
set_option linter.unusedSimpArgs false
set_option maxRecDepth 100000

section
variable {w : World} {s : Sc} {T I : Value} {a : Option Addr} {c : Nat} {l : List Im} {g : List Tb}
def refIR (l : List Im) : Int := if whole l then 0 else 4
end
end Go.Proofs.YtgcfbjecmmnlhaaGreat

namespace Go.Proofs.YtgcfbjecmmnlhaaGreat
open Go.RowKit
set_option linter.unusedVariables false
set_option linter.unusedSimpArgs false
set_option maxRecDepth 100000

section
variable {w : World} {s : Sc} {T I : Value} {a : Option Addr} {c : Nat} {l : List Im} {g : List Tb}
def refT (s : Sc) : Int := if 16 < s.ky.size then 17 else if 32 < s.ol.size ∨ 32 < s.nw.size then 18 else 0
end
end Go.Proofs.YtgcfbjecmmnlhaaGreat

namespace Go.Proofs.YtgcfbjecmmnlhaaGreat
open Go.RowKit
set_option linter.unusedVariables false
set_option linter.unusedSimpArgs false
set_option maxRecDepth 100000

section
variable {w : World} {s : Sc} {I T : Value}
end

end Go.Proofs.YtgcfbjecmmnlhaaGreat

namespace Go.Proofs.YtgcfbjecmmnlhaaGreat
open Go.RowKit
set_option linter.unusedVariables false
set_option linter.unusedSimpArgs false
set_option maxRecDepth 100000

theorem finM_body (m : Rm) : finM (laidF m (⟨#[]⟩, refM m)) = bodyM m := by
  by_cases hr : refM m = 0
  · rw [hr]
    have hB := Bare.laidF bare0 m
    show finM (laidM m) = _
    by_cases he : (laidM m).2 = 0
    · by_cases hl : 4096 < (laidM m).1.size
      · rw [finM_long he hl, bodyM_long hr he hl]
      · rw [finM_good hl, bodyM_good hr he hl]
        exact Prod.ext rfl he
    · rw [finM_err he, bodyM_err hr he]
      exact Prod.ext (hB he) rfl
  · rw [laidF_had m hr, finM_err hr, bodyM_ref hr]
theorem clean_texts (m : Rm) (h : refM (cleanM m) = 0) : (cleanM m).s.ky.size ≤ 1000 ∧ (cleanM m).s.ol.size ≤ 1000 ∧ (cleanM m).s.nw.size ≤ 1000 := by
  have f := fine_of h
  have h1 := f.ky
  have h2 := f.ol
  have h3 := f.nw
  omega
theorem clean_bare (m : Rm) (h : (cleanM m).s.kd = 1 ∨ (cleanM m).s.kd = 2) : (cleanM m).s.ky.size = 0 ∧ (cleanM m).s.ol.size = 0 ∧ (cleanM m).s.nw.size = 0 := by
  have e : (cleanM m).s.kd = m.s.kd := cleanS_kd m.s
  rw [e] at h
  have : (cleanM m).s = ⟨m.s.kd, 0, 0, 0, 0, ⟨#[]⟩, ⟨#[]⟩, ⟨#[]⟩, 0, 0, 0⟩ := by
    unfold cleanM cleanS
    dsimp only
    rw [if_neg (by omega), if_neg (by omega), if_neg (by omega)]
  rw [this]
  exact ⟨rfl, rfl, rfl⟩
end Go.Proofs.YtgcfbjecmmnlhaaGreat

namespace Go.Proofs.YtgcfbjecmmnlhaaGreat
open Go.RowKit
set_option linter.unusedVariables false
set_option linter.unusedSimpArgs false
set_option maxRecDepth 100000

set_option maxHeartbeats 2000000 in
theorem Same_any {w : World} {v v' : Value} {m : Rm} (h : RecV w v m) (h' : RecV w v' m) (hi : m.im.length ≤ 1000) (ht : m.tb.length ≤ 1000) : Calls Tryz.prog 32 #[v, v'] w fun e w' => e = .returned (.bool true) ∧ Below w.heap.size w w' := by
  obtain ⟨s, l, g⟩ := m
  obtain ⟨I, T, rfl, hI, hT⟩ := h.ex
  obtain ⟨J, U, rfl, hJ, hU⟩ := h'.ex
  dsimp only at *
  obtain ⟨a, c, rfl, hcs, _⟩ := hI.ex
  obtain ⟨a', c', rfl, hcs', _⟩ := hJ.ex
  obtain ⟨x, y, rfl, hct, _⟩ := hT.ex
  obtain ⟨x', y', rfl, hct', _⟩ := hU.ex
  clear h h' hI hT hJ hU
  go_enter Tryz.func32, Tryz.ntmps32
  go_wp2_with (first
    | (have := N0; refine wpList_box_rc (s := s) (I := _) (T := _) _ rfl (.tmp 1) rfl rfl ?_; intro w1 b1 N1; have R0 := N0.rc.below N1.below; have R1 := N1.rc; have B := thn N0.below N1.below; clear N0 N1 this; have p0 := R0.c0; have p1 := R0.c1; have p2 := R0.c2; have p3 := R0.c3; have p4 := R0.c4; have p5 := R0.c5; have p6 := R0.c6; have p7 := R0.c7; have p8 := R0.c8; have p9 := R0.c9; have p10 := R0.c10; have p11 := R0.c11; have p12 := R0.c12; have q0 := R1.c0; have q1 := R1.c1; have q2 := R1.c2; have q3 := R1.c3; have q4 := R1.c4; have q5 := R1.c5; have q6 := R1.c6; have q7 := R1.c7; have q8 := R1.c8; have q9 := R1.c9; have q10 := R1.c10; have q11 := R1.c11; have q12 := R1.c12)
    | (refine wpList_box_rc (s := s) (I := _) (T := _) _ rfl (.tmp 0) rfl rfl ?_; intro w0 b0 N0))
  have hI0 := hcs.below B
  have hI1 := hcs'.below B
  have hT0 := hct.below B
  have hT1 := hct'.below B
  clear hcs hcs' hct hct' p0 p1 p2 p3 p4 p5 p6 p7 p8 p9 p10 p11 p12 q0 q1 q2 q3 q4 q5 q6 q7 q8 q9 q10 q11 q12
  go_loopw [5] (fun iv wr => ∃ i : Nat, i ≤ l.length ∧ iv = .int .i64 (i : Int) ∧ Below w1.heap.size w1 wr) (fun iv _ => l.length - (intOf iv).toNat)
  case atStart => exact ⟨0, Nat.zero_le _, rfl, Below.refl _ _⟩
  case round =>
    obtain ⟨i, hi1, rfl, hb⟩ := hrel
    have k0 := (R0.below hb).c9
    have k1 := (R1.below hb).c9
    have k2 := (R0.below hb).c10
    by_cases hlt : i < l.length
    · obtain ⟨b2, o2, rfl, _, HC⟩ := csI_at hI0 (i := i) hlt
      obtain ⟨b3, o3, rfl, _, HD⟩ := csI_at hI1 (i := i) hlt
      obtain ⟨f0, f1⟩ := HC wr hb
      obtain ⟨g0, g1⟩ := HD wr hb
      have hi2 : (i : Int) < (l.length : Int) := by omega
      have HB : Hid (Below w1.heap.size w1 wr) := hb
      clear HC HD hI0 hI1 hT0 hT1 R0 R1 hb
      generalize l[i]'(by omega) = p at *
      obtain ⟨p, t⟩ := p
      dsimp only at f0 f1 g0 g1
      go_wp2
      go_quiet (fail)
      go_wp2
      go_roundw
      case rel => exact ⟨i + 1, by omega, by go_num, below_drewN HB.out _⟩
      case measure => simp [intOf]; omega
    · have hi2 : ¬ (i : Int) < (l.length : Int) := by omega
      have HB : Hid (Below w1.heap.size w1 wr) := hb
      go_wp2
      go_loopw [6] (fun iv wq => ∃ i : Nat, i ≤ g.length ∧ iv = .int .i64 (i : Int) ∧ Below w1.heap.size w1 wq) (fun iv _ => g.length - (intOf iv).toNat)
      case atStart => exact ⟨0, Nat.zero_le _, rfl, HB.out⟩
      case round =>
        clear HB hb k0 k1 k2 hlt hi2 hi1
        obtain ⟨i, hi1, rfl, hb⟩ := hrel
        have k0 := (R0.below hb).c10
        have k1 := (R1.below hb).c10
        by_cases hlt : i < g.length
        · obtain ⟨b2, o2, rfl, _, HC⟩ := csT_at hT0 (i := i) hlt
          obtain ⟨b3, o3, rfl, _, HD⟩ := csT_at hT1 (i := i) hlt
          obtain ⟨f0, f1⟩ := HC wr hb
          obtain ⟨g0, g1⟩ := HD wr hb
          have hi2 : (i : Int) < (g.length : Int) := by omega
          have HB : Hid (Below w1.heap.size w1 wr) := hb
          clear HC HD hI0 hI1 hT0 hT1 R0 R1 hb
          generalize g[i]'(by omega) = p at *
          obtain ⟨p, t⟩ := p
          dsimp only at f0 f1 g0 g1
          go_wp2
          go_quiet (fail)
          go_wp2
          go_roundw
          case rel => exact ⟨i + 1, by omega, by go_num, below_drewN HB.out _⟩
          case measure => simp [intOf]; omega
        · have hi2 : ¬ (i : Int) < (g.length : Int) := by omega
          have HB : Hid (Below w1.heap.size w1 wr) := hb
          clear hI0 hI1 hT0 hT1 R0 R1 hb
          go_wp2
          go_ret
          exact ⟨rfl, thn B HB.out⟩
end Go.Proofs.YtgcfbjecmmnlhaaGreat

namespace Go.Proofs.YtgcfbjecmmnlhaaGreat
open Go.RowKit
set_option linter.unusedVariables false
set_option linter.unusedSimpArgs false
set_option maxRecDepth 100000

/-- All cells of a record. -/
def Row13 (w : World) (b : Nat) (s : Sc) (I T : Value) : Prop :=
  w.cell? ⟨b, 0, none⟩ = some (.int .i64 s.kd) ∧ w.cell? ⟨b, 1, none⟩ = some (.int .i64 s.tx) ∧ w.cell? ⟨b, 2, none⟩ = some (.int .i64 s.pv) ∧ w.cell? ⟨b, 3, none⟩ = some (.int .i64 s.pg) ∧ w.cell? ⟨b, 4, none⟩ = some (.int .i64 s.ac) ∧ w.cell? ⟨b, 5, none⟩ = some (.string s.ky) ∧ w.cell? ⟨b, 6, none⟩ = some (.string s.ol) ∧ w.cell? ⟨b, 7, none⟩ = some (.string s.nw) ∧ w.cell? ⟨b, 8, none⟩ = some (.int .i64 s.nx) ∧ w.cell? ⟨b, 9, none⟩ = some I ∧ w.cell? ⟨b, 10, none⟩ = some T ∧ w.cell? ⟨b, 11, none⟩ = some (.int .i64 s.ep) ∧ w.cell? ⟨b, 12, none⟩ = some (.int .i64 s.nd)
theorem RcAt.row {w : World} {b : Nat} {s : Sc} {I T : Value} (h : RcAt w b s I T) : Row13 w b s I T := ⟨h.c0, h.c1, h.c2, h.c3, h.c4, h.c5, h.c6, h.c7, h.c8, h.c9, h.c10, h.c11, h.c12⟩
theorem BdS.of {w w0 w1 w2 : World} {b : Nat} {s s' : Sc} {I T I' T' : Value} {l : List Im} {g : List Tb} (N0 : NewR w w0 b s I T) (b1 : Below w0.heap.size w0 w1) (hI : SlI w I' l) (hT : SlT w T' g) (P : PutR w1 w2 b s' I' T') : BdS w w2 b s' I' T' l g := by
  have e := N0.eq
  have hb := (thn N0.below b1).trans (P.below (show w.heap.size ≤ b by omega) (thn N0.below b1).size)
  exact ⟨P.rc, hb, hI.below hb, hT.below hb⟩
end Go.Proofs.YtgcfbjecmmnlhaaGreat
