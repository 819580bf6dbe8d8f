/- The program's read: readPlaces, readChange, readImages, readTable. -/
import Derived.Test.YtakdfdnndogaiaaRxRdM
import Derived.Test.YtakdfdnndogaiaaRxVal
import Derived.Test.YtakdfdnndogaiaaSmSeal
namespace Go.Proofs.Ytakdfdnndogaiaa
open Go.RowKit
set_option linter.unusedVariables false
set_option linter.unusedSimpArgs false
set_option maxRecDepth 100000

/-- A reader in block b. -/
structure RdS (w : World) (b : Nat) (q : Lf) : Prop where
  rd : Pk.isRd w b q.1 q.2
  sz : q.1.size ≤ 140737488351232
section
variable {w w' : World} {b c : Nat} {q : Lf}
theorem RdS.lt (h : RdS w b q) : b < w.heap.size := h.rd.lt
theorem RdS.below (h : RdS w b q) (hb : Below w.heap.size w w') : RdS w' b q := ⟨h.rd.below hb, h.sz⟩
theorem RdS.off (h : RdS w b q) (hb : Pk.Off c w w') (hn : b ≠ c) : RdS w' b q := ⟨h.rd.off hb hn, h.sz⟩
theorem RdS.num (h : RdS w b q) (k : Int) : Calls Try.prog 43 #[.pointer (some ⟨b, 0, none⟩), .int .i64 k] w fun r w' => r = .returned (.int .i64 (nN q k)) ∧ RdS w' b (sN q k) ∧ Pk.Off b w w' :=
  (Pk.Num_any b q.1 q.2 k w h.sz h.rd).mono fun e w' ⟨he, h1, o1⟩ => ⟨he, ⟨h1, Nat.le_trans (sN_size q k) h.sz⟩, o1⟩
theorem RdS.text (h : RdS w b q) (m : Int) : Calls Try.prog 65 #[.pointer (some ⟨b, 0, none⟩), .int .i64 m] w fun r w' => r = .returned (.string (tT q m)) ∧ RdS w' b (sT q m) ∧ Pk.Off b w w' :=
  (Pk.RText_any b q.1 q.2 m w h.sz h.rd).mono fun e w' ⟨he, h1, o1⟩ => ⟨he, ⟨h1, Nat.le_trans (sT_size q m) h.sz⟩, o1⟩
end
/-- Cells in a block. -/
structure Blk (w : World) (b : Nat) (C : Array Value) (t : TypeId) : Prop where
  blk : w.heap[b]? = some (.cells C t)
structure PutB (w w' : World) (b : Nat) (C : Array Value) (t : TypeId) : Prop where
  bl : Blk w' b C t
  off : Pk.Off b w w'
section
variable {w w' : World} {b c : Nat} {C : Array Value} {t : TypeId}
theorem Blk.lt (h : Blk w b C t) : b < w.heap.size := (Array.getElem?_eq_some_iff.1 h.blk).1
theorem Blk.below (h : Blk w b C t) (hb : Below w.heap.size w w') : Blk w' b C t := ⟨(hb.block b h.lt).trans h.blk⟩
theorem Blk.off (h : Blk w b C t) (hb : Pk.Off c w w') (hn : b ≠ c) : Blk w' b C t := ⟨(hb.block b h.lt hn).trans h.blk⟩
theorem Blk.cell (h : Blk w b C t) (k : Nat) : w.cell? ⟨b, k, none⟩ = C[k]? := Joins.cell_of_block h.blk k
theorem wpList_bput {k : Nat} {v : Value} {ops : Array Oper} {rest : List Oper} {o : Oper} {a : Act} {Q : Exit → Act → World → Prop} (w : World) (hg : o.guard = none) (ty : TypeId) (x y : Operand) (hop : o.op = Op.store ty x y)
    (hx : a.eval x = .pointer (some ⟨b, k, none⟩)) (hy : a.eval y = v) (hs : Blk w b C t) (hk : k < C.size) (h1 : v.oneCell' = true) (hi : (Try.prog.info? ty).map (·.size) = some 1)
    (h : ∀ w', PutB w w' b (C.setIfInBounds k v) t → wpList Try.prog ops Q rest (a.put o.dst undef) w') : wpList Try.prog ops Q (o :: rest) a w := by
  have hc : ∃ u, w.cell? ⟨b, k, none⟩ = some u := by
    rw [hs.cell k]
    exact ⟨_, Array.getElem?_eq_getElem hk⟩
  obtain ⟨u, hu⟩ := hc
  have hf : w.frozen? ⟨b, k, none⟩ = false := Joins.unfrozen_of_block hs.blk k
  refine wpList_plain hg fun K' hK' => ?_
  unfold Oper.wp
  have hrun : (Instr.storeAt ty (.pointer (some ⟨b, k, none⟩)) v).run Try.prog w = .ok () (w.setCell ⟨b, k, none⟩ v) := by
    have hcs : v.cells = #[v] := by cases v <;> first | rfl | cases h1
    have g1 : ∀ j, j < [v].length → (w.cell? ⟨b, k + 0 + j, none⟩).isSome = true := by
      intro j hj
      obtain rfl : j = 0 := by simpa using hj
      simp [hu]
    have g2 : ∀ j, j < [v].length → w.frozen? ⟨b, k + 0 + j, none⟩ = false := by
      intro j hj
      obtain rfl : j = 0 := by simpa using hj
      simpa using hf
    have := run_storeCells_cells (P := Try.prog) b k [v] 0 w g1 g2 (fun x hx => by simp at hx; subst hx; exact h1)
    cases hq : Try.prog.info? ty with
    | none => simp [hq] at hi
    | some i =>
      have hs : i.size = 1 := by simpa [hq] using hi
      simp only [Nat.add_zero] at this
      simp [Instr.storeAt, Instr.sureAddr, storeVar, sizeOf, typeInfo, hq, hcs, hs, this, World.setCells]
  simp [execOp, hop, hx, hy, hrun, Result.andThen]
  exact hK' _ _ (h _ ⟨⟨Joins.block_setCell hs.blk _⟩, (Pk.Off.refl _ _).setCell _ _⟩)
end
/-- All blocks but b and c are as they were. -/
structure Off2 (b c : Nat) (w w' : World) : Prop where
  os : w'.os = w.os
  tape : w'.tape = w.tape
  output : w'.output = w.output
  size : w.heap.size ≤ w'.heap.size
  block : ∀ k, k < w.heap.size → k ≠ b → k ≠ c → w'.heap[k]? = w.heap[k]?
section
variable {w w1 w2 : World} {b c d : Nat}
theorem Off2.refl (b c : Nat) (w : World) : Off2 b c w w := ⟨rfl, rfl, rfl, Nat.le_refl _, fun _ _ _ _ => rfl⟩
theorem Off2.left (h : Off2 b c w w1) (o : Pk.Off b w1 w2) : Off2 b c w w2 := ⟨o.os.trans h.os, o.tape.trans h.tape, o.output.trans h.output, Nat.le_trans h.size o.size, fun k hk hb hc => (o.block k (Nat.lt_of_lt_of_le hk h.size) hb).trans (h.block k hk hb hc)⟩
theorem Off2.right (h : Off2 b c w w1) (o : Pk.Off c w1 w2) : Off2 b c w w2 := ⟨o.os.trans h.os, o.tape.trans h.tape, o.output.trans h.output, Nat.le_trans h.size o.size, fun k hk hb hc => (o.block k (Nat.lt_of_lt_of_le hk h.size) hc).trans (h.block k hk hb hc)⟩
theorem Off2.below (h : Off2 b c w w1) (o : Below w1.heap.size w1 w2) : Off2 b c w w2 := ⟨o.os.trans h.os, o.tape.trans h.tape, o.output.trans h.output, Nat.le_trans h.size o.size, fun k hk hb hc => (o.block k (Nat.lt_of_lt_of_le hk h.size)).trans (h.block k hk hb hc)⟩
theorem Off2.trans (h : Off2 b c w w1) (o : Off2 b c w1 w2) : Off2 b c w w2 := ⟨o.os.trans h.os, o.tape.trans h.tape, o.output.trans h.output, Nat.le_trans h.size o.size, fun k hk hb hc => (o.block k (Nat.lt_of_lt_of_le hk h.size) hb hc).trans (h.block k hk hb hc)⟩
theorem Off2.bel {B : Nat} (h : Off2 b c w w1) (hb : B ≤ b) (hc : B ≤ c) (hB : B ≤ w.heap.size) : Below B w w1 := ⟨h.os, h.tape, h.output, h.size, fun k hk => h.block k (by omega) (by omega) (by omega)⟩
theorem Off2.one (h : Off2 b c w w1) (hc : w.heap.size ≤ c) : Pk.Off b w w1 := ⟨h.os, h.tape, h.output, h.size, fun k hk hb => h.block k hk hb (by omega)⟩
end
/-- The reader, the places and the row of pointers while they are read. -/
structure RpS (w wx : World) (b g b0 : Nat) (G C : Array Value) (t : TypeId) (q : Lf) : Prop where
  rd : RdS wx b q
  gp : Blk wx g G 79
  bl : Blk wx b0 C t
  off : Off2 b b0 w wx
  n1 : b ≠ g
  n2 : b ≠ b0
  n3 : g ≠ b0
section
variable {w wx wq : World} {b g b0 : Nat} {G C : Array Value} {t : TypeId} {q : Lf}
theorem RpS.num (h : RpS w wx b g b0 G C t q) (k : Int) : Calls Try.prog 43 #[.pointer (some ⟨b, 0, none⟩), .int .i64 k] wx fun r w' => r = .returned (.int .i64 (nN q k)) ∧ RpS w w' b g b0 G C t (sN q k) :=
  (h.rd.num k).mono fun e w' ⟨he, h1, o1⟩ => ⟨he, ⟨h1, h.gp.off o1 (fun e => h.n1 e.symm), h.bl.off o1 (fun e => h.n2 e.symm), h.off.left o1, h.n1, h.n2, h.n3⟩⟩
theorem RpS.put {C' : Array Value} (h : RpS w wx b g b0 G C t q) (P : PutB wx wq b0 C' t) : RpS w wq b g b0 G C' t q :=
  ⟨h.rd.off P.off h.n2, h.gp.off P.off h.n3, P.bl, h.off.right P.off, h.n1, h.n2, h.n3⟩
end
set_option maxHeartbeats 1000000 in
theorem readPlaces_2 {w : World} {b g b0 k0 k1 : Nat} {C : Array Value} {t : TypeId} {q : Lf} (H : RpS w w b g b0 #[.pointer (some ⟨b0, k0, none⟩), .pointer (some ⟨b0, k1, none⟩)] C t q) (h0 : k0 < C.size) (h1 : k1 < C.size) :
    Calls Try.prog 48 #[.pointer (some ⟨b, 0, none⟩), .slice (some ⟨g, 0, none⟩) 2 2] w fun e w' => e = .returned (.tuple #[]) ∧ RdS w' b (sN (sN q 6) 6) ∧ Blk w' b0 ((C.setIfInBounds k0 (.int .i64 (nN q 6))).setIfInBounds k1 (.int .i64 (nN (sN q 6) 6))) t ∧ Off2 b b0 w w' := by
  have h1' : ∀ v, k1 < (C.setIfInBounds k0 v).size := fun v => by simpa using h1
  have z0 := H.gp.cell 0
  have z1 := H.gp.cell 1
  simp only [List.getElem?_toArray, List.getElem?_cons_zero, List.getElem?_cons_succ] at z0 z1
  go_enter Try.func48, Try.ntmps48
  go_wp2
  refine wp_loop_rounds 3 ?_
  rw [rounds_succ]
  go_wp2_with (first
    | (go_at_call 43; refine (H.num _).mono ?_; clear H; rintro e w1 ⟨rfl, H⟩)
    | (refine wpList_bput _ rfl 3 (.tmp 15) (.tmp 14) rfl rfl rfl H.bl h0 rfl (by kernel_rfl) ?_; intro w2 P2; have H1 := H.put P2; clear H P2; have H := H1; clear H1; have z1 := H.gp.cell 1; simp only [List.getElem?_toArray, List.getElem?_cons_zero, List.getElem?_cons_succ] at z1))
  rw [rounds_succ]
  go_wp2_with (first
    | (go_at_call 43; refine (H.num _).mono ?_; clear H; rintro e w1 ⟨rfl, H⟩)
    | (refine wpList_bput _ rfl 3 (.tmp 15) (.tmp 14) rfl rfl rfl H.bl (h1' _) rfl (by kernel_rfl) ?_; intro w2 P2; have H1 := H.put P2; clear H P2; have H := H1; clear H1))
  rw [rounds_succ]
  go_wp2
  go_end0
  exact ⟨rfl, H.rd, H.bl, H.off⟩
set_option maxHeartbeats 1000000 in
theorem readPlaces_3 {w : World} {b g b0 k0 k1 k2 : Nat} {C : Array Value} {t : TypeId} {q : Lf} (H : RpS w w b g b0 #[.pointer (some ⟨b0, k0, none⟩), .pointer (some ⟨b0, k1, none⟩), .pointer (some ⟨b0, k2, none⟩)] C t q) (h0 : k0 < C.size) (h1 : k1 < C.size) (h2 : k2 < C.size) :
    Calls Try.prog 48 #[.pointer (some ⟨b, 0, none⟩), .slice (some ⟨g, 0, none⟩) 3 3] w fun e w' => e = .returned (.tuple #[]) ∧ RdS w' b (sN (sN (sN q 6) 6) 6) ∧ Blk w' b0 (((C.setIfInBounds k0 (.int .i64 (nN q 6))).setIfInBounds k1 (.int .i64 (nN (sN q 6) 6))).setIfInBounds k2 (.int .i64 (nN (sN (sN q 6) 6) 6))) t ∧ Off2 b b0 w w' := by
  have h1' : ∀ v, k1 < (C.setIfInBounds k0 v).size := fun v => by simpa using h1
  have h2' : ∀ v u, k2 < ((C.setIfInBounds k0 v).setIfInBounds k1 u).size := fun v u => by simpa using h2
  have z0 := H.gp.cell 0
  simp only [List.getElem?_toArray, List.getElem?_cons_zero, List.getElem?_cons_succ] at z0
  go_enter Try.func48, Try.ntmps48
  go_wp2
  refine wp_loop_rounds 4 ?_
  rw [rounds_succ]
  go_wp2_with (first
    | (go_at_call 43; refine (H.num _).mono ?_; clear H; rintro e w1 ⟨rfl, H⟩)
    | (refine wpList_bput _ rfl 3 (.tmp 15) (.tmp 14) rfl rfl rfl H.bl h0 rfl (by kernel_rfl) ?_; intro w2 P2; have H1 := H.put P2; clear H P2; have H := H1; clear H1; have z1 := H.gp.cell 1; simp only [List.getElem?_toArray, List.getElem?_cons_zero, List.getElem?_cons_succ] at z1))
  rw [rounds_succ]
  go_wp2_with (first
    | (go_at_call 43; refine (H.num _).mono ?_; clear H; rintro e w1 ⟨rfl, H⟩)
    | (refine wpList_bput _ rfl 3 (.tmp 15) (.tmp 14) rfl rfl rfl H.bl (h1' _) rfl (by kernel_rfl) ?_; intro w2 P2; have H1 := H.put P2; clear H P2; have H := H1; clear H1; have z2 := H.gp.cell 2; simp only [List.getElem?_toArray, List.getElem?_cons_zero, List.getElem?_cons_succ] at z2))
  rw [rounds_succ]
  go_wp2_with (first
    | (go_at_call 43; refine (H.num _).mono ?_; clear H; rintro e w1 ⟨rfl, H⟩)
    | (refine wpList_bput _ rfl 3 (.tmp 15) (.tmp 14) rfl rfl rfl H.bl (h2' _ _) rfl (by kernel_rfl) ?_; intro w2 P2; have H1 := H.put P2; clear H P2; have H := H1; clear H1))
  rw [rounds_succ]
  go_wp2
  go_end0
  exact ⟨rfl, H.rd, H.bl, H.off⟩
end Go.Proofs.Ytakdfdnndogaiaa
