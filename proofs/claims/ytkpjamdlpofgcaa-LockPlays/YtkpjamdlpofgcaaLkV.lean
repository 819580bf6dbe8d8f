/- Ask. -/
import Derived.Test.YtkpjamdlpofgcaaLkU
namespace Go.Proofs.Ytkpjamdlpofgcaa
open Go.RowKit
set_option linter.unusedVariables false
set_option linter.unusedSimpArgs false
set_option maxRecDepth 100000

/-- What a call leaves of a table: it is turned alone, with its own row. -/
structure TbTo (B : Nat) (w w' : World) (tb : Nat) (v v' : Value) (L : List Hd) (n : Int) : Prop where
  is : TbIs B w' tb v' L n
  fr : ∀ j, j < w.heap.size → j ≠ tb → v.ownBlock ≠ some j → w'.heap[j]? = w.heap[j]?
  new : ∀ g, v'.ownBlock = some g → v.ownBlock = some g ∨ w.heap.size ≤ g
  bel : Below B w w'
  sl : ∃ a c, v' = .slice a L.length c
section
variable {B tb : Nat} {w w' wx : World} {a : Option Addr} {c : Nat} {L : List Hd} {n : Int} {v v' : Value}
theorem TbTo.same (h : TbIs B w tb v L n) (hb : Below w.heap.size w w') (hB : B ≤ w.heap.size) : TbTo B w w' tb v v L n :=
  ⟨h.bel hb, fun j hj _ _ => hb.block j hj, fun g e => Or.inl e, hb.mono hB, by obtain ⟨a, c, e, _⟩ := h.hs.slice; exact ⟨a, c, e⟩⟩
theorem Hs.grown (h : Hs B w v L) {u : Value} (hg : w.grownBy w' u.ownBlock) (hne : ∀ g, v.ownBlock = some g → u.ownBlock ≠ some g) : Hs B w' v L := h.keep fun g e => hg.block g (h.blkAt e).2.1 (fun e2 => hne g e e2.symm)
theorem tb_grown (h : TbIs B w tb v L n) (hb : Below w.heap.size w wx) {w3 : World} (hg : wx.grownBy w3 v.ownBlock) : w3.heap[tb]? = some (.cells #[v, .int .i64 n] 53) := by
  have h1 := h.bel hb
  rw [hg.block tb h1.lt (fun e => h.apart e.symm)]
  exact h1.blk
theorem tb_done (h : TbIs B w tb v L n) (hb : Below w.heap.size w wx) {w3 : World} {M : List Hd} (A : App B wx w3 v v' M) (n' : Int) (hB : B ≤ w.heap.size) : TbTo B w ((w3.setCell ⟨tb, 0, none⟩ v').setCell ⟨tb, 1, none⟩ (.int .i64 n')) tb v v' M n' := by
  have h3 := tb_grown h hb A.grow
  have h4 : (w3.setCell ⟨tb, 0, none⟩ v').heap[tb]? = some (.cells #[v', .int .i64 n] 53) := Joins.block_setCell h3 _
  have h5 : ((w3.setCell ⟨tb, 0, none⟩ v').setCell ⟨tb, 1, none⟩ (.int .i64 n')).heap[tb]? = some (.cells #[v', .int .i64 n'] 53) := Joins.block_setCell h4 _
  have ho : ∀ j, j ≠ tb → ((w3.setCell ⟨tb, 0, none⟩ v').setCell ⟨tb, 1, none⟩ (.int .i64 n')).heap[j]? = w3.heap[j]? := fun j hj => by
    rw [heap_setCell_other _ _ j _ (by exact hj), heap_setCell_other _ _ j _ (by exact hj)]
  have hap : v'.ownBlock ≠ some tb := fun e => by
    obtain ⟨_, _, cur, hc⟩ := A.hs.blkAt e
    rw [h3] at hc
    simp at hc
  refine ⟨⟨h5, A.hs.keep fun g e => ho g (fun e2 => hap (by rw [e, e2])), h.ge⟩, fun j hj h1 h2 => (ho j h1).trans ((A.grow.block j (Nat.lt_of_lt_of_le hj hb.size) (fun e => h2 e.symm)).trans (hb.block j hj)), fun g e => ?_, ?_, A.sl⟩
  · rcases A.own with e2 | e2
    · exact Or.inl (e2.symm.trans e)
    · rw [e] at e2
      cases e2
      exact Or.inr hb.size
  · have g1 : Below B wx w3 := grown_below A.grow (fun g e => (h.hs.blkAt e).1) (Nat.le_trans hB hb.size)
    have g2 := (hb.mono hB).trans g1
    refine ⟨g2.os, g2.tape, g2.output, ?_, fun k hk => ?_⟩
    · simpa using g2.size
    · have := h.ge
      rw [ho k (by omega)]
      exact g2.block k hk
theorem step_append_hd {ops : Array Oper} {o : Oper} {act : Act} {K : Act → World → Prop} {Q : Exit → Act → World → Prop} {E : Prop} (hgd : o.guard = none) (s x : Operand)
    (ho : o.op = .call { callee := .builtin .append, args := #[s, x], argTypes := #[32, 32] }) (hs : act.eval s = v) (hrow : Hs B w v L) {b c : Nat} {h : Hd}
    (hx : act.eval x = .slice (some ⟨b, 0, none⟩) 1 c) (hn : HdAt w b h) (hB : B ≤ w.heap.size) (hl : L.length ≤ 90000)
    (hK : ∀ a' c' w', App B w w' v (.slice a' (L.length + 1) c') (L ++ [h]) → K (act.put o.dst (.slice a' (L.length + 1) c')) w') :
    if Region.wanted o (yielded ops act.tmps) = true then Oper.wp Try.prog o act w K Q else E := by
  have hw : Region.wanted o (yielded ops act.tmps) = true := by simp [Region.wanted, hgd]
  rw [if_pos hw]
  obtain ⟨v', w', hr, h2, h3, h4⟩ := append_hs hrow (g := b) (of := 0) (c := c) (M := [h]) (by simp) (fun j u hu => by
    have hj := hu
    simp only [flatH, List.append_nil] at hu
    rw [Nat.zero_add, cell_of_row w b j _ 23 (0, 0) hn.blk]
    simpa using hu) hB (by simp; omega) o.type
  obtain ⟨a', c', e, _⟩ := h2.slice
  unfold Oper.wp execOp
  simp only [ho, resolve, invoke, builtin, Sem.run_bind, Sem.run_pure, Result.andThen_ok, List.map_toArray, List.map_cons, List.map_nil, hs, hx]
  rw [List.length_singleton] at hr
  simp only [hr]
  subst e
  rw [List.length_append, List.length_singleton] at h2 h4 ⊢
  exact hK _ _ w' ⟨h2, h3, h4, ⟨_, _, by rw [List.length_append, List.length_singleton]⟩⟩
theorem hd_new (w : World) (h : Hd) : HdAt (w.alloc (.cells h.A 23)).drew w.heap.size h := ⟨(MapKept.heap_alloc w _).1⟩
def askM (L : List Hd) (n : Int) (h : Hd) : Int × List Hd × Int :=
  if rightM h = false then (1, L, n) else if L.any (fun g => barM g h) then (12, L, n) else if L.any (fun g => enoM g h) then (0, L, n) else (0, L ++ [h], n + 1)
structure AskO (B : Nat) (w w' : World) (tb : Nat) (v : Value) (e : Ending) (r : Int × List Hd × Int) : Prop where
  e : e = .returned (.int .i64 r.1)
  ex : ∃ v', TbTo B w w' tb v v' r.2.1 r.2.2
set_option maxHeartbeats 2000000 in
theorem Ask_any (hT : TbIs B w tb (.slice a L.length c) L n) (hl : L.length ≤ 80000) (hn : 0 ≤ n ∧ n ≤ 1000000) (h : Hd) (hB : B ≤ w.heap.size) :
    Calls Try.prog 28 #[.pointer (some ⟨tb, 0, none⟩), .agg h.A] w fun e w' => AskO B w w' tb (.slice a L.length c) e (askM L n h) := by
  have CR : Hid (∀ wx, Calls Try.prog 8 #[.agg h.A] wx fun e w' => e = .returned (.bool (rightM h)) ∧ Below wx.heap.size wx w') := fun wx => Right_any wx h
  have CC : Hid (∀ wx hb, HdAt wx hb h → TbIs B wx tb (.slice a L.length c) L n → Calls Try.prog 35 #[.slice a L.length c, .func (.func 39) #[] #[.pointer (some ⟨hb, 0, none⟩)]] wx fun e w' => e = .returned (.bool (L.any (fun g => barM g h))) ∧ Below wx.heap.size wx w') := fun wx hb h1 h2 => ContainsFunc_any h2.hs (by omega) (prAsk wx h1)
  have CH : Hid (∀ wx, TbIs B wx tb (.slice a L.length c) L n → Calls Try.prog 22 #[.pointer (some ⟨tb, 0, none⟩), .agg h.A] wx fun e w' => e = .returned (.bool (L.any (fun g => enoM g h))) ∧ Below wx.heap.size wx w') := fun wx h2 => Has_any h2 (by omega) h
  have T : Hid (TbIs B w tb (.slice a L.length c) L n) := hT
  have HB : Hid (B ≤ w.heap.size) := hB
  have HL : Hid (L.length ≤ 80000) := hl
  have hw1 : IntKind.i64.wrap (n + 1) = n + 1 := by rw [IntKind.wrap_i64]; omega
  clear hT hB hl
  unfold askM
  cases h1 : rightM h
  · rw [h1] at CR
    rw [if_pos rfl]
    go_enter Try.func28, Try.ntmps28
    go_wp2_with first
      | (refine wpList_box_hd (n := h) _ rfl _ rfl rfl ?_; intro w0 b0 N0)
      | (refine wpList_load_hd (n := h) _ rfl (.tmp 3) rfl rfl N0.hd ?_)
      | (go_at_call 8; refine (CR.out _).mono ?_; rintro e w1 ⟨rfl, q1⟩)
    go_ret
    exact ⟨rfl, _, TbTo.same T.out (thn N0.below q1) HB.out⟩
  · rw [h1] at CR
    rw [if_neg (by simp)]
    cases h2 : L.any (fun g => barM g h)
    · rw [h2] at CC
      rw [if_neg (by simp)]
      cases h3 : L.any (fun g => enoM g h)
      · rw [h3] at CH
        rw [if_neg (by simp)]
        obtain ⟨x, m, lo, hi, op⟩ := h
        go_enter Try.func28, Try.ntmps28
        go_wp2_with first
          | (refine wpList_box_hd (n := ⟨x, m, lo, hi, op⟩) _ rfl _ rfl rfl ?_; intro w0 b0 N0)
          | (have := q2; refine wpList_load_hd (n := ⟨x, m, lo, hi, op⟩) _ rfl (.tmp 3) rfl rfl ((N0.hd.bel q1).bel q2) ?_)
          | (refine wpList_load_hd (n := ⟨x, m, lo, hi, op⟩) _ rfl (.tmp 3) rfl rfl N0.hd ?_)
          | (go_at_call 8; refine (CR.out _).mono ?_; rintro e w1 ⟨rfl, q1⟩; have T1 : Hid (TbIs B w1 tb (.slice a L.length c) L n) := (T.out.bel N0.below).bel q1; have c0 := T1.out.c0)
          | (go_at_call 35; refine (CC.out _ _ (N0.hd.bel q1) T1.out).mono ?_; rintro e w2 ⟨rfl, q2⟩)
          | (go_at_call 22; refine (CH.out _ (T1.out.bel q2)).mono ?_; rintro e w3 ⟨rfl, q3⟩)
        have B3 : Hid (Below w.heap.size w w3) := thn (thn (thn N0.below q1) q2) q3
        have T3 : Hid (TbIs B w3 tb (.slice a L.length c) L n) := T.out.bel B3.out
        have d0 := T3.out.c0
        have H3 := ((N0.hd.bel q1).bel q2).bel q3
        have k0 : w3.cell? ⟨b0, 0, none⟩ = some (.int .i64 x) := H3.c0
        have k1 : w3.cell? ⟨b0, 1, none⟩ = some (.int .i64 m) := H3.c1
        have k2 : w3.cell? ⟨b0, 2, none⟩ = some (.string lo) := H3.c2
        have k3 : w3.cell? ⟨b0, 3, none⟩ = some (.string hi) := H3.c3
        have k4 : w3.cell? ⟨b0, 4, none⟩ = some (.bool op) := H3.c4
        have lt3 := T3.out.lt
        have ne3 : tb ≠ w3.heap.size := by omega
        clear H3 c0
        have BA : Hid (∀ o : Obj, Below w3.heap.size w3 (w3.alloc o).drew) := fun o => ((Below.refl _ _).alloc (by exact Nat.le_refl _) _).drew
        have HE : Hid (∀ W' : World, W' = W' → True) := fun _ _ => trivial
        go_region_law (refine step_append_hd (B := B) (L := L) (v := .slice a L.length c) (c := 1) (h := ⟨x, m, lo, hi, op⟩) (b := w3.heap.size) rfl (.tmp 24) (.tmp 26) rfl (by simp [Act.eval, Act.put]) (T3.out.hs.bel (BA.out _)) (by simp [Act.eval, Act.put]) ?_ ?_ ?_ ?_; exact hd_new w3 ⟨x, m, lo, hi, op⟩; exact Nat.le_trans HB.out (Nat.le_trans B3.out.size (BA.out _).size); exact Nat.le_trans HL.out (by omega); intro a5 c5 w5 A5; have g5 := tb_grown T3.out (BA.out _) A5.grow; have e0 : w5.cell? ⟨tb, 0, none⟩ = some (.slice a L.length c) := Joins.cell_of_block g5 0; have f0 : w5.frozen? ⟨tb, 0, none⟩ = false := Joins.unfrozen_of_block g5 0; have e1 : w5.cell? ⟨tb, 1, none⟩ = some (.int .i64 n) := Joins.cell_of_block g5 1; have f1 : w5.frozen? ⟨tb, 1, none⟩ = false := Joins.unfrozen_of_block g5 1)
        all_goals
          go_wp2
          go_ret
          refine ⟨rfl, _, tb_done T.out (thn B3.out (BA.out _)) A5 (n + 1) HB.out⟩
      · rw [h3] at CH
        rw [if_pos rfl]
        go_enter Try.func28, Try.ntmps28
        go_wp2_with first
          | (refine wpList_box_hd (n := h) _ rfl _ rfl rfl ?_; intro w0 b0 N0)
          | (have := q2; refine wpList_load_hd (n := h) _ rfl (.tmp 3) rfl rfl ((N0.hd.bel q1).bel q2) ?_)
          | (refine wpList_load_hd (n := h) _ rfl (.tmp 3) rfl rfl N0.hd ?_)
          | (go_at_call 8; refine (CR.out _).mono ?_; rintro e w1 ⟨rfl, q1⟩; have T1 : Hid (TbIs B w1 tb (.slice a L.length c) L n) := (T.out.bel N0.below).bel q1; have c0 := T1.out.c0)
          | (go_at_call 35; refine (CC.out _ _ (N0.hd.bel q1) T1.out).mono ?_; rintro e w2 ⟨rfl, q2⟩)
          | (go_at_call 22; refine (CH.out _ (T1.out.bel q2)).mono ?_; rintro e w3 ⟨rfl, q3⟩)
        go_ret
        exact ⟨rfl, _, TbTo.same T.out (thn (thn (thn N0.below q1) q2) q3) HB.out⟩
    · rw [h2] at CC
      rw [if_pos rfl]
      go_enter Try.func28, Try.ntmps28
      go_wp2_with first
        | (refine wpList_box_hd (n := h) _ rfl _ rfl rfl ?_; intro w0 b0 N0)
        | (refine wpList_load_hd (n := h) _ rfl (.tmp 3) rfl rfl N0.hd ?_)
        | (go_at_call 8; refine (CR.out _).mono ?_; rintro e w1 ⟨rfl, q1⟩; have T1 : Hid (TbIs B w1 tb (.slice a L.length c) L n) := (T.out.bel N0.below).bel q1; have c0 := T1.out.c0)
        | (go_at_call 35; refine (CC.out _ _ (N0.hd.bel q1) T1.out).mono ?_; rintro e w2 ⟨rfl, q2⟩)
      go_ret
      exact ⟨rfl, _, TbTo.same T.out (thn (thn N0.below q1) q2) HB.out⟩
end
end Go.Proofs.Ytkpjamdlpofgcaa
