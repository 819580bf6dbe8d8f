/- Drop, All, Key, Range of a table. -/
import Derived.Test.YtkpjamdlpofgcaaLkV
namespace Go.Proofs.Ytkpjamdlpofgcaa
open Go.RowKit
set_option linter.unusedVariables false
set_option linter.unusedSimpArgs false
set_option maxRecDepth 100000
section
variable {B tb : Nat} {w w' wx : World} {a : Option Addr} {c : Nat} {L : List Hd} {n : Int} {v v' : Value}
theorem emptyL : ByteArray.empty.toList = [] := by simp
theorem tb_put (h : TbIs B w tb v L n) (hb : Below w.heap.size w wx) {M : List Hd} (hM : Hs w.heap.size wx v' M) (hB : B ≤ w.heap.size) (hs : ∃ a c, v' = .slice a M.length c) : TbTo B w (wx.setCell ⟨tb, 0, none⟩ v') tb v v' M n := by
  have h3 := (h.bel hb).blk
  have h4 : (wx.setCell ⟨tb, 0, none⟩ v').heap[tb]? = some (.cells #[v', .int .i64 n] 53) := Joins.block_setCell h3 _
  have ho : ∀ j, j ≠ tb → (wx.setCell ⟨tb, 0, none⟩ v').heap[j]? = wx.heap[j]? := fun j hj => by
    rw [heap_setCell_other _ _ j _ (by exact hj)]
  have hlt := h.lt
  refine ⟨⟨h4, (hM.keep fun g e => ho g (fun e2 => ?_)).less hB, h.ge⟩, fun j hj h1 h2 => (ho j h1).trans (hb.block j hj), fun g e => Or.inr (hM.blkAt e).1, ?_, hs⟩
  · have := (hM.blkAt e).1
    omega
  · have g2 := hb.mono hB
    refine ⟨g2.os, g2.tape, g2.output, ?_, fun k hk => ?_⟩
    · simpa using g2.size
    · have := h.ge
      rw [ho k (by omega)]
      exact g2.block k hk
theorem Drop_any (hT : TbIs B w tb (.slice a L.length c) L n) (hl : L.length ≤ 80000) (x : Int) (hB : B ≤ w.heap.size) :
    Calls Try.prog 18 #[.pointer (some ⟨tb, 0, none⟩), .int .i64 x] w fun e w' => AskO B w w' tb (.slice a L.length c) e ((L.length : Int) - ((L.filter (fun g => !decide (g.x = x))).length : Int), L.filter (fun g => !decide (g.x = x)), n) := by
  have CK : Hid (∀ wx hb, hb < wx.heap.size → wx.cell? ⟨hb, 0, none⟩ = some (.int .i64 x) → TbIs B wx tb (.slice a L.length c) L n → Calls Try.prog 32 #[.slice a L.length c, .func (.func 33) #[] #[.pointer (some ⟨hb, 0, none⟩)]] wx fun e w' => KpO wx w' e (L.filter (fun g => !decide (g.x = x)))) := fun wx hb h0 h1 h2 => kept_any h2.hs (by omega) (prDrop wx h0 h1)
  have T : Hid (TbIs B w tb (.slice a L.length c) L n) := hT
  have HB : Hid (B ≤ w.heap.size) := hB
  have hle : (L.filter (fun g => !decide (g.x = x))).length ≤ L.length := List.length_filter_le _ _
  clear hT hB
  generalize L.filter (fun g => !decide (g.x = x)) = M at *
  have hw1 : IntKind.i64.wrap ((L.length : Int) - (M.length : Int)) = (L.length : Int) - (M.length : Int) := by rw [IntKind.wrap_i64]; omega
  have BA : Hid (∀ o : Obj, Below w.heap.size w (w.alloc o)) := fun o => (Below.refl _ _).alloc (by exact Nat.le_refl _) _
  have c0 := T.out.c0
  have lt := T.out.lt
  have ne : tb ≠ w.heap.size := by omega
  go_enter Try.func18, Try.ntmps18
  go_wp2_with (go_at_call 32; refine (CK.out _ _ (by simp) (by simp) (T.out.bel (BA.out _))).mono ?_; rintro e w2 ⟨⟨a2, c2, rfl, hs2⟩, b2⟩; have H2 : Hid (Hs w.heap.size w2 (.slice a2 M.length c2) M) := hs2.less (by simp); have B2 : Hid (Below w.heap.size w w2) := thn (BA.out _) b2; have d0 := (T.out.bel B2.out).c0; have f0 := (T.out.bel B2.out).f 0; clear hs2 b2)
  go_ret
  exact ⟨by simp, _, tb_put T.out B2.out H2.out HB.out ⟨_, _, rfl⟩⟩
theorem wpList_append_all {ops : Array Oper} {rest : List Oper} {o : Oper} {act : Act} {Q : Exit → Act → World → Prop} {M : List Hd} (hgd : o.guard = none) (s x : Operand)
    (ho : o.op = .call { callee := .builtin .append, args := #[s, x], argTypes := #[32, 32] }) (hs : act.eval s = v) (hrow : Hs B w v L) {b c : Nat}
    (hx : act.eval x = .slice (some ⟨b, 0, none⟩) M.length c) (hM : M ≠ []) (hn : ∀ j u, (flatH M)[j]? = some u → w.cell? ⟨b, 0 + j, none⟩ = some u) (hB : B ≤ w.heap.size) (hl : L.length + M.length ≤ 90000)
    (K : ∀ a' c' w', App B w w' v (.slice a' (L ++ M).length c') (L ++ M) → wpList Try.prog ops Q rest (act.put o.dst (.slice a' (L ++ M).length c')) w') : wpList Try.prog ops Q (o :: rest) act w := by
  refine wpList_plain hgd fun K' hK => ?_
  obtain ⟨v', w', hr, h2, h3, h4⟩ := append_hs hrow (g := b) (of := 0) (c := c) (M := M) hM hn hB (by omega) o.type
  obtain ⟨a', c', e, _⟩ := h2.slice
  unfold Oper.wp execOp
  simp only [ho, resolve, invoke, builtin, Sem.run_bind, Sem.run_pure, Result.andThen_ok, List.map_toArray, List.map_cons, List.map_nil, hs, hx]
  simp only [hr]
  subst e
  exact hK _ _ (K _ _ w' ⟨h2, h3, h4, ⟨_, _, rfl⟩⟩)
theorem hs_cells {g n c : Nat} (h : Hs B w (.slice (some ⟨g, 0, none⟩) n c) L) : ∀ j u, (flatH L)[j]? = some u → w.cell? ⟨g, 0 + j, none⟩ = some u := by
  intro j u hu
  rcases h.row.2 with ⟨e, _⟩ | ⟨b, cap, cur, e, hbg, hgg, hnc, hcm, hcs, htake⟩
  · cases e
  · cases e
    rw [Nat.zero_add, cell_of_row w g j cur 23 (0, 0) hgg]
    rw [← htake, List.getElem?_take] at hu
    split at hu
    · simpa using hu
    · cases hu
theorem hs_spot {ad : Addr} {n c : Nat} (h : Hs B w (.slice (some ad) n c) L) : ∃ g, ad = ⟨g, 0, none⟩ := by
  rcases h.row.2 with ⟨e, _⟩ | ⟨b, cap, cur, e, hbg, hgg, hnc, hcm, hcs, htake⟩
  · cases e
  · cases e
    exact ⟨_, rfl⟩
theorem hs_emp (w : World) : Hs w.heap.size (w.alloc (.cells #[] 23)) (.slice (some ⟨w.heap.size, 0, none⟩) 0 0) [] := ⟨rfl, Or.inr ⟨w.heap.size, 0, #[], rfl, Nat.le_refl _, (MapKept.heap_alloc w _).1, Nat.le_refl _, by unfold maxLen; omega, rfl, rfl⟩⟩
set_option maxHeartbeats 1000000 in
theorem clone_hs (hs : Hs B w (.slice a L.length c) L) (hl : L.length ≤ 80000) : Calls Try.prog 38 #[.slice a L.length c] w fun e w' => KpO w w' e L := by
  have q32 : ∀ (w : World) (a : Option Addr) (n c n' c' : Nat), (binOp .eql 32 (.slice a n c) (.slice none n' c')).run Try.prog w = .ok (.bool a.isNone) w := fun w a n c n' c' => Lib.run_eql_slice_nil w _ _ a n c n' c' Try.underlying32
  cases a with
  | none =>
    obtain ⟨a', c', e, hn⟩ := hs.slice
    cases e
    have := hn rfl
    subst this
    clear hs hn
    go_enter Try.func38, Try.ntmps38
    go_wp2
    go_ret
    exact ⟨⟨_, _, rfl, Hs.nil _ _⟩, Below.refl _ _⟩
  | some ad =>
    obtain ⟨g, rfl⟩ := hs_spot hs
    by_cases hL : L = []
    · subst hL
      clear hs
      go_enter Try.func38, Try.ntmps38
      go_wp2
      go_ret
      exact ⟨⟨_, _, rfl, hs_emp w⟩, bl1 _⟩
    · have H : Hid (Hs B w (.slice (some ⟨g, 0, none⟩) L.length c) L) := hs
      have HL : Hid (L ≠ []) := hL
      have HE : Hid (Hs w.heap.size (w.alloc (.cells #[] 23)) (.slice (some ⟨w.heap.size, 0, none⟩) 0 0) []) := hs_emp w
      clear hs hL
      go_enter Try.func38, Try.ntmps38
      go_wp2_with (refine wpList_append_all (M := L) rfl (.tmp 5) (.tmp 6) rfl rfl HE.out rfl HL.out (hs_cells (H.out.bel (bl1 _))) (by simp) (by simp; omega) ?_; intro a6 c6 w6 A6)
      go_ret
      refine ⟨⟨a6, c6, rfl, A6.hs⟩, (bl1 _).trans (grown_below A6.grow (fun g e => (HE.out.blkAt e).1) (by simp))⟩
theorem All_any (hT : TbIs B w tb (.slice a L.length c) L n) (hl : L.length ≤ 80000) : Calls Try.prog 26 #[.pointer (some ⟨tb, 0, none⟩)] w fun e w' => KpO w w' e L := by
  have C : Hid (Calls Try.prog 38 #[.slice a L.length c] w fun e w' => KpO w w' e L) := clone_hs hT.hs hl
  have c0 := hT.c0
  clear hT
  go_enter Try.func26, Try.ntmps26
  go_wp2_with (go_at_call 38; refine C.out.mono ?_; rintro e w2 ⟨⟨a2, c2, rfl, hs2⟩, b2⟩; have H2 : Hid (Hs w.heap.size w2 (.slice a2 L.length c2) L) := hs2; clear hs2)
  go_ret
  exact ⟨⟨_, _, rfl, H2.out⟩, b2⟩
theorem Key_any (hT : TbIs B w tb (.slice a L.length c) L n) (hl : L.length ≤ 80000) (hn : 0 ≤ n ∧ n ≤ 1000000) (hB : B ≤ w.heap.size) (x m : Int) (k : ByteArray) :
    Calls Try.prog 29 #[.pointer (some ⟨tb, 0, none⟩), .int .i64 x, .int .i64 m, .string k] w fun e w' => AskO B w w' tb (.slice a L.length c) e (askM L n ⟨x, m, k, k, false⟩) := by
  have C : Hid (Calls Try.prog 28 #[.pointer (some ⟨tb, 0, none⟩), .agg #[.int .i64 x, .int .i64 m, .string k, .string k, .bool false]] w fun e w' => AskO B w w' tb (.slice a L.length c) e (askM L n ⟨x, m, k, k, false⟩)) := Ask_any hT hl hn ⟨x, m, k, k, false⟩ hB
  clear hT
  generalize askM L n ⟨x, m, k, k, false⟩ = r at *
  go_enter Try.func29, Try.ntmps29
  go_wp2_with (go_at_call 28; refine C.out.mono ?_; rintro e w2 ⟨rfl, hx⟩; have HX : Hid (∃ v', TbTo B w w2 tb (.slice a L.length c) v' r.2.1 r.2.2) := hx; clear hx)
  go_ret
  exact ⟨rfl, HX.out⟩
theorem Range_any (hT : TbIs B w tb (.slice a L.length c) L n) (hl : L.length ≤ 80000) (hn : 0 ≤ n ∧ n ≤ 1000000) (hB : B ≤ w.heap.size) (x m : Int) (k k' : ByteArray) :
    Calls Try.prog 30 #[.pointer (some ⟨tb, 0, none⟩), .int .i64 x, .int .i64 m, .string k, .string k'] w fun e w' => AskO B w w' tb (.slice a L.length c) e (askM L n ⟨x, m, k, k', eqB k' ByteArray.empty⟩) := by
  have C : Hid (∀ q, q = eqB k' ByteArray.empty → Calls Try.prog 28 #[.pointer (some ⟨tb, 0, none⟩), .agg #[.int .i64 x, .int .i64 m, .string k, .string k', .bool q]] w fun e w' => AskO B w w' tb (.slice a L.length c) e (askM L n ⟨x, m, k, k', eqB k' ByteArray.empty⟩)) := fun q hq => by subst hq; exact Ask_any hT hl hn ⟨x, m, k, k', eqB k' ByteArray.empty⟩ hB
  clear hT
  generalize askM L n ⟨x, m, k, k', eqB k' ByteArray.empty⟩ = r at *
  have hq : Hid (∀ q : Bool, q = (k'.toList == ({ data := #[] } : ByteArray).toList) → q = eqB k' ByteArray.empty) := fun q h => h
  go_enter Try.func30, Try.ntmps30
  go_wp2_with (go_at_call 28; refine (C.out _ (by first | rfl | (simp [eqB]; done))).mono ?_; rintro e w2 ⟨rfl, hx⟩; have HX : Hid (∃ v', TbTo B w w2 tb (.slice a L.length c) v' r.2.1 r.2.2) := hx; clear hx)
  go_ret
  exact ⟨rfl, HX.out⟩
end
end Go.Proofs.Ytkpjamdlpofgcaa
