/- The law's own: asked, ask, who. -/
import Derived.Test.YtkpjamdlpofgcaaLkZ
namespace Go.Proofs.Ytkpjamdlpofgcaa
open Go.RowKit
set_option linter.unusedVariables false
set_option linter.unusedSimpArgs false
set_option maxRecDepth 100000
structure Op5 where
  kd : Int
  h : Hd
  deriving Inhabited
def Op5.A (o : Op5) : Array Value := #[.int .i64 o.kd, .int .i64 o.h.x, .int .i64 o.h.m, .string o.h.lo, .string o.h.hi, .bool o.h.op]
def askedM (o : Op5) : Hd := if o.kd = 1 then ⟨o.h.x, o.h.m, o.h.lo, o.h.lo, false⟩ else if o.kd = 2 then ⟨o.h.x, o.h.m, o.h.lo, o.h.hi, eqB o.h.hi ByteArray.empty⟩ else o.h
section
variable {B tb : Nat} {w w' wx : World} {a : Option Addr} {c : Nat} {L : List Hd} {n : Int} {v v' : Value}
theorem askedM_1 {o : Op5} (h : o.kd = 1) : askedM o = ⟨o.h.x, o.h.m, o.h.lo, o.h.lo, false⟩ := if_pos h
theorem ask_any (hT : TbIs B w tb (.slice a L.length c) L n) (hl : L.length ≤ 80000) (hn : 0 ≤ n ∧ n ≤ 1000000) (hB : B ≤ w.heap.size) (o : Op5) :
    Calls Try.prog 24 #[.pointer (some ⟨tb, 0, none⟩), .agg o.A] w fun e w' => AskO B w w' tb (.slice a L.length c) e (askM L n (askedM o)) := by
  obtain ⟨kd, x, m, lo, hi, op⟩ := o
  have CK : Hid (∀ wx, Below w.heap.size w wx → Calls Try.prog 29 #[.pointer (some ⟨tb, 0, none⟩), .int .i64 x, .int .i64 m, .string lo] wx fun e w' => AskO B wx w' tb (.slice a L.length c) e (askM L n ⟨x, m, lo, lo, false⟩)) := fun wx hb => Key_any (hT.bel hb) hl hn (Nat.le_trans hB hb.size) x m lo
  have CR : Hid (∀ wx, Below w.heap.size w wx → Calls Try.prog 30 #[.pointer (some ⟨tb, 0, none⟩), .int .i64 x, .int .i64 m, .string lo, .string hi] wx fun e w' => AskO B wx w' tb (.slice a L.length c) e (askM L n ⟨x, m, lo, hi, eqB hi ByteArray.empty⟩)) := fun wx hb => Range_any (hT.bel hb) hl hn (Nat.le_trans hB hb.size) x m lo hi
  have CA : Hid (∀ wx, Below w.heap.size w wx → Calls Try.prog 28 #[.pointer (some ⟨tb, 0, none⟩), .agg #[.int .i64 x, .int .i64 m, .string lo, .string hi, .bool op]] wx fun e w' => AskO B wx w' tb (.slice a L.length c) e (askM L n ⟨x, m, lo, hi, op⟩)) := fun wx hb => Ask_any (hT.bel hb) hl hn ⟨x, m, lo, hi, op⟩ (Nat.le_trans hB hb.size)
  have HB : Hid (B ≤ w.heap.size) := hB
  clear hT hB
  have TT : ∀ {o : Obj} {w' : World} {r : Int × List Hd × Int}, (∃ v', TbTo B (w.alloc o) w' tb (.slice a L.length c) v' r.2.1 r.2.2) → ∃ v', TbTo B w w' tb (.slice a L.length c) v' r.2.1 r.2.2 := by
    rintro o w' r ⟨v', t⟩
    refine ⟨v', t.is, fun j hj h1 h2 => (t.fr j (by simp; omega) h1 h2).trans ((bl1 o).block j hj), fun g e => (t.new g e).imp id (fun h => by simp at h; omega), ((bl1 o).mono HB.out).trans t.bel, t.sl⟩
  have HT : Hid (∀ {o : Obj} {w' : World} {r : Int × List Hd × Int}, (∃ v', TbTo B (w.alloc o) w' tb (.slice a L.length c) v' r.2.1 r.2.2) → ∃ v', TbTo B w w' tb (.slice a L.length c) v' r.2.1 r.2.2) := TT
  clear TT
  unfold Op5.A askedM
  simp only
  by_cases h1 : kd = 1
  · subst h1
    rw [if_pos rfl]
    generalize askM L n ⟨x, m, lo, lo, false⟩ = r at *
    clear CR CA
    go_enter Try.func24, Try.ntmps24
    go_wp2_with (go_at_call 29; refine (CK.out _ (bl1 _)).mono ?_; rintro e w2 ⟨rfl, hx⟩; have HX := HT.out hx; have HY : Hid (∃ v', TbTo B w w2 tb (.slice a L.length c) v' r.2.1 r.2.2) := HX; clear hx HX)
    go_ret
    exact ⟨rfl, HY.out⟩
  · rw [if_neg h1]
    by_cases h2 : kd = 2
    · subst h2
      rw [if_pos rfl]
      generalize askM L n ⟨x, m, lo, hi, eqB hi ByteArray.empty⟩ = r at *
      clear CK CA
      go_enter Try.func24, Try.ntmps24
      go_wp2_with (go_at_call 30; refine (CR.out _ (bl1 _)).mono ?_; rintro e w2 ⟨rfl, hx⟩; have HX := HT.out hx; have HY : Hid (∃ v', TbTo B w w2 tb (.slice a L.length c) v' r.2.1 r.2.2) := HX; clear hx HX)
      go_ret
      exact ⟨rfl, HY.out⟩
    · rw [if_neg h2]
      generalize askM L n ⟨x, m, lo, hi, op⟩ = r at *
      clear CK CR
      go_enter Try.func24, Try.ntmps24
      go_wp2_with (go_at_call 28; refine (CA.out _ (bl1 _)).mono ?_; rintro e w2 ⟨rfl, hx⟩; have HX := HT.out hx; have HY : Hid (∃ v', TbTo B w w2 tb (.slice a L.length c) v' r.2.1 r.2.2) := HX; clear hx HX)
      go_ret
      exact ⟨rfl, HY.out⟩
structure OpAt (w : World) (b : Nat) (o : Op5) : Prop where
  blk : w.heap[b]? = some (.cells o.A 34)
theorem OpAt.lt {b : Nat} {o : Op5} (h : OpAt w b o) : b < w.heap.size := (Array.getElem?_eq_some_iff.1 h.blk).1
theorem OpAt.bel {b : Nat} {o : Op5} (h : OpAt w b o) (hb : Below w.heap.size w w') : OpAt w' b o := ⟨(hb.block b h.lt).trans h.blk⟩
theorem OpAt.c0 {b : Nat} {o : Op5} (h : OpAt w b o) : w.cell? ⟨b, 0, none⟩ = some (.int .i64 o.kd) := Joins.cell_of_block h.blk 0
theorem OpAt.c1 {b : Nat} {o : Op5} (h : OpAt w b o) : w.cell? ⟨b, 1, none⟩ = some (.int .i64 o.h.x) := Joins.cell_of_block h.blk 1
theorem OpAt.range {b : Nat} {o : Op5} (h : OpAt w b o) : w.rangeAt b 1 o.h.A.toList := by
  intro j u hu
  have hj : j < 5 := by
    have := (List.getElem?_eq_some_iff.1 hu).1
    rwa [hdl] at this
  rw [cell_of_row w b _ _ 34 (0, 0) h.blk]
  match j, hj with
  | 0, _ => simpa [Hd.A, Op5.A] using hu
  | 1, _ => simpa [Hd.A, Op5.A] using hu
  | 2, _ => simpa [Hd.A, Op5.A] using hu
  | 3, _ => simpa [Hd.A, Op5.A] using hu
  | 4, _ => simpa [Hd.A, Op5.A] using hu
theorem wpList_box_op {ops : Array Oper} {rest : List Oper} {o : Oper} {a : Act} {Q : Exit → Act → World → Prop} {n : Op5} (w : World) (hg : o.guard = none) (x : Operand) (hop : o.op = Op.box 34 x) (hx : a.eval x = .agg n.A)
    (h : ∀ w' b, OpAt w' b n → Below w.heap.size w w' → b = w.heap.size → wpList Try.prog ops Q rest (a.put o.dst (.pointer (some ⟨b, 0, none⟩))) w') : wpList Try.prog ops Q (o :: rest) a w := by
  refine wpList_plain hg fun K' hK' => ?_
  unfold Oper.wp
  simp [execOp, hop, hx, Instr.box, Result.andThen, Value.cells]
  exact hK' _ _ (h _ _ ⟨(MapKept.heap_alloc w _).1⟩ ((Below.refl _ _).alloc (Nat.le_refl _) _) rfl)
theorem results_hd1 {fn : Func} {p : Tmp} (h : fn.results = #[.cell p 23]) (tmps : Array Value) (w : World) {b : Nat} {s : Hd}
    (hp : tmps.getD p undef = .pointer (some ⟨b, 0, none⟩)) (hg : HdAt w b s) : (results fn tmps).run Try.prog w = .ok (.agg s.A) w := by
  have hl := run_loadVar_row (P := Try.prog) w b 23 23 s.A (0, 0) _ hg.blk Try.underlying23 rfl (info_hd s)
  have hp' : tmps[p]?.getD undef = .pointer (some ⟨b, 0, none⟩) := by simpa using hp
  simp only [results, h]
  simp [Sem.run_bind, Result.andThen, hp', asAddr, hl]
theorem PutH.other {w w' : World} {b c : Nat} {n : Hd} {m : Hd} (h : PutH w w' b n) (hc : HdAt w c m) (hne : c ≠ b) : HdAt w' c m := ⟨(h.off c hne).trans hc.blk⟩
set_option maxHeartbeats 1000000 in
theorem asked_any (w : World) (o : Op5) : Calls Try.prog 19 #[.agg o.A] w fun e w' => e = .returned (.agg (askedM o).A) ∧ Below w.heap.size w w' := by
  obtain ⟨kd, x, m, lo, hi, op⟩ := o
  by_cases h1 : kd = 1
  · subst h1
    go_enter Try.func19, Try.ntmps19
    go_wp2_with first
      | (refine wpList_box_op (n := ⟨1, ⟨x, m, lo, hi, op⟩⟩) _ rfl _ rfl rfl ?_; intro w0 b0 O0 q0 e0; clear e0)
      | (refine wpList_load_hdm (n := ⟨x, m, lo, hi, op⟩) _ rfl (.tmp 4) rfl rfl (O0.bel N1.below).range ?_)
      | (have := N1; refine wpList_new_hd _ rfl rfl ?_; intro w2 b2 N2)
      | (refine wpList_new_hd _ rfl rfl ?_; intro w1 b1 N1)
      | (have := P3; refine wpList_put_hd (s := zH) (s' := ⟨x, m, lo, lo, false⟩) _ rfl (.tmp 2) _ rfl rfl rfl A3 ?_; intro w4 P4)
      | (refine wpList_put_hd (s := zH) (s' := ⟨x, m, lo, hi, op⟩) _ rfl (.tmp 3) _ rfl rfl rfl N2.hd ?_; intro w3 P3; have O3 : OpAt w3 b0 ⟨1, ⟨x, m, lo, hi, op⟩⟩ := ⟨(P3.off b0 (by have := N2.eq; have := ((O0.bel N1.below).lt); omega)).trans (((O0.bel N1.below).bel N2.below).blk)⟩; have A3 : HdAt w3 b1 zH := P3.other (N1.hd.bel N2.below) (by have := N2.eq; have := N1.hd.lt; omega); have k0 : w3.cell? ⟨b0, 0, none⟩ = some (.int .i64 1) := O3.c0; have j0 : w3.cell? ⟨b2, 0, none⟩ = some (.int .i64 x) := P3.hd.c0; have j1 : w3.cell? ⟨b2, 1, none⟩ = some (.int .i64 m) := P3.hd.c1; have j2 : w3.cell? ⟨b2, 2, none⟩ = some (.string lo) := P3.hd.c2; have j3 : w3.cell? ⟨b2, 3, none⟩ = some (.string hi) := P3.hd.c3; have j4 : w3.cell? ⟨b2, 4, none⟩ = some (.bool op) := P3.hd.c4)
    refine bodyPost_ret (results_hd1 rfl _ _ rfl P4.hd) rfl ?_
    refine ⟨rfl, ?_⟩
    have s1 := q0.size
    have s2 := N1.below.size
    have s3 := N2.below.size
    have g3 := P3.below w.heap.size (by rw [N2.eq]; omega) (by omega)
    have s4 := g3.size
    exact (((q0.trans (N1.below.mono s1)).trans (N2.below.mono (by omega))).trans g3).trans (P4.below w.heap.size (by rw [N1.eq]; omega) (by omega))
  · by_cases h2 : kd = 2
    · subst h2
      have he : eqB hi ByteArray.empty = (hi.toList == []) := by unfold eqB; rw [emptyL]
      go_enter Try.func19, Try.ntmps19
      go_wp2_with first
        | (refine wpList_box_op (n := ⟨2, ⟨x, m, lo, hi, op⟩⟩) _ rfl _ rfl rfl ?_; intro w0 b0 O0 q0 e0; clear e0)
        | (refine wpList_load_hdm (n := ⟨x, m, lo, hi, op⟩) _ rfl (.tmp 4) rfl rfl (O0.bel N1.below).range ?_)
        | (have := N1; refine wpList_new_hd _ rfl rfl ?_; intro w2 b2 N2)
        | (refine wpList_new_hd _ rfl rfl ?_; intro w1 b1 N1)
        | (have := P3; refine wpList_put_hd (s := zH) (s' := ⟨x, m, lo, hi, eqB hi ByteArray.empty⟩) _ rfl (.tmp 2) _ rfl rfl (by first | rfl | (rw [he]; rfl) | (simp [Act.eval, Act.put, he, Hd.A]; done)) A3 ?_; intro w4 P4)
        | (refine wpList_put_hd (s := zH) (s' := ⟨x, m, lo, hi, op⟩) _ rfl (.tmp 3) _ rfl rfl rfl N2.hd ?_; intro w3 P3; have O3 : OpAt w3 b0 ⟨2, ⟨x, m, lo, hi, op⟩⟩ := ⟨(P3.off b0 (by have := N2.eq; have := ((O0.bel N1.below).lt); omega)).trans (((O0.bel N1.below).bel N2.below).blk)⟩; have A3 : HdAt w3 b1 zH := P3.other (N1.hd.bel N2.below) (by have := N2.eq; have := N1.hd.lt; omega); have k0 : w3.cell? ⟨b0, 0, none⟩ = some (.int .i64 2) := O3.c0; have j0 : w3.cell? ⟨b2, 0, none⟩ = some (.int .i64 x) := P3.hd.c0; have j1 : w3.cell? ⟨b2, 1, none⟩ = some (.int .i64 m) := P3.hd.c1; have j2 : w3.cell? ⟨b2, 2, none⟩ = some (.string lo) := P3.hd.c2; have j3 : w3.cell? ⟨b2, 3, none⟩ = some (.string hi) := P3.hd.c3; have j4 : w3.cell? ⟨b2, 4, none⟩ = some (.bool op) := P3.hd.c4)
      refine bodyPost_ret (results_hd1 rfl _ _ rfl P4.hd) rfl ?_
      refine ⟨rfl, ?_⟩
      have s1 := q0.size
      have s2 := N1.below.size
      have s3 := N2.below.size
      have g3 := P3.below w.heap.size (by rw [N2.eq]; omega) (by omega)
      have s4 := g3.size
      exact (((q0.trans (N1.below.mono s1)).trans (N2.below.mono (by omega))).trans g3).trans (P4.below w.heap.size (by rw [N1.eq]; omega) (by omega))
    · have hm : askedM ⟨kd, ⟨x, m, lo, hi, op⟩⟩ = ⟨x, m, lo, hi, op⟩ := (if_neg h1).trans (if_neg h2)
      rw [hm]
      clear hm
      go_enter Try.func19, Try.ntmps19
      go_wp2_with first
        | (refine wpList_box_op (n := ⟨kd, ⟨x, m, lo, hi, op⟩⟩) _ rfl _ rfl rfl ?_; intro w0 b0 O0 q0 e0; clear e0)
        | (have := P3; refine wpList_load_hd (n := ⟨x, m, lo, hi, op⟩) _ rfl (.tmp 3) rfl rfl P3.hd ?_)
        | (refine wpList_load_hdm (n := ⟨x, m, lo, hi, op⟩) _ rfl (.tmp 4) rfl rfl (O0.bel N1.below).range ?_)
        | (have := N1; refine wpList_new_hd _ rfl rfl ?_; intro w2 b2 N2)
        | (refine wpList_new_hd _ rfl rfl ?_; intro w1 b1 N1)
        | (have := P3; refine wpList_put_hd (s := zH) (s' := ⟨x, m, lo, hi, op⟩) _ rfl (.tmp 2) _ rfl rfl rfl A3 ?_; intro w4 P4)
        | (refine wpList_put_hd (s := zH) (s' := ⟨x, m, lo, hi, op⟩) _ rfl (.tmp 3) _ rfl rfl rfl N2.hd ?_; intro w3 P3; have O3 : OpAt w3 b0 ⟨kd, ⟨x, m, lo, hi, op⟩⟩ := ⟨(P3.off b0 (by have := N2.eq; have := ((O0.bel N1.below).lt); omega)).trans (((O0.bel N1.below).bel N2.below).blk)⟩; have A3 : HdAt w3 b1 zH := P3.other (N1.hd.bel N2.below) (by have := N2.eq; have := N1.hd.lt; omega); have k0 : w3.cell? ⟨b0, 0, none⟩ = some (.int .i64 kd) := O3.c0; have j0 : w3.cell? ⟨b2, 0, none⟩ = some (.int .i64 x) := P3.hd.c0; have j1 : w3.cell? ⟨b2, 1, none⟩ = some (.int .i64 m) := P3.hd.c1; have j2 : w3.cell? ⟨b2, 2, none⟩ = some (.string lo) := P3.hd.c2; have j3 : w3.cell? ⟨b2, 3, none⟩ = some (.string hi) := P3.hd.c3; have j4 : w3.cell? ⟨b2, 4, none⟩ = some (.bool op) := P3.hd.c4)
      refine bodyPost_ret (results_hd1 rfl _ _ rfl P4.hd) rfl ?_
      refine ⟨rfl, ?_⟩
      have s1 := q0.size
      have s2 := N1.below.size
      have s3 := N2.below.size
      have g3 := P3.below w.heap.size (by rw [N2.eq]; omega) (by omega)
      have s4 := g3.size
      exact (((q0.trans (N1.below.mono s1)).trans (N2.below.mono (by omega))).trans g3).trans (P4.below w.heap.size (by rw [N1.eq]; omega) (by omega))
end
end Go.Proofs.Ytkpjamdlpofgcaa
