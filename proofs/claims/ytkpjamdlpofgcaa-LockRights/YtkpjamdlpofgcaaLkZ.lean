/- The law's own: without, has, same, asked, ask, who. -/
import Derived.Test.YtkpjamdlpofgcaaLkY
import Derived.Deep.QuietTactic
import Derived.BigQuiet
import Derived.Laws.StructEq
namespace Go.Proofs.Ytkpjamdlpofgcaa
open Go.RowKit
set_option linter.unusedVariables false
set_option linter.unusedSimpArgs false
set_option maxRecDepth 100000
section
variable {B tb : Nat} {w w' wx : World} {a : Option Addr} {c : Nat} {L : List Hd} {n : Int} {v v' : Value}
set_option maxHeartbeats 1000000 in
theorem without_any (hs : Hs B w (.slice a L.length c) L) (hl : L.length ≤ 80000) (x : Int) :
    Calls Try.prog 17 #[.slice a L.length c, .int .i64 x] w fun e w' => KpO w w' e (L.filter (fun g => !decide (g.x = x))) := by
  have HS : Hid (Hs B w (.slice a L.length c) L) := hs
  clear hs
  go_enter Try.func17, Try.ntmps17
  go_wp2
  go_loopw [5, 6] (fun s5 s6 wr => ∃ (i : Nat), s6 = .int .i64 (i : Int) ∧ i ≤ L.length ∧ Below w.heap.size w wr ∧ ∃ a5 c5, s5 = .slice a5 ((L.take i).filter (fun g => !decide (g.x = x))).length c5 ∧ Hs w.heap.size wr s5 ((L.take i).filter (fun g => !decide (g.x = x)))) (fun s5 s6 _ => L.length - (intOf s6).toNat)
  case atStart => exact ⟨0, rfl, Nat.zero_le _, Below.refl _ _, none, 0, by simp, by simpa using Hs.nil _ _⟩
  case round =>
    obtain ⟨i, rfl, hi, hb0, a5, c5, rfl, h5⟩ := hrel
    have H5 : Hid (Hs w.heap.size wr (.slice a5 ((L.take i).filter (fun g => !decide (g.x = x))).length c5) ((L.take i).filter (fun g => !decide (g.x = x)))) := h5
    have HB : Hid (Below w.heap.size w wr) := hb0
    clear h5 hb0
    by_cases hlt : i < L.length
    · have hltI : (i : Int) < (L.length : Int) := by omega
      obtain ⟨gb, ea, hgl, hcell⟩ := HS.out.at_ hlt
      subst ea
      have hr : Hid (wr.rangeAt gb (i * 5) (L[i].A.toList)) := hcell wr (HB.out.block gb hgl)
      have hfl : Hid (((L.take i).filter (fun g => !decide (g.x = x))).length ≤ 90000) := (Nat.le_trans (List.length_filter_le _ _) (by rw [List.length_take]; omega) : ((L.take i).filter (fun g => !decide (g.x = x))).length ≤ 90000)
      have HX : Hid ((L.take (i + 1)).filter (fun g => !decide (g.x = x)) = (L.take i).filter (fun g => !decide (g.x = x)) ++ (if !decide (L[i].x = x) then [L[i]] else [])) := filter_take_succ hlt
      clear hcell hgl HS
      generalize (L.take i).filter (fun g => !decide (g.x = x)) = M at *
      generalize L[i] = y at *
      have k0 : wr.cell? ⟨gb, i * 5, none⟩ = some (.int .i64 y.x) := by have := hr.out 0 (.int .i64 y.x) rfl; simpa using this
      by_cases hq : y.x = x
      · have e1 : Hid ((L.take (i + 1)).filter (fun g => !decide (g.x = x)) = M) := (by have := HX.out; rw [this]; simp [hq] : (L.take (i + 1)).filter (fun g => !decide (g.x = x)) = M)
        have hq' : (y.x != x) = false := by simp [hq]
        clear HX hq
        go_wp2
        go_roundw
        case rel => exact ⟨i + 1, by rfl, by omega, HB.out, a5, c5, by rw [e1.out], by rw [e1.out]; exact H5.out⟩
        case measure => simp [intOf]; omega
      · have e1 : Hid ((L.take (i + 1)).filter (fun g => !decide (g.x = x)) = M ++ [y]) := (by have := HX.out; rw [this]; simp [hq] : (L.take (i + 1)).filter (fun g => !decide (g.x = x)) = M ++ [y])
        have hq' : (y.x != x) = true := by simp [hq]
        clear HX hq
        go_wp2_with first
          | (refine wpList_load_hdm (n := y) _ rfl (.tmp 23) rfl rfl hr.out ?_)
          | (refine wpList_build_hd (n := y) _ rfl _ rfl rfl ?_; intro w4 b4 N4; have BB : Hid (Below w.heap.size w w4) := thn HB.out N4.below; have H4 : Hid (Hs w.heap.size w4 (.slice a5 M.length c5) M) := H5.out.bel N4.below)
          | (refine wpList_append_hd rfl (.tmp 20) (.tmp 25) rfl rfl H4.out rfl N4.hd BB.out.size hfl.out ?_; intro a6 c6 w6 A6)
        go_roundw
        case rel =>
          have H := BB.out.trans (grown_below A6.grow (fun g e => (H4.out.blkAt e).1) BB.out.size)
          exact ⟨i + 1, by rfl, by omega, H, a6, c6, by rw [e1.out, List.length_append]; rfl, by rw [e1.out]; exact A6.hs⟩
        case measure => simp [intOf]; omega
    · have hltI : ¬ (i : Int) < (L.length : Int) := by omega
      have HE : Hid (L.take i = L) := List.take_of_length_le (by omega)
      have H6 := H5.out
      rw [HE.out] at H6 ⊢
      clear H5
      have H5 : Hid (Hs w.heap.size wr (.slice a5 (L.filter (fun g => !decide (g.x = x))).length c5) (L.filter (fun g => !decide (g.x = x)))) := H6
      clear H6 HS HE
      go_wp2
      go_ret
      exact ⟨⟨_, _, rfl, H5.out⟩, HB.out⟩
theorem bdr {w w' : World} {B : Nat} (h : Below B w w') (q : Nat) : Below B w (w'.drewN q) := ⟨h.os, h.tape, h.output, h.size, h.block⟩
theorem part_one (w : World) (t : TypeId) (A : Array Value) (i : Nat) (v : Value) (hi : (isAgg t).run Try.prog w = .ok false w) (h : A[i]? = some v) : (part t A i).run Try.prog w = .ok v w := by
  simp [part, Sem.run_bind, hi, Result.andThen, h]
theorem eq_fld (w : World) (d : Nat) (A : Array Value) (v : Value) (f : Field) (fs : List Field) (hn : f.name ≠ "_") (hi : (isAgg f.type).run Try.prog w = .ok false w) (h1 : A[f.offset]? = some v) (he : (Op.equalIn (d + 1) f.type v v).run Try.prog w = .ok true w) (r : Bool)
    (h : (Op.eqFields (d + 1) A A fs).run Try.prog w = .ok r w) : (Op.eqFields (d + 1) A A (f :: fs)).run Try.prog w = .ok r w := by
  rw [Op.eqFields, if_pos hn]
  simp only [Sem.run_bind, part_one w f.type A _ _ hi h1, Result.andThen_ok, he]
  simpa using h
theorem eqi (w : World) (d : Nat) (x : Int) : (Op.equalIn (d + 1) 3 (.int .i64 x) (.int .i64 x)).run Try.prog w = .ok true w := by rw [run_equalIn_int w d 3 .i64 .i64 x x Try.underlying3]; simp
theorem eqs (w : World) (d : Nat) (x : ByteArray) : (Op.equalIn (d + 1) 9 (.string x) (.string x)).run Try.prog w = .ok true w := by rw [run_equalIn_string w d 9 x x Try.underlying9]; simp
theorem eqb (w : World) (d : Nat) (x : Bool) : (Op.equalIn (d + 1) 4 (.bool x) (.bool x)).run Try.prog w = .ok true w := by rw [run_equalIn_bool' w d 4 x x Try.underlying4]; simp
theorem equalIn_hd (w : World) (s : Hd) (d : Nat) : (Op.equalIn (d + 2) 23 (.agg s.A) (.agg s.A)).run Try.prog w = .ok true w := by
  rw [run_equalIn_struct w (d + 1) 23 s.A s.A (by kernel_rfl) (by kernel_rfl)]
  have hf : (Try.prog.fieldsOf 23).toList = [⟨ "Txn", 3, 0, false, "", "", 0⟩, ⟨ "Mode", 3, 1, false, "", "", 8⟩, ⟨ "Lo", 9, 2, false, "", "", 16⟩, ⟨ "Hi", 9, 3, false, "", "", 32⟩, ⟨ "Open", 4, 4, false, "", "", 48⟩] := by kernel_rfl
  rw [hf]
  refine eq_fld w d s.A (.int .i64 s.x) _ _ (by decide) (by kernel_rfl) rfl (eqi w d _) _ ?_
  refine eq_fld w d s.A (.int .i64 s.m) _ _ (by decide) (by kernel_rfl) rfl (eqi w d _) _ ?_
  refine eq_fld w d s.A (.string s.lo) _ _ (by decide) (by kernel_rfl) rfl (eqs w d _) _ ?_
  refine eq_fld w d s.A (.string s.hi) _ _ (by decide) (by kernel_rfl) rfl (eqs w d _) _ ?_
  refine eq_fld w d s.A (.bool s.op) _ _ (by decide) (by kernel_rfl) rfl (eqb w d _) _ rfl
theorem neq_hd (w : World) (h : Hd) : (binOp .neq 23 (.agg h.A) (.agg h.A)).run Try.prog w = .ok (.bool false) w := by
  rw [run_neq_struct, equalIn_hd w h 9998]; rfl
theorem guard_hd (w : World) (op : BinOp) (x y : Operand) (s t : Hd) : (eqGuard op 23 x y (.agg s.A) (.agg t.A)).run Try.prog w = .ok () w := run_eqGuard_agg w op 23 x y s.A t.A (by kernel_rfl)
set_option maxHeartbeats 1000000 in
theorem same_any {B' : Nat} {a' : Option Addr} {c' : Nat} (h1 : Hs B w (.slice a L.length c) L) (h2 : Hs B' w (.slice a' L.length c') L) (hl : L.length ≤ 80000) :
    Calls Try.prog 25 #[.slice a L.length c, .slice a' L.length c'] w fun e w' => e = .returned (.bool true) ∧ Below w.heap.size w w' := by
  have H1 : Hid (Hs B w (.slice a L.length c) L) := h1
  have H2 : Hid (Hs B' w (.slice a' L.length c') L) := h2
  clear h1 h2
  go_enter Try.func25, Try.ntmps25
  go_wp2
  go_loopw [5] (fun s5 wr => ∃ (i : Nat), s5 = .int .i64 (i : Int) ∧ i ≤ L.length ∧ Below w.heap.size w wr) (fun s5 _ => L.length - (intOf s5).toNat)
  case atStart => exact ⟨0, rfl, Nat.zero_le _, Below.refl _ _⟩
  case round =>
    obtain ⟨i, rfl, hi, hb0⟩ := hrel
    have HB : Hid (Below w.heap.size w wr) := hb0
    clear hb0
    by_cases hlt : i < L.length
    · have hltI : (i : Int) < (L.length : Int) := by omega
      obtain ⟨g1, e1, hg1, hc1⟩ := H1.out.at_ hlt
      obtain ⟨g2, e2, hg2, hc2⟩ := H2.out.at_ hlt
      subst e1 e2
      have r1 := hc1 wr (HB.out.block g1 hg1)
      have r2 := hc2 wr (HB.out.block g2 hg2)
      clear hc1 hc2 hg1 hg2
      generalize L[i] = y at *
      have q0 : wr.cell? ⟨g1, i * 5, none⟩ = some (.int .i64 y.x) := by have := r1 0 (.int .i64 y.x) rfl; simpa using this
      have q1 : wr.cell? ⟨g1, i * 5 + 1, none⟩ = some (.int .i64 y.m) := r1 1 (.int .i64 y.m) rfl
      have q2 : wr.cell? ⟨g1, i * 5 + 2, none⟩ = some (.string y.lo) := r1 2 (.string y.lo) rfl
      have q3 : wr.cell? ⟨g1, i * 5 + 3, none⟩ = some (.string y.hi) := r1 3 (.string y.hi) rfl
      have q4 : wr.cell? ⟨g1, i * 5 + 4, none⟩ = some (.bool y.op) := r1 4 (.bool y.op) rfl
      have p0 : wr.cell? ⟨g2, i * 5, none⟩ = some (.int .i64 y.x) := by have := r2 0 (.int .i64 y.x) rfl; simpa using this
      have p1 : wr.cell? ⟨g2, i * 5 + 1, none⟩ = some (.int .i64 y.m) := r2 1 (.int .i64 y.m) rfl
      have p2 : wr.cell? ⟨g2, i * 5 + 2, none⟩ = some (.string y.lo) := r2 2 (.string y.lo) rfl
      have p3 : wr.cell? ⟨g2, i * 5 + 3, none⟩ = some (.string y.hi) := r2 3 (.string y.hi) rfl
      have p4 : wr.cell? ⟨g2, i * 5 + 4, none⟩ = some (.bool y.op) := r2 4 (.bool y.op) rfl
      have hne : ∀ w : World, (binOp .neq 23 (.agg #[.int .i64 y.x, .int .i64 y.m, .string y.lo, .string y.hi, .bool y.op]) (.agg #[.int .i64 y.x, .int .i64 y.m, .string y.lo, .string y.hi, .bool y.op])).run Try.prog w = .ok (.bool false) w := fun w => neq_hd w y
      have hgu : ∀ (w : World) (x' y' : Operand), (eqGuard .neq 23 x' y' (.agg #[.int .i64 y.x, .int .i64 y.m, .string y.lo, .string y.hi, .bool y.op]) (.agg #[.int .i64 y.x, .int .i64 y.m, .string y.lo, .string y.hi, .bool y.op])).run Try.prog w = .ok () w := fun w x' y' => guard_hd w .neq x' y' y y
      clear r1 r2
      go_wp2
      go_quiet (fail)
      go_wp2
      go_roundw
      case rel => exact ⟨i + 1, by rfl, by omega, bdr HB.out _⟩
      case measure => simp [intOf]; omega
    · have hltI : ¬ (i : Int) < (L.length : Int) := by omega
      go_wp2
      go_ret
      exact ⟨rfl, HB.out⟩
end
end Go.Proofs.Ytkpjamdlpofgcaa
