/- The calls of no table; awake. -/
import Derived.Test.YtkpjamdlpofgcaaLkY
namespace Go.Proofs.Ytkpjamdlpofgcaa
open Go.RowKit
set_option linter.unusedVariables false
set_option linter.unusedSimpArgs false
set_option maxRecDepth 100000
structure TbS (B : Nat) (w w' : World) (tb : Nat) (L : List Hd) (n : Int) : Prop where
  ex : ∃ a c, TbIs B w' tb (.slice a L.length c) L n
  bel : Below B w w'
section
variable {B tb : Nat} {w w' wx : World} {a : Option Addr} {c : Nat} {L : List Hd} {n k : Int} {v v' : Value}
theorem AskO.to {e : Ending} {r : Int × List Hd × Int} (h : AskO B w w' tb v e r) (hr : r = (k, L, n)) : e = .returned (.int .i64 k) ∧ TbS B w w' tb L n := by
  subst hr
  obtain ⟨v', t⟩ := h.ex
  obtain ⟨a, c, rfl⟩ := t.sl
  exact ⟨h.e, ⟨a, c, t.is⟩, t.bel⟩
def hA1 : Hd := ⟨1, 2, ⟨#[98]⟩, ⟨#[98]⟩, false⟩
def hA2 : Hd := ⟨2, 1, ⟨#[97]⟩, ⟨#[99]⟩, false⟩
theorem aw1 : askM [] 0 hA1 = (0, [hA1], 1) := by kernel_rfl
theorem aw2 : askM [hA1] 1 ⟨2, 1, ⟨#[97]⟩, ⟨#[99]⟩, eqB ⟨#[99]⟩ ByteArray.empty⟩ = (12, [hA1], 1) := by kernel_rfl
theorem aw3 : (([hA1].length : Int) - (([hA1].filter (fun g => !decide (g.x = 1))).length : Int), [hA1].filter (fun g => !decide (g.x = 1)), (1 : Int)) = ((1 : Int), ([] : List Hd), (1 : Int)) := by kernel_rfl
theorem aw4 : askM [] 1 ⟨2, 1, ⟨#[97]⟩, ⟨#[99]⟩, eqB ⟨#[99]⟩ ByteArray.empty⟩ = (0, [hA2], 2) := by kernel_rfl
set_option maxHeartbeats 1000000 in
theorem awake_any (w : World) : Calls Try.prog 10 #[] w fun e w' => e = .returned (.bool true) ∧ Below w.heap.size w w' := by
  have CN : Hid (Calls Try.prog 16 #[] w fun e w' => e = .returned (.pointer (some ⟨w.heap.size, 0, none⟩)) ∧ TbIs w.heap.size w' w.heap.size (.slice none 0 0) [] 0 ∧ Below w.heap.size w w') := New_any w
  have C1 : Hid (∀ wx, TbIs w.heap.size wx w.heap.size (.slice none 0 0) [] 0 → w.heap.size ≤ wx.heap.size → Calls Try.prog 29 #[.pointer (some ⟨w.heap.size, 0, none⟩), .int .i64 1, .int .i64 2, .string ⟨#[98]⟩] wx fun e w' => e = .returned (.int .i64 0) ∧ TbS w.heap.size wx w' w.heap.size [hA1] 1) := fun wx h hb => (Key_any (a := none) (c := 0) (L := []) h (by simp) (by omega) hb 1 2 ⟨#[98]⟩).mono fun e w' q => q.to aw1
  have C2 : Hid (∀ wx a c, TbIs w.heap.size wx w.heap.size (.slice a 1 c) [hA1] 1 → w.heap.size ≤ wx.heap.size → Calls Try.prog 30 #[.pointer (some ⟨w.heap.size, 0, none⟩), .int .i64 2, .int .i64 1, .string ⟨#[97]⟩, .string ⟨#[99]⟩] wx fun e w' => e = .returned (.int .i64 12) ∧ TbS w.heap.size wx w' w.heap.size [hA1] 1) := fun wx a c h hb => (Range_any (a := a) (c := c) (L := [hA1]) h (by simp) (by omega) hb 2 1 ⟨#[97]⟩ ⟨#[99]⟩).mono fun e w' q => q.to aw2
  have C3 : Hid (∀ wx a c, TbIs w.heap.size wx w.heap.size (.slice a 1 c) [hA1] 1 → w.heap.size ≤ wx.heap.size → Calls Try.prog 18 #[.pointer (some ⟨w.heap.size, 0, none⟩), .int .i64 1] wx fun e w' => e = .returned (.int .i64 1) ∧ TbS w.heap.size wx w' w.heap.size [] 1) := fun wx a c h hb => (Drop_any (a := a) (c := c) (L := [hA1]) h (by simp) 1 hb).mono fun e w' q => q.to aw3
  have C4 : Hid (∀ wx a c, TbIs w.heap.size wx w.heap.size (.slice a 0 c) [] 1 → w.heap.size ≤ wx.heap.size → Calls Try.prog 30 #[.pointer (some ⟨w.heap.size, 0, none⟩), .int .i64 2, .int .i64 1, .string ⟨#[97]⟩, .string ⟨#[99]⟩] wx fun e w' => e = .returned (.int .i64 0) ∧ TbS w.heap.size wx w' w.heap.size [hA2] 2) := fun wx a c h hb => (Range_any (a := a) (c := c) (L := []) h (by simp) (by omega) hb 2 1 ⟨#[97]⟩ ⟨#[99]⟩).mono fun e w' q => q.to aw4
  go_enter Try.func10, Try.ntmps10
  go_wp2_with first
    | (go_at_call 16; refine CN.out.mono ?_; rintro e w1 ⟨rfl, t1, b1⟩; have T1 : Hid (TbIs w.heap.size w1 w.heap.size (.slice none 0 0) [] 0) := t1; have B1 : Hid (Below w.heap.size w w1) := b1; clear t1 b1)
    | (go_at_call 29; refine (C1.out _ T1.out B1.out.size).mono ?_; rintro e w2 ⟨rfl, ⟨⟨a2, c2, t2⟩, b2⟩⟩; have T2 : Hid (TbIs w.heap.size w2 w.heap.size (.slice a2 1 c2) [hA1] 1) := t2; have B2 : Hid (Below w.heap.size w w2) := B1.out.trans b2; clear t2 b2)
    | (have := T4; go_at_call 30; refine (C4.out _ _ _ T4.out B4.out.size).mono ?_; rintro e w5 ⟨rfl, ⟨_, b5⟩⟩; have B5 : Hid (Below w.heap.size w w5) := B4.out.trans b5; clear b5)
    | (go_at_call 30; refine (C2.out _ _ _ T2.out B2.out.size).mono ?_; rintro e w3 ⟨rfl, ⟨⟨a3, c3, t3⟩, b3⟩⟩; have T3 : Hid (TbIs w.heap.size w3 w.heap.size (.slice a3 1 c3) [hA1] 1) := t3; have B3 : Hid (Below w.heap.size w w3) := B2.out.trans b3; clear t3 b3)
    | (go_at_call 18; refine (C3.out _ _ _ T3.out B3.out.size).mono ?_; rintro e w4 ⟨rfl, ⟨⟨a4, c4, t4⟩, b4⟩⟩; have T4 : Hid (TbIs w.heap.size w4 w.heap.size (.slice a4 0 c4) [] 1) := t4; have B4 : Hid (Below w.heap.size w w4) := B3.out.trans b4; clear t4 b4)
  go_ret
  exact ⟨rfl, B5.out⟩
theorem Ask_nil (w : World) (h : Hd) : Calls Try.prog 28 #[.pointer none, .agg h.A] w fun e w' => e = .returned (.int .i64 11) ∧ Below w.heap.size w w' := by
  unfold Hd.A
  go_enter Try.func28, Try.ntmps28
  go_wp2
  go_ret
  exact ⟨rfl, bl1 _⟩
theorem Has_nil (w : World) (h : Hd) : Calls Try.prog 22 #[.pointer none, .agg h.A] w fun e w' => e = .returned (.bool false) ∧ Below w.heap.size w w' := by
  unfold Hd.A
  go_enter Try.func22, Try.ntmps22
  go_wp2
  go_ret
  exact ⟨rfl, bl1 _⟩
theorem Key_nil (w : World) (x m : Int) (k : ByteArray) : Calls Try.prog 29 #[.pointer none, .int .i64 x, .int .i64 m, .string k] w fun e w' => e = .returned (.int .i64 11) ∧ Below w.heap.size w w' := by
  have C : Hid (∀ wx, Calls Try.prog 28 #[.pointer none, .agg #[.int .i64 x, .int .i64 m, .string k, .string k, .bool false]] wx fun e w' => e = .returned (.int .i64 11) ∧ Below wx.heap.size wx w') := fun wx => Ask_nil wx ⟨x, m, k, k, false⟩
  go_enter Try.func29, Try.ntmps29
  go_wp2_with (go_at_call 28; refine (C.out _).mono ?_; rintro e w2 ⟨rfl, q2⟩)
  go_ret
  exact ⟨rfl, q2⟩
theorem Range_nil (w : World) (x m : Int) (k k' : ByteArray) : Calls Try.prog 30 #[.pointer none, .int .i64 x, .int .i64 m, .string k, .string k'] w fun e w' => e = .returned (.int .i64 11) ∧ Below w.heap.size w w' := by
  have C : Hid (∀ wx q, Calls Try.prog 28 #[.pointer none, .agg #[.int .i64 x, .int .i64 m, .string k, .string k', .bool q]] wx fun e w' => e = .returned (.int .i64 11) ∧ Below wx.heap.size wx w') := fun wx q => Ask_nil wx ⟨x, m, k, k', q⟩
  go_enter Try.func30, Try.ntmps30
  go_wp2_with (go_at_call 28; refine (C.out _ _).mono ?_; rintro e w2 ⟨rfl, q2⟩)
  go_ret
  exact ⟨rfl, q2⟩
theorem Drop_nil (w : World) (x : Int) : Calls Try.prog 18 #[.pointer none, .int .i64 x] w fun e w' => e = .returned (.int .i64 0) ∧ Below w.heap.size w w' := by
  go_enter Try.func18, Try.ntmps18
  go_wp2
  go_ret
  exact ⟨rfl, bl1 _⟩
theorem Count_nil (w : World) : Calls Try.prog 27 #[.pointer none] w fun e w' => e = .returned (.int .i64 0) ∧ Below w.heap.size w w' := by
  go_enter Try.func27, Try.ntmps27
  go_wp2
  go_ret
  exact ⟨rfl, Below.refl _ _⟩
theorem All_nil (w : World) : Calls Try.prog 26 #[.pointer none] w fun e w' => e = .returned (.slice none 0 0) ∧ Below w.heap.size w w' := by
  go_enter Try.func26, Try.ntmps26
  go_wp2
  go_ret
  exact ⟨rfl, Below.refl _ _⟩
theorem Who_nil (w : World) (h : Hd) : Calls Try.prog 21 #[.pointer none, .agg h.A] w fun e w' => e = .returned (.slice none 0 0) ∧ Below w.heap.size w w' := by
  unfold Hd.A
  go_enter Try.func21, Try.ntmps21
  go_wp2
  go_step3
  go_wp2
  rw [Exit.noGoto_ret]
  go_ret
  exact ⟨rfl, bl1 _⟩
end
end Go.Proofs.Ytkpjamdlpofgcaa
