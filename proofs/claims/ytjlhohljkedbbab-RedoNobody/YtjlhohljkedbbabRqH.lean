/- RedoNobody: of a nil log there is nothing. -/
import Derived.Test.YtjlhohljkedbbabRqB
import Derived.Test.YtjlhohljkedbbabRqG
import Derived.BigRegion
namespace Go.Proofs.Ytjlhohljkedbbab.Rq
open Go.RowKit Gm
set_option linter.unusedVariables false
set_option linter.unusedSimpArgs false
set_option maxRecDepth 100000
theorem isOpen_n (w : World) : Calls Try.prog 24 #[.pointer none] w fun e w' => e = .returned (.bool false) ∧ w' = w := by
  go_enter Try.func24, Try.ntmps24
  go_wp2
  go_ret
  exact ⟨rfl, rfl⟩
theorem End_n (w : World) : Calls Try.prog 22 #[.pointer none] w fun e w' => e = .returned (.int .i64 0) ∧ w' = w := by
  have C : Hid (∀ wx, Calls Try.prog 24 #[.pointer none] wx fun e w' => e = .returned (.bool false) ∧ w' = wx) := fun wx => isOpen_n wx
  go_enter Try.func22, Try.ntmps22
  go_wp2_with (go_at_call 24; refine (C.out _).mono ?_; rintro e w2 ⟨rfl, rfl⟩)
  go_ret
  exact ⟨rfl, rfl⟩
theorem over_n (w : World) (f : Value) : Calls Try.prog 20 #[.pointer none, .int .i64 1, f] w fun e w' => e = .returned .nilIface ∧ w' = w := by
  have C : Hid (∀ wx, Calls Try.prog 22 #[.pointer none] wx fun e w' => e = .returned (.int .i64 0) ∧ w' = wx) := fun wx => End_n wx
  go_enter Try.func20, Try.ntmps20
  go_wp2
  go_loopw [7] (fun s7 wr => s7 = .int .i64 1 ∧ wr = w) (fun s7 _ => 0)
  case atStart => exact ⟨rfl, rfl⟩
  case round =>
    obtain ⟨rfl, rfl⟩ := hrel
    go_wp2_with (go_at_call 22; refine (C.out _).mono ?_; rintro e w2 ⟨rfl, rfl⟩)
    go_ret
    exact ⟨rfl, rfl⟩
theorem each_n (w : World) (T : FuncId) (cs : Array Value) : Calls Try.prog 15 #[.pointer none, .int .i64 1, .func (.func T) #[] cs] w fun e w' => e = .returned (.tuple #[]) ∧ Below w.heap.size w w' := by
  have C : Hid (∀ wx g, Calls Try.prog 20 #[.pointer none, .int .i64 1, g] wx fun e w' => e = .returned .nilIface ∧ w' = wx) := fun wx g => over_n wx g
  go_enter Try.func15, Try.ntmps15
  go_wp2_with first
    | (refine wpList_box1 (v := .func (.func T) #[] cs) _ rfl _ rfl rfl rfl ?_; intro w1 b1 N1)
    | (go_at_call 20; refine (C.out _ _).mono ?_; rintro e w2 ⟨rfl, rfl⟩)
  go_end0
  exact ⟨rfl, N1.bel⟩
theorem zI (w : World) : (zeroValue 3).run Try.prog w = .ok (.int .i64 0) w := by kernel_rfl
theorem zSl (w : World) : (zeroValue 22).run Try.prog w = .ok (.slice none 0 0) w := by kernel_rfl
theorem zAc (w : World) : (zeroValue 35).run Try.prog w = .ok (.slice none 0 0) w := by kernel_rfl
theorem i1 : (Try.prog.info? 3).map (·.size) = some 1 := by kernel_rfl
theorem Spans_n (w : World) : Calls Try.prog 11 #[.pointer none] w fun e w' => e = .returned (.slice none 0 0) ∧ Below w.heap.size w w' := by
  have C : Hid (∀ wx T cs, Calls Try.prog 15 #[.pointer none, .int .i64 1, .func (.func T) #[] cs] wx fun e w' => e = .returned (.tuple #[]) ∧ Below wx.heap.size wx w') := fun wx T cs => each_n wx T cs
  go_enter Try.func11, Try.ntmps11
  go_wp2_with first
    | (refine wpList_new1 _ zSl rfl rfl rfl ?_; intro w1 b1 N1)
    | (go_at_call 15; refine (C.out _ _ _).mono ?_; rintro e w2 ⟨rfl, q2⟩; have k1 : w2.cell? ⟨b1, 0, none⟩ = some (.slice none 0 0) := (N1.is.bel q2).c 0)
  go_ret
  exact ⟨rfl, thn N1.bel q2⟩
theorem Check_n (w : World) : Calls Try.prog 12 #[.pointer none] w fun e w' => e = .returned (.int .i64 0) ∧ Below w.heap.size w w' := by
  have C : Hid (∀ wx T cs, Calls Try.prog 15 #[.pointer none, .int .i64 1, .func (.func T) #[] cs] wx fun e w' => e = .returned (.tuple #[]) ∧ Below wx.heap.size wx w') := fun wx T cs => each_n wx T cs
  go_enter Try.func12, Try.ntmps12
  go_wp2_with first
    | (refine wpList_new1 _ zI rfl rfl rfl ?_; intro w1 b1 N1)
    | (refine wpList_put1 (u := .int .i64 0) (v := .int .i64 0) _ rfl _ _ rfl rfl rfl N1.is rfl i1 ?_; intro w3 P3; have B3 : Hid (Below w.heap.size w w3) := Put.belN N1 P3)
    | (go_at_call 15; refine (C.out _ _ _).mono ?_; rintro e w2 ⟨rfl, q2⟩; have k1 : w2.cell? ⟨b1, 0, none⟩ = some (.int .i64 0) := (P3.is.bel q2).c 0)
  go_ret
  exact ⟨rfl, thn B3.out q2⟩
theorem Commits_n (w : World) (n : Int) : Calls Try.prog 13 #[.pointer none, .int .i64 n] w fun e w' => e = .returned (.slice none 0 0) ∧ Below w.heap.size w w' := by
  have C : Hid (∀ wx T cs, Calls Try.prog 15 #[.pointer none, .int .i64 1, .func (.func T) #[] cs] wx fun e w' => e = .returned (.tuple #[]) ∧ Below wx.heap.size wx w') := fun wx T cs => each_n wx T cs
  go_enter Try.func13, Try.ntmps13
  go_wp2_with first
    | (refine wpList_box1 (v := .int .i64 n) _ rfl _ rfl rfl rfl ?_; intro w3 b3 N3)
    | (refine wpList_new1 _ zAc rfl rfl rfl ?_; intro w1 b1 N1)
    | (go_at_call 15; refine (C.out _ _ _).mono ?_; rintro e w2 ⟨rfl, q2⟩; have k1 : w2.cell? ⟨b1, 0, none⟩ = some (.slice none 0 0) := (N1.is.bel q2).c 0)
  go_ret
  exact ⟨rfl, thn (thn N3.bel N1.bel) q2⟩
theorem Leader_n (w : World) : Calls Try.prog 10 #[.pointer none] w fun e w' => e = .returned (.tuple #[.int .i64 0, .int .i64 0]) ∧ Below w.heap.size w w' := by
  have C : Hid (∀ wx T cs, Calls Try.prog 15 #[.pointer none, .int .i64 1, .func (.func T) #[] cs] wx fun e w' => e = .returned (.tuple #[]) ∧ Below wx.heap.size wx w') := fun wx T cs => each_n wx T cs
  go_enter Try.func10, Try.ntmps10
  go_wp2_with first
    | (have := N1; refine wpList_new1 _ zI rfl rfl rfl ?_; intro w2 b2 N2)
    | (refine wpList_new1 _ zI rfl rfl rfl ?_; intro w1 b1 N1)
    | (have := P3; refine wpList_put1 (u := .int .i64 0) (v := .int .i64 0) _ rfl _ _ rfl rfl rfl A3.out rfl i1 ?_; intro w4 P4; have B4 : Hid (Below w.heap.size w w4) := B3.out.trans ((P4.fr (· = b2) rfl).bel (fun j hj => by rw [hj, N2.eq]; exact N1.bel.size) B3.out.size); have A4 : Hid (At w4 b1 3 #[.int .i64 0]) := P3.is.keep (P4.off _ (by have := N1.is.lt; have := N2.eq; omega)))
    | (refine wpList_put1 (u := .int .i64 0) (v := .int .i64 0) _ rfl _ _ rfl rfl rfl (N1.is.bel N2.bel) rfl i1 ?_; intro w3 P3; have B3 : Hid (Below w.heap.size w w3) := (thn N1.bel N2.bel).trans ((P3.fr (· = b1) rfl).bel (fun j hj => by rw [hj, N1.eq]; exact Nat.le_refl _) (thn N1.bel N2.bel).size); have A3 : Hid (At w3 b2 3 #[.int .i64 0]) := N2.is.keep (P3.off _ (by have := N1.is.lt; have := N2.eq; omega)))
    | (go_at_call 15; refine (C.out _ _ _).mono ?_; rintro e w5 ⟨rfl, q5⟩; have k1 : w5.cell? ⟨b1, 0, none⟩ = some (.int .i64 0) := (A4.out.bel q5).c 0; have k2 : w5.cell? ⟨b2, 0, none⟩ = some (.int .i64 0) := (P4.is.bel q5).c 0)
  go_region
  all_goals go_wp2
  all_goals go_ret2
  all_goals exact ⟨rfl, bdr (thn B4.out q5) 1⟩
theorem nobody15_walk (w : World) (n : Int) : Calls Try.prog 5 #[.int .i64 n] w fun e w' => e = .returned (.bool true) ∧ Below w.heap.size w w' := by
  have C1 : Hid (∀ wx, Calls Try.prog 10 #[.pointer none] wx fun e w' => e = .returned (.tuple #[.int .i64 0, .int .i64 0]) ∧ Below wx.heap.size wx w') := fun wx => Leader_n wx
  have C2 : Hid (∀ wx, Calls Try.prog 11 #[.pointer none] wx fun e w' => e = .returned (.slice none 0 0) ∧ Below wx.heap.size wx w') := fun wx => Spans_n wx
  have C3 : Hid (∀ wx, Calls Try.prog 12 #[.pointer none] wx fun e w' => e = .returned (.int .i64 0) ∧ Below wx.heap.size wx w') := fun wx => Check_n wx
  have C4 : Hid (∀ wx, Calls Try.prog 13 #[.pointer none, .int .i64 n] wx fun e w' => e = .returned (.slice none 0 0) ∧ Below wx.heap.size wx w') := fun wx => Commits_n wx n
  have CK : Hid (∀ wx, Calls Try.prog 7 #[] wx fun e w' => e = .returned (.bool true) ∧ Below wx.heap.size wx w') := fun wx => awake15 wx
  go_enter Try.func5, Try.ntmps5
  go_wp2_with first
    | (go_at_call 10; refine (C1.out _).mono ?_; rintro e w1 ⟨rfl, q1⟩)
    | (go_at_call 11; refine (C2.out _).mono ?_; rintro e w2 ⟨rfl, q2⟩)
    | (go_at_call 12; refine (C3.out _).mono ?_; rintro e w3 ⟨rfl, q3⟩)
    | (go_at_call 13; refine (C4.out _).mono ?_; rintro e w4 ⟨rfl, q4⟩)
    | (go_at_call 7; refine (CK.out _).mono ?_; rintro e w5 ⟨rfl, q5⟩)
  go_ret
  exact ⟨rfl, thn q1 (thn q2 (thn q3 (thn q4 q5)))⟩
end Go.Proofs.Ytjlhohljkedbbab.Rq
