/- BaseSaves: what any base is saved as and loaded as, or that it has no room. -/
import Derived.Test.YtljedbakdlhlbaaBsLw
namespace Go.Proofs.Ytljedbakdlhlbaa
open Go.RowKit
set_option linter.unusedVariables false
set_option linter.unusedSimpArgs false
set_option maxRecDepth 100000

section
variable {w : World}
theorem eql_self (s : Bs) (wx : World) : (binOp .eql 23 (.agg #[.int .i64 s.nd, .int .i64 s.bt, .int .i64 s.gn, .int .i64 s.ck, .int .i64 s.rd, .int .i64 s.sn, .int .i64 s.jn]) (.agg #[.int .i64 s.nd, .int .i64 s.bt, .int .i64 s.gn, .int .i64 s.ck, .int .i64 s.rd, .int .i64 s.sn, .int .i64 s.jn])).run Try.prog wx = .ok (.bool true) wx := by
  have := eql_bs wx s s
  rw [Bs.eq_self] at this
  exact this
set_option maxHeartbeats 4000000 in
theorem saves_fit (s : Bs) (h : Fit s) : Calls Try.prog 3 #[.agg s.A] w fun e w' => e = .returned (.bool true) ∧ Below w.heap.size w w' := by
  obtain ⟨e1, e2, e3⟩ := (qt_new 2 (by decide)).save (s := s) (fun _ => rfl)
  have hz := pad_size (s := bB s) (by rw [bB_size]; decide)
  have hv := bB_size s
  have CN : Hid (∀ wx, Calls Try.prog 8 #[.int .i64 2] wx fun e w' => e = .returned (.tuple #[.pointer (some ⟨wx.heap.size + 2, 0, none⟩), .int .i64 0]) ∧ Ds wx.heap.size w' (wx.heap.size + 2) 0 (newDk 2) ∧ Below wx.heap.size wx w') := fun wx => Ds.new 2 (by decide) (by decide) wx
  have CS : Hid (∀ B wx db, Ds B wx db 0 (newDk 2) → Calls Try.prog 9 #[.pointer (some ⟨db, 0, none⟩), .agg s.A] wx fun e w' => e = .returned (.int .i64 0) ∧ Ds B w' db 2 (saveDk (newDk 2) s) ∧ Kp isD B wx w') := by
    intro B wx db d
    have := Save_fit d (by decide) h
    rw [e1] at this
    exact this
  have CB : Hid (∀ wx, Calls Try.prog 10 #[.agg s.A] wx fun e w' => e = .returned (.tuple #[.string (bB s), .bool true]) ∧ Below wx.heap.size wx w') := fun wx => bytes_fit h wx
  have CL : Hid (∀ B wx db, Ds B wx db 2 (saveDk (newDk 2) s) → Calls Try.prog 11 #[.pointer (some ⟨db, 0, none⟩)] wx fun e w' => e = .returned (.tuple #[.agg s.A, .int .i64 0]) ∧ Below wx.heap.size wx w') := fun B wx db d => Load_has d e2.qt.up (e2.has h)
  have CR : Hid (∀ B wx db, Ds B wx db 2 (saveDk (newDk 2) s) → Calls Try.prog 14 #[.pointer (some ⟨db, 0, none⟩), .int .i64 0] wx fun e w' => e = .returned (.tuple #[.string (pad (bB s)), .int .i64 0]) ∧ Below wx.heap.size wx w') := by
    intro B wx db d
    have := d.read e2.qt.up 0 d.q.ok.n1
    rw [e2.now] at this
    exact this
  have CW : Hid (∀ B wx db, Ds B wx db 2 (saveDk (newDk 2) s) → Calls Try.prog 12 #[.pointer (some ⟨db, 0, none⟩)] wx fun e w' => ∃ a cap, e = .returned (.slice a 0 cap) ∧ Below wx.heap.size wx w') := fun B wx db d => d.waiting0 (by decide) e2.waitL
  have CA : Hid (∀ wx, Calls Try.prog 13 #[] wx fun e w' => e = .returned (.bool true) ∧ w' = wx) := awake9
  have hy : (pad (bB s)).extract 0 36 = bB s := (pad_has h).head
  have heq := eql_self s
  generalize pad (bB s) = u at *
  generalize bB s = v at *
  generalize saveDk (newDk 2) s = S2 at *
  clear h e1 e2 e3
  go_enter Try.func3, Try.ntmps3
  go_wp2_with (first
    | (refine wpList_box_bs (s := s) _ rfl _ rfl rfl ?_; intro w0 b0 N0)
    | (go_at_call 8; refine (CN.out _).mono ?_; rintro e w1 ⟨rfl, d1, q1⟩; have r1 := N0.rc.below q1)
    | (have := d2; refine wpList_load_bs _ rfl (.tmp 1) rfl rfl r2 ?_)
    | (refine wpList_load_bs _ rfl (.tmp 1) rfl rfl r1 ?_)
    | (go_at_call 9; refine (CS.out _ _ _ d1).mono ?_; rintro e w2 ⟨rfl, d2, k2⟩; have r2 := r1.kp k2)
    | (go_at_call 10; refine (CB.out _).mono ?_; rintro e w3 ⟨rfl, q3⟩)
    | (go_at_call 11; refine (CL.out _ _ _ (d2.below q3)).mono ?_; rintro e w4 ⟨rfl, q4⟩)
    | (refine wpList_new_bs _ rfl rfl ?_; intro w5 b5 N5)
    | (refine wpList_at (Op.store 23 (.tmp 8) (.tmp 33)) rfl ?_; refine wpList_put_bs (s' := s) _ rfl (.tmp 8) (.tmp 33) rfl rfl rfl N5.rc ?_; intro w6 P6; have d6 := ((((d2.below q3).below q4).below N5.below).putB N5.rc P6))
    | (go_at_call 14; refine (CR.out _ _ _ d6).mono ?_; rintro e w7 ⟨rfl, q7⟩)
    | (go_at_call 12; refine (CW.out _ _ _ (d6.below q7)).mono ?_; rintro e w8 ⟨a8, c8, rfl, q8⟩; have x := (P6.rc.below q7).below q8; have y := ((((((r2.below q3).below q4).below N5.below).off P6.off (by have := r2.lt; have := q3.size; have := q4.size; have := N5.eq; omega)).below q7).below q8); have x0 := x.c0; have x1 := x.c1; have x2 := x.c2; have x3 := x.c3; have x4 := x.c4; have x5 := x.c5; have x6 := x.c6; have y0 := y.c0; have y1 := y.c1; have y2 := y.c2; have y3 := y.c3; have y4 := y.c4; have y5 := y.c5; have y6 := y.c6)
    | (go_at_call 13; refine (CA.out _).mono ?_; rintro e w9 ⟨rfl, rfl⟩))
  go_ret
  have a0 := N0.below.size
  have a1 := N5.eq
  have a2 := q1.size
  have a3 := k2.size
  have a4 := q3.size
  have a5 := q4.size
  have a6 := N5.below.size
  have a7 := P6.off.size
  have a8 := q7.size
  exact ⟨rfl, (thn N0.below q1).trans ((k2.bel.mono a0).trans (((thn q3 (thn q4 N5.below)).mono (by omega)).trans ((P6.below (by omega) (by omega)).trans ((thn q7 q8).mono (by omega)))))⟩
theorem eql_zero (wx : World) : (binOp .eql 23 (.agg #[.int .i64 0, .int .i64 0, .int .i64 0, .int .i64 0, .int .i64 0, .int .i64 0, .int .i64 0]) (.agg #[.int .i64 0, .int .i64 0, .int .i64 0, .int .i64 0, .int .i64 0, .int .i64 0, .int .i64 0])).run Try.prog wx = .ok (.bool true) wx := eql_self Bs.zero wx
theorem BsAt.zs {w : World} {b : Nat} (h : BsAt w b Bs.zero) (i : Nat) (hi : i < 7) : w.cell? ⟨b, i, none⟩ = some (.int .i64 0) := by
  match i, hi with
  | 0, _ => exact h.c0
  | 1, _ => exact h.c1
  | 2, _ => exact h.c2
  | 3, _ => exact h.c3
  | 4, _ => exact h.c4
  | 5, _ => exact h.c5
  | 6, _ => exact h.c6
set_option maxHeartbeats 4000000 in
theorem saves_bad (s : Bs) (h : ¬ Fit s) (hi : I64 s) : Calls Try.prog 3 #[.agg s.A] w fun e w' => e = .returned (.bool true) ∧ Below w.heap.size w w' := by
  have CN : Hid (∀ wx, Calls Try.prog 8 #[.int .i64 2] wx fun e w' => e = .returned (.tuple #[.pointer (some ⟨wx.heap.size + 2, 0, none⟩), .int .i64 0]) ∧ Ds wx.heap.size w' (wx.heap.size + 2) 0 (newDk 2) ∧ Below wx.heap.size wx w') := fun wx => Ds.new 2 (by decide) (by decide) wx
  have CS : Hid (∀ wx p, Calls Try.prog 9 #[p, .agg s.A] wx fun e w' => e = .returned (.int .i64 6) ∧ Below wx.heap.size wx w') := fun wx p => Save_bad p h
  have CB : Hid (∀ wx, Calls Try.prog 10 #[.agg s.A] wx fun e w' => ∃ t, e = .returned (.tuple #[.string t, .bool false]) ∧ Below wx.heap.size wx w') := fun wx => bytes_bad h hi wx
  have CL : Hid (∀ B wx db, Ds B wx db 0 (newDk 2) → Calls Try.prog 11 #[.pointer (some ⟨db, 0, none⟩)] wx fun e w' => e = .returned (.tuple #[.agg Bs.zero.A, .int .i64 8]) ∧ Below wx.heap.size wx w') := fun B wx db d => Load_none d rfl (new_none 2)
  have CW : Hid (∀ B wx db, Ds B wx db 0 (newDk 2) → Calls Try.prog 12 #[.pointer (some ⟨db, 0, none⟩)] wx fun e w' => ∃ a cap, e = .returned (.slice a 0 cap) ∧ Below wx.heap.size wx w') := fun B wx db d => d.waiting0 (by decide) (new_waitL 2)
  have CA : Hid (∀ wx, Calls Try.prog 13 #[] wx fun e w' => e = .returned (.bool true) ∧ w' = wx) := awake9
  have heq := eql_zero
  clear h hi
  go_enter Try.func3, Try.ntmps3
  go_wp2_with (first
    | (refine wpList_box_bs (s := s) _ rfl _ rfl rfl ?_; intro w0 b0 N0)
    | (go_at_call 8; refine (CN.out _).mono ?_; rintro e w1 ⟨rfl, d1, q1⟩; have r1 := N0.rc.below q1)
    | (have := q2; refine wpList_load_bs _ rfl (.tmp 1) rfl rfl r2 ?_)
    | (refine wpList_load_bs _ rfl (.tmp 1) rfl rfl r1 ?_)
    | (go_at_call 9; refine (CS.out _ _).mono ?_; rintro e w2 ⟨rfl, q2⟩; have r2 := r1.below q2)
    | (go_at_call 10; refine (CB.out _).mono ?_; rintro e w3 ⟨t3, rfl, q3⟩)
    | (go_at_call 11; refine (CL.out _ _ _ ((d1.below q2).below q3)).mono ?_; rintro e w4 ⟨rfl, q4⟩)
    | (refine wpList_new_bs _ rfl rfl ?_; intro w5 b5 N5)
    | (refine wpList_at (Op.store 23 (.tmp 8) (.tmp 33)) rfl ?_; refine wpList_put_bs (s' := Bs.zero) _ rfl (.tmp 8) (.tmp 33) rfl rfl rfl N5.rc ?_; intro w6 P6; have d6 := (((((d1.below q2).below q3).below q4).below N5.below).putB N5.rc P6); have x0 := P6.rc.zs 0 (by decide); have x1 := P6.rc.zs 1 (by decide); have x2 := P6.rc.zs 2 (by decide); have x3 := P6.rc.zs 3 (by decide); have x4 := P6.rc.zs 4 (by decide); have x5 := P6.rc.zs 5 (by decide); have x6 := P6.rc.zs 6 (by decide))
    | (go_at_call 12; refine (CW.out _ _ _ d6).mono ?_; rintro e w8 ⟨a8, c8, rfl, q8⟩)
    | (go_at_call 13; refine (CA.out _).mono ?_; rintro e w9 ⟨rfl, rfl⟩))
  go_ret
  have a0 := N0.below.size
  have a1 := N5.eq
  have a2 := q1.size
  have a3 := q2.size
  have a4 := q3.size
  have a5 := q4.size
  have a6 := N5.below.size
  have a7 := P6.off.size
  exact ⟨rfl, (thn N0.below (thn q1 (thn q2 (thn q3 (thn q4 N5.below))))).trans ((P6.below (by omega) (by omega)).trans (q8.mono (by omega)))⟩
theorem saves9_walk (s : Bs) (hi : I64 s) : Calls Try.prog 3 #[.agg s.A] w fun e w' => e = .returned (.bool true) ∧ Below w.heap.size w w' := by
  by_cases h : Fit s
  · exact saves_fit s h
  · exact saves_bad s h hi
end
end Go.Proofs.Ytljedbakdlhlbaa
