/- Which holds may be, which two meet, and which bars which. -/
import Derived.Test.YtkpjamdlpofgcaaLkE
import Derived.Deep.RegionHeld3
namespace Go.Proofs.Ytkpjamdlpofgcaa
open Go.RowKit
set_option linter.unusedVariables false
set_option linter.unusedSimpArgs false
set_option maxRecDepth 100000
set_option maxHeartbeats 8000000 in
theorem rights12_walk (a b : Hd) (w : World) : Calls Try.prog 3 #[.agg a.A, .agg b.A] w fun e w' => e = .returned (.bool true) ∧ Below w.heap.size w w' := by
  have C1 : Hid (∀ wx (h : Hd), Calls Try.prog 8 #[.agg h.A] wx fun e w' => e = .returned (.bool (rightM h)) ∧ Below wx.heap.size wx w') := fun wx h => Right_any wx h
  have C2 : Hid (∀ wx (h : Hd), Calls Try.prog 9 #[.agg h.A] wx fun e w' => e = .returned (.bool (rightM h)) ∧ Below wx.heap.size wx w') := fun wx h => right_any wx h
  have CA : Hid (∀ wx, Calls Try.prog 10 #[] wx fun e w' => e = .returned (.bool true) ∧ Below wx.heap.size wx w') := fun wx => awake_any wx
  have C3 : Hid (∀ wx, Calls Try.prog 11 #[.agg a.A, .agg b.A] wx fun e w' => e = .returned (.bool (meetM a b)) ∧ Below wx.heap.size wx w') := fun wx => meet_any wx a b
  have C4 : Hid (∀ wx, Calls Try.prog 13 #[.agg a.A, .agg b.A] wx fun e w' => e = .returned (.bool (barM a b)) ∧ Below wx.heap.size wx w') := fun wx => bar_any wx a b
  have C5 : Hid (rightM a = true → rightM b = true → ∀ wx, Calls Try.prog 12 #[.agg a.A, .agg b.A] wx fun e w' => e = .returned (.bool (meetM a b)) ∧ Below wx.heap.size wx w') := fun h1 h2 wx => by have := lmeet_any wx a b; rwa [meet_eq h1 h2] at this
  have C6 : Hid (rightM a = true → rightM b = true → ∀ wx, Calls Try.prog 14 #[.agg a.A, .agg b.A] wx fun e w' => e = .returned (.bool (barM a b)) ∧ Below wx.heap.size wx w') := fun h1 h2 wx => lbar_any wx h1 h2
  go_enter Try.func3, Try.ntmps3
  go_wp2_with first
    | (refine wpList_box_hd (n := a) _ rfl _ rfl rfl ?_; intro w0 b0 N0)
    | (refine wpList_box_hd (n := b) _ rfl _ rfl rfl ?_; intro w1 b1 N1; have O := Bx2.new N0 N1; have i0 := O.a.c0; have i1 := O.a.c1; have i2 := O.a.c2; have i3 := O.a.c3; have i4 := O.a.c4; have j0 := O.b.c0; have j1 := O.b.c1; have j2 := O.b.c2; have j3 := O.b.c3; have j4 := O.b.c4)
  have HK : Hid (∀ W : World, Below w1.heap.size w1 W → ((W.cell? ⟨b0, 0, none⟩ = some (.int .i64 a.x) ∧ W.cell? ⟨b0, 1, none⟩ = some (.int .i64 a.m) ∧ W.cell? ⟨b0, 2, none⟩ = some (.string a.lo) ∧ W.cell? ⟨b0, 3, none⟩ = some (.string a.hi) ∧ W.cell? ⟨b0, 4, none⟩ = some (.bool a.op)) ∧ W.cell? ⟨b1, 0, none⟩ = some (.int .i64 b.x) ∧ W.cell? ⟨b1, 1, none⟩ = some (.int .i64 b.m) ∧ W.cell? ⟨b1, 2, none⟩ = some (.string b.lo) ∧ W.cell? ⟨b1, 3, none⟩ = some (.string b.hi) ∧ W.cell? ⟨b1, 4, none⟩ = some (.bool b.op))) := fun W hb => ⟨⟨(O.a.bel hb).c0, (O.a.bel hb).c1, (O.a.bel hb).c2, (O.a.bel hb).c3, (O.a.bel hb).c4⟩, (O.b.bel hb).c0, (O.b.bel hb).c1, (O.b.bel hb).c2, (O.b.bel hb).c3, (O.b.bel hb).c4⟩
  have QB : Hid (Below w1.heap.size w1 w1.drew) := (Below.refl _ _).drew
  have OO : Hid (Bx2 w w1 b0 b1 a b) := O
  clear O
  cases ha : rightM a <;> cases hb : rightM b
  all_goals
    have HA : Hid (rightM a = rightM a) := rfl
    go_region_held3 (fun W => (W.cell? ⟨b0, 0, none⟩ = some (.int .i64 a.x) ∧ W.cell? ⟨b0, 1, none⟩ = some (.int .i64 a.m) ∧ W.cell? ⟨b0, 2, none⟩ = some (.string a.lo) ∧ W.cell? ⟨b0, 3, none⟩ = some (.string a.hi) ∧ W.cell? ⟨b0, 4, none⟩ = some (.bool a.op)) ∧ W.cell? ⟨b1, 0, none⟩ = some (.int .i64 b.x) ∧ W.cell? ⟨b1, 1, none⟩ = some (.int .i64 b.m) ∧ W.cell? ⟨b1, 2, none⟩ = some (.string b.lo) ∧ W.cell? ⟨b1, 3, none⟩ = some (.string b.hi) ∧ W.cell? ⟨b1, 4, none⟩ = some (.bool b.op)) (first | exact keep1 | go_keep) (first
      | (go_at_call_of 8 a; refine (C1.out _ a).mono ?_; rintro e w2 ⟨rfl, q2⟩; rw [ha]; have QB : Hid (Below w1.heap.size w1 w2) := thn QB.out q2; have keep1 := HK.out _ QB.out)
      | (go_at_call_of 8 b; refine (C1.out _ b).mono ?_; rintro e w2 ⟨rfl, q2⟩; rw [hb]; have QB : Hid (Below w1.heap.size w1 w2) := thn QB.out q2; have keep1 := HK.out _ QB.out)
      | (go_at_call_of 9 a; refine (C2.out _ a).mono ?_; rintro e w2 ⟨rfl, q2⟩; rw [ha]; have QB : Hid (Below w1.heap.size w1 w2) := thn QB.out q2; have keep1 := HK.out _ QB.out)
      | (go_at_call_of 9 b; refine (C2.out _ b).mono ?_; rintro e w2 ⟨rfl, q2⟩; rw [hb]; have QB : Hid (Below w1.heap.size w1 w2) := thn QB.out q2; have keep1 := HK.out _ QB.out))
  all_goals
    have O := OO.out.bl QB.out
    have i0 := O.a.c0; have i1 := O.a.c1; have i2 := O.a.c2; have i3 := O.a.c3; have i4 := O.a.c4; have j0 := O.b.c0; have j1 := O.b.c1; have j2 := O.b.c2; have j3 := O.b.c3; have j4 := O.b.c4
    clear HK QB OO
  rotate_left 3
  · go_wp2_with first
      | (refine wpList_load_hd (n := a) _ rfl (.tmp 2) rfl rfl O.a ?_)
      | (go_at_call_of 9 a; refine (C2.out _ a).mono ?_; rintro e w3 ⟨rfl, q3⟩; rw [ha]; have O := O.bl q3; have i0 := O.a.c0; have i1 := O.a.c1; have i2 := O.a.c2; have i3 := O.a.c3; have i4 := O.a.c4; have j0 := O.b.c0; have j1 := O.b.c1; have j2 := O.b.c2; have j3 := O.b.c3; have j4 := O.b.c4)
      | (go_at_call_of 9 b; refine (C2.out _ b).mono ?_; rintro e w4 ⟨rfl, q4⟩; rw [hb]; have O := O.bl q4; have i0 := O.a.c0; have i1 := O.a.c1; have i2 := O.a.c2; have i3 := O.a.c3; have i4 := O.a.c4; have j0 := O.b.c0; have j1 := O.b.c1; have j2 := O.b.c2; have j3 := O.b.c3; have j4 := O.b.c4)
    have HK : Hid (∀ W : World, Below w4.heap.size w4 W → ((W.cell? ⟨b0, 0, none⟩ = some (.int .i64 a.x) ∧ W.cell? ⟨b0, 1, none⟩ = some (.int .i64 a.m) ∧ W.cell? ⟨b0, 2, none⟩ = some (.string a.lo) ∧ W.cell? ⟨b0, 3, none⟩ = some (.string a.hi) ∧ W.cell? ⟨b0, 4, none⟩ = some (.bool a.op)) ∧ W.cell? ⟨b1, 0, none⟩ = some (.int .i64 b.x) ∧ W.cell? ⟨b1, 1, none⟩ = some (.int .i64 b.m) ∧ W.cell? ⟨b1, 2, none⟩ = some (.string b.lo) ∧ W.cell? ⟨b1, 3, none⟩ = some (.string b.hi) ∧ W.cell? ⟨b1, 4, none⟩ = some (.bool b.op))) := fun W hb => ⟨⟨(O.a.bel hb).c0, (O.a.bel hb).c1, (O.a.bel hb).c2, (O.a.bel hb).c3, (O.a.bel hb).c4⟩, (O.b.bel hb).c0, (O.b.bel hb).c1, (O.b.bel hb).c2, (O.b.bel hb).c3, (O.b.bel hb).c4⟩
    have QB : Hid (Below w4.heap.size w4 w4.drew) := (Below.refl _ _).drew
    have OO : Hid (Bx2 w w4 b0 b1 a b) := O
    have C5' : Hid (∀ wx, Calls Try.prog 12 #[.agg a.A, .agg b.A] wx fun e w' => e = .returned (.bool (meetM a b)) ∧ Below wx.heap.size wx w') := C5.out ha hb
    have C6' : Hid (∀ wx, Calls Try.prog 14 #[.agg a.A, .agg b.A] wx fun e w' => e = .returned (.bool (barM a b)) ∧ Below wx.heap.size wx w') := C6.out ha hb
    clear O C5 C6 C1 C2 ha hb
    generalize meetM a b = mm at *
    generalize barM a b = bb at *
    cases mm <;> cases bb
    all_goals
      go_region_held3 (fun W => (W.cell? ⟨b0, 0, none⟩ = some (.int .i64 a.x) ∧ W.cell? ⟨b0, 1, none⟩ = some (.int .i64 a.m) ∧ W.cell? ⟨b0, 2, none⟩ = some (.string a.lo) ∧ W.cell? ⟨b0, 3, none⟩ = some (.string a.hi) ∧ W.cell? ⟨b0, 4, none⟩ = some (.bool a.op)) ∧ W.cell? ⟨b1, 0, none⟩ = some (.int .i64 b.x) ∧ W.cell? ⟨b1, 1, none⟩ = some (.int .i64 b.m) ∧ W.cell? ⟨b1, 2, none⟩ = some (.string b.lo) ∧ W.cell? ⟨b1, 3, none⟩ = some (.string b.hi) ∧ W.cell? ⟨b1, 4, none⟩ = some (.bool b.op)) (first | exact keep1 | go_keep) (first
        | (go_at_call 11; refine (C3.out _).mono ?_; rintro e w5 ⟨rfl, q5⟩; have QB : Hid (Below w4.heap.size w4 w5) := thn QB.out q5; have keep1 := HK.out _ QB.out)
        | (go_at_call 12; refine (C5'.out _).mono ?_; rintro e w5 ⟨rfl, q5⟩; have QB : Hid (Below w4.heap.size w4 w5) := thn QB.out q5; have keep1 := HK.out _ QB.out)
        | (go_at_call 13; refine (C4.out _).mono ?_; rintro e w5 ⟨rfl, q5⟩; have QB : Hid (Below w4.heap.size w4 w5) := thn QB.out q5; have keep1 := HK.out _ QB.out)
        | (go_at_call 14; refine (C6'.out _).mono ?_; rintro e w5 ⟨rfl, q5⟩; have QB : Hid (Below w4.heap.size w4 w5) := thn QB.out q5; have keep1 := HK.out _ QB.out)
        | (go_at_call 10; refine (CA.out _).mono ?_; rintro e w5 ⟨rfl, q5⟩; have QB : Hid (Below w4.heap.size w4 w5) := thn QB.out q5; have keep1 := HK.out _ QB.out))
    all_goals
      go_wp2
      go_ret
      exact ⟨rfl, thn OO.out.bel QB.out⟩
  all_goals
    go_wp2_with first
      | (refine wpList_load_hd (n := a) _ rfl (.tmp 2) rfl rfl O.a ?_)
      | (go_at_call_of 9 a; refine (C2.out _ a).mono ?_; rintro e w3 ⟨rfl, q3⟩; rw [ha]; have O := O.bl q3; have i0 := O.a.c0; have i1 := O.a.c1; have i2 := O.a.c2; have i3 := O.a.c3; have i4 := O.a.c4; have j0 := O.b.c0; have j1 := O.b.c1; have j2 := O.b.c2; have j3 := O.b.c3; have j4 := O.b.c4)
      | (go_at_call_of 9 b; refine (C2.out _ b).mono ?_; rintro e w3 ⟨rfl, q3⟩; rw [hb]; have O := O.bl q3; have i0 := O.a.c0; have i1 := O.a.c1; have i2 := O.a.c2; have i3 := O.a.c3; have i4 := O.a.c4; have j0 := O.b.c0; have j1 := O.b.c1; have j2 := O.b.c2; have j3 := O.b.c3; have j4 := O.b.c4)
      | (go_at_call 10; refine (CA.out _).mono ?_; rintro e w4 ⟨rfl, q4⟩; have O := O.bl q4)
    go_ret
    exact ⟨rfl, O.bel⟩
end Go.Proofs.Ytkpjamdlpofgcaa
