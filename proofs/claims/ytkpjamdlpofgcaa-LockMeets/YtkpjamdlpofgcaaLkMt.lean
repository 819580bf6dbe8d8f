/- A key that lies in two holds lets them meet. -/
import Derived.Test.YtkpjamdlpofgcaaLkE
namespace Go.Proofs.Ytkpjamdlpofgcaa
open Go.RowKit
set_option linter.unusedVariables false
set_option linter.unusedSimpArgs false
set_option maxRecDepth 100000
set_option maxHeartbeats 4000000 in
theorem meets12_walk (a b : Hd) (key : ByteArray) (w : World) : Calls Try.prog 4 #[.agg a.A, .agg b.A, .string key] w fun e w' => e = .returned (.bool true) ∧ Below w.heap.size w w' := by
  have CR : Hid (∀ wx (h : Hd), Calls Try.prog 9 #[.agg h.A] wx fun e w' => e = .returned (.bool (rightM h)) ∧ Below wx.heap.size wx w') := fun wx h => right_any wx h
  have CI : Hid (∀ wx (h : Hd), Calls Try.prog 15 #[.agg h.A, .string key] wx fun e w' => e = .returned (.bool (inM h key)) ∧ Below wx.heap.size wx w') := fun wx h => in_any wx h key
  have CA : Hid (∀ wx, Calls Try.prog 10 #[] wx fun e w' => e = .returned (.bool true) ∧ Below wx.heap.size wx w') := fun wx => awake_any wx
  have CM : Hid (inM a key = true → inM b key = true → ∀ wx, (Calls Try.prog 11 #[.agg a.A, .agg b.A] wx fun e w' => e = .returned (.bool true) ∧ Below wx.heap.size wx w') ∧ (Calls Try.prog 11 #[.agg b.A, .agg a.A] wx fun e w' => e = .returned (.bool true) ∧ Below wx.heap.size wx w')) := fun h1 h2 wx => ⟨by have := meet_any wx a b; rwa [meet_of_in h1 h2] at this, by have := meet_any wx b a; rwa [meet_of_in h2 h1] at this⟩
  cases ha : rightM a
  · skip
    go_enter Try.func4, Try.ntmps4
    go_wp2_with first
      | (refine wpList_box_hd (n := a) _ rfl _ rfl rfl ?_; intro w0 b0 N0)
      | (refine wpList_box_hd (n := b) _ rfl _ rfl rfl ?_; intro w1 b1 N1; have O := Bx2.new N0 N1; have i0 := O.a.c0; have i1 := O.a.c1; have i2 := O.a.c2; have i3 := O.a.c3; have i4 := O.a.c4; have j0 := O.b.c0; have j1 := O.b.c1; have j2 := O.b.c2; have j3 := O.b.c3; have j4 := O.b.c4)
      | (refine wpList_load_hd (n := a) _ rfl (.tmp 3) rfl rfl O.a ?_)
      | (refine wpList_load_hd (n := b) _ rfl (.tmp 4) rfl rfl O.b ?_)
      | (go_at_call 10; refine (CA.out _).mono ?_; rintro e w8 ⟨rfl, q8⟩)
      | (go_at_call 9; refine (CR.out _ a).mono ?_; rintro e w2 ⟨rfl, q2⟩; rw [ha]; have O := O.bl q2; have i0 := O.a.c0; have i1 := O.a.c1; have i2 := O.a.c2; have i3 := O.a.c3; have i4 := O.a.c4; have j0 := O.b.c0; have j1 := O.b.c1; have j2 := O.b.c2; have j3 := O.b.c3; have j4 := O.b.c4)
    go_ret
    exact ⟨rfl, thn O.bel q8⟩
  · cases hb : rightM b
    · skip
      go_enter Try.func4, Try.ntmps4
      go_wp2_with first
        | (refine wpList_box_hd (n := a) _ rfl _ rfl rfl ?_; intro w0 b0 N0)
        | (refine wpList_box_hd (n := b) _ rfl _ rfl rfl ?_; intro w1 b1 N1; have O := Bx2.new N0 N1; have i0 := O.a.c0; have i1 := O.a.c1; have i2 := O.a.c2; have i3 := O.a.c3; have i4 := O.a.c4; have j0 := O.b.c0; have j1 := O.b.c1; have j2 := O.b.c2; have j3 := O.b.c3; have j4 := O.b.c4)
        | (refine wpList_load_hd (n := a) _ rfl (.tmp 3) rfl rfl O.a ?_)
        | (refine wpList_load_hd (n := b) _ rfl (.tmp 4) rfl rfl O.b ?_)
        | (go_at_call 10; refine (CA.out _).mono ?_; rintro e w8 ⟨rfl, q8⟩)
        | (have := q2; go_at_call 9; refine (CR.out _ b).mono ?_; rintro e w3 ⟨rfl, q3⟩; rw [hb]; have O := O.bl q3; have i0 := O.a.c0; have i1 := O.a.c1; have i2 := O.a.c2; have i3 := O.a.c3; have i4 := O.a.c4; have j0 := O.b.c0; have j1 := O.b.c1; have j2 := O.b.c2; have j3 := O.b.c3; have j4 := O.b.c4)
        | (go_at_call 9; refine (CR.out _ a).mono ?_; rintro e w2 ⟨rfl, q2⟩; rw [ha]; have O := O.bl q2; have i0 := O.a.c0; have i1 := O.a.c1; have i2 := O.a.c2; have i3 := O.a.c3; have i4 := O.a.c4; have j0 := O.b.c0; have j1 := O.b.c1; have j2 := O.b.c2; have j3 := O.b.c3; have j4 := O.b.c4)
      go_ret
      exact ⟨rfl, thn O.bel q8⟩
    · cases hia : inM a key
      · skip
        go_enter Try.func4, Try.ntmps4
        go_wp2_with first
          | (refine wpList_box_hd (n := a) _ rfl _ rfl rfl ?_; intro w0 b0 N0)
          | (refine wpList_box_hd (n := b) _ rfl _ rfl rfl ?_; intro w1 b1 N1; have O := Bx2.new N0 N1; have i0 := O.a.c0; have i1 := O.a.c1; have i2 := O.a.c2; have i3 := O.a.c3; have i4 := O.a.c4; have j0 := O.b.c0; have j1 := O.b.c1; have j2 := O.b.c2; have j3 := O.b.c3; have j4 := O.b.c4)
          | (refine wpList_load_hd (n := a) _ rfl (.tmp 3) rfl rfl O.a ?_)
          | (refine wpList_load_hd (n := b) _ rfl (.tmp 4) rfl rfl O.b ?_)
          | (go_at_call 10; refine (CA.out _).mono ?_; rintro e w8 ⟨rfl, q8⟩)
          | (have := q3; go_at_call 15; refine (CI.out _ a).mono ?_; rintro e w4 ⟨rfl, q4⟩; rw [hia]; have O := O.bl q4; have i0 := O.a.c0; have i1 := O.a.c1; have i2 := O.a.c2; have i3 := O.a.c3; have i4 := O.a.c4; have j0 := O.b.c0; have j1 := O.b.c1; have j2 := O.b.c2; have j3 := O.b.c3; have j4 := O.b.c4)
          | (have := q2; go_at_call 9; refine (CR.out _ b).mono ?_; rintro e w3 ⟨rfl, q3⟩; rw [hb]; have O := O.bl q3; have i0 := O.a.c0; have i1 := O.a.c1; have i2 := O.a.c2; have i3 := O.a.c3; have i4 := O.a.c4; have j0 := O.b.c0; have j1 := O.b.c1; have j2 := O.b.c2; have j3 := O.b.c3; have j4 := O.b.c4)
          | (go_at_call 9; refine (CR.out _ a).mono ?_; rintro e w2 ⟨rfl, q2⟩; rw [ha]; have O := O.bl q2; have i0 := O.a.c0; have i1 := O.a.c1; have i2 := O.a.c2; have i3 := O.a.c3; have i4 := O.a.c4; have j0 := O.b.c0; have j1 := O.b.c1; have j2 := O.b.c2; have j3 := O.b.c3; have j4 := O.b.c4)
        go_ret
        exact ⟨rfl, thn O.bel q8⟩
      · cases hib : inM b key
        · skip
          go_enter Try.func4, Try.ntmps4
          go_wp2_with first
            | (refine wpList_box_hd (n := a) _ rfl _ rfl rfl ?_; intro w0 b0 N0)
            | (refine wpList_box_hd (n := b) _ rfl _ rfl rfl ?_; intro w1 b1 N1; have O := Bx2.new N0 N1; have i0 := O.a.c0; have i1 := O.a.c1; have i2 := O.a.c2; have i3 := O.a.c3; have i4 := O.a.c4; have j0 := O.b.c0; have j1 := O.b.c1; have j2 := O.b.c2; have j3 := O.b.c3; have j4 := O.b.c4)
            | (refine wpList_load_hd (n := a) _ rfl (.tmp 3) rfl rfl O.a ?_)
            | (refine wpList_load_hd (n := b) _ rfl (.tmp 4) rfl rfl O.b ?_)
            | (go_at_call 10; refine (CA.out _).mono ?_; rintro e w8 ⟨rfl, q8⟩)
            | (have := q4; go_at_call 15; refine (CI.out _ b).mono ?_; rintro e w5 ⟨rfl, q5⟩; rw [hib]; have O := O.bl q5; have i0 := O.a.c0; have i1 := O.a.c1; have i2 := O.a.c2; have i3 := O.a.c3; have i4 := O.a.c4; have j0 := O.b.c0; have j1 := O.b.c1; have j2 := O.b.c2; have j3 := O.b.c3; have j4 := O.b.c4)
            | (have := q3; go_at_call 15; refine (CI.out _ a).mono ?_; rintro e w4 ⟨rfl, q4⟩; rw [hia]; have O := O.bl q4; have i0 := O.a.c0; have i1 := O.a.c1; have i2 := O.a.c2; have i3 := O.a.c3; have i4 := O.a.c4; have j0 := O.b.c0; have j1 := O.b.c1; have j2 := O.b.c2; have j3 := O.b.c3; have j4 := O.b.c4)
            | (have := q2; go_at_call 9; refine (CR.out _ b).mono ?_; rintro e w3 ⟨rfl, q3⟩; rw [hb]; have O := O.bl q3; have i0 := O.a.c0; have i1 := O.a.c1; have i2 := O.a.c2; have i3 := O.a.c3; have i4 := O.a.c4; have j0 := O.b.c0; have j1 := O.b.c1; have j2 := O.b.c2; have j3 := O.b.c3; have j4 := O.b.c4)
            | (go_at_call 9; refine (CR.out _ a).mono ?_; rintro e w2 ⟨rfl, q2⟩; rw [ha]; have O := O.bl q2; have i0 := O.a.c0; have i1 := O.a.c1; have i2 := O.a.c2; have i3 := O.a.c3; have i4 := O.a.c4; have j0 := O.b.c0; have j1 := O.b.c1; have j2 := O.b.c2; have j3 := O.b.c3; have j4 := O.b.c4)
          go_ret
          exact ⟨rfl, thn O.bel q8⟩
        · skip
          go_enter Try.func4, Try.ntmps4
          go_wp2_with first
            | (refine wpList_box_hd (n := a) _ rfl _ rfl rfl ?_; intro w0 b0 N0)
            | (refine wpList_box_hd (n := b) _ rfl _ rfl rfl ?_; intro w1 b1 N1; have O := Bx2.new N0 N1; have i0 := O.a.c0; have i1 := O.a.c1; have i2 := O.a.c2; have i3 := O.a.c3; have i4 := O.a.c4; have j0 := O.b.c0; have j1 := O.b.c1; have j2 := O.b.c2; have j3 := O.b.c3; have j4 := O.b.c4)
            | (refine wpList_load_hd (n := a) _ rfl (.tmp 3) rfl rfl O.a ?_)
            | (refine wpList_load_hd (n := b) _ rfl (.tmp 4) rfl rfl O.b ?_)
            | (go_at_call 10; refine (CA.out _).mono ?_; rintro e w8 ⟨rfl, q8⟩)
            | (have := q6; go_at_call 11; refine (CM.out hia hib _).2.mono ?_; rintro e w7 ⟨rfl, q7⟩; have O := O.bl q7; have i0 := O.a.c0; have i1 := O.a.c1; have i2 := O.a.c2; have i3 := O.a.c3; have i4 := O.a.c4; have j0 := O.b.c0; have j1 := O.b.c1; have j2 := O.b.c2; have j3 := O.b.c3; have j4 := O.b.c4)
            | (have := q5; go_at_call 11; refine (CM.out hia hib _).1.mono ?_; rintro e w6 ⟨rfl, q6⟩; have O := O.bl q6; have i0 := O.a.c0; have i1 := O.a.c1; have i2 := O.a.c2; have i3 := O.a.c3; have i4 := O.a.c4; have j0 := O.b.c0; have j1 := O.b.c1; have j2 := O.b.c2; have j3 := O.b.c3; have j4 := O.b.c4)
            | (have := q4; go_at_call 15; refine (CI.out _ b).mono ?_; rintro e w5 ⟨rfl, q5⟩; rw [hib]; have O := O.bl q5; have i0 := O.a.c0; have i1 := O.a.c1; have i2 := O.a.c2; have i3 := O.a.c3; have i4 := O.a.c4; have j0 := O.b.c0; have j1 := O.b.c1; have j2 := O.b.c2; have j3 := O.b.c3; have j4 := O.b.c4)
            | (have := q3; go_at_call 15; refine (CI.out _ a).mono ?_; rintro e w4 ⟨rfl, q4⟩; rw [hia]; have O := O.bl q4; have i0 := O.a.c0; have i1 := O.a.c1; have i2 := O.a.c2; have i3 := O.a.c3; have i4 := O.a.c4; have j0 := O.b.c0; have j1 := O.b.c1; have j2 := O.b.c2; have j3 := O.b.c3; have j4 := O.b.c4)
            | (have := q2; go_at_call 9; refine (CR.out _ b).mono ?_; rintro e w3 ⟨rfl, q3⟩; rw [hb]; have O := O.bl q3; have i0 := O.a.c0; have i1 := O.a.c1; have i2 := O.a.c2; have i3 := O.a.c3; have i4 := O.a.c4; have j0 := O.b.c0; have j1 := O.b.c1; have j2 := O.b.c2; have j3 := O.b.c3; have j4 := O.b.c4)
            | (go_at_call 9; refine (CR.out _ a).mono ?_; rintro e w2 ⟨rfl, q2⟩; rw [ha]; have O := O.bl q2; have i0 := O.a.c0; have i1 := O.a.c1; have i2 := O.a.c2; have i3 := O.a.c3; have i4 := O.a.c4; have j0 := O.b.c0; have j1 := O.b.c1; have j2 := O.b.c2; have j3 := O.b.c3; have j4 := O.b.c4)
          go_ret
          exact ⟨rfl, thn O.bel q8⟩
end Go.Proofs.Ytkpjamdlpofgcaa
