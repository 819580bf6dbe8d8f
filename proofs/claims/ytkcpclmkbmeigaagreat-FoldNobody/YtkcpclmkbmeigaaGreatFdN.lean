/- FoldNobody. -/
import Derived.Test.YtkcpclmkbmeigaaGreatFdI
import Derived.Test.YtkcpclmkbmeigaaGreatFdH
import Derived.Test.YtkcpclmkbmeigaaGreatFdK
namespace Go.Proofs.YtkcpclmkbmeigaaGreat.Fd
open Go.RowKit Gm Go.Maps
set_option linter.unusedVariables false
set_option linter.unusedSimpArgs false
set_option maxRecDepth 100000
theorem open_rcA {H : Type} {enc : TypeId × Value → H} {w : World} {fuel : Nat} {cs : Array Value} {x : DataW H × List MemPlace} (hcs : cs.size = Tryz.prog.cellsOf 54) (h : DataW.trod enc Tryz.prog w 0 (fun _ => true) true fuel 54 cs.toList = some x) : ∃ r I T, cs = Rc.A r I T ∧ wfT r.tx ∧ r.ky.size ≤ 9223372036854775807 := by
  have hk : Tryz.prog.cellsOf 54 = 13 := by kernel_rfl
  obtain ⟨r, i1, i2, i3, t1, t2, t3, e, h1, h2⟩ := (open_rs h (by rw [Array.length_toList, hcs, hk])).ex
  exact ⟨r, _, _, Array.toList_inj.1 e, h1, h2⟩
theorem zFv (w : World) : (zeroValue 81).run Tryz.prog w = .ok (.agg #[.slice none 0 0, .map none, .int .i64 0]) w := by kernel_rfl
theorem isOpen_nil (w : World) : Calls Tryz.prog 52 #[.pointer none] w fun e w' => e = .returned (.bool false) ∧ w' = w := by
  go_enter Tryz.func52, Tryz.ntmps52
  go_wp2
  go_ret
  exact ⟨rfl, rfl⟩
theorem Records_nil (w : World) : Calls Tryz.prog 19 #[.pointer none] w fun e w' => e = .returned (.tuple #[.slice none 0 0, .slice none 0 0]) ∧ w' = w := by
  have C : Hid (∀ w, Calls Tryz.prog 52 #[.pointer none] w fun e w' => e = .returned (.bool false) ∧ w' = w) := isOpen_nil
  go_enter Tryz.func19, Tryz.ntmps19
  go_wp2_with (go_at_call 52; refine (C.out _).mono ?_; rintro e w2 ⟨rfl, rfl⟩)
  go_ret2
  exact ⟨rfl, rfl⟩
theorem Of_nil (n : Int) (w : World) : Calls Tryz.prog 27 #[.pointer none, .int .i64 n] w fun e w' => e = .returned (.pointer (some ⟨w.heap.size + 1, 0, none⟩)) ∧ NwF w w' (w.heap.size + 1) := by
  have CN := New_ok w
  have CR : Hid (∀ w, Calls Tryz.prog 19 #[.pointer none] w fun e w' => e = .returned (.tuple #[.slice none 0 0, .slice none 0 0]) ∧ w' = w) := Records_nil
  go_enter Tryz.func27, Tryz.ntmps27
  go_wp2_with first
    | (go_at_call 63; refine CN.mono ?_; rintro e w1 ⟨rfl, na⟩; have NA : Hid (NwF w w1 (w.heap.size + 1)) := na; clear na)
    | (go_at_call 19; refine (CR.out _).mono ?_; rintro e w2 ⟨rfl, rfl⟩)
  refine wp_loop_rounds 1 ?_
  rw [rounds_succ]
  go_wp2
  go_ret
  exact ⟨rfl, NA.out⟩
set_option maxHeartbeats 2000000 in
theorem nobody16_walk (r : Rc) (I T : Value) (n : Int) (w : World) : Calls Tryz.prog 8 #[.agg (r.A I T), .int .i64 n] w fun e w' => e = .returned (.bool true) ∧ Below w.heap.size w w' := by
  have CN : Hid (∀ w, Calls Tryz.prog 33 #[.pointer none, .agg (r.A I T)] w fun e w' => e = .returned (.tuple #[]) ∧ Below w.heap.size w w') := fun w => Note_nil w r I T
  have CZ : Hid (∀ w z, At w z 81 #[.slice none 0 0, .map none, .int .i64 0] → Calls Tryz.prog 33 #[.pointer (some ⟨z, 0, none⟩), .agg (r.A I T)] w fun e w' => e = .returned (.tuple #[]) ∧ Below w.heap.size w w') := fun w z h => Note_zero h r I T
  have CO : Hid (∀ wx, Calls Tryz.prog 27 #[.pointer none, .int .i64 n] wx fun e w' => e = .returned (.pointer (some ⟨wx.heap.size + 1, 0, none⟩)) ∧ NwF wx w' (wx.heap.size + 1)) := fun wx => Of_nil n wx
  have CK : Hid (∀ wx, Calls Tryz.prog 28 #[] wx fun e w' => e = .returned (.bool true) ∧ Below wx.heap.size wx w') := fun wx => awake16 wx
  go_enter Tryz.func8, Tryz.ntmps8
  go_wp2_with first
    | (refine wpList_box_at (A := r.A I T) _ rfl _ rfl rfl ?_; intro w1 b1 N1)
    | (refine wpList_new_at (A := #[.slice none 0 0, .map none, .int .i64 0]) _ zFv rfl rfl ?_; intro w2 z N2; have X2 : Hid (At w2 b1 54 (r.A I T) ∧ At w2 z 81 #[.slice none 0 0, .map none, .int .i64 0] ∧ Below w.heap.size w w2) := ⟨N1.is.bel N2.bel, N2.is, thn N1.bel N2.bel⟩; clear N1 N2)
    | (have := X4.out; refine wpList_load_at stRc (A := r.A I T) _ rfl _ rfl rfl X4.out.1 rfl ?_)
    | (refine wpList_load_at stRc (A := r.A I T) _ rfl _ rfl rfl X2.out.1 rfl ?_)
    | (have := X4.out; go_at_call 33; refine (CZ.out _ _ X4.out.2.1).mono ?_; rintro e w5 ⟨rfl, q5⟩; have X5 : Hid (At w5 b1 54 (r.A I T) ∧ At w5 z 81 #[.slice none 0 0, .map none, .int .i64 0] ∧ Below w.heap.size w w5) := ⟨X4.out.1.bel q5, X4.out.2.1.bel q5, thn X4.out.2.2 q5⟩; clear q5; have k5 : w5.cell? ⟨b1, 5, none⟩ = some (.string r.ky) := X5.out.1.c 5)
    | (go_at_call 33; refine (CN.out _).mono ?_; rintro e w4 ⟨rfl, q4⟩; have X4 : Hid (At w4 b1 54 (r.A I T) ∧ At w4 z 81 #[.slice none 0 0, .map none, .int .i64 0] ∧ Below w.heap.size w w4) := ⟨X2.out.1.bel q4, X2.out.2.1.bel q4, thn X2.out.2.2 q4⟩; clear q4)
    | (have := X6.out; go_at_call 34; refine (Get_zero X6.out.2.1 r.ky).mono ?_; rintro e w7 ⟨rfl, q7⟩; have X7 : Hid (At w7 z 81 #[.slice none 0 0, .map none, .int .i64 0] ∧ Below w.heap.size w w7) := ⟨X6.out.2.1.bel q7, thn X6.out.2.2 q7⟩; clear q7)
    | (go_at_call 34; refine (Get_nil _ r.ky).mono ?_; rintro e w6 ⟨rfl, q6⟩; have X6 : Hid (At w6 b1 54 (r.A I T) ∧ At w6 z 81 #[.slice none 0 0, .map none, .int .i64 0] ∧ Below w.heap.size w w6) := ⟨X5.out.1.bel q6, X5.out.2.1.bel q6, thn X5.out.2.2 q6⟩; clear q6; have k6 : w6.cell? ⟨b1, 5, none⟩ = some (.string r.ky) := X6.out.1.c 5)
    | (have := X9.out; go_at_call 35; refine (Cells_any X9.out.1 (by decide)).mono ?_; rintro e w10 ⟨⟨v10, rfl, r10, o10⟩, b10⟩; have X10 : Hid (Below w.heap.size w w10) := thn X9.out.2 b10; obtain ⟨a10, c10, e10, _⟩ := r10.sl; rw [List.length_map] at e10; subst e10; clear r10 o10 b10)
    | (have := fl1; go_at_call 35; refine (Cells_zero X7.out.1).mono ?_; rintro e w8 ⟨rfl, rfl⟩)
    | (go_at_call 35; refine (Cells_nil _).mono ?_; rintro e w8 ⟨rfl, rfl⟩; have fl1 := True.intro)
    | (have := fl2; go_at_call 36; refine (Count_zero X7.out.1).mono ?_; rintro e w8 ⟨rfl, rfl⟩)
    | (go_at_call 36; refine (Count_nil _).mono ?_; rintro e w8 ⟨rfl, rfl⟩; have fl2 := True.intro)
    | (have := fl3; go_at_call 37; refine (Going_zero X7.out.1).mono ?_; rintro e w8 ⟨rfl, rfl⟩)
    | (go_at_call 37; refine (Going_nil _).mono ?_; rintro e w8 ⟨rfl, rfl⟩; have fl3 := True.intro)
    | (go_at_call 27; refine (CO.out _).mono ?_; rintro e w9 ⟨rfl, ⟨W9, F9, _⟩, q9⟩; have X9 : Hid (Fo W9 w9 _ [] [] 0 ∧ Below w.heap.size w w9) := ⟨F9, thn X7.out.2 q9⟩; clear F9 q9)
    | (go_at_call 28; refine (CK.out _).mono ?_; rintro e w16 ⟨rfl, q16⟩)
  go_ret
  exact ⟨rfl, thn X10.out q16⟩
end Go.Proofs.YtkcpclmkbmeigaaGreat.Fd
