/- The walk of PageRights. -/
import Derived.Test.YtmoognjegjeegaaLCe3
import Derived.Deep.RegionHeld3
namespace Go.Proofs.Ytmoognjegjeegaa
open Go.RowKit
set_option linter.unusedVariables false
set_option linter.unusedSimpArgs false
set_option maxRecDepth 100000

set_option maxHeartbeats 1000000 in
theorem rights_wrong (w : World) (p x : ByteArray) (i : Int) (hz : p.size ≤ 140737488351232) (h : ¬ Right (bts p)) : Calls Try.prog 3 #[.string p, .string x, .int .i64 i] w fun e w' => e = .returned (.bool true) ∧ Below w.heap.size w w' := by
  have C0 : Hid (∀ w, Calls Try.prog 9 #[.string p] w fun e w' => ∃ v, e = .returned (.tuple #[v, .bool false]) ∧ Below w.heap.size w w') := fun w => lcells_wrong w p h
  have C1 : Hid (∀ w, Calls Try.prog 10 #[.string p, .string x] w fun e w' => e = .returned (.tuple #[.int .i64 0, .bool false]) ∧ Below w.heap.size w w') := fun w => Find_wrong w p x hz h
  have C2 : Hid (∀ w, Calls Try.prog 11 #[.string p, .int .i64 i] w fun e w' => e = .returned (.tuple #[.agg #[.string ⟨#[]⟩, .string ⟨#[]⟩], .int .i64 4]) ∧ Below w.heap.size w w') := fun w => At_wrong w p i hz h
  have C3 : Hid (∀ w, Calls Try.prog 12 #[.string p] w fun e w' => e = .returned (.bool false) ∧ Below w.heap.size w w') := fun w => Right_wrong w p hz h
  have C4 : Hid (∀ w, Calls Try.prog 13 #[.string p] w fun e w' => e = .returned (.int .i64 0) ∧ Below w.heap.size w w') := fun w => Kind_wrong w p hz h
  have C5 : Hid (∀ w, Calls Try.prog 14 #[.string p] w fun e w' => e = .returned (.int .i64 0) ∧ Below w.heap.size w w') := fun w => Level_wrong w p hz h
  have C6 : Hid (∀ w, Calls Try.prog 15 #[.string p] w fun e w' => e = .returned (.int .i64 0) ∧ Below w.heap.size w w') := fun w => Count_wrong w p hz h
  have C7 : Hid (∀ w, Calls Try.prog 16 #[.string p] w fun e w' => e = .returned (.int .i64 0) ∧ Below w.heap.size w w') := fun w => Room_wrong w p hz h
  have C8 : Hid (∀ w, Calls Try.prog 17 #[.string p] w fun e w' => e = .returned (.slice none 0 0) ∧ Below w.heap.size w w') := fun w => Cells_wrong w p hz h
  have C9 : Hid (∀ w, Calls Try.prog 18 #[] w fun e w' => e = .returned (.bool true) ∧ Below w.heap.size w w') := fun w => awake_any w
  clear h hz
  go_enter Try.func3, Try.ntmps3
  go_wp2_with (first | (go_at_call 9; refine (C0.out _).mono ?_; rintro e w1 ⟨v, rfl, hb1⟩) | (go_at_call 10; refine (C1.out _).mono ?_; rintro e w2 ⟨rfl, hb2⟩) | (go_at_call 11; refine (C2.out _).mono ?_; rintro e w3 ⟨rfl, hb3⟩) | (refine wpList_new_cb _ rfl rfl ?_; intro w4 b4 N4) | (refine wpList_put_cb _ rfl _ _ rfl rfl rfl N4.cb ?_; intro w5 P5; have hb5 := boxed (thn (thn hb1 hb2) hb3) N4 P5) | (go_at_call 12; refine (C3.out _).mono ?_; rintro e w6 ⟨rfl, hb6⟩) | (go_at_call 13; refine (C4.out _).mono ?_; rintro e w7 ⟨rfl, hb7⟩) | (go_at_call 14; refine (C5.out _).mono ?_; rintro e w8 ⟨rfl, hb8⟩) | (go_at_call 15; refine (C6.out _).mono ?_; rintro e w9 ⟨rfl, hb9⟩) | (go_at_call 16; refine (C7.out _).mono ?_; rintro e w10 ⟨rfl, hb10⟩) | (go_at_call 17; refine (C8.out _).mono ?_; rintro e w11 ⟨rfl, hb11⟩; have hB11 := (((((P5.cb.below hb6).below hb7).below hb8).below hb9).below hb10).below hb11; have f0 := hB11.c0; have f1 := hB11.c1) | (go_at_call 18; refine (C9.out _).mono ?_; rintro e w12 ⟨rfl, hb12⟩))
  go_ret
  exact ⟨rfl, thn (thn (thn (thn (thn (thn (thn hb5 hb6) hb7) hb8) hb9) hb10) hb11) hb12⟩
end Go.Proofs.Ytmoognjegjeegaa
