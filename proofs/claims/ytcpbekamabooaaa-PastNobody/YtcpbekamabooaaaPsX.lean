/- PastNobody: the walk. -/
import Derived.Test.YtcpbekamabooaaaPsV
import Derived.Test.YtcpbekamabooaaaPsW
namespace Go.Proofs.Ytcpbekamabooaaa.Pa
open Go.RowKit Gm Go.Maps
set_option linter.unusedVariables false
set_option linter.unusedSimpArgs false
set_option maxRecDepth 100000
theorem zPv (w : World) : (zeroValue 51).run Try.prog w = .ok (.agg #[.map none, .map none]) w := by kernel_rfl
set_option maxHeartbeats 2000000 in
theorem nobody14_walk (r : Rc) (I T : Value) (key : ByteArray) (w : World) : Calls Try.prog 5 #[.agg (r.A I T), .string key] w fun e w' => e = .returned (.bool true) ∧ Below w.heap.size w w' := by
  have h2 := stW
  have CN : Hid (∀ w, Calls Try.prog 7 #[.pointer none, .agg (r.A I T), .int .i64 1] w fun e w' => e = .returned (.tuple #[]) ∧ Below w.heap.size w w') := fun w => Note_nil w r I T 1
  have CZ : Hid (∀ w z, At w z 51 #[.map none, .map none] → Calls Try.prog 7 #[.pointer (some ⟨z, 0, none⟩), .agg (r.A I T), .int .i64 1] w fun e w' => e = .returned (.tuple #[]) ∧ Below w.heap.size w w') := fun w z h => Note_made h r I T 1
  have CK : Hid (∀ wx, Calls Try.prog 10 #[] wx fun e w' => e = .returned (.bool true) ∧ Below wx.heap.size wx w') := fun wx => awake14 wx
  go_enter Try.func5, Try.ntmps5
  go_wp2_with first
    | (refine wpList_box_at (A := r.A I T) _ rfl _ rfl rfl ?_; intro w1 b1 N1)
    | (refine wpList_new_at (A := #[.map none, .map none]) _ zPv rfl rfl ?_; intro w2 z N2; have R2 := N1.is.bel N2.bel; have B2 : Below w.heap.size w w2 := thn N1.bel N2.bel)
    | (have := R4; refine wpList_load_at stRc (A := r.A I T) _ rfl (.tmp 2) rfl rfl R4 rfl ?_)
    | (refine wpList_load_at stRc (A := r.A I T) _ rfl (.tmp 2) rfl rfl R2 rfl ?_)
    | (have := R4; go_at_call 7; refine (CZ.out _ _ Z4).mono ?_; rintro e w5 ⟨rfl, q5⟩; have B5 := thn B4 q5; have Z5 := Z4.bel q5)
    | (go_at_call 7; refine (CN.out _).mono ?_; rintro e w4 ⟨rfl, q4⟩; have B4 := thn B2 q4; have R4 := R2.bel q4; have Z4 := N2.is.bel q4)
    | (have := P8; go_at_call 11; refine (Get_zero Z8 key).mono ?_; rintro e w9 ⟨rfl, q9⟩)
    | (go_at_call 11; refine (Get_nil _ key).mono ?_; rintro e w6 ⟨rfl, q6⟩)
    | (have := q9; refine wpList_new_at (A := zW.A) _ zKv rfl rfl ?_; intro w10 b10 N10)
    | (refine wpList_new_at (A := zW.A) _ zKv rfl rfl ?_; intro w7 b7 N7)
    | (have := N10; refine wpList_put_at (A := zW.A) (A' := zW.A) h2 _ rfl _ _ rfl rfl rfl N10.is rfl rfl (oneW _) ?_; intro w11 P11; have B11 := thn B8 (thn q9 (np_bel N10 P11)); have Z11 := (Z8.bel q9).bel (np_bel N10 P11))
    | (refine wpList_put_at (A := zW.A) (A' := zW.A) h2 _ rfl _ _ rfl rfl rfl N7.is rfl rfl (oneW _) ?_; intro w8 P8; have B8 := thn B5 (thn q6 (np_bel N7 P8)); have Z8 := (Z5.bel q6).bel (np_bel N7 P8))
    | (go_at_call 13; refine (View_nil (At.new w11 #[.string key, .string ⟨#[]⟩] 45)).mono ?_; rintro e w13 ⟨v, rfl, hv⟩; have N12 := bl1 (w := w11) (.cells #[.string key, .string ⟨#[]⟩] 45); obtain ⟨a, c, ev, hc⟩ := hv.row.sl; subst ev; obtain ⟨g, ea, hg, hat⟩ := hv.row.at_ (i := 0) (by simp); subst ea; have k0 : w13.cell? ⟨g, 0, none⟩ = some (.string key) := (hat w13 rfl).1 0 _ rfl; have B13 := thn B11 (thn N12 hv.bel); have Z13 := (Z11.bel N12).bel hv.bel)
    | (go_at_call 15; refine (Table_nil _).mono ?_; rintro e w13 ⟨rfl, rfl⟩)
    | (go_at_call 16; refine (Keys_zero Z13).mono ?_; rintro e w13 ⟨rfl, rfl⟩; have f14 := True.intro)
    | (have := f14; have := f15; go_at_call 17; refine (Acts_zero Z13).mono ?_; rintro e w13 ⟨rfl, rfl⟩)
    | (have := f14; go_at_call 17; refine (Acts_nil _).mono ?_; rintro e w13 ⟨rfl, rfl⟩; have f15 := True.intro)
    | (go_at_call 10; refine (CK.out _).mono ?_; rintro e w16 ⟨rfl, q16⟩)
  go_ret
  exact ⟨rfl, thn B13 q16⟩
end Go.Proofs.Ytcpbekamabooaaa.Pa
