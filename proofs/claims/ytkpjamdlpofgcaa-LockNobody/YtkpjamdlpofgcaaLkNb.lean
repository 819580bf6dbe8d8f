/- A table that is none holds nothing. -/
import Derived.Test.YtkpjamdlpofgcaaLkE
import Derived.Deep.RegionHeld3
namespace Go.Proofs.Ytkpjamdlpofgcaa
open Go.RowKit
set_option linter.unusedVariables false
set_option linter.unusedSimpArgs false
set_option maxRecDepth 100000
set_option maxHeartbeats 4000000 in
theorem nobody12_walk (h : Hd) (w : World) : Calls Try.prog 7 #[.agg h.A] w fun e w' => e = .returned (.bool true) ∧ Below w.heap.size w w' := by
  have CAsk : Hid (∀ wx, Calls Try.prog 28 #[.pointer none, .agg h.A] wx fun e w' => e = .returned (.int .i64 11) ∧ Below wx.heap.size wx w') := fun wx => Ask_nil wx h
  have CHas : Hid (∀ wx, Calls Try.prog 22 #[.pointer none, .agg h.A] wx fun e w' => e = .returned (.bool false) ∧ Below wx.heap.size wx w') := fun wx => Has_nil wx h
  have CKey : Hid (∀ wx, Calls Try.prog 29 #[.pointer none, .int .i64 1, .int .i64 1, .string ⟨#[]⟩] wx fun e w' => e = .returned (.int .i64 11) ∧ Below wx.heap.size wx w') := fun wx => Key_nil wx 1 1 ⟨#[]⟩
  have CRan : Hid (∀ wx, Calls Try.prog 30 #[.pointer none, .int .i64 1, .int .i64 1, .string ⟨#[]⟩, .string ⟨#[]⟩] wx fun e w' => e = .returned (.int .i64 11) ∧ Below wx.heap.size wx w') := fun wx => Range_nil wx 1 1 ⟨#[]⟩ ⟨#[]⟩
  have CDro : Hid (∀ wx, Calls Try.prog 18 #[.pointer none, .int .i64 h.x] wx fun e w' => e = .returned (.int .i64 0) ∧ Below wx.heap.size wx w') := fun wx => Drop_nil wx h.x
  have CCou : Hid (∀ wx, Calls Try.prog 27 #[.pointer none] wx fun e w' => e = .returned (.int .i64 0) ∧ Below wx.heap.size wx w') := fun wx => Count_nil wx
  have CAll : Hid (∀ wx, Calls Try.prog 26 #[.pointer none] wx fun e w' => e = .returned (.slice none 0 0) ∧ Below wx.heap.size wx w') := fun wx => All_nil wx
  have CWho : Hid (∀ wx, Calls Try.prog 21 #[.pointer none, .agg h.A] wx fun e w' => e = .returned (.slice none 0 0) ∧ Below wx.heap.size wx w') := fun wx => Who_nil wx h
  have CAwk : Hid (∀ wx, Calls Try.prog 10 #[] wx fun e w' => e = .returned (.bool true) ∧ Below wx.heap.size wx w') := fun wx => awake_any wx
  go_enter Try.func7, Try.ntmps7
  go_wp2_with (refine wpList_box_hd (n := h) _ rfl _ rfl rfl ?_; intro w0 b0 N0)
  have HK : Hid (∀ W : World, Below w0.heap.size w0 W → (W.cell? ⟨b0, 0, none⟩ = some (.int .i64 h.x) ∧ W.cell? ⟨b0, 1, none⟩ = some (.int .i64 h.m) ∧ W.cell? ⟨b0, 2, none⟩ = some (.string h.lo) ∧ W.cell? ⟨b0, 3, none⟩ = some (.string h.hi) ∧ W.cell? ⟨b0, 4, none⟩ = some (.bool h.op))) := fun W hb => ⟨(N0.hd.bel hb).c0, (N0.hd.bel hb).c1, (N0.hd.bel hb).c2, (N0.hd.bel hb).c3, (N0.hd.bel hb).c4⟩
  have QB : Hid (Below w0.heap.size w0 w0.drew) := (Below.refl _ _).drew
  have i0 := N0.hd.c0
  have i1 := N0.hd.c1
  have i2 := N0.hd.c2
  have i3 := N0.hd.c3
  have i4 := N0.hd.c4
  go_region_held3 (fun W => W.cell? ⟨b0, 0, none⟩ = some (.int .i64 h.x) ∧ W.cell? ⟨b0, 1, none⟩ = some (.int .i64 h.m) ∧ W.cell? ⟨b0, 2, none⟩ = some (.string h.lo) ∧ W.cell? ⟨b0, 3, none⟩ = some (.string h.hi) ∧ W.cell? ⟨b0, 4, none⟩ = some (.bool h.op)) (first | exact keep1 | go_keep) (first
    | (go_at_call 28; refine (CAsk.out _).mono ?_; rintro e w1 ⟨rfl, q1⟩; have QB : Hid (Below w0.heap.size w0 w1) := thn QB.out q1; have keep1 := HK.out _ QB.out)
    | (go_at_call 22; refine (CHas.out _).mono ?_; rintro e w1 ⟨rfl, q1⟩; have QB : Hid (Below w0.heap.size w0 w1) := thn QB.out q1; have keep1 := HK.out _ QB.out)
    | (go_at_call 29; refine (CKey.out _).mono ?_; rintro e w1 ⟨rfl, q1⟩; have QB : Hid (Below w0.heap.size w0 w1) := thn QB.out q1; have keep1 := HK.out _ QB.out)
    | (go_at_call 30; refine (CRan.out _).mono ?_; rintro e w1 ⟨rfl, q1⟩; have QB : Hid (Below w0.heap.size w0 w1) := thn QB.out q1; have keep1 := HK.out _ QB.out)
    | (go_at_call 18; refine (CDro.out _).mono ?_; rintro e w1 ⟨rfl, q1⟩; have QB : Hid (Below w0.heap.size w0 w1) := thn QB.out q1; have keep1 := HK.out _ QB.out)
    | (go_at_call 27; refine (CCou.out _).mono ?_; rintro e w1 ⟨rfl, q1⟩; have QB : Hid (Below w0.heap.size w0 w1) := thn QB.out q1; have keep1 := HK.out _ QB.out)
    | (go_at_call 26; refine (CAll.out _).mono ?_; rintro e w1 ⟨rfl, q1⟩; have QB : Hid (Below w0.heap.size w0 w1) := thn QB.out q1; have keep1 := HK.out _ QB.out)
    | (go_at_call 21; refine (CWho.out _).mono ?_; rintro e w1 ⟨rfl, q1⟩; have QB : Hid (Below w0.heap.size w0 w1) := thn QB.out q1; have keep1 := HK.out _ QB.out)
    | (go_at_call 10; refine (CAwk.out _).mono ?_; rintro e w1 ⟨rfl, q1⟩; have QB : Hid (Below w0.heap.size w0 w1) := thn QB.out q1; have keep1 := HK.out _ QB.out))
  all_goals
    go_wp2
    go_ret
    exact ⟨rfl, thn N0.below QB.out⟩
end Go.Proofs.Ytkpjamdlpofgcaa
