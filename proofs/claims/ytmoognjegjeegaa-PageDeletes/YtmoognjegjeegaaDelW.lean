/- The walk of PageDeletes. -/
import Derived.Test.YtmoognjegjeegaaLCe3
import Derived.Test.YtmoognjegjeegaaWit
import Derived.Test.YtmoognjegjeegaaDrp
namespace Go.Proofs.Ytmoognjegjeegaa
open Go.RowKit
set_option linter.unusedVariables false
set_option linter.unusedSimpArgs false
set_option maxRecDepth 100000

theorem nil_eq : (ByteArray.toList ⟨#[]⟩ == ByteArray.toList ⟨#[]⟩) = true := by simp
theorem deletes_wrong (w : World) (p x : ByteArray) (hz : p.size ≤ 140737488351232) (h : ¬ Right (bts p)) : Calls Try.prog 6 #[.string p, .string x] w fun e w' => e = .returned (.bool true) ∧ Below w.heap.size w w' := by
  have C0 : Hid (∀ w, Calls Try.prog 9 #[.string p] w fun e w' => ∃ v, e = .returned (.tuple #[v, .bool false]) ∧ Below w.heap.size w w') := fun w => lcells_wrong w p h
  have C1 : Hid (∀ w, Calls Try.prog 29 #[.string p, .string x] w fun e w' => e = .returned (.tuple #[.string ⟨#[]⟩, .int .i64 4]) ∧ Below w.heap.size w w') := fun w => Delete_form w p x hz (fun t => h t.right)
  have C9 : Hid (∀ w, Calls Try.prog 18 #[] w fun e w' => e = .returned (.bool true) ∧ Below w.heap.size w w') := fun w => awake_any w
  clear h hz
  go_enter Try.func6, Try.ntmps6
  go_wp2_with (first | (go_at_call 29; refine (C1.out _).mono ?_; rintro e w1 ⟨rfl, hb1⟩) | (go_at_call 9; refine (C0.out _).mono ?_; rintro e w2 ⟨v, rfl, hb2⟩) | (go_at_call 18; refine (C9.out _).mono ?_; rintro e w3 ⟨rfl, hb3⟩))
  go_ret
  exact ⟨rfl, thn (thn hb1 hb2) hb3⟩
theorem deletes_free (w : World) (p x : ByteArray) (h : Right (bts p)) (hk : g (bts p) 0 = 0) : Calls Try.prog 6 #[.string p, .string x] w fun e w' => e = .returned (.bool true) ∧ Below w.heap.size w w' := by
  have hp := h.size
  have i0 := fun q => idx_g p 0 q
  have C0 : Hid (∀ w, Calls Try.prog 9 #[.string p] w fun e w' => ∃ a cap, e = .returned (.tuple #[.slice a (cnt (bts p)) cap, .bool true]) ∧ Sl w' a cap (cells (bts p)) ∧ Below w.heap.size w w') := fun w => lcells_right w p h
  have C1 : Hid (∀ w, Calls Try.prog 29 #[.string p, .string x] w fun e w' => e = .returned (.tuple #[.string ⟨#[]⟩, .int .i64 4]) ∧ Below w.heap.size w w') := fun w => Delete_form w p x (by omega) (fun t => t.kind hk)
  have C9 : Hid (∀ w, Calls Try.prog 18 #[] w fun e w' => e = .returned (.bool true) ∧ Below w.heap.size w w') := fun w => awake_any w
  rw [hk] at i0
  clear h hk
  generalize bts p = s at *
  go_enter Try.func6, Try.ntmps6
  go_wp2_with (first | (go_at_call 29; refine (C1.out _).mono ?_; rintro e w1 ⟨rfl, hb1⟩) | (go_at_call 9; refine (C0.out _).mono ?_; rintro e w2 ⟨a2, cap2, rfl, hL2, hb2⟩) | (go_at_call 18; refine (C9.out _).mono ?_; rintro e w3 ⟨rfl, hb3⟩))
  go_ret
  exact ⟨rfl, thn (thn hb1 hb2) hb3⟩
set_option maxHeartbeats 1000000 in
theorem deletes_right (w : World) (p x : ByteArray) (h : Right (bts p)) (hk : g (bts p) 0 ≠ 0) : Calls Try.prog 6 #[.string p, .string x] w fun e w' => e = .returned (.bool true) ∧ Below w.heap.size w w' := by
  have hp := h.size
  have i0 := fun q => idx_g p 0 q
  have b0 := g_lt (bts p) 0
  have hT : Turns (bts p) := ⟨h, hk⟩
  have C0 : Hid (∀ w, Calls Try.prog 9 #[.string p] w fun e w' => ∃ a cap, e = .returned (.tuple #[.slice a (cnt (bts p)) cap, .bool true]) ∧ Sl w' a cap (cells (bts p)) ∧ Below w.heap.size w w') := fun w => lcells_right w p h
  have C9 : Hid (∀ w, Calls Try.prog 18 #[] w fun e w' => e = .returned (.bool true) ∧ Below w.heap.size w w') := fun w => awake_any w
  have hsm := h.small
  have hn := h.head.slotlt
  have hcl := cells_length (bts p)
  have CP : Hid (∀ w a cap, Cs w a (cells (bts p)) → Calls Try.prog 19 #[.slice a (cnt (bts p)) cap, .string x] w fun e w' => e = .returned (.tuple #[.int .i64 (plc (cells (bts p)) x : Nat), .bool (isAt (cells (bts p)) x)]) ∧ Below w.heap.size w w') := fun w a cap hc => by
    have := place_any w cap hc hsm.len x
    rw [hcl] at this; exact this
  have hk' : ((g (bts p) 0 : Int) == 0) = false := by simp; omega
  cases ha : isAt (cells (bts p)) x
  · have C1 : Hid (∀ w, Calls Try.prog 29 #[.string p, .string x] w fun e w' => e = .returned (.tuple #[.string ⟨#[]⟩, .int .i64 8]) ∧ Below w.heap.size w w') := fun w => Delete_none w p x hT ha
    rw [ha] at CP
    clear h hk hT hsm hcl ha
    generalize plc (cells (bts p)) x = pl at *
    generalize bts p = s at *
    generalize g s 0 = k0 at *
    go_enter Try.func6, Try.ntmps6
    go_wp2_with (first | (go_at_call 29; refine (C1.out _).mono ?_; rintro e w1 ⟨rfl, hb1⟩) | (go_at_call 9; refine (C0.out _).mono ?_; rintro e w2 ⟨a2, cap2, rfl, hL2, hb2⟩) | (go_at_call 19; refine (CP.out _ _ _ hL2.cs).mono ?_; rintro e w4 ⟨rfl, hb4⟩) | (go_at_call 18; refine (C9.out _).mono ?_; rintro e w3 ⟨rfl, hb3⟩))
    go_ret
    exact ⟨rfl, thn (thn (thn hb1 hb2) hb4) hb3⟩
  · have C1 : Hid (∀ w, Calls Try.prog 29 #[.string p, .string x] w fun e w' => e = .returned (.tuple #[.string (tx (dropS (bts p) (plc (cells (bts p)) x))), .int .i64 0]) ∧ Below w.heap.size w w') := fun w => Delete_ok w p x hT ha
    have hlt : plc (cells (bts p)) x < cnt (bts p) := Decidable.byContradiction fun e => by rw [isAt_ge e] at ha; cases ha
    have hdr := drop_right h hlt
    have hdc := drop_cells h hlt
    have hdn := drop_cnt h hlt
    have CD : Hid (∀ w, Calls Try.prog 30 #[.string p, .int .i64 (cnt (bts p) : Nat), .int .i64 (plc (cells (bts p)) x : Nat)] w fun e w' => e = .returned (.string (tx (dropS (bts p) (plc (cells (bts p)) x)))) ∧ Below w.heap.size w w') := fun w => dropped_any w p _ _ hp rfl hn hlt
    have hdl : (del (cells (bts p)) (plc (cells (bts p)) x)).length = cnt (bts p) - 1 := by rw [← hdc, cells_length, hdn]
    have C8 : Hid (∀ w, Calls Try.prog 17 #[.string (tx (dropS (bts p) (plc (cells (bts p)) x)))] w fun e w' => ∃ a, e = .returned (.slice (some ⟨a, 0, none⟩) (cnt (bts p) - 1) (cnt (bts p) - 1)) ∧ Cs w' (some ⟨a, 0, none⟩) (del (cells (bts p)) (plc (cells (bts p)) x)) ∧ Below w.heap.size w w') := fun w => by
      have := Cells_right w (tx (dropS (bts p) (plc (cells (bts p)) x))) (by rw [bts_tx]; exact hdr)
      rw [bts_tx, hdn, hdc] at this
      exact this
    have CW : Hid (∀ w a cap, Sl w a cap (cells (bts p)) → Calls Try.prog 31 #[.slice a (cnt (bts p)) cap, .int .i64 (plc (cells (bts p)) x : Nat)] w fun e w' => ∃ a' cap', e = .returned (.slice a' (cnt (bts p) - 1) cap') ∧ Cs w' a' (del (cells (bts p)) (plc (cells (bts p)) x)) ∧ Below w.heap.size w w') := fun w a cap hs => by
      have := without_any w hs hsm.len (plc (cells (bts p)) x) (by omega)
      rw [hcl] at this
      refine this.mono ?_
      rintro e w' ⟨⟨a', cap', rfl, hS⟩, hb⟩
      rw [hdl]
      exact ⟨a', cap', rfl, hS.cs, hb⟩
    have CS : Hid (∀ w a a' cap cap', Cs w a (del (cells (bts p)) (plc (cells (bts p)) x)) → Cs w a' (del (cells (bts p)) (plc (cells (bts p)) x)) → Calls Try.prog 21 #[.slice a (cnt (bts p) - 1) cap, .slice a' (cnt (bts p) - 1) cap'] w fun e w' => e = .returned (.bool true) ∧ Below w.heap.size w w') := fun w a a' cap cap' hc hc' => by
      have := same_any w cap cap' hc hc' (by omega)
      rw [hdl] at this; exact this
    rw [ha] at CP
    clear h hk hT hsm hcl ha hdr hdc hdn hdl hlt
    generalize dropS (bts p) (plc (cells (bts p)) x) = D at *
    generalize del (cells (bts p)) (plc (cells (bts p)) x) = DL at *
    generalize plc (cells (bts p)) x = pl at *
    generalize bts p = s at *
    generalize g s 0 = k0 at *
    have htt : ((tx D).toList == (tx D).toList) = true := by simp
    generalize cnt s - 1 = n1 at *
    generalize tx D = TD at *
    go_enter Try.func6, Try.ntmps6
    go_wp2_with (first | (go_at_call 29; refine (C1.out _).mono ?_; rintro e w1 ⟨rfl, hb1⟩) | (go_at_call 9; refine (C0.out _).mono ?_; rintro e w2 ⟨a2, cap2, rfl, hL2, hb2⟩) | (go_at_call 19; refine (CP.out _ _ _ hL2.cs).mono ?_; rintro e w4 ⟨rfl, hb4⟩) | (go_at_call 30; refine (CD.out _).mono ?_; rintro e w5 ⟨rfl, hb5⟩) | (go_at_call 17; refine (C8.out _).mono ?_; rintro e w6 ⟨a6, rfl, hc6, hb6⟩; have hL6 := hL2.below (thn (thn hb4 hb5) hb6)) | (go_at_call 31; refine (CW.out _ _ _ hL6).mono ?_; rintro e w7 ⟨a7, cap7, rfl, hc7, hb7⟩) | (go_at_call 21; refine (CS.out _ _ _ _ _ (hc6.below hb7) hc7).mono ?_; rintro e w8 ⟨rfl, hb8⟩) | (go_at_call 18; refine (C9.out _).mono ?_; rintro e w3 ⟨rfl, hb3⟩))
    go_ret
    exact ⟨rfl, thn (thn (thn (thn (thn (thn (thn hb1 hb2) hb4) hb5) hb6) hb7) hb8) hb3⟩
theorem deletes_walk (w : World) (p x : ByteArray) (hz : p.size ≤ 140737488351232) : Calls Try.prog 6 #[.string p, .string x] w fun e w' => e = .returned (.bool true) ∧ Below w.heap.size w w' := by
  by_cases h : Right (bts p)
  · by_cases hk : g (bts p) 0 = 0
    · exact deletes_free w p x h hk
    · exact deletes_right w p x h hk
  · exact deletes_wrong w p x hz h
end Go.Proofs.Ytmoognjegjeegaa
