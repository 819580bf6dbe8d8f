/- RecCleans: any record with just what its kind has. -/
import Derived.Test.YtakdfdnndogaiaaLwCom
import Derived.Deep.RegionHeld3
namespace Go.Proofs.Ytakdfdnndogaiaa
open Go.RowKit
set_option linter.unusedVariables false
set_option linter.unusedSimpArgs false
set_option maxRecDepth 100000

set_option maxHeartbeats 2000000 in
theorem cleans_walk {w : World} {v : Value} {m : Rm} (h : RecV w v m) (hh : Held m) : Calls Try.prog 4 #[v] w fun e w' => e = .returned (.bool true) ∧ Below w.heap.size w w' := by
  have hsm := hh.few
  have CF : Hid (∀ wx, Calls Try.prog 9 #[v] wx fun e w' => (∃ v', e = .returned v' ∧ RecV w v' (fewM m)) ∧ Below wx.heap.size wx w') := fun wx => Few_any h hh.im hh.tb
  generalize fewM m = m' at *
  obtain ⟨I0, T0, rfl, _⟩ := h.ex
  obtain ⟨s, l, g⟩ := m'
  have CC : Hid (∀ wx v', RecV wx v' ⟨s, l, g⟩ → Calls Try.prog 15 #[v'] wx fun e w' => (∃ v', e = .returned v' ∧ RecV w' v' (cleanM ⟨s, l, g⟩)) ∧ Below wx.heap.size wx w') := fun wx v' h' => clean_any h' hsm.im hsm.tb
  have CR : Hid (∀ wx v', RecV wx v' ⟨s, l, g⟩ → Calls Try.prog 16 #[v'] wx fun e w' => (∃ v', e = .returned v' ∧ RecV w' v' (cleanM ⟨s, l, g⟩)) ∧ Below wx.heap.size wx w') := fun wx v' h' => rclean_any h'
  have hsc := hsm.clean
  have CS : Hid (∀ wx v1 v2, RecV wx v1 (cleanM ⟨s, l, g⟩) → RecV wx v2 (cleanM ⟨s, l, g⟩) → Calls Try.prog 14 #[v1, v2] wx fun e w' => e = .returned (.bool true) ∧ Below wx.heap.size wx w') := fun wx v1 v2 h1 h2 => Same_any h1 h2 hsc.im hsc.tb
  have CK : Hid (∀ wx, Calls Try.prog 12 #[] wx fun e w' => e = .returned (.bool true) ∧ Below wx.heap.size wx w') := fun wx => awake_any wx
  clear h hh hsm hsc
  generalize cleanM ⟨s, l, g⟩ = mc at *
  go_enter Try.func4, Try.ntmps4
  go_wp2_with (first
    | (refine wpList_box_rc (s := m.s) (I := I0) (T := T0) _ rfl _ rfl rfl ?_; intro w0 b0 N0)
    | (refine wpList_load_rc _ rfl (.tmp 1) rfl rfl N0.rc ?_)
    | (go_at_call 9; refine (CF.out _).mono ?_; rintro e w1 ⟨⟨v', rfl, h1⟩, b1⟩; obtain ⟨I, T, rfl, hI, hT⟩ := h1.ex; dsimp only at hI hT)
    | (refine wpList_put_rc (s' := s) (I' := I) (T' := T) _ rfl (.tmp 1) (.tmp 4) rfl rfl rfl (N0.rc.below b1) hI.one hT.one ?_; intro w2 P2; have H0 := BdS.of N0 b1 hI hT P2; clear N0 P2 h1 hI hT))
  have H : BdS w w2.drew b0 s I T l g := H0.below ((Below.refl _ _).drew)
  have keep0 := H.rc.row
  clear H0
  go_region_held3 (fun W => W.cell? ⟨b0, 0, none⟩ = some (.int .i64 s.kd) ∧ W.cell? ⟨b0, 1, none⟩ = some (.int .i64 s.tx) ∧ W.cell? ⟨b0, 2, none⟩ = some (.int .i64 s.pv) ∧ W.cell? ⟨b0, 3, none⟩ = some (.int .i64 s.pg) ∧ W.cell? ⟨b0, 4, none⟩ = some (.int .i64 s.ac) ∧ W.cell? ⟨b0, 5, none⟩ = some (.string s.ky) ∧ W.cell? ⟨b0, 6, none⟩ = some (.string s.ol) ∧ W.cell? ⟨b0, 7, none⟩ = some (.string s.nw) ∧ W.cell? ⟨b0, 8, none⟩ = some (.int .i64 s.nx) ∧ W.cell? ⟨b0, 9, none⟩ = some I ∧ W.cell? ⟨b0, 10, none⟩ = some T ∧ W.cell? ⟨b0, 11, none⟩ = some (.int .i64 s.ep) ∧ W.cell? ⟨b0, 12, none⟩ = some (.int .i64 s.nd)) (first | exact keep4 | exact keep3 | exact keep2 | exact keep1 | exact keep0) (first
    | (go_at_call 15; refine (CC.out _ _ ?_).mono ?_; exact ⟨I, T, rfl, H.im, H.tb⟩; rintro e w3 ⟨⟨v1, rfl, g1⟩, b3⟩; have H1 := H.below b3; clear H; have H := H1; clear H1; have keep1 := H.rc.row)
    | (go_at_call 16; refine (CR.out _ _ ?_).mono ?_; exact ⟨I, T, rfl, H.im, H.tb⟩; rintro e w4 ⟨⟨v2, rfl, g2⟩, b4⟩; have H1 := H.below b4; clear H; have H := H1; clear H1; have keep2 := H.rc.row)
    | (go_at_call 14; refine (CS.out _ _ _ ?_ g2).mono ?_; exact g1.below b4; rintro e w5 ⟨rfl, b5⟩; have H1 := H.below b5; clear H; have H := H1; clear H1; have keep3 := H.rc.row)
    | (go_at_call 12; refine (CK.out _).mono ?_; rintro e w6 ⟨rfl, b6⟩; have H1 := H.below b6; clear H; have H := H1; clear H1; have keep4 := H.rc.row))
  go_wp2
  go_ret
  exact ⟨rfl, H.bel⟩
end Go.Proofs.Ytakdfdnndogaiaa
