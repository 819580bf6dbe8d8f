/- RecBack: a record that has a frame is opened again, wherever it stands. -/
import Derived.Test.YtakdfdnndogaiaaLwRnd
import Derived.Deep.RegionHeld3
namespace Go.Proofs.Ytakdfdnndogaiaa
open Go.RowKit
set_option linter.unusedVariables false
set_option linter.unusedSimpArgs false
set_option maxRecDepth 100000

theorem empty_rd : (rdM ⟨#[]⟩).2.2 = 2 := by decide
theorem body_pos {m : Rm} {Z : ByteArray} (hb : bodyM (cleanM m) = (Z, 0)) : 1 ≤ Z.size := by
  rcases Nat.lt_or_ge Z.size 1 with h | h
  · have hz : Z = ⟨#[]⟩ := by
      apply ByteArray.ext
      exact Array.eq_empty_of_size_eq_zero (show Z.data.size = 0 by have : Z.size = Z.data.size := rfl; omega)
    have h1 := rdM_body (cleanM_twice m) hb
    rw [hz] at h1
    have h2 := empty_rd
    rw [h1] at h2
    dsimp only at h2
    omega
  · exact h
theorem open_frame {m : Rm} {Z : ByteArray} (hb : bodyM (cleanM m) = (Z, 0)) (a b : ByteArray) : openM (a ++ frameB Z ++ b) a.size = (cleanM m, 6 + (Z.size : Int), 0) := by
  have hz : Z.size ≤ 4096 := by have := bodyM_size (cleanM m); rw [hb] at this; exact this
  have hp := body_pos hb
  have hx : (a ++ frameB Z ++ b).extract a.size (a ++ frameB Z ++ b).size = frameB Z ++ b := by
    rw [ByteArray.append_assoc]
    exact Pk.extract_right a (frameB Z ++ b)
  have hs := frameB_size Z
  have hfr : frM (frameB Z ++ b) = (Z, 0) := by
    have e : frameB Z ++ b = Pk.beS Z.size 2 ++ (Sm.sealV Z ++ b) := by unfold frameB; rw [ByteArray.append_assoc]
    obtain ⟨n1, n2⟩ := sN_cat (n := (Z.size : Int)) (k := 2) (j := 2) (b := Sm.sealV Z ++ b) rfl (by omega) (by omega) (by omega) (by rw [show Pk.limI 2 = 65536 from Pk.limI_2]; omega)
    rw [Int.toNat_natCast, ← e] at n1 n2
    have hr : frR (frameB Z ++ b) = (Sm.sealV Z, b, 0) := by
      unfold frR
      rw [n1, n2]
      have := Pk.rdRaw_app (Sm.sealV Z) b
      rw [sealV_size] at this
      have e4 : ((4 + Z.size : Nat) : Int) = 4 + (Z.size : Int) := by omega
      rw [e4] at this
      exact this
    unfold frM
    rw [if_neg (by rw [ByteArray.size_append]; omega), n1, if_neg (by omega), hr]
    dsimp only
    rw [if_neg (by simp)]
    exact Sm.open_seal Z
  unfold openM
  rw [if_neg (by rw [ByteArray.size_append, ByteArray.size_append]; omega), Int.toNat_natCast, hx, hfr]
  dsimp only
  rw [if_neg (by simp), ofM_body (cleanM_twice m) hb]
  dsimp only
  rw [if_neg (by simp)]
set_option maxHeartbeats 4000000 in
theorem back_walk {w : World} {v : Value} {m : Rm} (h : RecV w v m) (hh : Held m) (a b : ByteArray) (ha : a.size ≤ 140737488351232) (hb : b.size ≤ 140737488351232) : Calls Try.prog 5 #[v, .string a, .string b] w fun e w' => e = .returned (.bool true) ∧ Below w.heap.size w w' := by
  have hsm := hh.few
  have CF : Hid (∀ wx, Calls Try.prog 9 #[v] wx fun e w' => (∃ v', e = .returned v' ∧ RecV w v' (fewM m)) ∧ Below wx.heap.size wx w') := fun wx => Few_any h hh.im hh.tb
  generalize fewM m = m' at *
  obtain ⟨I0, T0, rfl, _⟩ := h.ex
  obtain ⟨s, l, g⟩ := m'
  have CR : Hid (∀ wx v', RecV wx v' ⟨s, l, g⟩ → Calls Try.prog 10 #[v'] wx fun r w' => r = .returned (.tuple #[.string (frameM ⟨s, l, g⟩).1, .int .i64 (frameM ⟨s, l, g⟩).2]) ∧ Below wx.heap.size wx w') := fun wx v' h' => Frame_any h' hsm
  have CK : Hid (∀ wx, Calls Try.prog 12 #[] wx fun e w' => e = .returned (.bool true) ∧ Below wx.heap.size wx w') := fun wx => awake_any wx
  by_cases hA1 : (100 : Int) < a.size
  · clear CR h hh hsm
    go_enter Try.func5, Try.ntmps5
    go_wp2_with (first
      | (refine wpList_box_rc (s := m.s) (I := I0) (T := T0) _ rfl _ rfl rfl ?_; intro w0 b0 N0)
      | (refine wpList_load_rc _ rfl (.tmp 3) rfl rfl N0.rc ?_)
      | (go_at_call 9; refine (CF.out _).mono ?_; rintro e w1 ⟨⟨v', rfl, h1⟩, b1⟩; obtain ⟨I, T, rfl, hI, hT⟩ := h1.ex; dsimp only at hI hT)
      | (refine wpList_put_rc (s' := s) (I' := I) (T' := T) _ rfl (.tmp 3) (.tmp 13) rfl rfl rfl (N0.rc.below b1) hI.one hT.one ?_; intro w2 P2; have H := BdS.of N0 b1 hI hT P2; clear N0 P2 h1 hI hT)
      | (go_at_call 12; refine (CK.out _).mono ?_; rintro e w6 ⟨rfl, b6⟩))
    go_ret
    exact ⟨rfl, thn H.bel b6⟩
  by_cases hB1 : (100 : Int) < b.size
  · clear CR h hh hsm
    go_enter Try.func5, Try.ntmps5
    go_wp2_with (first
      | (refine wpList_box_rc (s := m.s) (I := I0) (T := T0) _ rfl _ rfl rfl ?_; intro w0 b0 N0)
      | (refine wpList_load_rc _ rfl (.tmp 3) rfl rfl N0.rc ?_)
      | (go_at_call 9; refine (CF.out _).mono ?_; rintro e w1 ⟨⟨v', rfl, h1⟩, b1⟩; obtain ⟨I, T, rfl, hI, hT⟩ := h1.ex; dsimp only at hI hT)
      | (refine wpList_put_rc (s' := s) (I' := I) (T' := T) _ rfl (.tmp 3) (.tmp 13) rfl rfl rfl (N0.rc.below b1) hI.one hT.one ?_; intro w2 P2; have H := BdS.of N0 b1 hI hT P2; clear N0 P2 h1 hI hT)
      | (go_at_call 12; refine (CK.out _).mono ?_; rintro e w6 ⟨rfl, b6⟩))
    go_ret
    exact ⟨rfl, thn H.bel b6⟩
  unfold frameM at CR
  by_cases he : (bodyM (cleanM ⟨s, l, g⟩)).2 = 0
  · rw [if_neg (by simpa using he)] at CR
    have hZ : bodyM (cleanM ⟨s, l, g⟩) = ((bodyM (cleanM ⟨s, l, g⟩)).1, 0) := Prod.ext rfl he
    have hz := bodyM_size (cleanM ⟨s, l, g⟩)
    have CC : Hid (∀ wx v', RecV wx v' ⟨s, l, g⟩ → Calls Try.prog 16 #[v'] wx fun e w' => (∃ v', e = .returned v' ∧ RecV w' v' (cleanM ⟨s, l, g⟩)) ∧ Below wx.heap.size wx w') := fun wx v' h' => rclean_any h'
    have hsc := hsm.clean
    have CS : Hid (∀ wx v1 v2, RecV wx v1 (cleanM ⟨s, l, g⟩) → RecV wx v2 (cleanM ⟨s, l, g⟩) → Calls Try.prog 14 #[v1, v2] wx fun e w' => e = .returned (.bool true) ∧ Below wx.heap.size wx w') := fun wx v1 v2 h1 h2 => Same_any h1 h2 hsc.im hsc.tb
    have hop := open_frame hZ a b
    have hFz := frameB_size (bodyM (cleanM ⟨s, l, g⟩)).1
    have CO0 := fun wx => Open_any (w := wx) (a ++ frameB (bodyM (cleanM ⟨s, l, g⟩)).1 ++ b) (a.size : Int) (by rw [ByteArray.size_append, ByteArray.size_append]; omega)
    rw [hop] at CO0
    dsimp only at CO0
    generalize (bodyM (cleanM ⟨s, l, g⟩)).1 = Z at *
    dsimp only at CR
    have hz1 : (a ++ frameB Z).size ≤ 10000 := by rw [ByteArray.size_append]; omega
    have hz2 : (frameB Z).size ≤ 10000 := by omega
    have hle : (6 + (Z.size : Int) == ((frameB Z).size : Int)) = true := by rw [hFz]; simp
    generalize frameB Z = F at *
    obtain ⟨N, hN⟩ : ∃ N : Int, N = 6 + (Z.size : Int) := ⟨_, rfl⟩
    rw [← hN] at CO0 hle
    have CO : Hid _ := CO0
    clear CO0 hN hop hZ he h hh hsm hsc hFz
    generalize cleanM ⟨s, l, g⟩ = mc at *
    obtain ⟨sc, lc, gc⟩ := mc
    go_enter Try.func5, Try.ntmps5
    go_wp2_with (first
      | (refine wpList_box_rc (s := m.s) (I := I0) (T := T0) _ rfl _ rfl rfl ?_; intro w0 b0 N0)
      | (refine wpList_load_rc _ rfl (.tmp 3) rfl rfl H.rc ?_)
      | (refine wpList_load_rc _ rfl (.tmp 3) rfl rfl N0.rc ?_)
      | (go_at_call 9; refine (CF.out _).mono ?_; rintro e w1 ⟨⟨v', rfl, h1⟩, b1⟩; obtain ⟨I, T, rfl, hI, hT⟩ := h1.ex; dsimp only at hI hT)
      | (refine wpList_at (Op.store 25 (.tmp 3) (.tmp 13)) rfl ?_; refine wpList_put_rc (s' := s) (I' := I) (T' := T) _ rfl (.tmp 3) (.tmp 13) rfl rfl rfl (N0.rc.below b1) hI.one hT.one ?_; intro w2 P2; have H := BdS.of N0 b1 hI hT P2; clear N0 P2 h1 hI hT)
      | (go_at_call 10; refine (CR.out _ _ ⟨I, T, rfl, H.im, H.tb⟩).mono ?_; rintro e w3 ⟨rfl, b3⟩; have H1 := H.below b3; clear H; have H := H1; clear H1)
      | (go_at_call 17; refine (CO.out _).mono ?_; rintro e w4 ⟨⟨v4, rfl, h4⟩, b4⟩; obtain ⟨J, U, rfl, hJ, hU⟩ := h4.recV.ex; dsimp only at hJ hU; have H1 := H.below b4; clear H; have H := H1; clear H1 h4)
      | (refine wpList_new_rc _ rfl rfl ?_; intro w5 b9 N5)
      | (refine wpList_at (Op.store 25 (.tmp 9) (.tmp 40)) rfl ?_; refine wpList_put_rc (s' := sc) (I' := J) (T' := U) _ rfl (.tmp 9) (.tmp 40) rfl rfl rfl N5.rc hJ.one hU.one ?_; intro w6 P6; have G := BdS.mk' H.bel hJ hU N5 P6; have H1 := H.below (N5.below.trans (P6.below (Nat.le_of_eq N5.eq.symm) N5.below.size)); clear H N5 P6 hJ hU; have H := H1; clear H1))
    have HD : BdS w w6.drew b0 s I T l g := H.below ((Below.refl _ _).drew)
    have GD : BdS w w6.drew b9 sc J U lc gc := G.below ((Below.refl _ _).drew)
    clear H G
    have keep0 := And.intro HD.rc.row GD.rc.row
    go_region_held3 (fun W => (W.cell? ⟨b0, 0, none⟩ = some (.int .i64 s.kd) ∧ W.cell? ⟨b0, 1, none⟩ = some (.int .i64 s.tx) ∧ W.cell? ⟨b0, 2, none⟩ = some (.int .i64 s.pv) ∧ W.cell? ⟨b0, 3, none⟩ = some (.int .i64 s.pg) ∧ W.cell? ⟨b0, 4, none⟩ = some (.int .i64 s.ac) ∧ W.cell? ⟨b0, 5, none⟩ = some (.string s.ky) ∧ W.cell? ⟨b0, 6, none⟩ = some (.string s.ol) ∧ W.cell? ⟨b0, 7, none⟩ = some (.string s.nw) ∧ W.cell? ⟨b0, 8, none⟩ = some (.int .i64 s.nx) ∧ W.cell? ⟨b0, 9, none⟩ = some I ∧ W.cell? ⟨b0, 10, none⟩ = some T ∧ W.cell? ⟨b0, 11, none⟩ = some (.int .i64 s.ep) ∧ W.cell? ⟨b0, 12, none⟩ = some (.int .i64 s.nd)) ∧ (W.cell? ⟨b9, 0, none⟩ = some (.int .i64 sc.kd) ∧ W.cell? ⟨b9, 1, none⟩ = some (.int .i64 sc.tx) ∧ W.cell? ⟨b9, 2, none⟩ = some (.int .i64 sc.pv) ∧ W.cell? ⟨b9, 3, none⟩ = some (.int .i64 sc.pg) ∧ W.cell? ⟨b9, 4, none⟩ = some (.int .i64 sc.ac) ∧ W.cell? ⟨b9, 5, none⟩ = some (.string sc.ky) ∧ W.cell? ⟨b9, 6, none⟩ = some (.string sc.ol) ∧ W.cell? ⟨b9, 7, none⟩ = some (.string sc.nw) ∧ W.cell? ⟨b9, 8, none⟩ = some (.int .i64 sc.nx) ∧ W.cell? ⟨b9, 9, none⟩ = some J ∧ W.cell? ⟨b9, 10, none⟩ = some U ∧ W.cell? ⟨b9, 11, none⟩ = some (.int .i64 sc.ep) ∧ W.cell? ⟨b9, 12, none⟩ = some (.int .i64 sc.nd))) (first | exact keep3 | exact keep2 | exact keep1 | exact keep0) (first
      | (go_at_call 16; refine (CC.out _ _ ?_).mono ?_; exact ⟨I, T, rfl, HD.im, HD.tb⟩; rintro e w7 ⟨⟨v7, rfl, g7⟩, b7⟩; have H1 := HD.below b7; have G1 := GD.below b7; clear HD GD; have HD := H1; have GD := G1; clear H1 G1; have keep1 := And.intro HD.rc.row GD.rc.row)
      | (go_at_call 14; refine (CS.out _ _ _ ?_ g7).mono ?_; exact ⟨J, U, rfl, GD.im, GD.tb⟩; rintro e w8 ⟨rfl, b8⟩; have H1 := HD.below b8; have G1 := GD.below b8; clear HD GD; have HD := H1; have GD := G1; clear H1 G1; have keep2 := And.intro HD.rc.row GD.rc.row)
      | (go_at_call 12; refine (CK.out _).mono ?_; rintro e w9 ⟨rfl, b9⟩; have H1 := HD.below b9; have G1 := GD.below b9; clear HD GD; have HD := H1; have GD := G1; clear H1 G1; have keep3 := And.intro HD.rc.row GD.rc.row))
    go_wp2
    go_ret
    exact ⟨rfl, HD.bel⟩
  · rw [if_pos he] at CR
    generalize (bodyM (cleanM ⟨s, l, g⟩)).1 = Z at *
    generalize (bodyM (cleanM ⟨s, l, g⟩)).2 = E at *
    have he' : (E != 0) = true := by simpa using he
    dsimp only at CR
    clear h hh hsm he
    go_enter Try.func5, Try.ntmps5
    go_wp2_with (first
      | (refine wpList_box_rc (s := m.s) (I := I0) (T := T0) _ rfl _ rfl rfl ?_; intro w0 b0 N0)
      | (refine wpList_load_rc _ rfl (.tmp 3) rfl rfl H.rc ?_)
      | (refine wpList_load_rc _ rfl (.tmp 3) rfl rfl N0.rc ?_)
      | (go_at_call 9; refine (CF.out _).mono ?_; rintro e w1 ⟨⟨v', rfl, h1⟩, b1⟩; obtain ⟨I, T, rfl, hI, hT⟩ := h1.ex; dsimp only at hI hT)
      | (refine wpList_put_rc (s' := s) (I' := I) (T' := T) _ rfl (.tmp 3) (.tmp 13) rfl rfl rfl (N0.rc.below b1) hI.one hT.one ?_; intro w2 P2; have H := BdS.of N0 b1 hI hT P2; clear N0 P2 h1 hI hT)
      | (go_at_call 10; refine (CR.out _ _ ⟨I, T, rfl, H.im, H.tb⟩).mono ?_; rintro e w3 ⟨rfl, b3⟩; have H1 := H.below b3; clear H; have H := H1; clear H1)
      | (go_at_call 12; refine (CK.out _).mono ?_; rintro e w6 ⟨rfl, b6⟩))
    go_ret
    exact ⟨rfl, thn H.bel b6⟩
end Go.Proofs.Ytakdfdnndogaiaa
