/- The document's Body: a record's bytes, or why it has none. -/
import Derived.Test.YtakdfdnndogaiaaMag
namespace Go.Proofs.Ytakdfdnndogaiaa
open Go.RowKit
set_option linter.unusedVariables false
set_option linter.unusedSimpArgs false
set_option maxRecDepth 100000

def finM (A : ByteArray × Int) : ByteArray × Int := if A.2 = 0 ∧ 4096 < A.1.size then (⟨#[]⟩, 3) else A
theorem finM_err {A : ByteArray × Int} (h : A.2 ≠ 0) : finM A = A := by unfold finM; rw [if_neg (fun e => h e.1)]
theorem finM_long {A : ByteArray × Int} (h : A.2 = 0) (h2 : 4096 < A.1.size) : finM A = (⟨#[]⟩, 3) := by unfold finM; rw [if_pos ⟨h, h2⟩]
theorem finM_good {A : ByteArray × Int} (h2 : ¬ 4096 < A.1.size) : finM A = A := by unfold finM; rw [if_neg (fun e => h2 e.2)]
/-- The record that was cleaned lies in block b. -/
structure BdS (w wx : World) (b : Nat) (s : Sc) (I T : Value) (l : List Im) (g : List Tb) : Prop where
  rc : RcAt wx b s I T
  bel : Below w.heap.size w wx
  im : SlI wx I l
  tb : SlT wx T g
section
variable {w wx wq : World} {b : Nat} {s : Sc} {I T : Value} {l : List Im} {g : List Tb}
theorem BdS.below (h : BdS w wx b s I T l g) (hb : Below wx.heap.size wx wq) : BdS w wq b s I T l g := ⟨h.rc.below hb, thn h.bel hb, h.im.below hb, h.tb.below hb⟩
theorem BdS.mk' {w1 w2 w3 : World} (B1 : Below w.heap.size w w1) (hI : SlI w1 I l) (hT : SlT w1 T g) (N : NewR w1 w2 b zS nilV nilV) (P : PutR w2 w3 b s I T) : BdS w w3 b s I T l g := by
  have e := N.eq
  have z := N.below.size
  have hb : Below w1.heap.size w1 w3 := N.below.trans (P.below (by omega) z)
  exact ⟨P.rc, thn B1 hb, hI.below hb, hT.below hb⟩
end
section
variable {w : World} {s s0 : Sc} {I0 T0 : Value} {l : List Im} {g : List Tb} {e0 : Int}
set_option maxHeartbeats 2000000 in
theorem rbody_10 (hk : s.kd = 10) (CC : Hid (∀ w', Below w.heap.size w w' → Calls Try.prog 16 #[.agg (s0.A I0 T0)] w' fun e w'' => (∃ v', e = .returned v' ∧ RecV w'' v' ⟨s, l, g⟩) ∧ Below w'.heap.size w' w''))
    (CA : Hid (∀ w' v', RecV w' v' ⟨s, l, g⟩ → Calls Try.prog 24 #[v'] w' fun r w'' => r = .returned (.int .i64 e0) ∧ Below w'.heap.size w' w''))
    (hy : e0 = 0 → s.ky.size ≤ 1000) (ho : e0 = 0 → s.ol.size ≤ 1000) (hw : e0 = 0 → s.nw.size ≤ 1000) :
    Calls Try.prog 11 #[.agg (s0.A I0 T0)] w fun e w' => e = .returned (.tuple #[.string (finM (stepW (stepW (stepW (⟨#[]⟩, e0) s.kd 1) s.ep 4) s.nd 1)).1, .int .i64 (finM (stepW (stepW (stepW (⟨#[]⟩, e0) s.kd 1) s.ep 4) s.nd 1)).2]) ∧ Below w.heap.size w w' := by
  have e1 : (s.kd == 1) = false := by rw [hk]; rfl
  have e2 : (s.kd == 2) = false := by rw [hk]; rfl
  have e9 : (s.kd == 9) = false := by rw [hk]; rfl
  have e10 : (s.kd == 10) = true := by rw [hk]; rfl
  clear hk
  go_enter Try.func11, Try.ntmps11
  go_wp2_with (first
    | (refine wpList_box_rc (s := s0) (I := I0) (T := T0) _ rfl _ rfl rfl ?_; intro w0 b0 N0)
    | (refine wpList_load_rc _ rfl (.tmp 1) rfl rfl N0.rc ?_)
    | (go_at_call 16; refine (CC.out _ N0.below).mono ?_; rintro e w1 ⟨⟨v', rfl, h1⟩, b1⟩; obtain ⟨I, T, rfl, hI, hT⟩ := h1.ex; dsimp only at hI hT; have B1 := thn N0.below b1; clear N0 b1 h1)
    | (refine wpList_new_rc _ rfl rfl ?_; intro w2 b2 N2)
    | (refine wpList_put_rc (s' := s) (I' := _) (T' := _) _ rfl (.tmp 4) (.tmp 10) rfl rfl rfl N2.rc hI.one hT.one ?_; intro w3 P3; have H := BdS.mk' B1 hI hT N2 P3; clear N2 P3 B1)
    | (refine wpList_load_rc _ rfl (.tmp 4) rfl rfl H.rc ?_)
    | (go_at_call 24; refine (CA.out _ _ ⟨_, _, rfl, H.im, H.tb⟩).mono ?_; rintro e w1 ⟨rfl, b1⟩; have h := Stt.start e0; have H1 := H.below b1; clear H; have H := H1; clear H1 b1; have k0 := H.rc.c0; have k11 := H.rc.c11; have k12 := H.rc.c12)
    | (go_at_call 25; refine (h.put (by omega) _ _ (by omega) (by omega) _).mono ?_; clear h; rintro e w1 ⟨rfl, h, b1⟩; have H1 := H.below b1; clear H; have H := H1; clear H1 b1; have k0 := H.rc.c0; have k11 := H.rc.c11; have k12 := H.rc.c12))
  · go_ret2
    rename_i h1 h2
    refine ⟨?_, H.bel⟩
    rw [finM_long h1 (by omega)]
    rfl
  · go_ret2
    rename_i h1 h2
    refine ⟨?_, H.bel⟩
    rw [finM_good (by omega), h1]
    rfl
  · go_ret2
    rename_i h1
    rw [finM_err h1]
    exact ⟨rfl, H.bel⟩
set_option maxHeartbeats 2000000 in
theorem rbody_3 (hk : s.kd = 3) (CC : Hid (∀ w', Below w.heap.size w w' → Calls Try.prog 16 #[.agg (s0.A I0 T0)] w' fun e w'' => (∃ v', e = .returned v' ∧ RecV w'' v' ⟨s, l, g⟩) ∧ Below w'.heap.size w' w''))
    (CA : Hid (∀ w' v', RecV w' v' ⟨s, l, g⟩ → Calls Try.prog 24 #[v'] w' fun r w'' => r = .returned (.int .i64 e0) ∧ Below w'.heap.size w' w''))
    (hy : e0 = 0 → s.ky.size ≤ 1000) (ho : e0 = 0 → s.ol.size ≤ 1000) (hw : e0 = 0 → s.nw.size ≤ 1000) :
    Calls Try.prog 11 #[.agg (s0.A I0 T0)] w fun e w' => e = .returned (.tuple #[.string (finM (layC s (stepW (stepW (stepW (⟨#[]⟩, e0) s.kd 1) s.tx 6) s.pv 6))).1, .int .i64 (finM (layC s (stepW (stepW (stepW (⟨#[]⟩, e0) s.kd 1) s.tx 6) s.pv 6))).2]) ∧ Below w.heap.size w w' := by
  have e1 : (s.kd == 1) = false := by rw [hk]; rfl
  have e2 : (s.kd == 2) = false := by rw [hk]; rfl
  have e9 : (s.kd == 9) = false := by rw [hk]; rfl
  have e10 : (s.kd == 10) = false := by rw [hk]; rfl
  have e6 : (s.kd == 6) = false := by rw [hk]; rfl
  have l6 : s.kd < 6 := by omega
  have ha : Hid (s.kd = actOf s) := (by unfold actOf; rw [if_neg (by omega)] : _ = actOf s)
  clear hk
  go_enter Try.func11, Try.ntmps11
  go_wp2_with (first
    | (refine wpList_box_rc (s := s0) (I := I0) (T := T0) _ rfl _ rfl rfl ?_; intro w0 b0 N0)
    | (refine wpList_load_rc _ rfl (.tmp 1) rfl rfl N0.rc ?_)
    | (go_at_call 16; refine (CC.out _ N0.below).mono ?_; rintro e w1 ⟨⟨v', rfl, h1⟩, b1⟩; obtain ⟨I, T, rfl, hI, hT⟩ := h1.ex; dsimp only at hI hT; have B1 := thn N0.below b1; clear N0 b1 h1)
    | (refine wpList_new_rc _ rfl rfl ?_; intro w2 b2 N2)
    | (refine wpList_put_rc (s' := s) (I' := _) (T' := _) _ rfl (.tmp 4) (.tmp 10) rfl rfl rfl N2.rc hI.one hT.one ?_; intro w3 P3; have H := BdS.mk' B1 hI hT N2 P3; clear N2 P3 B1)
    | (refine wpList_load_rc _ rfl (.tmp 4) rfl rfl H.rc ?_)
    | (go_at_call 24; refine (CA.out _ _ ⟨_, _, rfl, H.im, H.tb⟩).mono ?_; rintro e w1 ⟨rfl, b1⟩; have h := Stt.start e0; have H1 := H.below b1; clear H; have H := H1; clear H1 b1; have k0 := H.rc.c0; have k1 := H.rc.c1; have k2 := H.rc.c2)
    | (go_at_call 25; refine (h.put (by omega) _ _ (by omega) (by omega) _).mono ?_; clear h; rintro e w1 ⟨rfl, h, b1⟩; have H1 := H.below b1; clear H; have H := H1; clear H1 b1; have k0 := H.rc.c0; have k1 := H.rc.c1; have k2 := H.rc.c2)
    | (go_at_call 27; refine (rchange_any h (by omega) hy ho hw _ ha.out).mono ?_; clear h; rintro e w1 ⟨rfl, h, b1⟩; have H1 := H.below b1; clear H; have H := H1; clear H1 b1; have k0 := H.rc.c0; have k1 := H.rc.c1; have k2 := H.rc.c2))
  · go_ret2
    rename_i h1 h2
    refine ⟨?_, H.bel⟩
    rw [finM_long h1 (by omega)]
    rfl
  · go_ret2
    rename_i h1 h2
    refine ⟨?_, H.bel⟩
    rw [finM_good (by omega), h1]
    rfl
  · go_ret2
    rename_i h1
    rw [finM_err h1]
    exact ⟨rfl, H.bel⟩
set_option maxHeartbeats 2000000 in
theorem rbody_4 (hk : s.kd = 4) (CC : Hid (∀ w', Below w.heap.size w w' → Calls Try.prog 16 #[.agg (s0.A I0 T0)] w' fun e w'' => (∃ v', e = .returned v' ∧ RecV w'' v' ⟨s, l, g⟩) ∧ Below w'.heap.size w' w''))
    (CA : Hid (∀ w' v', RecV w' v' ⟨s, l, g⟩ → Calls Try.prog 24 #[v'] w' fun r w'' => r = .returned (.int .i64 e0) ∧ Below w'.heap.size w' w''))
    (hy : e0 = 0 → s.ky.size ≤ 1000) (ho : e0 = 0 → s.ol.size ≤ 1000) (hw : e0 = 0 → s.nw.size ≤ 1000) :
    Calls Try.prog 11 #[.agg (s0.A I0 T0)] w fun e w' => e = .returned (.tuple #[.string (finM (layC s (stepW (stepW (stepW (⟨#[]⟩, e0) s.kd 1) s.tx 6) s.pv 6))).1, .int .i64 (finM (layC s (stepW (stepW (stepW (⟨#[]⟩, e0) s.kd 1) s.tx 6) s.pv 6))).2]) ∧ Below w.heap.size w w' := by
  have e1 : (s.kd == 1) = false := by rw [hk]; rfl
  have e2 : (s.kd == 2) = false := by rw [hk]; rfl
  have e9 : (s.kd == 9) = false := by rw [hk]; rfl
  have e10 : (s.kd == 10) = false := by rw [hk]; rfl
  have e6 : (s.kd == 6) = false := by rw [hk]; rfl
  have l6 : s.kd < 6 := by omega
  have ha : Hid (s.kd = actOf s) := (by unfold actOf; rw [if_neg (by omega)] : _ = actOf s)
  clear hk
  go_enter Try.func11, Try.ntmps11
  go_wp2_with (first
    | (refine wpList_box_rc (s := s0) (I := I0) (T := T0) _ rfl _ rfl rfl ?_; intro w0 b0 N0)
    | (refine wpList_load_rc _ rfl (.tmp 1) rfl rfl N0.rc ?_)
    | (go_at_call 16; refine (CC.out _ N0.below).mono ?_; rintro e w1 ⟨⟨v', rfl, h1⟩, b1⟩; obtain ⟨I, T, rfl, hI, hT⟩ := h1.ex; dsimp only at hI hT; have B1 := thn N0.below b1; clear N0 b1 h1)
    | (refine wpList_new_rc _ rfl rfl ?_; intro w2 b2 N2)
    | (refine wpList_put_rc (s' := s) (I' := _) (T' := _) _ rfl (.tmp 4) (.tmp 10) rfl rfl rfl N2.rc hI.one hT.one ?_; intro w3 P3; have H := BdS.mk' B1 hI hT N2 P3; clear N2 P3 B1)
    | (refine wpList_load_rc _ rfl (.tmp 4) rfl rfl H.rc ?_)
    | (go_at_call 24; refine (CA.out _ _ ⟨_, _, rfl, H.im, H.tb⟩).mono ?_; rintro e w1 ⟨rfl, b1⟩; have h := Stt.start e0; have H1 := H.below b1; clear H; have H := H1; clear H1 b1; have k0 := H.rc.c0; have k1 := H.rc.c1; have k2 := H.rc.c2)
    | (go_at_call 25; refine (h.put (by omega) _ _ (by omega) (by omega) _).mono ?_; clear h; rintro e w1 ⟨rfl, h, b1⟩; have H1 := H.below b1; clear H; have H := H1; clear H1 b1; have k0 := H.rc.c0; have k1 := H.rc.c1; have k2 := H.rc.c2)
    | (go_at_call 27; refine (rchange_any h (by omega) hy ho hw _ ha.out).mono ?_; clear h; rintro e w1 ⟨rfl, h, b1⟩; have H1 := H.below b1; clear H; have H := H1; clear H1 b1; have k0 := H.rc.c0; have k1 := H.rc.c1; have k2 := H.rc.c2))
  · go_ret2
    rename_i h1 h2
    refine ⟨?_, H.bel⟩
    rw [finM_long h1 (by omega)]
    rfl
  · go_ret2
    rename_i h1 h2
    refine ⟨?_, H.bel⟩
    rw [finM_good (by omega), h1]
    rfl
  · go_ret2
    rename_i h1
    rw [finM_err h1]
    exact ⟨rfl, H.bel⟩
set_option maxHeartbeats 2000000 in
theorem rbody_5 (hk : s.kd = 5) (CC : Hid (∀ w', Below w.heap.size w w' → Calls Try.prog 16 #[.agg (s0.A I0 T0)] w' fun e w'' => (∃ v', e = .returned v' ∧ RecV w'' v' ⟨s, l, g⟩) ∧ Below w'.heap.size w' w''))
    (CA : Hid (∀ w' v', RecV w' v' ⟨s, l, g⟩ → Calls Try.prog 24 #[v'] w' fun r w'' => r = .returned (.int .i64 e0) ∧ Below w'.heap.size w' w''))
    (hy : e0 = 0 → s.ky.size ≤ 1000) (ho : e0 = 0 → s.ol.size ≤ 1000) (hw : e0 = 0 → s.nw.size ≤ 1000) :
    Calls Try.prog 11 #[.agg (s0.A I0 T0)] w fun e w' => e = .returned (.tuple #[.string (finM (layC s (stepW (stepW (stepW (⟨#[]⟩, e0) s.kd 1) s.tx 6) s.pv 6))).1, .int .i64 (finM (layC s (stepW (stepW (stepW (⟨#[]⟩, e0) s.kd 1) s.tx 6) s.pv 6))).2]) ∧ Below w.heap.size w w' := by
  have e1 : (s.kd == 1) = false := by rw [hk]; rfl
  have e2 : (s.kd == 2) = false := by rw [hk]; rfl
  have e9 : (s.kd == 9) = false := by rw [hk]; rfl
  have e10 : (s.kd == 10) = false := by rw [hk]; rfl
  have e6 : (s.kd == 6) = false := by rw [hk]; rfl
  have l6 : s.kd < 6 := by omega
  have ha : Hid (s.kd = actOf s) := (by unfold actOf; rw [if_neg (by omega)] : _ = actOf s)
  clear hk
  go_enter Try.func11, Try.ntmps11
  go_wp2_with (first
    | (refine wpList_box_rc (s := s0) (I := I0) (T := T0) _ rfl _ rfl rfl ?_; intro w0 b0 N0)
    | (refine wpList_load_rc _ rfl (.tmp 1) rfl rfl N0.rc ?_)
    | (go_at_call 16; refine (CC.out _ N0.below).mono ?_; rintro e w1 ⟨⟨v', rfl, h1⟩, b1⟩; obtain ⟨I, T, rfl, hI, hT⟩ := h1.ex; dsimp only at hI hT; have B1 := thn N0.below b1; clear N0 b1 h1)
    | (refine wpList_new_rc _ rfl rfl ?_; intro w2 b2 N2)
    | (refine wpList_put_rc (s' := s) (I' := _) (T' := _) _ rfl (.tmp 4) (.tmp 10) rfl rfl rfl N2.rc hI.one hT.one ?_; intro w3 P3; have H := BdS.mk' B1 hI hT N2 P3; clear N2 P3 B1)
    | (refine wpList_load_rc _ rfl (.tmp 4) rfl rfl H.rc ?_)
    | (go_at_call 24; refine (CA.out _ _ ⟨_, _, rfl, H.im, H.tb⟩).mono ?_; rintro e w1 ⟨rfl, b1⟩; have h := Stt.start e0; have H1 := H.below b1; clear H; have H := H1; clear H1 b1; have k0 := H.rc.c0; have k1 := H.rc.c1; have k2 := H.rc.c2)
    | (go_at_call 25; refine (h.put (by omega) _ _ (by omega) (by omega) _).mono ?_; clear h; rintro e w1 ⟨rfl, h, b1⟩; have H1 := H.below b1; clear H; have H := H1; clear H1 b1; have k0 := H.rc.c0; have k1 := H.rc.c1; have k2 := H.rc.c2)
    | (go_at_call 27; refine (rchange_any h (by omega) hy ho hw _ ha.out).mono ?_; clear h; rintro e w1 ⟨rfl, h, b1⟩; have H1 := H.below b1; clear H; have H := H1; clear H1 b1; have k0 := H.rc.c0; have k1 := H.rc.c1; have k2 := H.rc.c2))
  · go_ret2
    rename_i h1 h2
    refine ⟨?_, H.bel⟩
    rw [finM_long h1 (by omega)]
    rfl
  · go_ret2
    rename_i h1 h2
    refine ⟨?_, H.bel⟩
    rw [finM_good (by omega), h1]
    rfl
  · go_ret2
    rename_i h1
    rw [finM_err h1]
    exact ⟨rfl, H.bel⟩
set_option maxHeartbeats 2000000 in
theorem rbody_6 (hk : s.kd = 6) (CC : Hid (∀ w', Below w.heap.size w w' → Calls Try.prog 16 #[.agg (s0.A I0 T0)] w' fun e w'' => (∃ v', e = .returned v' ∧ RecV w'' v' ⟨s, l, g⟩) ∧ Below w'.heap.size w' w''))
    (CA : Hid (∀ w' v', RecV w' v' ⟨s, l, g⟩ → Calls Try.prog 24 #[v'] w' fun r w'' => r = .returned (.int .i64 e0) ∧ Below w'.heap.size w' w''))
    (hy : e0 = 0 → s.ky.size ≤ 1000) (ho : e0 = 0 → s.ol.size ≤ 1000) (hw : e0 = 0 → s.nw.size ≤ 1000) :
    Calls Try.prog 11 #[.agg (s0.A I0 T0)] w fun e w' => e = .returned (.tuple #[.string (finM (layC s (stepW (stepW (stepW (stepW (stepW (⟨#[]⟩, e0) s.kd 1) s.tx 6) s.pv 6) s.nx 6) s.ac 1))).1, .int .i64 (finM (layC s (stepW (stepW (stepW (stepW (stepW (⟨#[]⟩, e0) s.kd 1) s.tx 6) s.pv 6) s.nx 6) s.ac 1))).2]) ∧ Below w.heap.size w w' := by
  have e1 : (s.kd == 1) = false := by rw [hk]; rfl
  have e2 : (s.kd == 2) = false := by rw [hk]; rfl
  have e9 : (s.kd == 9) = false := by rw [hk]; rfl
  have e10 : (s.kd == 10) = false := by rw [hk]; rfl
  have e6 : (s.kd == 6) = true := by rw [hk]; rfl
  have ha : Hid (s.ac = actOf s) := (by unfold actOf; rw [if_pos (by omega)] : _ = actOf s)
  clear hk
  go_enter Try.func11, Try.ntmps11
  go_wp2_with (first
    | (refine wpList_box_rc (s := s0) (I := I0) (T := T0) _ rfl _ rfl rfl ?_; intro w0 b0 N0)
    | (refine wpList_load_rc _ rfl (.tmp 1) rfl rfl N0.rc ?_)
    | (go_at_call 16; refine (CC.out _ N0.below).mono ?_; rintro e w1 ⟨⟨v', rfl, h1⟩, b1⟩; obtain ⟨I, T, rfl, hI, hT⟩ := h1.ex; dsimp only at hI hT; have B1 := thn N0.below b1; clear N0 b1 h1)
    | (refine wpList_new_rc _ rfl rfl ?_; intro w2 b2 N2)
    | (refine wpList_put_rc (s' := s) (I' := _) (T' := _) _ rfl (.tmp 4) (.tmp 10) rfl rfl rfl N2.rc hI.one hT.one ?_; intro w3 P3; have H := BdS.mk' B1 hI hT N2 P3; clear N2 P3 B1)
    | (refine wpList_load_rc _ rfl (.tmp 4) rfl rfl H.rc ?_)
    | (go_at_call 24; refine (CA.out _ _ ⟨_, _, rfl, H.im, H.tb⟩).mono ?_; rintro e w1 ⟨rfl, b1⟩; have h := Stt.start e0; have H1 := H.below b1; clear H; have H := H1; clear H1 b1; have k0 := H.rc.c0; have k1 := H.rc.c1; have k2 := H.rc.c2; have k8 := H.rc.c8; have k4 := H.rc.c4)
    | (go_at_call 25; refine (h.put (by omega) _ _ (by omega) (by omega) _).mono ?_; clear h; rintro e w1 ⟨rfl, h, b1⟩; have H1 := H.below b1; clear H; have H := H1; clear H1 b1; have k0 := H.rc.c0; have k1 := H.rc.c1; have k2 := H.rc.c2; have k8 := H.rc.c8; have k4 := H.rc.c4)
    | (go_at_call 27; refine (rchange_any h (by omega) hy ho hw _ ha.out).mono ?_; clear h; rintro e w1 ⟨rfl, h, b1⟩; have H1 := H.below b1; clear H; have H := H1; clear H1 b1; have k0 := H.rc.c0; have k1 := H.rc.c1; have k2 := H.rc.c2; have k8 := H.rc.c8; have k4 := H.rc.c4))
  · go_ret2
    rename_i h1 h2
    refine ⟨?_, H.bel⟩
    rw [finM_long h1 (by omega)]
    rfl
  · go_ret2
    rename_i h1 h2
    refine ⟨?_, H.bel⟩
    rw [finM_good (by omega), h1]
    rfl
  · go_ret2
    rename_i h1
    rw [finM_err h1]
    exact ⟨rfl, H.bel⟩
set_option maxHeartbeats 2000000 in
theorem rbody_7 (hk : s.kd = 7) (CC : Hid (∀ w', Below w.heap.size w w' → Calls Try.prog 16 #[.agg (s0.A I0 T0)] w' fun e w'' => (∃ v', e = .returned v' ∧ RecV w'' v' ⟨s, l, g⟩) ∧ Below w'.heap.size w' w''))
    (CA : Hid (∀ w' v', RecV w' v' ⟨s, l, g⟩ → Calls Try.prog 24 #[v'] w' fun r w'' => r = .returned (.int .i64 e0) ∧ Below w'.heap.size w' w''))
    (hy : e0 = 0 → s.ky.size ≤ 1000) (ho : e0 = 0 → s.ol.size ≤ 1000) (hw : e0 = 0 → s.nw.size ≤ 1000) :
    Calls Try.prog 11 #[.agg (s0.A I0 T0)] w fun e w' => e = .returned (.tuple #[.string (finM (stepW (stepW (stepW (⟨#[]⟩, e0) s.kd 1) s.tx 6) s.pv 6)).1, .int .i64 (finM (stepW (stepW (stepW (⟨#[]⟩, e0) s.kd 1) s.tx 6) s.pv 6)).2]) ∧ Below w.heap.size w w' := by
  have e1 : (s.kd == 1) = false := by rw [hk]; rfl
  have e2 : (s.kd == 2) = false := by rw [hk]; rfl
  have e9 : (s.kd == 9) = false := by rw [hk]; rfl
  have e10 : (s.kd == 10) = false := by rw [hk]; rfl
  have e6 : (s.kd == 6) = false := by rw [hk]; rfl
  have l6 : ¬ s.kd < 6 := by omega
  clear hk
  go_enter Try.func11, Try.ntmps11
  go_wp2_with (first
    | (refine wpList_box_rc (s := s0) (I := I0) (T := T0) _ rfl _ rfl rfl ?_; intro w0 b0 N0)
    | (refine wpList_load_rc _ rfl (.tmp 1) rfl rfl N0.rc ?_)
    | (go_at_call 16; refine (CC.out _ N0.below).mono ?_; rintro e w1 ⟨⟨v', rfl, h1⟩, b1⟩; obtain ⟨I, T, rfl, hI, hT⟩ := h1.ex; dsimp only at hI hT; have B1 := thn N0.below b1; clear N0 b1 h1)
    | (refine wpList_new_rc _ rfl rfl ?_; intro w2 b2 N2)
    | (refine wpList_put_rc (s' := s) (I' := _) (T' := _) _ rfl (.tmp 4) (.tmp 10) rfl rfl rfl N2.rc hI.one hT.one ?_; intro w3 P3; have H := BdS.mk' B1 hI hT N2 P3; clear N2 P3 B1)
    | (refine wpList_load_rc _ rfl (.tmp 4) rfl rfl H.rc ?_)
    | (go_at_call 24; refine (CA.out _ _ ⟨_, _, rfl, H.im, H.tb⟩).mono ?_; rintro e w1 ⟨rfl, b1⟩; have h := Stt.start e0; have H1 := H.below b1; clear H; have H := H1; clear H1 b1; have k0 := H.rc.c0; have k1 := H.rc.c1; have k2 := H.rc.c2)
    | (go_at_call 25; refine (h.put (by omega) _ _ (by omega) (by omega) _).mono ?_; clear h; rintro e w1 ⟨rfl, h, b1⟩; have H1 := H.below b1; clear H; have H := H1; clear H1 b1; have k0 := H.rc.c0; have k1 := H.rc.c1; have k2 := H.rc.c2))
  · go_ret2
    rename_i h1 h2
    refine ⟨?_, H.bel⟩
    rw [finM_long h1 (by omega)]
    rfl
  · go_ret2
    rename_i h1 h2
    refine ⟨?_, H.bel⟩
    rw [finM_good (by omega), h1]
    rfl
  · go_ret2
    rename_i h1
    rw [finM_err h1]
    exact ⟨rfl, H.bel⟩
set_option maxHeartbeats 2000000 in
theorem rbody_8 (hk : s.kd = 8) (CC : Hid (∀ w', Below w.heap.size w w' → Calls Try.prog 16 #[.agg (s0.A I0 T0)] w' fun e w'' => (∃ v', e = .returned v' ∧ RecV w'' v' ⟨s, l, g⟩) ∧ Below w'.heap.size w' w''))
    (CA : Hid (∀ w' v', RecV w' v' ⟨s, l, g⟩ → Calls Try.prog 24 #[v'] w' fun r w'' => r = .returned (.int .i64 e0) ∧ Below w'.heap.size w' w''))
    (hy : e0 = 0 → s.ky.size ≤ 1000) (ho : e0 = 0 → s.ol.size ≤ 1000) (hw : e0 = 0 → s.nw.size ≤ 1000) :
    Calls Try.prog 11 #[.agg (s0.A I0 T0)] w fun e w' => e = .returned (.tuple #[.string (finM (stepW (stepW (stepW (⟨#[]⟩, e0) s.kd 1) s.tx 6) s.pv 6)).1, .int .i64 (finM (stepW (stepW (stepW (⟨#[]⟩, e0) s.kd 1) s.tx 6) s.pv 6)).2]) ∧ Below w.heap.size w w' := by
  have e1 : (s.kd == 1) = false := by rw [hk]; rfl
  have e2 : (s.kd == 2) = false := by rw [hk]; rfl
  have e9 : (s.kd == 9) = false := by rw [hk]; rfl
  have e10 : (s.kd == 10) = false := by rw [hk]; rfl
  have e6 : (s.kd == 6) = false := by rw [hk]; rfl
  have l6 : ¬ s.kd < 6 := by omega
  clear hk
  go_enter Try.func11, Try.ntmps11
  go_wp2_with (first
    | (refine wpList_box_rc (s := s0) (I := I0) (T := T0) _ rfl _ rfl rfl ?_; intro w0 b0 N0)
    | (refine wpList_load_rc _ rfl (.tmp 1) rfl rfl N0.rc ?_)
    | (go_at_call 16; refine (CC.out _ N0.below).mono ?_; rintro e w1 ⟨⟨v', rfl, h1⟩, b1⟩; obtain ⟨I, T, rfl, hI, hT⟩ := h1.ex; dsimp only at hI hT; have B1 := thn N0.below b1; clear N0 b1 h1)
    | (refine wpList_new_rc _ rfl rfl ?_; intro w2 b2 N2)
    | (refine wpList_put_rc (s' := s) (I' := _) (T' := _) _ rfl (.tmp 4) (.tmp 10) rfl rfl rfl N2.rc hI.one hT.one ?_; intro w3 P3; have H := BdS.mk' B1 hI hT N2 P3; clear N2 P3 B1)
    | (refine wpList_load_rc _ rfl (.tmp 4) rfl rfl H.rc ?_)
    | (go_at_call 24; refine (CA.out _ _ ⟨_, _, rfl, H.im, H.tb⟩).mono ?_; rintro e w1 ⟨rfl, b1⟩; have h := Stt.start e0; have H1 := H.below b1; clear H; have H := H1; clear H1 b1; have k0 := H.rc.c0; have k1 := H.rc.c1; have k2 := H.rc.c2)
    | (go_at_call 25; refine (h.put (by omega) _ _ (by omega) (by omega) _).mono ?_; clear h; rintro e w1 ⟨rfl, h, b1⟩; have H1 := H.below b1; clear H; have H := H1; clear H1 b1; have k0 := H.rc.c0; have k1 := H.rc.c1; have k2 := H.rc.c2))
  · go_ret2
    rename_i h1 h2
    refine ⟨?_, H.bel⟩
    rw [finM_long h1 (by omega)]
    rfl
  · go_ret2
    rename_i h1 h2
    refine ⟨?_, H.bel⟩
    rw [finM_good (by omega), h1]
    rfl
  · go_ret2
    rename_i h1
    rw [finM_err h1]
    exact ⟨rfl, H.bel⟩
end
end Go.Proofs.Ytakdfdnndogaiaa
