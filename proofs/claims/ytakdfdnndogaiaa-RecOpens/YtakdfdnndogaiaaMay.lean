/- RecOpens: sizes that no frame has, and frames that are cut. -/
import Derived.Test.YtakdfdnndogaiaaMax
import Derived.Deep.RegionHeld3
import Derived.BigQuiet
namespace Go.Proofs.Ytakdfdnndogaiaa
open Go.RowKit
set_option linter.unusedVariables false
set_option linter.unusedSimpArgs false
set_option maxRecDepth 100000

section
variable {w : World} {t u z f : ByteArray} {a x y k : Int}
set_option maxHeartbeats 4000000 in
theorem opens_lit0 (ht : ¬ (1000 : Int) < t.size) (htz : t.size ≤ 1000) (h0 : ¬ a < 0) (h1 : ¬ (t.size : Int) < a) (h2 : ¬ (t.size : Int) - a < 6) (hx0 : 0 ≤ x) (hx1 : x < 256) (hy0 : 0 ≤ y) (hy1 : y < 256) (hi1 : ∀ W, (Instr.index 9 (.string t) (.int .i64 a)).run Try.prog W = .ok (.int .u8 x) W) (hi2 : ∀ W, (Instr.index 9 (.string t) (.int .i64 (a + 1))).run Try.prog W = .ok (.int .u8 y) W) (hxy : 256 * x + y = k) (hk0 : 0 ≤ k) (hk6 : k < 65536) (h3 : k < 1) (ho : openM t a = (zM, 0, 4)) : Calls Try.prog 7 #[.string t, .int .i64 a] w fun e w' => e = .returned (.bool true) ∧ Below w.heap.size w w' := by
  have CO : Hid (∀ wx, Calls Try.prog 17 #[.string t, .int .i64 a] wx fun e w' => (∃ v, e = .returned (.tuple #[v, .int .i64 0, .int .i64 4]) ∧ RecV w' v zM) ∧ Below wx.heap.size wx w') := fun wx => (Open_any (w := wx) t a (by omega)).mono fun e w' h => by rw [ho] at h; exact ⟨⟨h.1.choose, h.1.choose_spec.1, h.1.choose_spec.2.recV⟩, h.2⟩
  clear ho
  have CK : Hid (∀ wx, Calls Try.prog 12 #[] wx fun e w' => e = .returned (.bool true) ∧ Below wx.heap.size wx w') := fun wx => awake_any wx
  have CS : Hid (∀ wx v1 v2, RecV wx v1 zM → RecV wx v2 zM → Calls Try.prog 14 #[v1, v2] wx fun e w' => e = .returned (.bool true) ∧ Below wx.heap.size wx w') := fun wx v1 v2 h1 h2 => Same_any h1 h2 (Nat.zero_le _) (Nat.zero_le _)
  go_enter Try.func7, Try.ntmps7
  go_wp2_with (first
    | (go_at_call 17; refine (CO.out _).mono ?_; clear CO; rintro e w1 ⟨⟨v1, rfl, r1⟩, b1⟩; have r1' := r1; obtain ⟨I1, T1, rfl, hI1, hT1⟩ := r1'.ex; have oI1 := hI1.one; have oT1 := hT1.one; clear r1' hI1 hT1)
    | (have := C1; refine wpList_new_rc _ rfl rfl ?_; intro w5 c2 N2)
    | (refine wpList_new_rc _ rfl rfl ?_; intro w2 c1 N1)
    | (refine wpList_at (Op.store 25 (.tmp 5) (.tmp 21)) rfl ?_; refine wpList_put_rc (s' := zM.s) (I' := I1) (T' := T1) _ rfl (.tmp 5) (.tmp 21) rfl rfl rfl N1.rc oI1 oT1 ?_; intro w3 P1; have C1 := P1.rc)
    | (refine wpList_at (Op.store 25 (.tmp 8) (.tmp 24)) rfl ?_; refine wpList_put_rc (s' := zS) (I' := nilV) (T' := nilV) _ rfl (.tmp 8) (.tmp 24) rfl rfl rfl N2.rc rfl rfl ?_; intro w6 P2; have H := OpS.start b1 r1 N1 P1 N2 P2; clear N1 P1 N2 P2 b1 r1 C1 this; obtain ⟨p0, p1, p2, p3, p4, p5, p6, p7, p8, p9, p10, p11, p12⟩ := H.a1.row)
    | (go_at_call 14; refine (CS.out _ _ _ H.rec1 ⟨nilV, nilV, rfl, SlI.nil _, SlT.nil _⟩).mono ?_; clear CS; rintro e w7 ⟨rfl, b7⟩)
    | (go_at_call 12; refine (CK.out _).mono ?_; clear CK; rintro e w8 ⟨rfl, b8⟩))
  clear p0 p1 p2 p3 p4 p5 p6 p7 p8 p9 p10 p11 p12
  go_quiet (fail)
  have HD := H.below (Sm.below_dr (Below.refl _ _) nq)
  clear H
  obtain ⟨p0, p1, p2, p3, p4, p5, p6, p7, p8, p9, p10, p11, p12⟩ := HD.a1.row
  go_wp2_with (first
    | (go_at_call 14; refine (CS.out _ _ _ HD.rec1 ⟨nilV, nilV, rfl, SlI.nil _, SlT.nil _⟩).mono ?_; clear CS; rintro e w7 ⟨rfl, b7⟩)
    | (go_at_call 12; refine (CK.out _).mono ?_; clear CK; rintro e w8 ⟨rfl, b8⟩))
  go_ret
  exact ⟨rfl, thn (thn HD.all b7) b8⟩
set_option maxHeartbeats 4000000 in
theorem opens_lit1 (ht : (1000 : Int) < t.size) (htz : t.size ≤ 140737488351232) (hu : t.extract 0 1000 = u) (huz : u.size ≤ 1000) (h0 : ¬ a < 0) (h1 : ¬ (u.size : Int) < a) (h2 : ¬ (u.size : Int) - a < 6) (hx0 : 0 ≤ x) (hx1 : x < 256) (hy0 : 0 ≤ y) (hy1 : y < 256) (hi1 : ∀ W, (Instr.index 9 (.string u) (.int .i64 a)).run Try.prog W = .ok (.int .u8 x) W) (hi2 : ∀ W, (Instr.index 9 (.string u) (.int .i64 (a + 1))).run Try.prog W = .ok (.int .u8 y) W) (hxy : 256 * x + y = k) (hk0 : 0 ≤ k) (hk6 : k < 65536) (h3 : k < 1) (ho : openM u a = (zM, 0, 4)) : Calls Try.prog 7 #[.string t, .int .i64 a] w fun e w' => e = .returned (.bool true) ∧ Below w.heap.size w w' := by
  have hcu : ∀ W, (Instr.slice 9 (.string t) none (some (.int .i64 1000)) none).run Try.prog W = .ok (.string u) W := by
    intro W
    rw [← hu]
    have := run_slice_string_h (P := Try.prog) W 9 t Try.underlying9 .i64 1000 (by omega) (by omega)
    rw [show ((1000 : Int)).toNat = 1000 from rfl] at this
    exact this
  clear hu
  have CO : Hid (∀ wx, Calls Try.prog 17 #[.string u, .int .i64 a] wx fun e w' => (∃ v, e = .returned (.tuple #[v, .int .i64 0, .int .i64 4]) ∧ RecV w' v zM) ∧ Below wx.heap.size wx w') := fun wx => (Open_any (w := wx) u a (by omega)).mono fun e w' h => by rw [ho] at h; exact ⟨⟨h.1.choose, h.1.choose_spec.1, h.1.choose_spec.2.recV⟩, h.2⟩
  clear ho
  have CK : Hid (∀ wx, Calls Try.prog 12 #[] wx fun e w' => e = .returned (.bool true) ∧ Below wx.heap.size wx w') := fun wx => awake_any wx
  have CS : Hid (∀ wx v1 v2, RecV wx v1 zM → RecV wx v2 zM → Calls Try.prog 14 #[v1, v2] wx fun e w' => e = .returned (.bool true) ∧ Below wx.heap.size wx w') := fun wx v1 v2 h1 h2 => Same_any h1 h2 (Nat.zero_le _) (Nat.zero_le _)
  go_enter Try.func7, Try.ntmps7
  go_wp2_with (first
    | (go_at_call 17; refine (CO.out _).mono ?_; clear CO; rintro e w1 ⟨⟨v1, rfl, r1⟩, b1⟩; have r1' := r1; obtain ⟨I1, T1, rfl, hI1, hT1⟩ := r1'.ex; have oI1 := hI1.one; have oT1 := hT1.one; clear r1' hI1 hT1)
    | (have := C1; refine wpList_new_rc _ rfl rfl ?_; intro w5 c2 N2)
    | (refine wpList_new_rc _ rfl rfl ?_; intro w2 c1 N1)
    | (refine wpList_at (Op.store 25 (.tmp 5) (.tmp 21)) rfl ?_; refine wpList_put_rc (s' := zM.s) (I' := I1) (T' := T1) _ rfl (.tmp 5) (.tmp 21) rfl rfl rfl N1.rc oI1 oT1 ?_; intro w3 P1; have C1 := P1.rc)
    | (refine wpList_at (Op.store 25 (.tmp 8) (.tmp 24)) rfl ?_; refine wpList_put_rc (s' := zS) (I' := nilV) (T' := nilV) _ rfl (.tmp 8) (.tmp 24) rfl rfl rfl N2.rc rfl rfl ?_; intro w6 P2; have H := OpS.start b1 r1 N1 P1 N2 P2; clear N1 P1 N2 P2 b1 r1 C1 this; obtain ⟨p0, p1, p2, p3, p4, p5, p6, p7, p8, p9, p10, p11, p12⟩ := H.a1.row)
    | (go_at_call 14; refine (CS.out _ _ _ H.rec1 ⟨nilV, nilV, rfl, SlI.nil _, SlT.nil _⟩).mono ?_; clear CS; rintro e w7 ⟨rfl, b7⟩)
    | (go_at_call 12; refine (CK.out _).mono ?_; clear CK; rintro e w8 ⟨rfl, b8⟩))
  clear p0 p1 p2 p3 p4 p5 p6 p7 p8 p9 p10 p11 p12
  go_quiet (fail)
  have HD := H.below (Sm.below_dr (Below.refl _ _) nq)
  clear H
  obtain ⟨p0, p1, p2, p3, p4, p5, p6, p7, p8, p9, p10, p11, p12⟩ := HD.a1.row
  go_wp2_with (first
    | (go_at_call 14; refine (CS.out _ _ _ HD.rec1 ⟨nilV, nilV, rfl, SlI.nil _, SlT.nil _⟩).mono ?_; clear CS; rintro e w7 ⟨rfl, b7⟩)
    | (go_at_call 12; refine (CK.out _).mono ?_; clear CK; rintro e w8 ⟨rfl, b8⟩))
  go_ret
  exact ⟨rfl, thn (thn HD.all b7) b8⟩
set_option maxHeartbeats 4000000 in
theorem opens_big0 (ht : ¬ (1000 : Int) < t.size) (htz : t.size ≤ 1000) (h0 : ¬ a < 0) (h1 : ¬ (t.size : Int) < a) (h2 : ¬ (t.size : Int) - a < 6) (hx0 : 0 ≤ x) (hx1 : x < 256) (hy0 : 0 ≤ y) (hy1 : y < 256) (hi1 : ∀ W, (Instr.index 9 (.string t) (.int .i64 a)).run Try.prog W = .ok (.int .u8 x) W) (hi2 : ∀ W, (Instr.index 9 (.string t) (.int .i64 (a + 1))).run Try.prog W = .ok (.int .u8 y) W) (hxy : 256 * x + y = k) (hk0 : 0 ≤ k) (hk6 : k < 65536) (h3 : ¬ k < 1) (h4 : 4096 < k) (ho : openM t a = (zM, 0, 4)) : Calls Try.prog 7 #[.string t, .int .i64 a] w fun e w' => e = .returned (.bool true) ∧ Below w.heap.size w w' := by
  have CO : Hid (∀ wx, Calls Try.prog 17 #[.string t, .int .i64 a] wx fun e w' => (∃ v, e = .returned (.tuple #[v, .int .i64 0, .int .i64 4]) ∧ RecV w' v zM) ∧ Below wx.heap.size wx w') := fun wx => (Open_any (w := wx) t a (by omega)).mono fun e w' h => by rw [ho] at h; exact ⟨⟨h.1.choose, h.1.choose_spec.1, h.1.choose_spec.2.recV⟩, h.2⟩
  clear ho
  have CK : Hid (∀ wx, Calls Try.prog 12 #[] wx fun e w' => e = .returned (.bool true) ∧ Below wx.heap.size wx w') := fun wx => awake_any wx
  have CS : Hid (∀ wx v1 v2, RecV wx v1 zM → RecV wx v2 zM → Calls Try.prog 14 #[v1, v2] wx fun e w' => e = .returned (.bool true) ∧ Below wx.heap.size wx w') := fun wx v1 v2 h1 h2 => Same_any h1 h2 (Nat.zero_le _) (Nat.zero_le _)
  go_enter Try.func7, Try.ntmps7
  go_wp2_with (first
    | (go_at_call 17; refine (CO.out _).mono ?_; clear CO; rintro e w1 ⟨⟨v1, rfl, r1⟩, b1⟩; have r1' := r1; obtain ⟨I1, T1, rfl, hI1, hT1⟩ := r1'.ex; have oI1 := hI1.one; have oT1 := hT1.one; clear r1' hI1 hT1)
    | (have := C1; refine wpList_new_rc _ rfl rfl ?_; intro w5 c2 N2)
    | (refine wpList_new_rc _ rfl rfl ?_; intro w2 c1 N1)
    | (refine wpList_at (Op.store 25 (.tmp 5) (.tmp 21)) rfl ?_; refine wpList_put_rc (s' := zM.s) (I' := I1) (T' := T1) _ rfl (.tmp 5) (.tmp 21) rfl rfl rfl N1.rc oI1 oT1 ?_; intro w3 P1; have C1 := P1.rc)
    | (refine wpList_at (Op.store 25 (.tmp 8) (.tmp 24)) rfl ?_; refine wpList_put_rc (s' := zS) (I' := nilV) (T' := nilV) _ rfl (.tmp 8) (.tmp 24) rfl rfl rfl N2.rc rfl rfl ?_; intro w6 P2; have H := OpS.start b1 r1 N1 P1 N2 P2; clear N1 P1 N2 P2 b1 r1 C1 this; obtain ⟨p0, p1, p2, p3, p4, p5, p6, p7, p8, p9, p10, p11, p12⟩ := H.a1.row)
    | (go_at_call 14; refine (CS.out _ _ _ H.rec1 ⟨nilV, nilV, rfl, SlI.nil _, SlT.nil _⟩).mono ?_; clear CS; rintro e w7 ⟨rfl, b7⟩)
    | (go_at_call 12; refine (CK.out _).mono ?_; clear CK; rintro e w8 ⟨rfl, b8⟩))
  clear p0 p1 p2 p3 p4 p5 p6 p7 p8 p9 p10 p11 p12
  go_quiet (fail)
  have HD := H.below (Sm.below_dr (Below.refl _ _) nq)
  clear H
  obtain ⟨p0, p1, p2, p3, p4, p5, p6, p7, p8, p9, p10, p11, p12⟩ := HD.a1.row
  go_wp2_with (first
    | (go_at_call 14; refine (CS.out _ _ _ HD.rec1 ⟨nilV, nilV, rfl, SlI.nil _, SlT.nil _⟩).mono ?_; clear CS; rintro e w7 ⟨rfl, b7⟩)
    | (go_at_call 12; refine (CK.out _).mono ?_; clear CK; rintro e w8 ⟨rfl, b8⟩))
  go_ret
  exact ⟨rfl, thn (thn HD.all b7) b8⟩
set_option maxHeartbeats 4000000 in
theorem opens_big1 (ht : (1000 : Int) < t.size) (htz : t.size ≤ 140737488351232) (hu : t.extract 0 1000 = u) (huz : u.size ≤ 1000) (h0 : ¬ a < 0) (h1 : ¬ (u.size : Int) < a) (h2 : ¬ (u.size : Int) - a < 6) (hx0 : 0 ≤ x) (hx1 : x < 256) (hy0 : 0 ≤ y) (hy1 : y < 256) (hi1 : ∀ W, (Instr.index 9 (.string u) (.int .i64 a)).run Try.prog W = .ok (.int .u8 x) W) (hi2 : ∀ W, (Instr.index 9 (.string u) (.int .i64 (a + 1))).run Try.prog W = .ok (.int .u8 y) W) (hxy : 256 * x + y = k) (hk0 : 0 ≤ k) (hk6 : k < 65536) (h3 : ¬ k < 1) (h4 : 4096 < k) (ho : openM u a = (zM, 0, 4)) : Calls Try.prog 7 #[.string t, .int .i64 a] w fun e w' => e = .returned (.bool true) ∧ Below w.heap.size w w' := by
  have hcu : ∀ W, (Instr.slice 9 (.string t) none (some (.int .i64 1000)) none).run Try.prog W = .ok (.string u) W := by
    intro W
    rw [← hu]
    have := run_slice_string_h (P := Try.prog) W 9 t Try.underlying9 .i64 1000 (by omega) (by omega)
    rw [show ((1000 : Int)).toNat = 1000 from rfl] at this
    exact this
  clear hu
  have CO : Hid (∀ wx, Calls Try.prog 17 #[.string u, .int .i64 a] wx fun e w' => (∃ v, e = .returned (.tuple #[v, .int .i64 0, .int .i64 4]) ∧ RecV w' v zM) ∧ Below wx.heap.size wx w') := fun wx => (Open_any (w := wx) u a (by omega)).mono fun e w' h => by rw [ho] at h; exact ⟨⟨h.1.choose, h.1.choose_spec.1, h.1.choose_spec.2.recV⟩, h.2⟩
  clear ho
  have CK : Hid (∀ wx, Calls Try.prog 12 #[] wx fun e w' => e = .returned (.bool true) ∧ Below wx.heap.size wx w') := fun wx => awake_any wx
  have CS : Hid (∀ wx v1 v2, RecV wx v1 zM → RecV wx v2 zM → Calls Try.prog 14 #[v1, v2] wx fun e w' => e = .returned (.bool true) ∧ Below wx.heap.size wx w') := fun wx v1 v2 h1 h2 => Same_any h1 h2 (Nat.zero_le _) (Nat.zero_le _)
  go_enter Try.func7, Try.ntmps7
  go_wp2_with (first
    | (go_at_call 17; refine (CO.out _).mono ?_; clear CO; rintro e w1 ⟨⟨v1, rfl, r1⟩, b1⟩; have r1' := r1; obtain ⟨I1, T1, rfl, hI1, hT1⟩ := r1'.ex; have oI1 := hI1.one; have oT1 := hT1.one; clear r1' hI1 hT1)
    | (have := C1; refine wpList_new_rc _ rfl rfl ?_; intro w5 c2 N2)
    | (refine wpList_new_rc _ rfl rfl ?_; intro w2 c1 N1)
    | (refine wpList_at (Op.store 25 (.tmp 5) (.tmp 21)) rfl ?_; refine wpList_put_rc (s' := zM.s) (I' := I1) (T' := T1) _ rfl (.tmp 5) (.tmp 21) rfl rfl rfl N1.rc oI1 oT1 ?_; intro w3 P1; have C1 := P1.rc)
    | (refine wpList_at (Op.store 25 (.tmp 8) (.tmp 24)) rfl ?_; refine wpList_put_rc (s' := zS) (I' := nilV) (T' := nilV) _ rfl (.tmp 8) (.tmp 24) rfl rfl rfl N2.rc rfl rfl ?_; intro w6 P2; have H := OpS.start b1 r1 N1 P1 N2 P2; clear N1 P1 N2 P2 b1 r1 C1 this; obtain ⟨p0, p1, p2, p3, p4, p5, p6, p7, p8, p9, p10, p11, p12⟩ := H.a1.row)
    | (go_at_call 14; refine (CS.out _ _ _ H.rec1 ⟨nilV, nilV, rfl, SlI.nil _, SlT.nil _⟩).mono ?_; clear CS; rintro e w7 ⟨rfl, b7⟩)
    | (go_at_call 12; refine (CK.out _).mono ?_; clear CK; rintro e w8 ⟨rfl, b8⟩))
  clear p0 p1 p2 p3 p4 p5 p6 p7 p8 p9 p10 p11 p12
  go_quiet (fail)
  have HD := H.below (Sm.below_dr (Below.refl _ _) nq)
  clear H
  obtain ⟨p0, p1, p2, p3, p4, p5, p6, p7, p8, p9, p10, p11, p12⟩ := HD.a1.row
  go_wp2_with (first
    | (go_at_call 14; refine (CS.out _ _ _ HD.rec1 ⟨nilV, nilV, rfl, SlI.nil _, SlT.nil _⟩).mono ?_; clear CS; rintro e w7 ⟨rfl, b7⟩)
    | (go_at_call 12; refine (CK.out _).mono ?_; clear CK; rintro e w8 ⟨rfl, b8⟩))
  go_ret
  exact ⟨rfl, thn (thn HD.all b7) b8⟩
set_option maxHeartbeats 4000000 in
theorem opens_sho0 (ht : ¬ (1000 : Int) < t.size) (htz : t.size ≤ 1000) (h0 : ¬ a < 0) (h1 : ¬ (t.size : Int) < a) (h2 : ¬ (t.size : Int) - a < 6) (hx0 : 0 ≤ x) (hx1 : x < 256) (hy0 : 0 ≤ y) (hy1 : y < 256) (hi1 : ∀ W, (Instr.index 9 (.string t) (.int .i64 a)).run Try.prog W = .ok (.int .u8 x) W) (hi2 : ∀ W, (Instr.index 9 (.string t) (.int .i64 (a + 1))).run Try.prog W = .ok (.int .u8 y) W) (hxy : 256 * x + y = k) (hk0 : 0 ≤ k) (hk6 : k < 65536) (h3 : ¬ k < 1) (h4 : ¬ 4096 < k) (h5 : (t.size : Int) - a - 6 < k) (ho : openM t a = (zM, 0, 2)) : Calls Try.prog 7 #[.string t, .int .i64 a] w fun e w' => e = .returned (.bool true) ∧ Below w.heap.size w w' := by
  have CO : Hid (∀ wx, Calls Try.prog 17 #[.string t, .int .i64 a] wx fun e w' => (∃ v, e = .returned (.tuple #[v, .int .i64 0, .int .i64 2]) ∧ RecV w' v zM) ∧ Below wx.heap.size wx w') := fun wx => (Open_any (w := wx) t a (by omega)).mono fun e w' h => by rw [ho] at h; exact ⟨⟨h.1.choose, h.1.choose_spec.1, h.1.choose_spec.2.recV⟩, h.2⟩
  clear ho
  have CK : Hid (∀ wx, Calls Try.prog 12 #[] wx fun e w' => e = .returned (.bool true) ∧ Below wx.heap.size wx w') := fun wx => awake_any wx
  have CS : Hid (∀ wx v1 v2, RecV wx v1 zM → RecV wx v2 zM → Calls Try.prog 14 #[v1, v2] wx fun e w' => e = .returned (.bool true) ∧ Below wx.heap.size wx w') := fun wx v1 v2 h1 h2 => Same_any h1 h2 (Nat.zero_le _) (Nat.zero_le _)
  go_enter Try.func7, Try.ntmps7
  go_wp2_with (first
    | (go_at_call 17; refine (CO.out _).mono ?_; clear CO; rintro e w1 ⟨⟨v1, rfl, r1⟩, b1⟩; have r1' := r1; obtain ⟨I1, T1, rfl, hI1, hT1⟩ := r1'.ex; have oI1 := hI1.one; have oT1 := hT1.one; clear r1' hI1 hT1)
    | (have := C1; refine wpList_new_rc _ rfl rfl ?_; intro w5 c2 N2)
    | (refine wpList_new_rc _ rfl rfl ?_; intro w2 c1 N1)
    | (refine wpList_at (Op.store 25 (.tmp 5) (.tmp 21)) rfl ?_; refine wpList_put_rc (s' := zM.s) (I' := I1) (T' := T1) _ rfl (.tmp 5) (.tmp 21) rfl rfl rfl N1.rc oI1 oT1 ?_; intro w3 P1; have C1 := P1.rc)
    | (refine wpList_at (Op.store 25 (.tmp 8) (.tmp 24)) rfl ?_; refine wpList_put_rc (s' := zS) (I' := nilV) (T' := nilV) _ rfl (.tmp 8) (.tmp 24) rfl rfl rfl N2.rc rfl rfl ?_; intro w6 P2; have H := OpS.start b1 r1 N1 P1 N2 P2; clear N1 P1 N2 P2 b1 r1 C1 this; obtain ⟨p0, p1, p2, p3, p4, p5, p6, p7, p8, p9, p10, p11, p12⟩ := H.a1.row)
    | (go_at_call 14; refine (CS.out _ _ _ H.rec1 ⟨nilV, nilV, rfl, SlI.nil _, SlT.nil _⟩).mono ?_; clear CS; rintro e w7 ⟨rfl, b7⟩)
    | (go_at_call 12; refine (CK.out _).mono ?_; clear CK; rintro e w8 ⟨rfl, b8⟩))
  clear p0 p1 p2 p3 p4 p5 p6 p7 p8 p9 p10 p11 p12
  go_quiet (fail)
  have HD := H.below (Sm.below_dr (Below.refl _ _) nq)
  clear H
  obtain ⟨p0, p1, p2, p3, p4, p5, p6, p7, p8, p9, p10, p11, p12⟩ := HD.a1.row
  go_wp2_with (first
    | (go_at_call 14; refine (CS.out _ _ _ HD.rec1 ⟨nilV, nilV, rfl, SlI.nil _, SlT.nil _⟩).mono ?_; clear CS; rintro e w7 ⟨rfl, b7⟩)
    | (go_at_call 12; refine (CK.out _).mono ?_; clear CK; rintro e w8 ⟨rfl, b8⟩))
  go_ret
  exact ⟨rfl, thn (thn HD.all b7) b8⟩
set_option maxHeartbeats 4000000 in
theorem opens_sho1 (ht : (1000 : Int) < t.size) (htz : t.size ≤ 140737488351232) (hu : t.extract 0 1000 = u) (huz : u.size ≤ 1000) (h0 : ¬ a < 0) (h1 : ¬ (u.size : Int) < a) (h2 : ¬ (u.size : Int) - a < 6) (hx0 : 0 ≤ x) (hx1 : x < 256) (hy0 : 0 ≤ y) (hy1 : y < 256) (hi1 : ∀ W, (Instr.index 9 (.string u) (.int .i64 a)).run Try.prog W = .ok (.int .u8 x) W) (hi2 : ∀ W, (Instr.index 9 (.string u) (.int .i64 (a + 1))).run Try.prog W = .ok (.int .u8 y) W) (hxy : 256 * x + y = k) (hk0 : 0 ≤ k) (hk6 : k < 65536) (h3 : ¬ k < 1) (h4 : ¬ 4096 < k) (h5 : (u.size : Int) - a - 6 < k) (ho : openM u a = (zM, 0, 2)) : Calls Try.prog 7 #[.string t, .int .i64 a] w fun e w' => e = .returned (.bool true) ∧ Below w.heap.size w w' := by
  have hcu : ∀ W, (Instr.slice 9 (.string t) none (some (.int .i64 1000)) none).run Try.prog W = .ok (.string u) W := by
    intro W
    rw [← hu]
    have := run_slice_string_h (P := Try.prog) W 9 t Try.underlying9 .i64 1000 (by omega) (by omega)
    rw [show ((1000 : Int)).toNat = 1000 from rfl] at this
    exact this
  clear hu
  have CO : Hid (∀ wx, Calls Try.prog 17 #[.string u, .int .i64 a] wx fun e w' => (∃ v, e = .returned (.tuple #[v, .int .i64 0, .int .i64 2]) ∧ RecV w' v zM) ∧ Below wx.heap.size wx w') := fun wx => (Open_any (w := wx) u a (by omega)).mono fun e w' h => by rw [ho] at h; exact ⟨⟨h.1.choose, h.1.choose_spec.1, h.1.choose_spec.2.recV⟩, h.2⟩
  clear ho
  have CK : Hid (∀ wx, Calls Try.prog 12 #[] wx fun e w' => e = .returned (.bool true) ∧ Below wx.heap.size wx w') := fun wx => awake_any wx
  have CS : Hid (∀ wx v1 v2, RecV wx v1 zM → RecV wx v2 zM → Calls Try.prog 14 #[v1, v2] wx fun e w' => e = .returned (.bool true) ∧ Below wx.heap.size wx w') := fun wx v1 v2 h1 h2 => Same_any h1 h2 (Nat.zero_le _) (Nat.zero_le _)
  go_enter Try.func7, Try.ntmps7
  go_wp2_with (first
    | (go_at_call 17; refine (CO.out _).mono ?_; clear CO; rintro e w1 ⟨⟨v1, rfl, r1⟩, b1⟩; have r1' := r1; obtain ⟨I1, T1, rfl, hI1, hT1⟩ := r1'.ex; have oI1 := hI1.one; have oT1 := hT1.one; clear r1' hI1 hT1)
    | (have := C1; refine wpList_new_rc _ rfl rfl ?_; intro w5 c2 N2)
    | (refine wpList_new_rc _ rfl rfl ?_; intro w2 c1 N1)
    | (refine wpList_at (Op.store 25 (.tmp 5) (.tmp 21)) rfl ?_; refine wpList_put_rc (s' := zM.s) (I' := I1) (T' := T1) _ rfl (.tmp 5) (.tmp 21) rfl rfl rfl N1.rc oI1 oT1 ?_; intro w3 P1; have C1 := P1.rc)
    | (refine wpList_at (Op.store 25 (.tmp 8) (.tmp 24)) rfl ?_; refine wpList_put_rc (s' := zS) (I' := nilV) (T' := nilV) _ rfl (.tmp 8) (.tmp 24) rfl rfl rfl N2.rc rfl rfl ?_; intro w6 P2; have H := OpS.start b1 r1 N1 P1 N2 P2; clear N1 P1 N2 P2 b1 r1 C1 this; obtain ⟨p0, p1, p2, p3, p4, p5, p6, p7, p8, p9, p10, p11, p12⟩ := H.a1.row)
    | (go_at_call 14; refine (CS.out _ _ _ H.rec1 ⟨nilV, nilV, rfl, SlI.nil _, SlT.nil _⟩).mono ?_; clear CS; rintro e w7 ⟨rfl, b7⟩)
    | (go_at_call 12; refine (CK.out _).mono ?_; clear CK; rintro e w8 ⟨rfl, b8⟩))
  clear p0 p1 p2 p3 p4 p5 p6 p7 p8 p9 p10 p11 p12
  go_quiet (fail)
  have HD := H.below (Sm.below_dr (Below.refl _ _) nq)
  clear H
  obtain ⟨p0, p1, p2, p3, p4, p5, p6, p7, p8, p9, p10, p11, p12⟩ := HD.a1.row
  go_wp2_with (first
    | (go_at_call 14; refine (CS.out _ _ _ HD.rec1 ⟨nilV, nilV, rfl, SlI.nil _, SlT.nil _⟩).mono ?_; clear CS; rintro e w7 ⟨rfl, b7⟩)
    | (go_at_call 12; refine (CK.out _).mono ?_; clear CK; rintro e w8 ⟨rfl, b8⟩))
  go_ret
  exact ⟨rfl, thn (thn HD.all b7) b8⟩
end
end Go.Proofs.Ytakdfdnndogaiaa
