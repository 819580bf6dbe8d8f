/- RecOpens: sums that are not the frame's. RecOpens: bytes that are no record. -/
import Derived.Test.YtakdfdnndogaiaaMax
import Derived.Deep.RegionHeld3
import Derived.BigQuiet
namespace Go.Proofs.Ytakdfdnndogaiaa
open Go.RowKit
set_option linter.unusedVariables false
set_option linter.unusedSimpArgs false
set_option maxRecDepth 100000

section
variable {w : World} {t u z f : ByteArray} {a x y k : Int}
set_option maxHeartbeats 4000000 in
theorem opens_sum0 (ht : ¬ (1000 : Int) < t.size) (htz : t.size ≤ 1000) (h0 : ¬ a < 0) (h1 : ¬ (t.size : Int) < a) (h2 : ¬ (t.size : Int) - a < 6) (hx0 : 0 ≤ x) (hx1 : x < 256) (hy0 : 0 ≤ y) (hy1 : y < 256) (hi1 : ∀ W, (Instr.index 9 (.string t) (.int .i64 a)).run Try.prog W = .ok (.int .u8 x) W) (hi2 : ∀ W, (Instr.index 9 (.string t) (.int .i64 (a + 1))).run Try.prog W = .ok (.int .u8 y) W) (hxy : 256 * x + y = k) (hk0 : 0 ≤ k) (hk6 : k < 65536) (h3 : ¬ k < 1) (h4 : ¬ 4096 < k) (h5 : ¬ (t.size : Int) - a - 6 < k) (hs1 : ∀ W, (Instr.slice 9 (.string t) (some (.int .i64 (a + 6))) (some (.int .i64 (a + 6 + k))) none).run Try.prog W = .ok (.string z) W) (hs2 : ∀ W, (Instr.slice 9 (.string t) (some (.int .i64 (a + 2))) (some (.int .i64 (a + 6 + k))) none).run Try.prog W = .ok (.string f) W) (hzz : z.size ≤ 1000) (hfz : f.size ≤ 1000) (hne : (Sm.sealV z).toList ≠ f.toList) (ho : openM t a = (zM, 0, 5)) : Calls Try.prog 7 #[.string t, .int .i64 a] w fun e w' => e = .returned (.bool true) ∧ Below w.heap.size w w' := by
  have CO : Hid (∀ wx, Calls Try.prog 17 #[.string t, .int .i64 a] wx fun e w' => (∃ v, e = .returned (.tuple #[v, .int .i64 0, .int .i64 5]) ∧ RecV w' v zM) ∧ Below wx.heap.size wx w') := fun wx => (Open_any (w := wx) t a (by omega)).mono fun e w' h => by rw [ho] at h; exact ⟨⟨h.1.choose, h.1.choose_spec.1, h.1.choose_spec.2.recV⟩, h.2⟩
  clear ho
  have CK : Hid (∀ wx, Calls Try.prog 12 #[] wx fun e w' => e = .returned (.bool true) ∧ Below wx.heap.size wx w') := fun wx => awake_any wx
  have CS : Hid (∀ wx v1 v2, RecV wx v1 zM → RecV wx v2 zM → Calls Try.prog 14 #[v1, v2] wx fun e w' => e = .returned (.bool true) ∧ Below wx.heap.size wx w') := fun wx v1 v2 h1 h2 => Same_any h1 h2 (Nat.zero_le _) (Nat.zero_le _)
  have hw1 : IntKind.i64.wrap (a + 6) = a + 6 := by rw [IntKind.wrap_i64]; omega
  have hw2 : IntKind.i64.wrap (a + 6 + k) = a + 6 + k := by rw [IntKind.wrap_i64]; omega
  have hw3 : IntKind.i64.wrap (a + 2) = a + 2 := by rw [IntKind.wrap_i64]; omega
  have CL : Hid (∀ wx, Calls Try.prog 13 #[.string z] wx fun e w' => e = .returned (.string (Sm.sealV z)) ∧ Below wx.heap.size wx w') := fun wx => Sm.Seal_any z wx (by omega)
  have hne1 : ((Sm.sealV z).toList == f.toList) = false := by simpa using hne
  clear hne
  generalize Sm.sealV z = Z at *
  go_enter Try.func7, Try.ntmps7
  go_wp2_with (first
    | (go_at_call 17; refine (CO.out _).mono ?_; clear CO; rintro e w1 ⟨⟨v1, rfl, r1⟩, b1⟩; have r1' := r1; obtain ⟨I1, T1, rfl, hI1, hT1⟩ := r1'.ex; have oI1 := hI1.one; have oT1 := hT1.one; clear r1' hI1 hT1)
    | (have := C1; refine wpList_new_rc _ rfl rfl ?_; intro w5 c2 N2)
    | (refine wpList_new_rc _ rfl rfl ?_; intro w2 c1 N1)
    | (refine wpList_at (Op.store 25 (.tmp 5) (.tmp 21)) rfl ?_; refine wpList_put_rc (s' := zM.s) (I' := I1) (T' := T1) _ rfl (.tmp 5) (.tmp 21) rfl rfl rfl N1.rc oI1 oT1 ?_; intro w3 P1; have C1 := P1.rc)
    | (refine wpList_at (Op.store 25 (.tmp 8) (.tmp 24)) rfl ?_; refine wpList_put_rc (s' := zS) (I' := nilV) (T' := nilV) _ rfl (.tmp 8) (.tmp 24) rfl rfl rfl N2.rc rfl rfl ?_; intro w6 P2; have H := OpS.start b1 r1 N1 P1 N2 P2; clear N1 P1 N2 P2 b1 r1 C1 this; obtain ⟨p0, p1, p2, p3, p4, p5, p6, p7, p8, p9, p10, p11, p12⟩ := H.a1.row)
    | (go_at_call 14; refine (CS.out _ _ _ H.rec1 ⟨nilV, nilV, rfl, SlI.nil _, SlT.nil _⟩).mono ?_; clear CS; rintro e w7 ⟨rfl, b7⟩)
    | (go_at_call 12; refine (CK.out _).mono ?_; clear CK; rintro e w8 ⟨rfl, b8⟩))
  clear p0 p1 p2 p3 p4 p5 p6 p7 p8 p9 p10 p11 p12
  go_quiet (fail)
  have HD := H.below (Sm.below_dr (Below.refl _ _) nq)
  clear H
  go_wp2
  have H := HD.below ((Below.refl _ _).drew)
  clear HD
  go_region_held3 (fun _ => True) (trivial) ((go_at_call 13; refine (CL.out _).mono ?_; clear CL; rintro e w4 ⟨rfl, b4⟩; have HD := H.below b4; clear H))
  obtain ⟨p0, p1, p2, p3, p4, p5, p6, p7, p8, p9, p10, p11, p12⟩ := HD.a1.row
  go_wp2_with (first
    | (go_at_call 14; refine (CS.out _ _ _ HD.rec1 ⟨nilV, nilV, rfl, SlI.nil _, SlT.nil _⟩).mono ?_; clear CS; rintro e w7 ⟨rfl, b7⟩)
    | (go_at_call 12; refine (CK.out _).mono ?_; clear CK; rintro e w8 ⟨rfl, b8⟩))
  go_ret
  exact ⟨rfl, thn (thn HD.all b7) b8⟩
set_option maxHeartbeats 4000000 in
theorem opens_sum1 (ht : (1000 : Int) < t.size) (htz : t.size ≤ 140737488351232) (hu : t.extract 0 1000 = u) (huz : u.size ≤ 1000) (h0 : ¬ a < 0) (h1 : ¬ (u.size : Int) < a) (h2 : ¬ (u.size : Int) - a < 6) (hx0 : 0 ≤ x) (hx1 : x < 256) (hy0 : 0 ≤ y) (hy1 : y < 256) (hi1 : ∀ W, (Instr.index 9 (.string u) (.int .i64 a)).run Try.prog W = .ok (.int .u8 x) W) (hi2 : ∀ W, (Instr.index 9 (.string u) (.int .i64 (a + 1))).run Try.prog W = .ok (.int .u8 y) W) (hxy : 256 * x + y = k) (hk0 : 0 ≤ k) (hk6 : k < 65536) (h3 : ¬ k < 1) (h4 : ¬ 4096 < k) (h5 : ¬ (u.size : Int) - a - 6 < k) (hs1 : ∀ W, (Instr.slice 9 (.string u) (some (.int .i64 (a + 6))) (some (.int .i64 (a + 6 + k))) none).run Try.prog W = .ok (.string z) W) (hs2 : ∀ W, (Instr.slice 9 (.string u) (some (.int .i64 (a + 2))) (some (.int .i64 (a + 6 + k))) none).run Try.prog W = .ok (.string f) W) (hzz : z.size ≤ 1000) (hfz : f.size ≤ 1000) (hne : (Sm.sealV z).toList ≠ f.toList) (ho : openM u a = (zM, 0, 5)) : Calls Try.prog 7 #[.string t, .int .i64 a] w fun e w' => e = .returned (.bool true) ∧ Below w.heap.size w w' := by
  have hcu : ∀ W, (Instr.slice 9 (.string t) none (some (.int .i64 1000)) none).run Try.prog W = .ok (.string u) W := by
    intro W
    rw [← hu]
    have := run_slice_string_h (P := Try.prog) W 9 t Try.underlying9 .i64 1000 (by omega) (by omega)
    rw [show ((1000 : Int)).toNat = 1000 from rfl] at this
    exact this
  clear hu
  have CO : Hid (∀ wx, Calls Try.prog 17 #[.string u, .int .i64 a] wx fun e w' => (∃ v, e = .returned (.tuple #[v, .int .i64 0, .int .i64 5]) ∧ RecV w' v zM) ∧ Below wx.heap.size wx w') := fun wx => (Open_any (w := wx) u a (by omega)).mono fun e w' h => by rw [ho] at h; exact ⟨⟨h.1.choose, h.1.choose_spec.1, h.1.choose_spec.2.recV⟩, h.2⟩
  clear ho
  have CK : Hid (∀ wx, Calls Try.prog 12 #[] wx fun e w' => e = .returned (.bool true) ∧ Below wx.heap.size wx w') := fun wx => awake_any wx
  have CS : Hid (∀ wx v1 v2, RecV wx v1 zM → RecV wx v2 zM → Calls Try.prog 14 #[v1, v2] wx fun e w' => e = .returned (.bool true) ∧ Below wx.heap.size wx w') := fun wx v1 v2 h1 h2 => Same_any h1 h2 (Nat.zero_le _) (Nat.zero_le _)
  have hw1 : IntKind.i64.wrap (a + 6) = a + 6 := by rw [IntKind.wrap_i64]; omega
  have hw2 : IntKind.i64.wrap (a + 6 + k) = a + 6 + k := by rw [IntKind.wrap_i64]; omega
  have hw3 : IntKind.i64.wrap (a + 2) = a + 2 := by rw [IntKind.wrap_i64]; omega
  have CL : Hid (∀ wx, Calls Try.prog 13 #[.string z] wx fun e w' => e = .returned (.string (Sm.sealV z)) ∧ Below wx.heap.size wx w') := fun wx => Sm.Seal_any z wx (by omega)
  have hne1 : ((Sm.sealV z).toList == f.toList) = false := by simpa using hne
  clear hne
  generalize Sm.sealV z = Z at *
  go_enter Try.func7, Try.ntmps7
  go_wp2_with (first
    | (go_at_call 17; refine (CO.out _).mono ?_; clear CO; rintro e w1 ⟨⟨v1, rfl, r1⟩, b1⟩; have r1' := r1; obtain ⟨I1, T1, rfl, hI1, hT1⟩ := r1'.ex; have oI1 := hI1.one; have oT1 := hT1.one; clear r1' hI1 hT1)
    | (have := C1; refine wpList_new_rc _ rfl rfl ?_; intro w5 c2 N2)
    | (refine wpList_new_rc _ rfl rfl ?_; intro w2 c1 N1)
    | (refine wpList_at (Op.store 25 (.tmp 5) (.tmp 21)) rfl ?_; refine wpList_put_rc (s' := zM.s) (I' := I1) (T' := T1) _ rfl (.tmp 5) (.tmp 21) rfl rfl rfl N1.rc oI1 oT1 ?_; intro w3 P1; have C1 := P1.rc)
    | (refine wpList_at (Op.store 25 (.tmp 8) (.tmp 24)) rfl ?_; refine wpList_put_rc (s' := zS) (I' := nilV) (T' := nilV) _ rfl (.tmp 8) (.tmp 24) rfl rfl rfl N2.rc rfl rfl ?_; intro w6 P2; have H := OpS.start b1 r1 N1 P1 N2 P2; clear N1 P1 N2 P2 b1 r1 C1 this; obtain ⟨p0, p1, p2, p3, p4, p5, p6, p7, p8, p9, p10, p11, p12⟩ := H.a1.row)
    | (go_at_call 14; refine (CS.out _ _ _ H.rec1 ⟨nilV, nilV, rfl, SlI.nil _, SlT.nil _⟩).mono ?_; clear CS; rintro e w7 ⟨rfl, b7⟩)
    | (go_at_call 12; refine (CK.out _).mono ?_; clear CK; rintro e w8 ⟨rfl, b8⟩))
  clear p0 p1 p2 p3 p4 p5 p6 p7 p8 p9 p10 p11 p12
  go_quiet (fail)
  have HD := H.below (Sm.below_dr (Below.refl _ _) nq)
  clear H
  go_wp2
  have H := HD.below ((Below.refl _ _).drew)
  clear HD
  go_region_held3 (fun _ => True) (trivial) ((go_at_call 13; refine (CL.out _).mono ?_; clear CL; rintro e w4 ⟨rfl, b4⟩; have HD := H.below b4; clear H))
  obtain ⟨p0, p1, p2, p3, p4, p5, p6, p7, p8, p9, p10, p11, p12⟩ := HD.a1.row
  go_wp2_with (first
    | (go_at_call 14; refine (CS.out _ _ _ HD.rec1 ⟨nilV, nilV, rfl, SlI.nil _, SlT.nil _⟩).mono ?_; clear CS; rintro e w7 ⟨rfl, b7⟩)
    | (go_at_call 12; refine (CK.out _).mono ?_; clear CK; rintro e w8 ⟨rfl, b8⟩))
  go_ret
  exact ⟨rfl, thn (thn HD.all b7) b8⟩
end
end Go.Proofs.Ytakdfdnndogaiaa

namespace Go.Proofs.Ytakdfdnndogaiaa
open Go.RowKit
set_option linter.unusedVariables false
set_option linter.unusedSimpArgs false
set_option maxRecDepth 100000

section
variable {w : World} {t u z f : ByteArray} {a x y k : Int}
set_option maxHeartbeats 4000000 in
theorem opens_bad0 (ht : ¬ (1000 : Int) < t.size) (htz : t.size ≤ 1000) (h0 : ¬ a < 0) (h1 : ¬ (t.size : Int) < a) (h2 : ¬ (t.size : Int) - a < 6) (hx0 : 0 ≤ x) (hx1 : x < 256) (hy0 : 0 ≤ y) (hy1 : y < 256) (hi1 : ∀ W, (Instr.index 9 (.string t) (.int .i64 a)).run Try.prog W = .ok (.int .u8 x) W) (hi2 : ∀ W, (Instr.index 9 (.string t) (.int .i64 (a + 1))).run Try.prog W = .ok (.int .u8 y) W) (hxy : 256 * x + y = k) (hk0 : 0 ≤ k) (hk6 : k < 65536) (h3 : ¬ k < 1) (h4 : ¬ 4096 < k) (h5 : ¬ (t.size : Int) - a - 6 < k) (hs1 : ∀ W, (Instr.slice 9 (.string t) (some (.int .i64 (a + 6))) (some (.int .i64 (a + 6 + k))) none).run Try.prog W = .ok (.string z) W) (hs2 : ∀ W, (Instr.slice 9 (.string t) (some (.int .i64 (a + 2))) (some (.int .i64 (a + 6 + k))) none).run Try.prog W = .ok (.string f) W) (hzz : z.size ≤ 1000) (hfz : f.size ≤ 1000) (hne : (Sm.sealV z).toList = f.toList) (hE : (ofM z).2 ≠ 0) (ho : openM t a = (zM, 0, (ofM z).2)) : Calls Try.prog 7 #[.string t, .int .i64 a] w fun e w' => e = .returned (.bool true) ∧ Below w.heap.size w w' := by
  have CO : Hid (∀ wx, Calls Try.prog 17 #[.string t, .int .i64 a] wx fun e w' => (∃ v, e = .returned (.tuple #[v, .int .i64 0, .int .i64 (ofM z).2]) ∧ RecV w' v zM) ∧ Below wx.heap.size wx w') := fun wx => (Open_any (w := wx) t a (by omega)).mono fun e w' h => by rw [ho] at h; exact ⟨⟨h.1.choose, h.1.choose_spec.1, h.1.choose_spec.2.recV⟩, h.2⟩
  clear ho
  have CK : Hid (∀ wx, Calls Try.prog 12 #[] wx fun e w' => e = .returned (.bool true) ∧ Below wx.heap.size wx w') := fun wx => awake_any wx
  have CS : Hid (∀ wx v1 v2, RecV wx v1 zM → RecV wx v2 zM → Calls Try.prog 14 #[v1, v2] wx fun e w' => e = .returned (.bool true) ∧ Below wx.heap.size wx w') := fun wx v1 v2 h1 h2 => Same_any h1 h2 (Nat.zero_le _) (Nat.zero_le _)
  have hw1 : IntKind.i64.wrap (a + 6) = a + 6 := by rw [IntKind.wrap_i64]; omega
  have hw2 : IntKind.i64.wrap (a + 6 + k) = a + 6 + k := by rw [IntKind.wrap_i64]; omega
  have hw3 : IntKind.i64.wrap (a + 2) = a + 2 := by rw [IntKind.wrap_i64]; omega
  have CL : Hid (∀ wx, Calls Try.prog 13 #[.string z] wx fun e w' => e = .returned (.string (Sm.sealV z)) ∧ Below wx.heap.size wx w') := fun wx => Sm.Seal_any z wx (by omega)
  have hne1 : ((Sm.sealV z).toList == f.toList) = true := by simpa using hne
  clear hne
  generalize Sm.sealV z = Z at *
  have CR : Hid (∀ wx, Calls Try.prog 19 #[.string z] wx fun e w' => (∃ v, e = .returned (.tuple #[v, .int .i64 (ofM z).2]) ∧ RecN w' v (ofM z).1 wx.heap.size) ∧ Below wx.heap.size wx w') := fun wx => rof_all (w := wx) z (by omega)
  generalize (ofM z).1 = m at *
  generalize (ofM z).2 = E at *
  have hE1 : (E != 0) = true := by simpa using hE
  have hE2 : (E == E) = true := by simp
  clear hE
  obtain ⟨s2, l2, g2⟩ := m
  go_enter Try.func7, Try.ntmps7
  go_wp2_with (first
    | (go_at_call 17; refine (CO.out _).mono ?_; clear CO; rintro e w1 ⟨⟨v1, rfl, r1⟩, b1⟩; have r1' := r1; obtain ⟨I1, T1, rfl, hI1, hT1⟩ := r1'.ex; have oI1 := hI1.one; have oT1 := hT1.one; clear r1' hI1 hT1)
    | (have := C1; refine wpList_new_rc _ rfl rfl ?_; intro w5 c2 N2)
    | (refine wpList_new_rc _ rfl rfl ?_; intro w2 c1 N1)
    | (refine wpList_at (Op.store 25 (.tmp 5) (.tmp 21)) rfl ?_; refine wpList_put_rc (s' := zM.s) (I' := I1) (T' := T1) _ rfl (.tmp 5) (.tmp 21) rfl rfl rfl N1.rc oI1 oT1 ?_; intro w3 P1; have C1 := P1.rc)
    | (refine wpList_at (Op.store 25 (.tmp 8) (.tmp 24)) rfl ?_; refine wpList_put_rc (s' := zS) (I' := nilV) (T' := nilV) _ rfl (.tmp 8) (.tmp 24) rfl rfl rfl N2.rc rfl rfl ?_; intro w6 P2; have H := OpS.start b1 r1 N1 P1 N2 P2; clear N1 P1 N2 P2 b1 r1 C1 this; obtain ⟨p0, p1, p2, p3, p4, p5, p6, p7, p8, p9, p10, p11, p12⟩ := H.a1.row)
    | (go_at_call 14; refine (CS.out _ _ _ H.rec1 ⟨nilV, nilV, rfl, SlI.nil _, SlT.nil _⟩).mono ?_; clear CS; rintro e w7 ⟨rfl, b7⟩)
    | (go_at_call 12; refine (CK.out _).mono ?_; clear CK; rintro e w8 ⟨rfl, b8⟩))
  clear p0 p1 p2 p3 p4 p5 p6 p7 p8 p9 p10 p11 p12
  go_quiet (fail)
  have HD := H.below (Sm.below_dr (Below.refl _ _) nq)
  clear H
  go_wp2
  have H := HD.below ((Below.refl _ _).drew)
  clear HD
  go_region_held3 (fun _ => True) (trivial) ((go_at_call 13; refine (CL.out _).mono ?_; clear CL; rintro e w4 ⟨rfl, b4⟩; have HD := H.below b4; clear H))
  go_wp2_with (first
    | (go_at_call 19; refine (CR.out _).mono ?_; clear CR; rintro e w9 ⟨⟨v2, rfl, r2⟩, b9⟩; have hlt := HD.a2.lt; have H := HD.below b9; clear HD; have r2' := r2.rv; obtain ⟨I2, T2, rfl, hI2, hT2⟩ := r2'.ex; dsimp only at hI2 hT2; have oI2 := hI2.one; have oT2 := hT2.one; clear r2' hI2 hT2)
    | (refine wpList_at (Op.store 25 (.tmp 8) (.tmp 90)) rfl ?_; refine wpList_put_rc (s' := s2) (I' := I2) (T' := T2) _ rfl (.tmp 8) (.tmp 90) rfl rfl rfl H.a2 oI2 oT2 ?_; intro w10 P2; have R2 := r2.off _ _ P2.off hlt; have HD := H.put P2; clear H P2 r2 hlt; obtain ⟨p0, p1, p2, p3, p4, p5, p6, p7, p8, p9, p10, p11, p12⟩ := HD.a1.row; obtain ⟨d0, d1, d2, d3, d4, d5, d6, d7, d8, d9, d10, d11, d12⟩ := HD.a2.row)
    | (go_at_call 14; refine (CS.out _ _ _ HD.rec1 ⟨nilV, nilV, rfl, SlI.nil _, SlT.nil _⟩).mono ?_; clear CS; rintro e w7 ⟨rfl, b7⟩)
    | (go_at_call 12; refine (CK.out _).mono ?_; clear CK; rintro e w8 ⟨rfl, b8⟩))
  go_ret
  exact ⟨rfl, thn (thn HD.all b7) b8⟩
set_option maxHeartbeats 4000000 in
theorem opens_bad1 (ht : (1000 : Int) < t.size) (htz : t.size ≤ 140737488351232) (hu : t.extract 0 1000 = u) (huz : u.size ≤ 1000) (h0 : ¬ a < 0) (h1 : ¬ (u.size : Int) < a) (h2 : ¬ (u.size : Int) - a < 6) (hx0 : 0 ≤ x) (hx1 : x < 256) (hy0 : 0 ≤ y) (hy1 : y < 256) (hi1 : ∀ W, (Instr.index 9 (.string u) (.int .i64 a)).run Try.prog W = .ok (.int .u8 x) W) (hi2 : ∀ W, (Instr.index 9 (.string u) (.int .i64 (a + 1))).run Try.prog W = .ok (.int .u8 y) W) (hxy : 256 * x + y = k) (hk0 : 0 ≤ k) (hk6 : k < 65536) (h3 : ¬ k < 1) (h4 : ¬ 4096 < k) (h5 : ¬ (u.size : Int) - a - 6 < k) (hs1 : ∀ W, (Instr.slice 9 (.string u) (some (.int .i64 (a + 6))) (some (.int .i64 (a + 6 + k))) none).run Try.prog W = .ok (.string z) W) (hs2 : ∀ W, (Instr.slice 9 (.string u) (some (.int .i64 (a + 2))) (some (.int .i64 (a + 6 + k))) none).run Try.prog W = .ok (.string f) W) (hzz : z.size ≤ 1000) (hfz : f.size ≤ 1000) (hne : (Sm.sealV z).toList = f.toList) (hE : (ofM z).2 ≠ 0) (ho : openM u a = (zM, 0, (ofM z).2)) : Calls Try.prog 7 #[.string t, .int .i64 a] w fun e w' => e = .returned (.bool true) ∧ Below w.heap.size w w' := by
  have hcu : ∀ W, (Instr.slice 9 (.string t) none (some (.int .i64 1000)) none).run Try.prog W = .ok (.string u) W := by
    intro W
    rw [← hu]
    have := run_slice_string_h (P := Try.prog) W 9 t Try.underlying9 .i64 1000 (by omega) (by omega)
    rw [show ((1000 : Int)).toNat = 1000 from rfl] at this
    exact this
  clear hu
  have CO : Hid (∀ wx, Calls Try.prog 17 #[.string u, .int .i64 a] wx fun e w' => (∃ v, e = .returned (.tuple #[v, .int .i64 0, .int .i64 (ofM z).2]) ∧ RecV w' v zM) ∧ Below wx.heap.size wx w') := fun wx => (Open_any (w := wx) u a (by omega)).mono fun e w' h => by rw [ho] at h; exact ⟨⟨h.1.choose, h.1.choose_spec.1, h.1.choose_spec.2.recV⟩, h.2⟩
  clear ho
  have CK : Hid (∀ wx, Calls Try.prog 12 #[] wx fun e w' => e = .returned (.bool true) ∧ Below wx.heap.size wx w') := fun wx => awake_any wx
  have CS : Hid (∀ wx v1 v2, RecV wx v1 zM → RecV wx v2 zM → Calls Try.prog 14 #[v1, v2] wx fun e w' => e = .returned (.bool true) ∧ Below wx.heap.size wx w') := fun wx v1 v2 h1 h2 => Same_any h1 h2 (Nat.zero_le _) (Nat.zero_le _)
  have hw1 : IntKind.i64.wrap (a + 6) = a + 6 := by rw [IntKind.wrap_i64]; omega
  have hw2 : IntKind.i64.wrap (a + 6 + k) = a + 6 + k := by rw [IntKind.wrap_i64]; omega
  have hw3 : IntKind.i64.wrap (a + 2) = a + 2 := by rw [IntKind.wrap_i64]; omega
  have CL : Hid (∀ wx, Calls Try.prog 13 #[.string z] wx fun e w' => e = .returned (.string (Sm.sealV z)) ∧ Below wx.heap.size wx w') := fun wx => Sm.Seal_any z wx (by omega)
  have hne1 : ((Sm.sealV z).toList == f.toList) = true := by simpa using hne
  clear hne
  generalize Sm.sealV z = Z at *
  have CR : Hid (∀ wx, Calls Try.prog 19 #[.string z] wx fun e w' => (∃ v, e = .returned (.tuple #[v, .int .i64 (ofM z).2]) ∧ RecN w' v (ofM z).1 wx.heap.size) ∧ Below wx.heap.size wx w') := fun wx => rof_all (w := wx) z (by omega)
  generalize (ofM z).1 = m at *
  generalize (ofM z).2 = E at *
  have hE1 : (E != 0) = true := by simpa using hE
  have hE2 : (E == E) = true := by simp
  clear hE
  obtain ⟨s2, l2, g2⟩ := m
  go_enter Try.func7, Try.ntmps7
  go_wp2_with (first
    | (go_at_call 17; refine (CO.out _).mono ?_; clear CO; rintro e w1 ⟨⟨v1, rfl, r1⟩, b1⟩; have r1' := r1; obtain ⟨I1, T1, rfl, hI1, hT1⟩ := r1'.ex; have oI1 := hI1.one; have oT1 := hT1.one; clear r1' hI1 hT1)
    | (have := C1; refine wpList_new_rc _ rfl rfl ?_; intro w5 c2 N2)
    | (refine wpList_new_rc _ rfl rfl ?_; intro w2 c1 N1)
    | (refine wpList_at (Op.store 25 (.tmp 5) (.tmp 21)) rfl ?_; refine wpList_put_rc (s' := zM.s) (I' := I1) (T' := T1) _ rfl (.tmp 5) (.tmp 21) rfl rfl rfl N1.rc oI1 oT1 ?_; intro w3 P1; have C1 := P1.rc)
    | (refine wpList_at (Op.store 25 (.tmp 8) (.tmp 24)) rfl ?_; refine wpList_put_rc (s' := zS) (I' := nilV) (T' := nilV) _ rfl (.tmp 8) (.tmp 24) rfl rfl rfl N2.rc rfl rfl ?_; intro w6 P2; have H := OpS.start b1 r1 N1 P1 N2 P2; clear N1 P1 N2 P2 b1 r1 C1 this; obtain ⟨p0, p1, p2, p3, p4, p5, p6, p7, p8, p9, p10, p11, p12⟩ := H.a1.row)
    | (go_at_call 14; refine (CS.out _ _ _ H.rec1 ⟨nilV, nilV, rfl, SlI.nil _, SlT.nil _⟩).mono ?_; clear CS; rintro e w7 ⟨rfl, b7⟩)
    | (go_at_call 12; refine (CK.out _).mono ?_; clear CK; rintro e w8 ⟨rfl, b8⟩))
  clear p0 p1 p2 p3 p4 p5 p6 p7 p8 p9 p10 p11 p12
  go_quiet (fail)
  have HD := H.below (Sm.below_dr (Below.refl _ _) nq)
  clear H
  go_wp2
  have H := HD.below ((Below.refl _ _).drew)
  clear HD
  go_region_held3 (fun _ => True) (trivial) ((go_at_call 13; refine (CL.out _).mono ?_; clear CL; rintro e w4 ⟨rfl, b4⟩; have HD := H.below b4; clear H))
  go_wp2_with (first
    | (go_at_call 19; refine (CR.out _).mono ?_; clear CR; rintro e w9 ⟨⟨v2, rfl, r2⟩, b9⟩; have hlt := HD.a2.lt; have H := HD.below b9; clear HD; have r2' := r2.rv; obtain ⟨I2, T2, rfl, hI2, hT2⟩ := r2'.ex; dsimp only at hI2 hT2; have oI2 := hI2.one; have oT2 := hT2.one; clear r2' hI2 hT2)
    | (refine wpList_at (Op.store 25 (.tmp 8) (.tmp 90)) rfl ?_; refine wpList_put_rc (s' := s2) (I' := I2) (T' := T2) _ rfl (.tmp 8) (.tmp 90) rfl rfl rfl H.a2 oI2 oT2 ?_; intro w10 P2; have R2 := r2.off _ _ P2.off hlt; have HD := H.put P2; clear H P2 r2 hlt; obtain ⟨p0, p1, p2, p3, p4, p5, p6, p7, p8, p9, p10, p11, p12⟩ := HD.a1.row; obtain ⟨d0, d1, d2, d3, d4, d5, d6, d7, d8, d9, d10, d11, d12⟩ := HD.a2.row)
    | (go_at_call 14; refine (CS.out _ _ _ HD.rec1 ⟨nilV, nilV, rfl, SlI.nil _, SlT.nil _⟩).mono ?_; clear CS; rintro e w7 ⟨rfl, b7⟩)
    | (go_at_call 12; refine (CK.out _).mono ?_; clear CK; rintro e w8 ⟨rfl, b8⟩))
  go_ret
  exact ⟨rfl, thn (thn HD.all b7) b8⟩
end
end Go.Proofs.Ytakdfdnndogaiaa
