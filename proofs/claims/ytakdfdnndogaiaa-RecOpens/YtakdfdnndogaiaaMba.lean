/- RecOpens: frames. RecOpens: what is opened is what the document says. -/
import Derived.Test.YtakdfdnndogaiaaMax
import Derived.Deep.RegionHeld3
import Derived.BigQuiet
import Derived.Test.YtakdfdnndogaiaaMay
import Derived.Test.YtakdfdnndogaiaaMaz
namespace Go.Proofs.Ytakdfdnndogaiaa
open Go.RowKit
set_option linter.unusedVariables false
set_option linter.unusedSimpArgs false
set_option maxRecDepth 100000

section
variable {w : World} {t u z f : ByteArray} {a x y k : Int}
set_option maxHeartbeats 4000000 in
theorem opens_goo0 (ht : ¬ (1000 : Int) < t.size) (htz : t.size ≤ 1000) (h0 : ¬ a < 0) (h1 : ¬ (t.size : Int) < a) (h2 : ¬ (t.size : Int) - a < 6) (hx0 : 0 ≤ x) (hx1 : x < 256) (hy0 : 0 ≤ y) (hy1 : y < 256) (hi1 : ∀ W, (Instr.index 9 (.string t) (.int .i64 a)).run Try.prog W = .ok (.int .u8 x) W) (hi2 : ∀ W, (Instr.index 9 (.string t) (.int .i64 (a + 1))).run Try.prog W = .ok (.int .u8 y) W) (hxy : 256 * x + y = k) (hk0 : 0 ≤ k) (hk6 : k < 65536) (h3 : ¬ k < 1) (h4 : ¬ 4096 < k) (h5 : ¬ (t.size : Int) - a - 6 < k) (hs1 : ∀ W, (Instr.slice 9 (.string t) (some (.int .i64 (a + 6))) (some (.int .i64 (a + 6 + k))) none).run Try.prog W = .ok (.string z) W) (hs2 : ∀ W, (Instr.slice 9 (.string t) (some (.int .i64 (a + 2))) (some (.int .i64 (a + 6 + k))) none).run Try.prog W = .ok (.string f) W) (hzz : z.size ≤ 1000) (hfz : f.size ≤ 1000) (hne : (Sm.sealV z).toList = f.toList) (hE : (ofM z).2 = 0) (ho : openM t a = ((ofM z).1, (6 + k), 0)) : Calls Try.prog 7 #[.string t, .int .i64 a] w fun e w' => e = .returned (.bool true) ∧ Below w.heap.size w w' := by
  have CO : Hid (∀ wx, Calls Try.prog 17 #[.string t, .int .i64 a] wx fun e w' => (∃ v, e = .returned (.tuple #[v, .int .i64 (6 + k), .int .i64 0]) ∧ RecV w' v (ofM z).1) ∧ Below wx.heap.size wx w') := fun wx => (Open_any (w := wx) t a (by omega)).mono fun e w' h => by rw [ho] at h; exact ⟨⟨h.1.choose, h.1.choose_spec.1, h.1.choose_spec.2.recV⟩, h.2⟩
  clear ho
  have CK : Hid (∀ wx, Calls Try.prog 12 #[] wx fun e w' => e = .returned (.bool true) ∧ Below wx.heap.size wx w') := fun wx => awake_any wx
  have hsm := ofM_small z (by omega)
  have CS : Hid (∀ wx v1 v2, RecV wx v1 (ofM z).1 → RecV wx v2 (ofM z).1 → Calls Try.prog 14 #[v1, v2] wx fun e w' => e = .returned (.bool true) ∧ Below wx.heap.size wx w') := fun wx v1 v2 h1 h2 => Same_any h1 h2 hsm.im hsm.tb
  clear hsm
  have hw1 : IntKind.i64.wrap (a + 6) = a + 6 := by rw [IntKind.wrap_i64]; omega
  have hw2 : IntKind.i64.wrap (a + 6 + k) = a + 6 + k := by rw [IntKind.wrap_i64]; omega
  have hw3 : IntKind.i64.wrap (a + 2) = a + 2 := by rw [IntKind.wrap_i64]; omega
  have CL : Hid (∀ wx, Calls Try.prog 13 #[.string z] wx fun e w' => e = .returned (.string (Sm.sealV z)) ∧ Below wx.heap.size wx w') := fun wx => Sm.Seal_any z wx (by omega)
  have hne1 : ((Sm.sealV z).toList == f.toList) = true := by simpa using hne
  clear hne
  generalize Sm.sealV z = Z at *
  have CR : Hid (∀ wx, Calls Try.prog 19 #[.string z] wx fun e w' => (∃ v, e = .returned (.tuple #[v, .int .i64 (ofM z).2]) ∧ RecN w' v (ofM z).1 wx.heap.size) ∧ Below wx.heap.size wx w') := fun wx => rof_all (w := wx) z (by omega)
  generalize (ofM z).1 = m at *
  rw [hE] at CR
  clear hE
  obtain ⟨s2, l2, g2⟩ := m
  go_enter Try.func7, Try.ntmps7
  go_wp2_with (first
    | (go_at_call 17; refine (CO.out _).mono ?_; clear CO; rintro e w1 ⟨⟨v1, rfl, r1⟩, b1⟩; have r1' := r1; obtain ⟨I1, T1, rfl, hI1, hT1⟩ := r1'.ex; dsimp only at hI1 hT1; have oI1 := hI1.one; have oT1 := hT1.one; clear r1' hI1 hT1)
    | (have := C1; refine wpList_new_rc _ rfl rfl ?_; intro w5 c2 N2)
    | (refine wpList_new_rc _ rfl rfl ?_; intro w2 c1 N1)
    | (refine wpList_at (Op.store 25 (.tmp 5) (.tmp 21)) rfl ?_; refine wpList_put_rc (s' := s2) (I' := I1) (T' := T1) _ rfl (.tmp 5) (.tmp 21) rfl rfl rfl N1.rc oI1 oT1 ?_; intro w3 P1; have C1 := P1.rc)
    | (refine wpList_at (Op.store 25 (.tmp 8) (.tmp 24)) rfl ?_; refine wpList_put_rc (s' := zS) (I' := nilV) (T' := nilV) _ rfl (.tmp 8) (.tmp 24) rfl rfl rfl N2.rc rfl rfl ?_; intro w6 P2; have H := OpS.start b1 r1 N1 P1 N2 P2; clear N1 P1 N2 P2 b1 r1 C1 this; obtain ⟨p0, p1, p2, p3, p4, p5, p6, p7, p8, p9, p10, p11, p12⟩ := H.a1.row)
    | (go_at_call 14; refine (CS.out _ _ _ H.rec1 ⟨nilV, nilV, rfl, SlI.nil _, SlT.nil _⟩).mono ?_; clear CS; rintro e w7 ⟨rfl, b7⟩)
    | (go_at_call 12; refine (CK.out _).mono ?_; clear CK; rintro e w8 ⟨rfl, b8⟩))
  clear p0 p1 p2 p3 p4 p5 p6 p7 p8 p9 p10 p11 p12
  go_quiet (fail)
  have HD := H.below (Sm.below_dr (Below.refl _ _) nq)
  clear H
  go_wp2
  have H := HD.below ((Below.refl _ _).drew)
  clear HD
  go_region_held3 (fun _ => True) (trivial) ((go_at_call 13; refine (CL.out _).mono ?_; clear CL; rintro e w4 ⟨rfl, b4⟩; have HD := H.below b4; clear H))
  go_wp2_with (first
    | (go_at_call 19; refine (CR.out _).mono ?_; clear CR; rintro e w9 ⟨⟨v2, rfl, r2⟩, b9⟩; have hlt := HD.a2.lt; have H := HD.below b9; clear HD; have r2' := r2.rv; obtain ⟨I2, T2, rfl, hI2, hT2⟩ := r2'.ex; dsimp only at hI2 hT2; have oI2 := hI2.one; have oT2 := hT2.one; clear r2' hI2 hT2)
    | (refine wpList_at (Op.store 25 (.tmp 8) (.tmp 90)) rfl ?_; refine wpList_put_rc (s' := s2) (I' := I2) (T' := T2) _ rfl (.tmp 8) (.tmp 90) rfl rfl rfl H.a2 oI2 oT2 ?_; intro w10 P2; have R2 := r2.off _ _ P2.off hlt; have HD := H.put P2; clear H P2 r2 hlt; obtain ⟨p0, p1, p2, p3, p4, p5, p6, p7, p8, p9, p10, p11, p12⟩ := HD.a1.row; obtain ⟨d0, d1, d2, d3, d4, d5, d6, d7, d8, d9, d10, d11, d12⟩ := HD.a2.row)
    | (go_at_call 14; refine (CS.out _ _ _ HD.rec1 R2).mono ?_; clear CS; rintro e w7 ⟨rfl, b7⟩)
    | (go_at_call 12; refine (CK.out _).mono ?_; clear CK; rintro e w8 ⟨rfl, b8⟩))
  go_ret
  exact ⟨rfl, thn (thn HD.all b7) b8⟩
set_option maxHeartbeats 4000000 in
theorem opens_goo1 (ht : (1000 : Int) < t.size) (htz : t.size ≤ 140737488351232) (hu : t.extract 0 1000 = u) (huz : u.size ≤ 1000) (h0 : ¬ a < 0) (h1 : ¬ (u.size : Int) < a) (h2 : ¬ (u.size : Int) - a < 6) (hx0 : 0 ≤ x) (hx1 : x < 256) (hy0 : 0 ≤ y) (hy1 : y < 256) (hi1 : ∀ W, (Instr.index 9 (.string u) (.int .i64 a)).run Try.prog W = .ok (.int .u8 x) W) (hi2 : ∀ W, (Instr.index 9 (.string u) (.int .i64 (a + 1))).run Try.prog W = .ok (.int .u8 y) W) (hxy : 256 * x + y = k) (hk0 : 0 ≤ k) (hk6 : k < 65536) (h3 : ¬ k < 1) (h4 : ¬ 4096 < k) (h5 : ¬ (u.size : Int) - a - 6 < k) (hs1 : ∀ W, (Instr.slice 9 (.string u) (some (.int .i64 (a + 6))) (some (.int .i64 (a + 6 + k))) none).run Try.prog W = .ok (.string z) W) (hs2 : ∀ W, (Instr.slice 9 (.string u) (some (.int .i64 (a + 2))) (some (.int .i64 (a + 6 + k))) none).run Try.prog W = .ok (.string f) W) (hzz : z.size ≤ 1000) (hfz : f.size ≤ 1000) (hne : (Sm.sealV z).toList = f.toList) (hE : (ofM z).2 = 0) (ho : openM u a = ((ofM z).1, (6 + k), 0)) : Calls Try.prog 7 #[.string t, .int .i64 a] w fun e w' => e = .returned (.bool true) ∧ Below w.heap.size w w' := by
  have hcu : ∀ W, (Instr.slice 9 (.string t) none (some (.int .i64 1000)) none).run Try.prog W = .ok (.string u) W := by
    intro W
    rw [← hu]
    have := run_slice_string_h (P := Try.prog) W 9 t Try.underlying9 .i64 1000 (by omega) (by omega)
    rw [show ((1000 : Int)).toNat = 1000 from rfl] at this
    exact this
  clear hu
  have CO : Hid (∀ wx, Calls Try.prog 17 #[.string u, .int .i64 a] wx fun e w' => (∃ v, e = .returned (.tuple #[v, .int .i64 (6 + k), .int .i64 0]) ∧ RecV w' v (ofM z).1) ∧ Below wx.heap.size wx w') := fun wx => (Open_any (w := wx) u a (by omega)).mono fun e w' h => by rw [ho] at h; exact ⟨⟨h.1.choose, h.1.choose_spec.1, h.1.choose_spec.2.recV⟩, h.2⟩
  clear ho
  have CK : Hid (∀ wx, Calls Try.prog 12 #[] wx fun e w' => e = .returned (.bool true) ∧ Below wx.heap.size wx w') := fun wx => awake_any wx
  have hsm := ofM_small z (by omega)
  have CS : Hid (∀ wx v1 v2, RecV wx v1 (ofM z).1 → RecV wx v2 (ofM z).1 → Calls Try.prog 14 #[v1, v2] wx fun e w' => e = .returned (.bool true) ∧ Below wx.heap.size wx w') := fun wx v1 v2 h1 h2 => Same_any h1 h2 hsm.im hsm.tb
  clear hsm
  have hw1 : IntKind.i64.wrap (a + 6) = a + 6 := by rw [IntKind.wrap_i64]; omega
  have hw2 : IntKind.i64.wrap (a + 6 + k) = a + 6 + k := by rw [IntKind.wrap_i64]; omega
  have hw3 : IntKind.i64.wrap (a + 2) = a + 2 := by rw [IntKind.wrap_i64]; omega
  have CL : Hid (∀ wx, Calls Try.prog 13 #[.string z] wx fun e w' => e = .returned (.string (Sm.sealV z)) ∧ Below wx.heap.size wx w') := fun wx => Sm.Seal_any z wx (by omega)
  have hne1 : ((Sm.sealV z).toList == f.toList) = true := by simpa using hne
  clear hne
  generalize Sm.sealV z = Z at *
  have CR : Hid (∀ wx, Calls Try.prog 19 #[.string z] wx fun e w' => (∃ v, e = .returned (.tuple #[v, .int .i64 (ofM z).2]) ∧ RecN w' v (ofM z).1 wx.heap.size) ∧ Below wx.heap.size wx w') := fun wx => rof_all (w := wx) z (by omega)
  generalize (ofM z).1 = m at *
  rw [hE] at CR
  clear hE
  obtain ⟨s2, l2, g2⟩ := m
  go_enter Try.func7, Try.ntmps7
  go_wp2_with (first
    | (go_at_call 17; refine (CO.out _).mono ?_; clear CO; rintro e w1 ⟨⟨v1, rfl, r1⟩, b1⟩; have r1' := r1; obtain ⟨I1, T1, rfl, hI1, hT1⟩ := r1'.ex; dsimp only at hI1 hT1; have oI1 := hI1.one; have oT1 := hT1.one; clear r1' hI1 hT1)
    | (have := C1; refine wpList_new_rc _ rfl rfl ?_; intro w5 c2 N2)
    | (refine wpList_new_rc _ rfl rfl ?_; intro w2 c1 N1)
    | (refine wpList_at (Op.store 25 (.tmp 5) (.tmp 21)) rfl ?_; refine wpList_put_rc (s' := s2) (I' := I1) (T' := T1) _ rfl (.tmp 5) (.tmp 21) rfl rfl rfl N1.rc oI1 oT1 ?_; intro w3 P1; have C1 := P1.rc)
    | (refine wpList_at (Op.store 25 (.tmp 8) (.tmp 24)) rfl ?_; refine wpList_put_rc (s' := zS) (I' := nilV) (T' := nilV) _ rfl (.tmp 8) (.tmp 24) rfl rfl rfl N2.rc rfl rfl ?_; intro w6 P2; have H := OpS.start b1 r1 N1 P1 N2 P2; clear N1 P1 N2 P2 b1 r1 C1 this; obtain ⟨p0, p1, p2, p3, p4, p5, p6, p7, p8, p9, p10, p11, p12⟩ := H.a1.row)
    | (go_at_call 14; refine (CS.out _ _ _ H.rec1 ⟨nilV, nilV, rfl, SlI.nil _, SlT.nil _⟩).mono ?_; clear CS; rintro e w7 ⟨rfl, b7⟩)
    | (go_at_call 12; refine (CK.out _).mono ?_; clear CK; rintro e w8 ⟨rfl, b8⟩))
  clear p0 p1 p2 p3 p4 p5 p6 p7 p8 p9 p10 p11 p12
  go_quiet (fail)
  have HD := H.below (Sm.below_dr (Below.refl _ _) nq)
  clear H
  go_wp2
  have H := HD.below ((Below.refl _ _).drew)
  clear HD
  go_region_held3 (fun _ => True) (trivial) ((go_at_call 13; refine (CL.out _).mono ?_; clear CL; rintro e w4 ⟨rfl, b4⟩; have HD := H.below b4; clear H))
  go_wp2_with (first
    | (go_at_call 19; refine (CR.out _).mono ?_; clear CR; rintro e w9 ⟨⟨v2, rfl, r2⟩, b9⟩; have hlt := HD.a2.lt; have H := HD.below b9; clear HD; have r2' := r2.rv; obtain ⟨I2, T2, rfl, hI2, hT2⟩ := r2'.ex; dsimp only at hI2 hT2; have oI2 := hI2.one; have oT2 := hT2.one; clear r2' hI2 hT2)
    | (refine wpList_at (Op.store 25 (.tmp 8) (.tmp 90)) rfl ?_; refine wpList_put_rc (s' := s2) (I' := I2) (T' := T2) _ rfl (.tmp 8) (.tmp 90) rfl rfl rfl H.a2 oI2 oT2 ?_; intro w10 P2; have R2 := r2.off _ _ P2.off hlt; have HD := H.put P2; clear H P2 r2 hlt; obtain ⟨p0, p1, p2, p3, p4, p5, p6, p7, p8, p9, p10, p11, p12⟩ := HD.a1.row; obtain ⟨d0, d1, d2, d3, d4, d5, d6, d7, d8, d9, d10, d11, d12⟩ := HD.a2.row)
    | (go_at_call 14; refine (CS.out _ _ _ HD.rec1 R2).mono ?_; clear CS; rintro e w7 ⟨rfl, b7⟩)
    | (go_at_call 12; refine (CK.out _).mono ?_; clear CK; rintro e w8 ⟨rfl, b8⟩))
  go_ret
  exact ⟨rfl, thn (thn HD.all b7) b8⟩
end
end Go.Proofs.Ytakdfdnndogaiaa

namespace Go.Proofs.Ytakdfdnndogaiaa
open Go.RowKit
set_option linter.unusedVariables false
set_option linter.unusedSimpArgs false
set_option maxRecDepth 100000

theorem toList_inj {a b : ByteArray} (h : a.toList = b.toList) : a = b := by
  rw [ByteArray.toList_eq, ByteArray.toList_eq] at h
  exact ByteArray.ext (Array.toList_inj.1 h)
theorem idx_at (s : ByteArray) (n : Nat) (h : n < s.size) : ∀ W, (Instr.index 9 (.string s) (.int .i64 (n : Int))).run Try.prog W = .ok (.int .u8 ((s[n]'h).toNat : Int)) W := by
  intro W
  rw [run_index_string (h := Try.underlying9), dif_pos ⟨by omega, by omega⟩]
  simp only [Int.toNat_natCast]
theorem slc_at (s : ByteArray) (a b : Nat) (h : a ≤ b) (hb : b ≤ s.size) : ∀ W, (Instr.slice 9 (.string s) (some (.int .i64 (a : Int))) (some (.int .i64 (b : Int))) none).run Try.prog W = .ok (.string (s.extract a b)) W := by
  intro W
  have := run_slice_string (P := Try.prog) W 9 s .i64 .i64 (a : Int) (b : Int) Try.underlying9 (by omega) (by omega) (by omega)
  rw [Int.toNat_natCast, Int.toNat_natCast] at this
  exact this
section
variable {w : World} {t u : ByteArray}
theorem opens_all0 (ht : ¬ (1000 : Int) < t.size) (htz : t.size ≤ 1000) (a : Int) : Calls Try.prog 7 #[.string t, .int .i64 a] w fun e w' => e = .returned (.bool true) ∧ Below w.heap.size w w' := by
  by_cases h0 : a < 0
  · exact opens_neg0 ht htz h0 (openM_out (Or.inl h0))
  by_cases h1 : (t.size : Int) < a
  · exact opens_far0 ht htz h0 h1 (openM_out (Or.inr h1))
  obtain ⟨n, rfl⟩ : ∃ n : Nat, a = n := ⟨a.toNat, by omega⟩
  by_cases h2 : (t.size : Int) - (n : Int) < 6
  · exact opens_six0 ht htz h0 h1 h2 (openM_six (by omega) (by omega))
  have ha : n + 6 ≤ t.size := by omega
  obtain ⟨k, hk⟩ : ∃ k : Nat, 256 * (t[n]'(by omega)).toNat + (t[n + 1]'(by omega)).toNat = k := ⟨_, rfl⟩
  have hi1 := idx_at t n (by omega)
  have hi2 := idx_at t (n + 1) (by omega)
  rw [show ((n + 1 : Nat) : Int) = (n : Int) + 1 by omega] at hi2
  have x1 := (t[n]'(by omega)).toNat_lt
  have y1 := (t[n + 1]'(by omega)).toNat_lt
  have hxy : 256 * ((t[n]'(by omega)).toNat : Int) + ((t[n + 1]'(by omega)).toNat : Int) = (k : Int) := by omega
  have G := fun (P : Prop) (h : (0 : Int) ≤ ((t[n]'(by omega)).toNat : Int) → ((t[n]'(by omega)).toNat : Int) < 256 → (0 : Int) ≤ ((t[n + 1]'(by omega)).toNat : Int) → ((t[n + 1]'(by omega)).toNat : Int) < 256 → (0 : Int) ≤ (k : Int) → (k : Int) < 65536 → P) => h (by omega) (by omega) (by omega) (by omega) (by omega) (by omega)
  by_cases h3 : (k : Int) < 1
  · exact G _ fun a1 a2 a3 a4 a5 a6 => opens_lit0 ht htz h0 h1 h2 a1 a2 a3 a4 hi1 hi2 hxy a5 a6 h3 (openM_form ha hk (Or.inl (by omega)))
  by_cases h4 : 4096 < (k : Int)
  · exact G _ fun a1 a2 a3 a4 a5 a6 => opens_big0 ht htz h0 h1 h2 a1 a2 a3 a4 hi1 hi2 hxy a5 a6 h3 h4 (openM_form ha hk (Or.inr (by omega)))
  by_cases h5 : (t.size : Int) - (n : Int) - 6 < (k : Int)
  · exact G _ fun a1 a2 a3 a4 a5 a6 => opens_sho0 ht htz h0 h1 h2 a1 a2 a3 a4 hi1 hi2 hxy a5 a6 h3 h4 h5 (openM_short ha hk (by omega) (by omega) (by omega))
  have hl : n + 6 + k ≤ t.size := by omega
  have hs1 := slc_at t (n + 6) (n + 6 + k) (by omega) hl
  have hs2 := slc_at t (n + 2) (n + 6 + k) (by omega) hl
  rw [show ((n + 6 : Nat) : Int) = (n : Int) + 6 by omega, show ((n + 6 + k : Nat) : Int) = (n : Int) + 6 + (k : Int) by omega] at hs1
  rw [show ((n + 2 : Nat) : Int) = (n : Int) + 2 by omega, show ((n + 6 + k : Nat) : Int) = (n : Int) + 6 + (k : Int) by omega] at hs2
  have z1 : (t.extract (n + 6) (n + 6 + k)).size ≤ 1000 := by rw [ext_size hl]; omega
  have z2 : (t.extract (n + 2) (n + 6 + k)).size ≤ 1000 := by rw [ext_size hl]; omega
  by_cases hs : Sm.sealV (t.extract (n + 6) (n + 6 + k)) = t.extract (n + 2) (n + 6 + k)
  · have ho := openM_of ha hk (by omega) (by omega) hl hs
    have hq : (Sm.sealV (t.extract (n + 6) (n + 6 + k))).toList = (t.extract (n + 2) (n + 6 + k)).toList := by rw [hs]
    by_cases hE : (ofM (t.extract (n + 6) (n + 6 + k))).2 = 0
    · rw [if_neg (by simpa using hE)] at ho
      exact G _ fun a1 a2 a3 a4 a5 a6 => opens_goo0 ht htz h0 h1 h2 a1 a2 a3 a4 hi1 hi2 hxy a5 a6 h3 h4 h5 hs1 hs2 z1 z2 hq hE ho
    · rw [if_pos hE] at ho
      exact G _ fun a1 a2 a3 a4 a5 a6 => opens_bad0 ht htz h0 h1 h2 a1 a2 a3 a4 hi1 hi2 hxy a5 a6 h3 h4 h5 hs1 hs2 z1 z2 hq hE ho
  · exact G _ fun a1 a2 a3 a4 a5 a6 => opens_sum0 ht htz h0 h1 h2 a1 a2 a3 a4 hi1 hi2 hxy a5 a6 h3 h4 h5 hs1 hs2 z1 z2 (fun e => hs (toList_inj e)) (openM_sum ha hk (by omega) (by omega) hl hs)
theorem opens_all1 (ht : (1000 : Int) < t.size) (htz : t.size ≤ 140737488351232) (hu : t.extract 0 1000 = u) (huz : u.size ≤ 1000) (a : Int) : Calls Try.prog 7 #[.string t, .int .i64 a] w fun e w' => e = .returned (.bool true) ∧ Below w.heap.size w w' := by
  by_cases h0 : a < 0
  · exact opens_neg1 ht htz hu huz h0 (openM_out (Or.inl h0))
  by_cases h1 : (u.size : Int) < a
  · exact opens_far1 ht htz hu huz h0 h1 (openM_out (Or.inr h1))
  obtain ⟨n, rfl⟩ : ∃ n : Nat, a = n := ⟨a.toNat, by omega⟩
  by_cases h2 : (u.size : Int) - (n : Int) < 6
  · exact opens_six1 ht htz hu huz h0 h1 h2 (openM_six (by omega) (by omega))
  have ha : n + 6 ≤ u.size := by omega
  obtain ⟨k, hk⟩ : ∃ k : Nat, 256 * (u[n]'(by omega)).toNat + (u[n + 1]'(by omega)).toNat = k := ⟨_, rfl⟩
  have hi1 := idx_at u n (by omega)
  have hi2 := idx_at u (n + 1) (by omega)
  rw [show ((n + 1 : Nat) : Int) = (n : Int) + 1 by omega] at hi2
  have x1 := (u[n]'(by omega)).toNat_lt
  have y1 := (u[n + 1]'(by omega)).toNat_lt
  have hxy : 256 * ((u[n]'(by omega)).toNat : Int) + ((u[n + 1]'(by omega)).toNat : Int) = (k : Int) := by omega
  have G := fun (P : Prop) (h : (0 : Int) ≤ ((u[n]'(by omega)).toNat : Int) → ((u[n]'(by omega)).toNat : Int) < 256 → (0 : Int) ≤ ((u[n + 1]'(by omega)).toNat : Int) → ((u[n + 1]'(by omega)).toNat : Int) < 256 → (0 : Int) ≤ (k : Int) → (k : Int) < 65536 → P) => h (by omega) (by omega) (by omega) (by omega) (by omega) (by omega)
  by_cases h3 : (k : Int) < 1
  · exact G _ fun a1 a2 a3 a4 a5 a6 => opens_lit1 ht htz hu huz h0 h1 h2 a1 a2 a3 a4 hi1 hi2 hxy a5 a6 h3 (openM_form ha hk (Or.inl (by omega)))
  by_cases h4 : 4096 < (k : Int)
  · exact G _ fun a1 a2 a3 a4 a5 a6 => opens_big1 ht htz hu huz h0 h1 h2 a1 a2 a3 a4 hi1 hi2 hxy a5 a6 h3 h4 (openM_form ha hk (Or.inr (by omega)))
  by_cases h5 : (u.size : Int) - (n : Int) - 6 < (k : Int)
  · exact G _ fun a1 a2 a3 a4 a5 a6 => opens_sho1 ht htz hu huz h0 h1 h2 a1 a2 a3 a4 hi1 hi2 hxy a5 a6 h3 h4 h5 (openM_short ha hk (by omega) (by omega) (by omega))
  have hl : n + 6 + k ≤ u.size := by omega
  have hs1 := slc_at u (n + 6) (n + 6 + k) (by omega) hl
  have hs2 := slc_at u (n + 2) (n + 6 + k) (by omega) hl
  rw [show ((n + 6 : Nat) : Int) = (n : Int) + 6 by omega, show ((n + 6 + k : Nat) : Int) = (n : Int) + 6 + (k : Int) by omega] at hs1
  rw [show ((n + 2 : Nat) : Int) = (n : Int) + 2 by omega, show ((n + 6 + k : Nat) : Int) = (n : Int) + 6 + (k : Int) by omega] at hs2
  have z1 : (u.extract (n + 6) (n + 6 + k)).size ≤ 1000 := by rw [ext_size hl]; omega
  have z2 : (u.extract (n + 2) (n + 6 + k)).size ≤ 1000 := by rw [ext_size hl]; omega
  by_cases hs : Sm.sealV (u.extract (n + 6) (n + 6 + k)) = u.extract (n + 2) (n + 6 + k)
  · have ho := openM_of ha hk (by omega) (by omega) hl hs
    have hq : (Sm.sealV (u.extract (n + 6) (n + 6 + k))).toList = (u.extract (n + 2) (n + 6 + k)).toList := by rw [hs]
    by_cases hE : (ofM (u.extract (n + 6) (n + 6 + k))).2 = 0
    · rw [if_neg (by simpa using hE)] at ho
      exact G _ fun a1 a2 a3 a4 a5 a6 => opens_goo1 ht htz hu huz h0 h1 h2 a1 a2 a3 a4 hi1 hi2 hxy a5 a6 h3 h4 h5 hs1 hs2 z1 z2 hq hE ho
    · rw [if_pos hE] at ho
      exact G _ fun a1 a2 a3 a4 a5 a6 => opens_bad1 ht htz hu huz h0 h1 h2 a1 a2 a3 a4 hi1 hi2 hxy a5 a6 h3 h4 h5 hs1 hs2 z1 z2 hq hE ho
  · exact G _ fun a1 a2 a3 a4 a5 a6 => opens_sum1 ht htz hu huz h0 h1 h2 a1 a2 a3 a4 hi1 hi2 hxy a5 a6 h3 h4 h5 hs1 hs2 z1 z2 (fun e => hs (toList_inj e)) (openM_sum ha hk (by omega) (by omega) hl hs)
end
theorem opens_walk (w : World) (t : ByteArray) (a : Int) (h : t.size ≤ 140737488351232) : Calls Try.prog 7 #[.string t, .int .i64 a] w fun e w' => e = .returned (.bool true) ∧ Below w.heap.size w w' := by
  by_cases hl : (1000 : Int) < t.size
  · exact opens_all1 hl h rfl (by rw [ByteArray.size_extract]; omega) a
  · exact opens_all0 hl (by omega) a
end Go.Proofs.Ytakdfdnndogaiaa
