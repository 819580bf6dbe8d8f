/- Pages that are turned: Insert, Delete, Update. -/
import Derived.Test.YtmoognjegjeegaaRfc
namespace Go.Proofs.Ytmoognjegjeegaa
open Go.RowKit
set_option linter.unusedVariables false
set_option linter.unusedSimpArgs false
set_option maxRecDepth 100000

theorem rm_turns {s : List UInt8} (h : Turns s) : rm s = 220 - needs (cells s) := by rw [rm, if_neg h.kind]

theorem Insert_form (w : World) (p : ByteArray) (c : Cl) (hz : p.size ≤ 140737488351232) (h : ¬ Turns (bts p)) : Calls Try.prog 33 #[.string p, .agg #[.string c.k, .string c.v]] w fun e w' => e = .returned (.tuple #[.string ⟨#[]⟩, .int .i64 4]) ∧ Below w.heap.size w w' := by
  have hTl := zs_length
  have CR : Hid (∀ w, Calls Try.prog 55 #[.string p, .agg #[.string c.k, .string c.v]] w fun e w' => e = .returned (.tuple #[pgV zs, .int .i64 4]) ∧ Below w.heap.size w w') := fun w => rfc_no w p c hz h
  clear h
  go_enter Try.func33, Try.ntmps33
  go_wp2_with (first | (refine wpList_box_cb _ rfl _ rfl rfl ?_; intro w0 b0 N0; have f0 := N0.cb.c0; have f1 := N0.cb.c1) | (go_at_call 55; refine (CR.out _).mono ?_; rintro e w2 ⟨rfl, hb2⟩) | (refine wpList_new_sh _ rfl rfl ?_; intro w3 b3 N3) | (refine wpList_put_sh _ rfl _ _ rfl rfl (t := zs) rfl N3.sh hTl ?_; intro w4 P4; have hB4 : Cb w4 b0 c.k c.v := (N0.cb.below hb2).of_block (opened_at hb2 N3 P4 N0.cb.lt); have f0 := hB4.c0; have f1 := hB4.c1))
  go_ret2
  exact ⟨rfl, opened (thn N0.below hb2) N3 P4⟩
theorem Insert_long (w : World) (p : ByteArray) (c : Cl) (h : Turns (bts p)) (hl : long c ≠ 0) : Calls Try.prog 33 #[.string p, .agg #[.string c.k, .string c.v]] w fun e w' => e = .returned (.tuple #[.string ⟨#[]⟩, .int .i64 (long c)]) ∧ Below w.heap.size w w' := by
  have hTl : (bts p).length = 224 := h.right.head.len
  have CR : Hid (∀ w, Calls Try.prog 55 #[.string p, .agg #[.string c.k, .string c.v]] w fun e w' => e = .returned (.tuple #[pgV (bts p), .int .i64 (long c)]) ∧ Below w.heap.size w w') := fun w => rfc_ok w p c h
  have hl' : (long c != 0) = true := by simpa using hl
  clear h hl
  generalize bts p = T at *
  generalize long c = le at *
  go_enter Try.func33, Try.ntmps33
  go_wp2_with (first | (refine wpList_box_cb _ rfl _ rfl rfl ?_; intro w0 b0 N0; have f0 := N0.cb.c0; have f1 := N0.cb.c1) | (go_at_call 55; refine (CR.out _).mono ?_; rintro e w2 ⟨rfl, hb2⟩) | (refine wpList_new_sh _ rfl rfl ?_; intro w3 b3 N3) | (refine wpList_put_sh _ rfl _ _ rfl rfl (t := T) rfl N3.sh hTl ?_; intro w4 P4; have hB4 : Cb w4 b0 c.k c.v := (N0.cb.below hb2).of_block (opened_at hb2 N3 P4 N0.cb.lt); have f0 := hB4.c0; have f1 := hB4.c1))
  go_ret2
  exact ⟨rfl, opened (thn N0.below hb2) N3 P4⟩

theorem Update_form (w : World) (p : ByteArray) (c : Cl) (hz : p.size ≤ 140737488351232) (h : ¬ Turns (bts p)) : Calls Try.prog 36 #[.string p, .agg #[.string c.k, .string c.v]] w fun e w' => e = .returned (.tuple #[.string ⟨#[]⟩, .int .i64 4]) ∧ Below w.heap.size w w' := by
  have hTl := zs_length
  have CR : Hid (∀ w, Calls Try.prog 55 #[.string p, .agg #[.string c.k, .string c.v]] w fun e w' => e = .returned (.tuple #[pgV zs, .int .i64 4]) ∧ Below w.heap.size w w') := fun w => rfc_no w p c hz h
  clear h
  go_enter Try.func36, Try.ntmps36
  go_wp2_with (first | (refine wpList_box_cb _ rfl _ rfl rfl ?_; intro w0 b0 N0; have f0 := N0.cb.c0; have f1 := N0.cb.c1) | (go_at_call 55; refine (CR.out _).mono ?_; rintro e w2 ⟨rfl, hb2⟩) | (refine wpList_new_sh _ rfl rfl ?_; intro w3 b3 N3) | (refine wpList_put_sh _ rfl _ _ rfl rfl (t := zs) rfl N3.sh hTl ?_; intro w4 P4; have hB4 : Cb w4 b0 c.k c.v := (N0.cb.below hb2).of_block (opened_at hb2 N3 P4 N0.cb.lt); have f0 := hB4.c0; have f1 := hB4.c1))
  go_ret2
  exact ⟨rfl, opened (thn N0.below hb2) N3 P4⟩
theorem Update_long (w : World) (p : ByteArray) (c : Cl) (h : Turns (bts p)) (hl : long c ≠ 0) : Calls Try.prog 36 #[.string p, .agg #[.string c.k, .string c.v]] w fun e w' => e = .returned (.tuple #[.string ⟨#[]⟩, .int .i64 (long c)]) ∧ Below w.heap.size w w' := by
  have hTl : (bts p).length = 224 := h.right.head.len
  have CR : Hid (∀ w, Calls Try.prog 55 #[.string p, .agg #[.string c.k, .string c.v]] w fun e w' => e = .returned (.tuple #[pgV (bts p), .int .i64 (long c)]) ∧ Below w.heap.size w w') := fun w => rfc_ok w p c h
  have hl' : (long c != 0) = true := by simpa using hl
  clear h hl
  generalize bts p = T at *
  generalize long c = le at *
  go_enter Try.func36, Try.ntmps36
  go_wp2_with (first | (refine wpList_box_cb _ rfl _ rfl rfl ?_; intro w0 b0 N0; have f0 := N0.cb.c0; have f1 := N0.cb.c1) | (go_at_call 55; refine (CR.out _).mono ?_; rintro e w2 ⟨rfl, hb2⟩) | (refine wpList_new_sh _ rfl rfl ?_; intro w3 b3 N3) | (refine wpList_put_sh _ rfl _ _ rfl rfl (t := T) rfl N3.sh hTl ?_; intro w4 P4; have hB4 : Cb w4 b0 c.k c.v := (N0.cb.below hb2).of_block (opened_at hb2 N3 P4 N0.cb.lt); have f0 := hB4.c0; have f1 := hB4.c1))
  go_ret2
  exact ⟨rfl, opened (thn N0.below hb2) N3 P4⟩

theorem long_k {c : Cl} (h : long c = 0) : c.k.size ≤ 16 := by
  unfold long at h; split at h
  · cases h
  · omega
theorem long_v {c : Cl} (h : long c = 0) : c.v.size ≤ 32 := by
  unfold long at h; split at h
  · cases h
  · split at h
    · cases h
    · omega
theorem Insert_there (w : World) (p : ByteArray) (c : Cl) (h : Turns (bts p)) (hl : long c = 0) (ha : isAt (cells (bts p)) c.k = true) : Calls Try.prog 33 #[.string p, .agg #[.string c.k, .string c.v]] w fun e w' => e = .returned (.tuple #[.string ⟨#[]⟩, .int .i64 19]) ∧ Below w.heap.size w w' := by
  have hTl : (bts p).length = 224 := h.right.head.len
  have hk0 : c.k.size ≤ 16 := long_k hl
  have hv0 : c.v.size ≤ 32 := long_v hl
  have CR : Hid (∀ w, Calls Try.prog 55 #[.string p, .agg #[.string c.k, .string c.v]] w fun e w' => e = .returned (.tuple #[pgV (bts p), .int .i64 0]) ∧ Below w.heap.size w w') := fun w => by
    have := rfc_ok w p c h
    rw [hl] at this; exact this
  have C2 : Hid (∀ w b, Sh w b (bts p) → Calls Try.prog 38 #[.pointer (some ⟨b, 0, none⟩), .string c.k] w fun e w' => e = .returned (.tuple #[.int .i64 (plc (cells (bts p)) c.k : Nat), .bool (isAt (cells (bts p)) c.k)]) ∧ Below w.heap.size w w') := fun w b h' => find_any w h' h.right c.k
  have hn := h.right.head.slotlt
  have hpl := plc_le (cells (bts p)) c.k
  rw [cells_length] at hpl
  rw [ha] at C2
  clear h hl ha
  generalize plc (cells (bts p)) c.k = i at *
  generalize bts p = T at *
  go_enter Try.func33, Try.ntmps33
  go_wp2_with (first | (refine wpList_box_cb _ rfl _ rfl rfl ?_; intro w0 b0 N0; have f0 := N0.cb.c0; have f1 := N0.cb.c1) | (go_at_call 55; refine (CR.out _).mono ?_; rintro e w2 ⟨rfl, hb2⟩) | (refine wpList_new_sh _ rfl rfl ?_; intro w3 b3 N3) | (refine wpList_put_sh _ rfl _ _ rfl rfl (t := T) rfl N3.sh hTl ?_; intro w4 P4; have hB4 : Cb w4 b0 c.k c.v := (N0.cb.below hb2).of_block (opened_at hb2 N3 P4 N0.cb.lt); have f0 := hB4.c0; have f1 := hB4.c1) | (go_at_call 38; refine (C2.out _ _ P4.sh).mono ?_; rintro e w5 ⟨rfl, hb5⟩; have hB5 := hB4.below hb5; have f0 := hB5.c0; have f1 := hB5.c1))
  go_ret2
  exact ⟨rfl, thn (opened (thn N0.below hb2) N3 P4) hb5⟩
theorem Update_none (w : World) (p : ByteArray) (c : Cl) (h : Turns (bts p)) (hl : long c = 0) (ha : isAt (cells (bts p)) c.k = false) : Calls Try.prog 36 #[.string p, .agg #[.string c.k, .string c.v]] w fun e w' => e = .returned (.tuple #[.string ⟨#[]⟩, .int .i64 8]) ∧ Below w.heap.size w w' := by
  have hTl : (bts p).length = 224 := h.right.head.len
  have hk0 : c.k.size ≤ 16 := long_k hl
  have hv0 : c.v.size ≤ 32 := long_v hl
  have CR : Hid (∀ w, Calls Try.prog 55 #[.string p, .agg #[.string c.k, .string c.v]] w fun e w' => e = .returned (.tuple #[pgV (bts p), .int .i64 0]) ∧ Below w.heap.size w w') := fun w => by
    have := rfc_ok w p c h
    rw [hl] at this; exact this
  have C2 : Hid (∀ w b, Sh w b (bts p) → Calls Try.prog 38 #[.pointer (some ⟨b, 0, none⟩), .string c.k] w fun e w' => e = .returned (.tuple #[.int .i64 (plc (cells (bts p)) c.k : Nat), .bool (isAt (cells (bts p)) c.k)]) ∧ Below w.heap.size w w') := fun w b h' => find_any w h' h.right c.k
  have hn := h.right.head.slotlt
  have hpl := plc_le (cells (bts p)) c.k
  rw [cells_length] at hpl
  rw [ha] at C2
  clear h hl ha
  generalize plc (cells (bts p)) c.k = i at *
  generalize bts p = T at *
  go_enter Try.func36, Try.ntmps36
  go_wp2_with (first | (refine wpList_box_cb _ rfl _ rfl rfl ?_; intro w0 b0 N0; have f0 := N0.cb.c0; have f1 := N0.cb.c1) | (go_at_call 55; refine (CR.out _).mono ?_; rintro e w2 ⟨rfl, hb2⟩) | (refine wpList_new_sh _ rfl rfl ?_; intro w3 b3 N3) | (refine wpList_put_sh _ rfl _ _ rfl rfl (t := T) rfl N3.sh hTl ?_; intro w4 P4; have hB4 : Cb w4 b0 c.k c.v := (N0.cb.below hb2).of_block (opened_at hb2 N3 P4 N0.cb.lt); have f0 := hB4.c0; have f1 := hB4.c1) | (go_at_call 38; refine (C2.out _ _ P4.sh).mono ?_; rintro e w5 ⟨rfl, hb5⟩; have hB5 := hB4.below hb5; have f0 := hB5.c0; have f1 := hB5.c1))
  go_ret2
  exact ⟨rfl, thn (opened (thn N0.below hb2) N3 P4) hb5⟩
theorem Insert_full (w : World) (p : ByteArray) (c : Cl) (h : Turns (bts p)) (hl : long c = 0) (ha : isAt (cells (bts p)) c.k = false) (hf : 220 < needs (cells (bts p)) + need c) : Calls Try.prog 33 #[.string p, .agg #[.string c.k, .string c.v]] w fun e w' => e = .returned (.tuple #[.string ⟨#[]⟩, .int .i64 7]) ∧ Below w.heap.size w w' := by
  have hTl : (bts p).length = 224 := h.right.head.len
  have hk0 : c.k.size ≤ 16 := long_k hl
  have hv0 : c.v.size ≤ 32 := long_v hl
  have CR : Hid (∀ w, Calls Try.prog 55 #[.string p, .agg #[.string c.k, .string c.v]] w fun e w' => e = .returned (.tuple #[pgV (bts p), .int .i64 0]) ∧ Below w.heap.size w w') := fun w => by
    have := rfc_ok w p c h
    rw [hl] at this; exact this
  have C2 : Hid (∀ w b, Sh w b (bts p) → Calls Try.prog 38 #[.pointer (some ⟨b, 0, none⟩), .string c.k] w fun e w' => e = .returned (.tuple #[.int .i64 (plc (cells (bts p)) c.k : Nat), .bool (isAt (cells (bts p)) c.k)]) ∧ Below w.heap.size w w') := fun w b h' => find_any w h' h.right c.k
  have hn := h.right.head.slotlt
  have hpl := plc_le (cells (bts p)) c.k
  rw [cells_length] at hpl
  have C3 : Hid (∀ w, Calls Try.prog 27 #[.agg #[.string c.k, .string c.v]] w fun e w' => e = .returned (.int .i64 (need c)) ∧ Below w.heap.size w w') := fun w => Need_any w c (by omega) (by omega)
  have hnd : need c ≤ 51 := by simp only [need]; omega
  have C4 : Hid (∀ w b, Sh w b (bts p) → Calls Try.prog 43 #[.pointer (some ⟨b, 0, none⟩)] w fun e w' => e = .returned (.int .i64 (rm (bts p) : Nat)) ∧ Below w.heap.size w w') := fun w b h' => room_any w h' h.right
  have hrm : (rm (bts p) : Int) < (need c : Int) := by rw [rm_turns h]; have := h.right.fit; omega
  rw [ha] at C2
  clear h hl ha hf
  generalize plc (cells (bts p)) c.k = i at *
  generalize rm (bts p) = r at *
  generalize bts p = T at *
  generalize need c = nd at *
  go_enter Try.func33, Try.ntmps33
  go_wp2_with (first | (refine wpList_box_cb _ rfl _ rfl rfl ?_; intro w0 b0 N0; have f0 := N0.cb.c0; have f1 := N0.cb.c1) | (go_at_call 55; refine (CR.out _).mono ?_; rintro e w2 ⟨rfl, hb2⟩) | (refine wpList_new_sh _ rfl rfl ?_; intro w3 b3 N3) | (refine wpList_put_sh _ rfl _ _ rfl rfl (t := T) rfl N3.sh hTl ?_; intro w4 P4; have hB4 : Cb w4 b0 c.k c.v := (N0.cb.below hb2).of_block (opened_at hb2 N3 P4 N0.cb.lt); have f0 := hB4.c0; have f1 := hB4.c1) | (go_at_call 38; refine (C2.out _ _ P4.sh).mono ?_; rintro e w5 ⟨rfl, hb5⟩; have hB5 := hB4.below hb5; have f0 := hB5.c0; have f1 := hB5.c1) | (go_at_call 27; refine (C3.out _).mono ?_; rintro e w6 ⟨rfl, hb6⟩; have hB6 := hB5.below hb6; have f0 := hB6.c0; have f1 := hB6.c1) | (go_at_call 43; refine (C4.out _ _ ((P4.sh.below hb5).below hb6)).mono ?_; rintro e w7 ⟨rfl, hb7⟩; have hB7 := hB6.below hb7; have f0 := hB7.c0; have f1 := hB7.c1))
  go_ret2
  exact ⟨rfl, thn (thn (thn (opened (thn N0.below hb2) N3 P4) hb5) hb6) hb7⟩
theorem Insert_ok (w : World) (p : ByteArray) (c : Cl) (h : Turns (bts p)) (hl : long c = 0) (ha : isAt (cells (bts p)) c.k = false) (hf : needs (cells (bts p)) + need c ≤ 220) : Calls Try.prog 33 #[.string p, .agg #[.string c.k, .string c.v]] w fun e w' => e = .returned (.tuple #[.string (tx (layS (bts p) (plc (cells (bts p)) c.k) c)), .int .i64 0]) ∧ Below w.heap.size w w' := by
  have hTl : (bts p).length = 224 := h.right.head.len
  have hk0 : c.k.size ≤ 16 := long_k hl
  have hv0 : c.v.size ≤ 32 := long_v hl
  have CR : Hid (∀ w, Calls Try.prog 55 #[.string p, .agg #[.string c.k, .string c.v]] w fun e w' => e = .returned (.tuple #[pgV (bts p), .int .i64 0]) ∧ Below w.heap.size w w') := fun w => by
    have := rfc_ok w p c h
    rw [hl] at this; exact this
  have C2 : Hid (∀ w b, Sh w b (bts p) → Calls Try.prog 38 #[.pointer (some ⟨b, 0, none⟩), .string c.k] w fun e w' => e = .returned (.tuple #[.int .i64 (plc (cells (bts p)) c.k : Nat), .bool (isAt (cells (bts p)) c.k)]) ∧ Below w.heap.size w w') := fun w b h' => find_any w h' h.right c.k
  have hn := h.right.head.slotlt
  have hpl := plc_le (cells (bts p)) c.k
  rw [cells_length] at hpl
  have C3 : Hid (∀ w, Calls Try.prog 27 #[.agg #[.string c.k, .string c.v]] w fun e w' => e = .returned (.int .i64 (need c)) ∧ Below w.heap.size w w') := fun w => Need_any w c (by omega) (by omega)
  have hnd : need c ≤ 51 := by simp only [need]; omega
  have C4 : Hid (∀ w b, Sh w b (bts p) → Calls Try.prog 43 #[.pointer (some ⟨b, 0, none⟩)] w fun e w' => e = .returned (.int .i64 (rm (bts p) : Nat)) ∧ Below w.heap.size w w') := fun w b h' => room_any w h' h.right
  have hrm : ¬ (rm (bts p) : Int) < (need c : Int) := by rw [rm_turns h]; have := h.right.fit; omega
  have hcl : CanLay (bts p) (plc (cells (bts p)) c.k) c := ⟨h.right, h.kind, hpl, hk0, hv0, hf⟩
  have C5 : Hid (∀ w b, Sh w b (bts p) → Calls Try.prog 48 #[.pointer (some ⟨b, 0, none⟩), .int .i64 (plc (cells (bts p)) c.k : Nat), .agg #[.string c.k, .string c.v]] w fun e w' => e = .returned (.tuple #[]) ∧ Put w w' b (layS (bts p) (plc (cells (bts p)) c.k) c)) := fun w b h' => lay_any w h' _ c hcl
  have C6 : Hid (∀ w b, Sh w b (layS (bts p) (plc (cells (bts p)) c.k) c) → Calls Try.prog 49 #[.pointer (some ⟨b, 0, none⟩)] w fun e w' => e = .returned (.string (tx (layS (bts p) (plc (cells (bts p)) c.k) c))) ∧ w' = w) := fun w b h' => text_any w h'
  rw [ha] at C2
  clear h hl ha hf hcl
  generalize layS (bts p) (plc (cells (bts p)) c.k) c = R at *
  generalize plc (cells (bts p)) c.k = i at *
  generalize rm (bts p) = r at *
  generalize bts p = T at *
  generalize need c = nd at *
  go_enter Try.func33, Try.ntmps33
  go_wp2_with (first | (refine wpList_box_cb _ rfl _ rfl rfl ?_; intro w0 b0 N0; have f0 := N0.cb.c0; have f1 := N0.cb.c1) | (go_at_call 55; refine (CR.out _).mono ?_; rintro e w2 ⟨rfl, hb2⟩) | (refine wpList_new_sh _ rfl rfl ?_; intro w3 b3 N3) | (refine wpList_put_sh _ rfl _ _ rfl rfl (t := T) rfl N3.sh hTl ?_; intro w4 P4; have hB4 : Cb w4 b0 c.k c.v := (N0.cb.below hb2).of_block (opened_at hb2 N3 P4 N0.cb.lt); have f0 := hB4.c0; have f1 := hB4.c1) | (go_at_call 38; refine (C2.out _ _ P4.sh).mono ?_; rintro e w5 ⟨rfl, hb5⟩; have hB5 := hB4.below hb5; have f0 := hB5.c0; have f1 := hB5.c1) | (go_at_call 27; refine (C3.out _).mono ?_; rintro e w6 ⟨rfl, hb6⟩; have hB6 := hB5.below hb6; have f0 := hB6.c0; have f1 := hB6.c1) | (go_at_call 43; refine (C4.out _ _ ((P4.sh.below hb5).below hb6)).mono ?_; rintro e w7 ⟨rfl, hb7⟩; have hB7 := hB6.below hb7; have f0 := hB7.c0; have f1 := hB7.c1) | (go_at_call 48; refine (C5.out _ _ (((P4.sh.below hb5).below hb6).below hb7)).mono ?_; rintro e w8 ⟨rfl, P8⟩) | (go_at_call 49; refine (C6.out _ _ P8.sh).mono ?_; rintro e w9 ⟨rfl, rfl⟩))
  go_ret2
  have hb := thn (thn (thn (opened (thn N0.below hb2) N3 P4) hb5) hb6) hb7
  have z0 := N0.below.size
  have z2 := hb2.size
  have z3 := N3.le
  exact ⟨rfl, hb.trans (P8.below (by omega) hb.size)⟩
theorem Update_full (w : World) (p : ByteArray) (c : Cl) (h : Turns (bts p)) (hl : long c = 0) (ha : isAt (cells (bts p)) c.k = true) (hf : 220 < needs (del (cells (bts p)) (plc (cells (bts p)) c.k)) + need c) : Calls Try.prog 36 #[.string p, .agg #[.string c.k, .string c.v]] w fun e w' => e = .returned (.tuple #[.string ⟨#[]⟩, .int .i64 7]) ∧ Below w.heap.size w w' := by
  have hTl : (bts p).length = 224 := h.right.head.len
  have hk0 : c.k.size ≤ 16 := long_k hl
  have hv0 : c.v.size ≤ 32 := long_v hl
  have CR : Hid (∀ w, Calls Try.prog 55 #[.string p, .agg #[.string c.k, .string c.v]] w fun e w' => e = .returned (.tuple #[pgV (bts p), .int .i64 0]) ∧ Below w.heap.size w w') := fun w => by
    have := rfc_ok w p c h
    rw [hl] at this; exact this
  have C2 : Hid (∀ w b, Sh w b (bts p) → Calls Try.prog 38 #[.pointer (some ⟨b, 0, none⟩), .string c.k] w fun e w' => e = .returned (.tuple #[.int .i64 (plc (cells (bts p)) c.k : Nat), .bool (isAt (cells (bts p)) c.k)]) ∧ Below w.heap.size w w') := fun w b h' => find_any w h' h.right c.k
  have hn := h.right.head.slotlt
  have hpl := plc_le (cells (bts p)) c.k
  rw [cells_length] at hpl
  have hlt : plc (cells (bts p)) c.k < cnt (bts p) := Decidable.byContradiction fun e => by rw [isAt_ge e] at ha; cases ha
  have hdr := drop_right h.right hlt
  have hdc := drop_cells h.right hlt
  have hdk : g (dropS (bts p) (plc (cells (bts p)) c.k)) 0 ≠ 0 := by rw [drop_low h.right hlt (by omega)]; exact h.kind
  have CD : Hid (∀ w b, Sh w b (bts p) → Calls Try.prog 52 #[.pointer (some ⟨b, 0, none⟩), .int .i64 (plc (cells (bts p)) c.k : Nat)] w fun e w' => e = .returned (.tuple #[]) ∧ Put w w' b (dropS (bts p) (plc (cells (bts p)) c.k))) := fun w b h' => drop_any w h' _ hlt hn
  have C3 : Hid (∀ w, Calls Try.prog 27 #[.agg #[.string c.k, .string c.v]] w fun e w' => e = .returned (.int .i64 (need c)) ∧ Below w.heap.size w w') := fun w => Need_any w c (by omega) (by omega)
  have hnd : need c ≤ 51 := by simp only [need]; omega
  have C4 : Hid (∀ w b, Sh w b (dropS (bts p) (plc (cells (bts p)) c.k)) → Calls Try.prog 43 #[.pointer (some ⟨b, 0, none⟩)] w fun e w' => e = .returned (.int .i64 (rm (dropS (bts p) (plc (cells (bts p)) c.k)) : Nat)) ∧ Below w.heap.size w w') := fun w b h' => room_any w h' hdr
  have hrm : (rm (dropS (bts p) (plc (cells (bts p)) c.k)) : Int) < (need c : Int) := by have := hdr.fit; rw [hdc] at this; rw [rm_turns ⟨hdr, hdk⟩, hdc]; omega
  rw [ha] at C2
  clear h hl ha hf hdr hdc hdk hlt
  generalize dropS (bts p) (plc (cells (bts p)) c.k) = D at *
  generalize rm D = r at *
  generalize plc (cells (bts p)) c.k = i at *
  generalize bts p = T at *
  generalize need c = nd at *
  go_enter Try.func36, Try.ntmps36
  go_wp2_with (first | (refine wpList_box_cb _ rfl _ rfl rfl ?_; intro w0 b0 N0; have f0 := N0.cb.c0; have f1 := N0.cb.c1) | (go_at_call 55; refine (CR.out _).mono ?_; rintro e w2 ⟨rfl, hb2⟩) | (refine wpList_new_sh _ rfl rfl ?_; intro w3 b3 N3) | (refine wpList_put_sh _ rfl _ _ rfl rfl (t := T) rfl N3.sh hTl ?_; intro w4 P4; have hB4 : Cb w4 b0 c.k c.v := (N0.cb.below hb2).of_block (opened_at hb2 N3 P4 N0.cb.lt); have f0 := hB4.c0; have f1 := hB4.c1) | (go_at_call 38; refine (C2.out _ _ P4.sh).mono ?_; rintro e w5 ⟨rfl, hb5⟩; have hB5 := hB4.below hb5; have f0 := hB5.c0; have f1 := hB5.c1) | (go_at_call 52; refine (CD.out _ _ (P4.sh.below hb5)).mono ?_; rintro e w10 ⟨rfl, P10⟩; have hB10 : Cb w10 b0 c.k c.v := hB5.off P10.off (by have := N0.cb.lt; have := hb2.size; have := N3.le; omega); have f0 := hB10.c0; have f1 := hB10.c1) | (go_at_call 27; refine (C3.out _).mono ?_; rintro e w6 ⟨rfl, hb6⟩; have hB6 := hB10.below hb6; have f0 := hB6.c0; have f1 := hB6.c1) | (go_at_call 43; refine (C4.out _ _ (P10.sh.below hb6)).mono ?_; rintro e w7 ⟨rfl, hb7⟩; have hB7 := hB6.below hb7; have f0 := hB7.c0; have f1 := hB7.c1))
  go_ret2
  have hb := thn (opened (thn N0.below hb2) N3 P4) hb5
  have z0 := N0.below.size
  have z2 := hb2.size
  have z3 := N3.le
  exact ⟨rfl, thn (thn (hb.trans (P10.below (by omega) hb.size)) hb6) hb7⟩
theorem Update_ok (w : World) (p : ByteArray) (c : Cl) (h : Turns (bts p)) (hl : long c = 0) (ha : isAt (cells (bts p)) c.k = true) (hf : needs (del (cells (bts p)) (plc (cells (bts p)) c.k)) + need c ≤ 220) : Calls Try.prog 36 #[.string p, .agg #[.string c.k, .string c.v]] w fun e w' => e = .returned (.tuple #[.string (tx (layS (dropS (bts p) (plc (cells (bts p)) c.k)) (plc (cells (bts p)) c.k) c)), .int .i64 0]) ∧ Below w.heap.size w w' := by
  have hTl : (bts p).length = 224 := h.right.head.len
  have hk0 : c.k.size ≤ 16 := long_k hl
  have hv0 : c.v.size ≤ 32 := long_v hl
  have CR : Hid (∀ w, Calls Try.prog 55 #[.string p, .agg #[.string c.k, .string c.v]] w fun e w' => e = .returned (.tuple #[pgV (bts p), .int .i64 0]) ∧ Below w.heap.size w w') := fun w => by
    have := rfc_ok w p c h
    rw [hl] at this; exact this
  have C2 : Hid (∀ w b, Sh w b (bts p) → Calls Try.prog 38 #[.pointer (some ⟨b, 0, none⟩), .string c.k] w fun e w' => e = .returned (.tuple #[.int .i64 (plc (cells (bts p)) c.k : Nat), .bool (isAt (cells (bts p)) c.k)]) ∧ Below w.heap.size w w') := fun w b h' => find_any w h' h.right c.k
  have hn := h.right.head.slotlt
  have hpl := plc_le (cells (bts p)) c.k
  rw [cells_length] at hpl
  have hlt : plc (cells (bts p)) c.k < cnt (bts p) := Decidable.byContradiction fun e => by rw [isAt_ge e] at ha; cases ha
  have hdr := drop_right h.right hlt
  have hdc := drop_cells h.right hlt
  have hdk : g (dropS (bts p) (plc (cells (bts p)) c.k)) 0 ≠ 0 := by rw [drop_low h.right hlt (by omega)]; exact h.kind
  have CD : Hid (∀ w b, Sh w b (bts p) → Calls Try.prog 52 #[.pointer (some ⟨b, 0, none⟩), .int .i64 (plc (cells (bts p)) c.k : Nat)] w fun e w' => e = .returned (.tuple #[]) ∧ Put w w' b (dropS (bts p) (plc (cells (bts p)) c.k))) := fun w b h' => drop_any w h' _ hlt hn
  have C3 : Hid (∀ w, Calls Try.prog 27 #[.agg #[.string c.k, .string c.v]] w fun e w' => e = .returned (.int .i64 (need c)) ∧ Below w.heap.size w w') := fun w => Need_any w c (by omega) (by omega)
  have hnd : need c ≤ 51 := by simp only [need]; omega
  have C4 : Hid (∀ w b, Sh w b (dropS (bts p) (plc (cells (bts p)) c.k)) → Calls Try.prog 43 #[.pointer (some ⟨b, 0, none⟩)] w fun e w' => e = .returned (.int .i64 (rm (dropS (bts p) (plc (cells (bts p)) c.k)) : Nat)) ∧ Below w.heap.size w w') := fun w b h' => room_any w h' hdr
  have hrm : ¬ (rm (dropS (bts p) (plc (cells (bts p)) c.k)) : Int) < (need c : Int) := by have := hdr.fit; rw [hdc] at this; rw [rm_turns ⟨hdr, hdk⟩, hdc]; omega
  have hcl : CanLay (dropS (bts p) (plc (cells (bts p)) c.k)) (plc (cells (bts p)) c.k) c := ⟨hdr, hdk, by rw [drop_cnt h.right hlt]; omega, hk0, hv0, by rw [hdc]; exact hf⟩
  have C5 : Hid (∀ w b, Sh w b (dropS (bts p) (plc (cells (bts p)) c.k)) → Calls Try.prog 48 #[.pointer (some ⟨b, 0, none⟩), .int .i64 (plc (cells (bts p)) c.k : Nat), .agg #[.string c.k, .string c.v]] w fun e w' => e = .returned (.tuple #[]) ∧ Put w w' b (layS (dropS (bts p) (plc (cells (bts p)) c.k)) (plc (cells (bts p)) c.k) c)) := fun w b h' => lay_any w h' _ c hcl
  have C6 : Hid (∀ w b, Sh w b (layS (dropS (bts p) (plc (cells (bts p)) c.k)) (plc (cells (bts p)) c.k) c) → Calls Try.prog 49 #[.pointer (some ⟨b, 0, none⟩)] w fun e w' => e = .returned (.string (tx (layS (dropS (bts p) (plc (cells (bts p)) c.k)) (plc (cells (bts p)) c.k) c))) ∧ w' = w) := fun w b h' => text_any w h'
  rw [ha] at C2
  clear h hl ha hf hdr hdc hdk hlt hcl
  generalize (layS (dropS (bts p) (plc (cells (bts p)) c.k)) (plc (cells (bts p)) c.k) c) = R at *
  generalize dropS (bts p) (plc (cells (bts p)) c.k) = D at *
  generalize rm D = r at *
  generalize plc (cells (bts p)) c.k = i at *
  generalize bts p = T at *
  generalize need c = nd at *
  go_enter Try.func36, Try.ntmps36
  go_wp2_with (first | (refine wpList_box_cb _ rfl _ rfl rfl ?_; intro w0 b0 N0; have f0 := N0.cb.c0; have f1 := N0.cb.c1) | (go_at_call 55; refine (CR.out _).mono ?_; rintro e w2 ⟨rfl, hb2⟩) | (refine wpList_new_sh _ rfl rfl ?_; intro w3 b3 N3) | (refine wpList_put_sh _ rfl _ _ rfl rfl (t := T) rfl N3.sh hTl ?_; intro w4 P4; have hB4 : Cb w4 b0 c.k c.v := (N0.cb.below hb2).of_block (opened_at hb2 N3 P4 N0.cb.lt); have f0 := hB4.c0; have f1 := hB4.c1) | (go_at_call 38; refine (C2.out _ _ P4.sh).mono ?_; rintro e w5 ⟨rfl, hb5⟩; have hB5 := hB4.below hb5; have f0 := hB5.c0; have f1 := hB5.c1) | (go_at_call 52; refine (CD.out _ _ (P4.sh.below hb5)).mono ?_; rintro e w10 ⟨rfl, P10⟩; have hB10 : Cb w10 b0 c.k c.v := hB5.off P10.off (by have := N0.cb.lt; have := hb2.size; have := N3.le; omega); have f0 := hB10.c0; have f1 := hB10.c1) | (go_at_call 27; refine (C3.out _).mono ?_; rintro e w6 ⟨rfl, hb6⟩; have hB6 := hB10.below hb6; have f0 := hB6.c0; have f1 := hB6.c1) | (go_at_call 43; refine (C4.out _ _ (P10.sh.below hb6)).mono ?_; rintro e w7 ⟨rfl, hb7⟩; have hB7 := hB6.below hb7; have f0 := hB7.c0; have f1 := hB7.c1) | (go_at_call 48; refine (C5.out _ _ ((P10.sh.below hb6).below hb7)).mono ?_; rintro e w8 ⟨rfl, P8⟩) | (go_at_call 49; refine (C6.out _ _ P8.sh).mono ?_; rintro e w9 ⟨rfl, rfl⟩))
  go_ret2
  have hb := thn (opened (thn N0.below hb2) N3 P4) hb5
  have z0 := N0.below.size
  have z2 := hb2.size
  have z3 := N3.le
  have hb' := thn (thn (hb.trans (P10.below (by omega) hb.size)) hb6) hb7
  exact ⟨rfl, hb'.trans (P8.below (by omega) hb'.size)⟩

theorem Delete_form (w : World) (p x : ByteArray) (hz : p.size ≤ 140737488351232) (h : ¬ Turns (bts p)) : Calls Try.prog 29 #[.string p, .string x] w fun e w' => e = .returned (.tuple #[.string ⟨#[]⟩, .int .i64 4]) ∧ Below w.heap.size w w' := by
  have hTl := zs_length
  have CR : Hid (∀ w, Calls Try.prog 51 #[.string p] w fun e w' => e = .returned (.tuple #[pgV zs, .int .i64 4]) ∧ Below w.heap.size w w') := fun w => rft_no w p hz h
  clear h
  go_enter Try.func29, Try.ntmps29
  go_wp2_with (first | (go_at_call 51; refine (CR.out _).mono ?_; rintro e w2 ⟨rfl, hb2⟩) | (refine wpList_new_sh _ rfl rfl ?_; intro w3 b3 N3) | (refine wpList_put_sh _ rfl _ _ rfl rfl (t := zs) rfl N3.sh hTl ?_; intro w4 P4))
  go_ret2
  exact ⟨rfl, opened hb2 N3 P4⟩
theorem Delete_none (w : World) (p x : ByteArray) (h : Turns (bts p)) (ha : isAt (cells (bts p)) x = false) : Calls Try.prog 29 #[.string p, .string x] w fun e w' => e = .returned (.tuple #[.string ⟨#[]⟩, .int .i64 8]) ∧ Below w.heap.size w w' := by
  have hTl : (bts p).length = 224 := h.right.head.len
  have CR : Hid (∀ w, Calls Try.prog 51 #[.string p] w fun e w' => e = .returned (.tuple #[pgV (bts p), .int .i64 0]) ∧ Below w.heap.size w w') := fun w => rft_ok w p h
  have C2 : Hid (∀ w b, Sh w b (bts p) → Calls Try.prog 38 #[.pointer (some ⟨b, 0, none⟩), .string x] w fun e w' => e = .returned (.tuple #[.int .i64 (plc (cells (bts p)) x : Nat), .bool (isAt (cells (bts p)) x)]) ∧ Below w.heap.size w w') := fun w b h' => find_any w h' h.right x
  have hn := h.right.head.slotlt
  have hpl := plc_le (cells (bts p)) x
  rw [cells_length] at hpl
  rw [ha] at C2
  clear h ha
  generalize plc (cells (bts p)) x = i at *
  generalize bts p = T at *
  go_enter Try.func29, Try.ntmps29
  go_wp2_with (first | (go_at_call 51; refine (CR.out _).mono ?_; rintro e w2 ⟨rfl, hb2⟩) | (refine wpList_new_sh _ rfl rfl ?_; intro w3 b3 N3) | (refine wpList_put_sh _ rfl _ _ rfl rfl (t := T) rfl N3.sh hTl ?_; intro w4 P4) | (go_at_call 38; refine (C2.out _ _ P4.sh).mono ?_; rintro e w5 ⟨rfl, hb5⟩))
  go_ret2
  exact ⟨rfl, thn (opened hb2 N3 P4) hb5⟩
theorem Delete_ok (w : World) (p x : ByteArray) (h : Turns (bts p)) (ha : isAt (cells (bts p)) x = true) : Calls Try.prog 29 #[.string p, .string x] w fun e w' => e = .returned (.tuple #[.string (tx (dropS (bts p) (plc (cells (bts p)) x))), .int .i64 0]) ∧ Below w.heap.size w w' := by
  have hTl : (bts p).length = 224 := h.right.head.len
  have CR : Hid (∀ w, Calls Try.prog 51 #[.string p] w fun e w' => e = .returned (.tuple #[pgV (bts p), .int .i64 0]) ∧ Below w.heap.size w w') := fun w => rft_ok w p h
  have C2 : Hid (∀ w b, Sh w b (bts p) → Calls Try.prog 38 #[.pointer (some ⟨b, 0, none⟩), .string x] w fun e w' => e = .returned (.tuple #[.int .i64 (plc (cells (bts p)) x : Nat), .bool (isAt (cells (bts p)) x)]) ∧ Below w.heap.size w w') := fun w b h' => find_any w h' h.right x
  have hn := h.right.head.slotlt
  have hpl := plc_le (cells (bts p)) x
  rw [cells_length] at hpl
  have hlt : plc (cells (bts p)) x < cnt (bts p) := Decidable.byContradiction fun e => by rw [isAt_ge e] at ha; cases ha
  have CD : Hid (∀ w b, Sh w b (bts p) → Calls Try.prog 52 #[.pointer (some ⟨b, 0, none⟩), .int .i64 (plc (cells (bts p)) x : Nat)] w fun e w' => e = .returned (.tuple #[]) ∧ Put w w' b (dropS (bts p) (plc (cells (bts p)) x))) := fun w b h' => drop_any w h' _ hlt hn
  have C6 : Hid (∀ w b, Sh w b (dropS (bts p) (plc (cells (bts p)) x)) → Calls Try.prog 49 #[.pointer (some ⟨b, 0, none⟩)] w fun e w' => e = .returned (.string (tx (dropS (bts p) (plc (cells (bts p)) x)))) ∧ w' = w) := fun w b h' => text_any w h'
  rw [ha] at C2
  clear h ha hlt
  generalize dropS (bts p) (plc (cells (bts p)) x) = D at *
  generalize plc (cells (bts p)) x = i at *
  generalize bts p = T at *
  go_enter Try.func29, Try.ntmps29
  go_wp2_with (first | (go_at_call 51; refine (CR.out _).mono ?_; rintro e w2 ⟨rfl, hb2⟩) | (refine wpList_new_sh _ rfl rfl ?_; intro w3 b3 N3) | (refine wpList_put_sh _ rfl _ _ rfl rfl (t := T) rfl N3.sh hTl ?_; intro w4 P4) | (go_at_call 38; refine (C2.out _ _ P4.sh).mono ?_; rintro e w5 ⟨rfl, hb5⟩) | (go_at_call 52; refine (CD.out _ _ (P4.sh.below hb5)).mono ?_; rintro e w8 ⟨rfl, P8⟩) | (go_at_call 49; refine (C6.out _ _ P8.sh).mono ?_; rintro e w9 ⟨rfl, rfl⟩))
  go_ret2
  have hb := thn (opened hb2 N3 P4) hb5
  have z2 := hb2.size
  have z3 := N3.le
  exact ⟨rfl, hb.trans (P8.below (by omega) hb.size)⟩
end Go.Proofs.Ytmoognjegjeegaa
