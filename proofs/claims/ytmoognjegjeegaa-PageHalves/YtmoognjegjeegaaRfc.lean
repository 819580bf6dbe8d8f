/- Pages that are turned: readForTurn, readForCell, Insert, Delete, Update. -/
import Derived.Test.YtmoognjegjeegaaLay
namespace Go.Proofs.Ytmoognjegjeegaa
open Go.RowKit
set_option linter.unusedVariables false
set_option linter.unusedSimpArgs false
set_option maxRecDepth 100000

/-- Bytes that are a page which may be turned. -/
structure Turns (s : List UInt8) : Prop where
  right : Right s
  kind : g s 0 ≠ 0

theorem rft_ok (w : World) (p : ByteArray) (h : Turns (bts p)) : Calls Try.prog 51 #[.string p] w fun e w' => e = .returned (.tuple #[pgV (bts p), .int .i64 0]) ∧ Below w.heap.size w w' := by
  have hTl : (bts p).length = 224 := h.right.head.len
  have CR : Hid (∀ w, Calls Try.prog 37 #[.string p] w fun e w' => e = .returned (.tuple #[pgV (bts p), .bool true]) ∧ Below w.heap.size w w') := fun w => read_right w p h.right
  have C2 : Hid (∀ w b, Sh w b (bts p) → Calls Try.prog 41 #[.pointer (some ⟨b, 0, none⟩)] w fun e w' => e = .returned (.int .i64 (g (bts p) 0 : Nat)) ∧ w' = w) := fun w b h' => kind_any w h'
  have hk : ((g (bts p) 0 : Int) == 0) = false := by have := h.kind; simp; omega
  clear h
  generalize bts p = T at *
  generalize g T 0 = k0 at *
  go_enter Try.func51, Try.ntmps51
  go_wp2_with (first | (refine wpList_new_sh _ rfl rfl ?_; first | (have := N1; intro w3 b3 N3) | (intro w1 b1 N1)) | (go_at_call 37; refine (CR.out _).mono ?_; rintro e w2 ⟨rfl, hb2⟩) | (refine wpList_put_sh _ rfl (.tmp 4) _ rfl rfl (t := T) rfl N3.sh hTl ?_; intro w4 P4) | (go_at_call 41; refine (C2.out _ _ P4.sh).mono ?_; rintro e w' ⟨rfl, rfl⟩) | (refine wpList_load_sh _ rfl _ rfl _ rfl T P4.sh ?_) | (refine wpList_put_sh _ rfl (.tmp 2) _ rfl rfl (t := T) rfl (((N1.sh.below hb2).below N3.below).off P4.off ?_) hTl ?_; intro e; have z1 := N1.sh.lt; have z2 := N3.le; have z3 := hb2.size; omega; intro w5 P5))
  refine bodyPost_ret (results_row_tmp rfl _ _ b1 63 (pgA T) (0, 0) _ rfl P5.sh.blk row_sheet rfl (info_pg hTl)) rfl ?_
  have hb := opened (thn N1.below hb2) N3 P4
  exact ⟨rfl, hb.trans (P5.below N1.le hb.size)⟩
theorem rft_no (w : World) (p : ByteArray) (hz : p.size ≤ 140737488351232) (h : ¬ Turns (bts p)) : Calls Try.prog 51 #[.string p] w fun e w' => e = .returned (.tuple #[pgV zs, .int .i64 4]) ∧ Below w.heap.size w w' := by
  have hZl := zs_length
  by_cases hr : Right (bts p)
  · have hk0 : g (bts p) 0 = 0 := Decidable.byContradiction fun e => h ⟨hr, e⟩
    have hTl : (bts p).length = 224 := hr.head.len
    have CR : Hid (∀ w, Calls Try.prog 37 #[.string p] w fun e w' => e = .returned (.tuple #[pgV (bts p), .bool true]) ∧ Below w.heap.size w w') := fun w => read_right w p hr
    have C2 : Hid (∀ w b, Sh w b (bts p) → Calls Try.prog 41 #[.pointer (some ⟨b, 0, none⟩)] w fun e w' => e = .returned (.int .i64 (g (bts p) 0 : Nat)) ∧ w' = w) := fun w b h' => kind_any w h'
    have hk : ((g (bts p) 0 : Int) == 0) = true := by simp; omega
    clear h hr hk0
    generalize bts p = T at *
    generalize g T 0 = k0 at *
    go_enter Try.func51, Try.ntmps51
    go_wp2_with (first | (refine wpList_new_sh _ rfl rfl ?_; first | (have := N1; intro w3 b3 N3) | (intro w1 b1 N1)) | (go_at_call 37; refine (CR.out _).mono ?_; rintro e w2 ⟨rfl, hb2⟩) | (refine wpList_put_sh _ rfl (.tmp 4) _ rfl rfl (t := T) rfl N3.sh hTl ?_; intro w4 P4) | (go_at_call 41; refine (C2.out _ _ P4.sh).mono ?_; rintro e w' ⟨rfl, rfl⟩) | (refine wpList_put_sh _ rfl (.tmp 2) _ rfl rfl (t := zs) zero63 (((N1.sh.below hb2).below N3.below).off P4.off ?_) hZl ?_; intro e; have z1 := N1.sh.lt; have z2 := N3.le; have z3 := hb2.size; omega; intro w5 P5))
    refine bodyPost_ret (results_row_tmp rfl _ _ b1 63 (pgA zs) (0, 0) _ rfl P5.sh.blk row_sheet rfl (info_pg hZl)) rfl ?_
    have hb := opened (thn N1.below hb2) N3 P4
    exact ⟨rfl, hb.trans (P5.below N1.le hb.size)⟩
  · have CR : Hid (∀ w, Calls Try.prog 37 #[.string p] w fun e w' => e = .returned (.tuple #[pgV zs, .bool false]) ∧ Below w.heap.size w w') := fun w => read_wrong w p hz hr
    clear h hr
    go_enter Try.func51, Try.ntmps51
    go_wp2_with (first | (refine wpList_new_sh _ rfl rfl ?_; first | (have := N1; intro w3 b3 N3) | (intro w1 b1 N1)) | (go_at_call 37; refine (CR.out _).mono ?_; rintro e w2 ⟨rfl, hb2⟩) | (refine wpList_put_sh _ rfl (.tmp 4) _ rfl rfl (t := zs) rfl N3.sh hZl ?_; intro w4 P4) | (refine wpList_put_sh _ rfl (.tmp 2) _ rfl rfl (t := zs) zero63 (((N1.sh.below hb2).below N3.below).off P4.off ?_) hZl ?_; intro e; have z1 := N1.sh.lt; have z2 := N3.le; have z3 := hb2.size; omega; intro w5 P5))
    refine bodyPost_ret (results_row_tmp rfl _ _ b1 63 (pgA zs) (0, 0) _ rfl P5.sh.blk row_sheet rfl (info_pg hZl)) rfl ?_
    have hb := opened (thn N1.below hb2) N3 P4
    exact ⟨rfl, hb.trans (P5.below N1.le hb.size)⟩
theorem rfc_ok (w : World) (p : ByteArray) (c : Cl) (h : Turns (bts p)) : Calls Try.prog 55 #[.string p, .agg #[.string c.k, .string c.v]] w fun e w' => e = .returned (.tuple #[pgV (bts p), .int .i64 (long c)]) ∧ Below w.heap.size w w' := by
  have hTl : (bts p).length = 224 := h.right.head.len
  have CR : Hid (∀ w, Calls Try.prog 51 #[.string p] w fun e w' => e = .returned (.tuple #[pgV (bts p), .int .i64 0]) ∧ Below w.heap.size w w') := fun w => rft_ok w p h
  have C2 : Hid (∀ w, Calls Try.prog 47 #[.agg #[.string c.k, .string c.v]] w fun e w' => e = .returned (.int .i64 (long c)) ∧ Below w.heap.size w w') := fun w => tooLong_any w c
  clear h
  generalize bts p = T at *
  generalize long c = le at *
  go_enter Try.func55, Try.ntmps55
  go_wp2_with (first | (refine wpList_box_cb _ rfl _ rfl rfl ?_; intro w0 b0 N0) | (refine wpList_new_sh _ rfl rfl ?_; first | (have := N1; intro w3 b3 N3) | (intro w1 b1 N1)) | (go_at_call 51; refine (CR.out _).mono ?_; rintro e w2 ⟨rfl, hb2⟩) | (refine wpList_put_sh _ rfl (.tmp 6) _ rfl rfl (t := T) rfl N3.sh hTl ?_; intro w4 P4; have hB4 : Cb w4 b0 c.k c.v := ((N0.cb.below N1.below).below hb2).of_block (opened_at hb2 N3 P4 (by have := N1.below.size; have := N0.cb.lt; omega)); have f0 := hB4.c0; have f1 := hB4.c1) | (go_at_call 47; refine (C2.out _).mono ?_; rintro e w6 ⟨rfl, hb6⟩) | (refine wpList_load_sh _ rfl _ rfl _ rfl T (P4.sh.below hb6) ?_) | (refine wpList_put_sh _ rfl (.tmp 4) _ rfl rfl (t := T) rfl ((((N1.sh.below hb2).below N3.below).off P4.off ?_).below hb6) hTl ?_; intro e; have z1 := N1.sh.lt; have z2 := N3.le; have z3 := hb2.size; omega; intro w5 P5))
  refine bodyPost_ret (results_row_tmp rfl _ _ b1 63 (pgA T) (0, 0) _ rfl P5.sh.blk row_sheet rfl (info_pg hTl)) rfl ?_
  have hb := thn (opened (thn (thn N0.below N1.below) hb2) N3 P4) hb6
  have z0 := N0.below.size
  have z1 := N1.le
  exact ⟨rfl, hb.trans (P5.below (by omega) hb.size)⟩
theorem rfc_no (w : World) (p : ByteArray) (c : Cl) (hz : p.size ≤ 140737488351232) (h : ¬ Turns (bts p)) : Calls Try.prog 55 #[.string p, .agg #[.string c.k, .string c.v]] w fun e w' => e = .returned (.tuple #[pgV zs, .int .i64 4]) ∧ Below w.heap.size w w' := by
  have hTl := zs_length
  have CR : Hid (∀ w, Calls Try.prog 51 #[.string p] w fun e w' => e = .returned (.tuple #[pgV zs, .int .i64 4]) ∧ Below w.heap.size w w') := fun w => rft_no w p hz h
  clear h
  go_enter Try.func55, Try.ntmps55
  go_wp2_with (first | (refine wpList_box_cb _ rfl _ rfl rfl ?_; intro w0 b0 N0) | (refine wpList_new_sh _ rfl rfl ?_; first | (have := N1; intro w3 b3 N3) | (intro w1 b1 N1)) | (go_at_call 51; refine (CR.out _).mono ?_; rintro e w2 ⟨rfl, hb2⟩) | (refine wpList_put_sh _ rfl (.tmp 6) _ rfl rfl (t := zs) rfl N3.sh hTl ?_; intro w4 P4) | (refine wpList_load_sh _ rfl _ rfl _ rfl zs P4.sh ?_) | (refine wpList_put_sh _ rfl (.tmp 4) _ rfl rfl (t := zs) rfl (((N1.sh.below hb2).below N3.below).off P4.off ?_) hTl ?_; intro e; have z1 := N1.sh.lt; have z2 := N3.le; have z3 := hb2.size; omega; intro w5 P5))
  refine bodyPost_ret (results_row_tmp rfl _ _ b1 63 (pgA zs) (0, 0) _ rfl P5.sh.blk row_sheet rfl (info_pg hTl)) rfl ?_
  have hb := opened (thn (thn N0.below N1.below) hb2) N3 P4
  have z0 := N0.below.size
  have z1 := N1.le
  exact ⟨rfl, hb.trans (P5.below (by omega) hb.size)⟩
end Go.Proofs.Ytmoognjegjeegaa
