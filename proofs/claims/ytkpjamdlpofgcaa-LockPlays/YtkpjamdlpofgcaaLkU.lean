/- A table in memory: New, Has, Ask, Drop, All, Count, Key, Range. -/
import Derived.Test.YtkpjamdlpofgcaaLkT
import Derived.Deep.RegionLaw
import Derived.BigRegion
namespace Go.Proofs.Ytkpjamdlpofgcaa
open Go.RowKit
set_option linter.unusedVariables false
set_option linter.unusedSimpArgs false
set_option maxRecDepth 100000

structure TbIs (B : Nat) (w : World) (tb : Nat) (v : Value) (L : List Hd) (n : Int) : Prop where
  blk : w.heap[tb]? = some (.cells #[v, .int .i64 n] 53)
  hs : Hs B w v L
  ge : B ≤ tb
section
variable {B tb : Nat} {w w' : World} {v : Value} {L : List Hd} {n : Int}
theorem TbIs.c0 (h : TbIs B w tb v L n) : w.cell? ⟨tb, 0, none⟩ = some v := Joins.cell_of_block h.blk 0
theorem TbIs.c1 (h : TbIs B w tb v L n) : w.cell? ⟨tb, 1, none⟩ = some (.int .i64 n) := Joins.cell_of_block h.blk 1
theorem TbIs.f (h : TbIs B w tb v L n) (i : Nat) : w.frozen? ⟨tb, i, none⟩ = false := Joins.unfrozen_of_block h.blk i
theorem TbIs.lt (h : TbIs B w tb v L n) : tb < w.heap.size := (Array.getElem?_eq_some_iff.1 h.blk).1
theorem TbIs.bel (h : TbIs B w tb v L n) (hb : Below w.heap.size w w') : TbIs B w' tb v L n := ⟨(hb.block tb h.lt).trans h.blk, h.hs.bel hb, h.ge⟩
theorem TbIs.apart (h : TbIs B w tb v L n) : v.ownBlock ≠ some tb := fun e => by
  obtain ⟨_, _, cur, hc⟩ := h.hs.blkAt e
  rw [h.blk] at hc
  simp at hc
end
section
variable {B tb : Nat} {w w' : World} {a : Option Addr} {c : Nat} {L : List Hd} {n : Int}
theorem New_any (w : World) : Calls Try.prog 16 #[] w fun e w' => e = .returned (.pointer (some ⟨w.heap.size, 0, none⟩)) ∧ TbIs w.heap.size w' w.heap.size (.slice none 0 0) [] 0 ∧ Below w.heap.size w w' := by
  go_enter Try.func16, Try.ntmps16
  go_wp2
  go_ret
  exact ⟨rfl, ⟨(MapKept.heap_alloc w _).1, Hs.nil _ _, Nat.le_refl _⟩, bl1 _⟩
theorem Count_any {v : Value} (h : TbIs B w tb v L n) : Calls Try.prog 27 #[.pointer (some ⟨tb, 0, none⟩)] w fun e w' => e = .returned (.int .i64 n) ∧ w' = w := by
  have c1 := h.c1
  clear h
  go_enter Try.func27, Try.ntmps27
  go_wp2
  go_ret
  exact ⟨rfl, rfl⟩
theorem prHas (w : World) {hb : Nat} {h : Hd} (hh : HdAt w hb h) : Pr w 36 hb (fun g => enoM g h) where
  eg := fun args w => by kernel_rfl
  tells := fun wx x hbel => by
    have R : Hid (∀ wx, Calls Try.prog 37 #[.agg x.A, .agg h.A] wx fun e w' => e = .returned (.bool (enoM x h)) ∧ Below wx.heap.size wx w') := fun wx => enough_any wx x h
    have H : Hid (HdAt wx hb h) := hh.bel hbel
    generalize enoM x h = q at *
    go_enter Try.func36, Try.ntmps36
    go_wp2_with first
      | (refine wpList_box_hd (n := x) _ rfl _ rfl rfl ?_; intro w0 b0 N0)
      | (refine wpList_load_hd (n := x) _ rfl (.tmp 2) rfl rfl N0.hd ?_)
      | (refine wpList_load_hd (n := h) _ rfl (.tmp 1) rfl rfl (H.out.bel N0.below) ?_)
      | (go_at_call 37; refine (R.out _).mono ?_; rintro e w2 ⟨rfl, q2⟩)
    go_ret
    exact ⟨rfl, thn N0.below q2⟩
theorem prAsk (w : World) {hb : Nat} {h : Hd} (hh : HdAt w hb h) : Pr w 39 hb (fun g => barM g h) where
  eg := fun args w => by kernel_rfl
  tells := fun wx x hbel => by
    have R : Hid (∀ wx, Calls Try.prog 13 #[.agg x.A, .agg h.A] wx fun e w' => e = .returned (.bool (barM x h)) ∧ Below wx.heap.size wx w') := fun wx => bar_any wx x h
    have H : Hid (HdAt wx hb h) := hh.bel hbel
    generalize barM x h = q at *
    go_enter Try.func39, Try.ntmps39
    go_wp2_with first
      | (refine wpList_box_hd (n := x) _ rfl _ rfl rfl ?_; intro w0 b0 N0)
      | (refine wpList_load_hd (n := x) _ rfl (.tmp 2) rfl rfl N0.hd ?_)
      | (refine wpList_load_hd (n := h) _ rfl (.tmp 1) rfl rfl (H.out.bel N0.below) ?_)
      | (go_at_call 13; refine (R.out _).mono ?_; rintro e w2 ⟨rfl, q2⟩)
    go_ret
    exact ⟨rfl, thn N0.below q2⟩
theorem prWho (w : World) {hb : Nat} {h : Hd} (hh : HdAt w hb h) : Pr w 34 hb (fun g => barM g h) where
  eg := fun args w => by kernel_rfl
  tells := fun wx x hbel => by
    have R : Hid (∀ wx, Calls Try.prog 13 #[.agg x.A, .agg h.A] wx fun e w' => e = .returned (.bool (barM x h)) ∧ Below wx.heap.size wx w') := fun wx => bar_any wx x h
    have H : Hid (HdAt wx hb h) := hh.bel hbel
    generalize barM x h = q at *
    go_enter Try.func34, Try.ntmps34
    go_wp2_with first
      | (refine wpList_box_hd (n := x) _ rfl _ rfl rfl ?_; intro w0 b0 N0)
      | (refine wpList_load_hd (n := x) _ rfl (.tmp 2) rfl rfl N0.hd ?_)
      | (refine wpList_load_hd (n := h) _ rfl (.tmp 1) rfl rfl (H.out.bel N0.below) ?_)
      | (go_at_call 13; refine (R.out _).mono ?_; rintro e w2 ⟨rfl, q2⟩)
    go_ret
    exact ⟨rfl, thn N0.below q2⟩
theorem prDrop (w : World) {hb : Nat} {x : Int} (hl : hb < w.heap.size) (hh : w.cell? ⟨hb, 0, none⟩ = some (.int .i64 x)) : Pr w 33 hb (fun g => !decide (g.x = x)) where
  eg := fun args w => by kernel_rfl
  tells := fun wx y hbel => by
    have hc : wx.cell? ⟨hb, 0, none⟩ = some (.int .i64 x) := (hbel.cell (p := ⟨hb, 0, none⟩) hl).trans hh
    have hlx : Hid (hb < wx.heap.size) := Nat.lt_of_lt_of_le hl hbel.size
    go_enter Try.func33, Try.ntmps33
    go_wp2_with first
      | (refine wpList_box_hd (n := y) _ rfl _ rfl rfl ?_; intro w0 b0 N0; have k0 := N0.hd.c0; have k1 : w0.cell? ⟨hb, 0, none⟩ = some (.int .i64 x) := (N0.below.cell (p := ⟨hb, 0, none⟩) hlx.out).trans hc)
    go_ret
    exact ⟨by simp [bne, BEq.beq], N0.below⟩
theorem Has_any (hT : TbIs B w tb (.slice a L.length c) L n) (hl : L.length ≤ 90000) (h : Hd) : Calls Try.prog 22 #[.pointer (some ⟨tb, 0, none⟩), .agg h.A] w fun e w' => e = .returned (.bool (L.any (fun g => enoM g h))) ∧ Below w.heap.size w w' := by
  have C : Hid (∀ wx hb, HdAt wx hb h → TbIs B wx tb (.slice a L.length c) L n → Calls Try.prog 35 #[.slice a L.length c, .func (.func 36) #[] #[.pointer (some ⟨hb, 0, none⟩)]] wx fun e w' => e = .returned (.bool (L.any (fun g => enoM g h))) ∧ Below wx.heap.size wx w') := fun wx hb h1 h2 => ContainsFunc_any h2.hs hl (prHas wx h1)
  have T : Hid (TbIs B w tb (.slice a L.length c) L n) := hT
  clear hT
  generalize L.any (fun g => enoM g h) = q at *
  go_enter Try.func22, Try.ntmps22
  go_wp2_with first
    | (refine wpList_box_hd (n := h) _ rfl _ rfl rfl ?_; intro w0 b0 N0; have c0 := (T.out.bel N0.below).c0)
    | (go_at_call 35; refine (C.out _ _ N0.hd (T.out.bel N0.below)).mono ?_; rintro e w2 ⟨rfl, q2⟩)
  go_ret
  exact ⟨rfl, thn N0.below q2⟩
end
end Go.Proofs.Ytkpjamdlpofgcaa
