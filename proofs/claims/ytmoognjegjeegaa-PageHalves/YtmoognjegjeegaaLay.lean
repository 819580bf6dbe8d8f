/- A page that is packed, and a cell that is laid: packed, lay. -/
import Derived.Test.YtmoognjegjeegaaWrt
import Derived.Test.YtmoognjegjeegaaMath
import Derived.Deep.RegionHeld3
namespace Go.Proofs.Ytmoognjegjeegaa
open Go.RowKit
set_option linter.unusedVariables false
set_option linter.unusedSimpArgs false
set_option maxRecDepth 100000

theorem CanPack.small {k l : Nat} {L : List Cl} (h : CanPack k l L) : Small L := by
  have h1 := three_le L
  have h2 := h.fit
  exact ⟨by omega, h.ks, h.vs⟩
theorem CanPack.take {k l : Nat} {L : List Cl} (h : CanPack k l L) (n : Nat) : CanPack k l (L.take n) :=
  ⟨h.hk, h.hl, h.kl, fun e => by rw [h.free e]; simp, fun c hc => h.ks c (List.mem_of_mem_take hc), fun c hc => h.vs c (List.mem_of_mem_take hc), List.Pairwise.sublist (List.take_sublist _ _) h.ris, Nat.le_trans (needs_take_le _ _) h.fit⟩
theorem CanPack.drop {k l : Nat} {L : List Cl} (h : CanPack k l L) (n : Nat) : CanPack k l (L.drop n) :=
  ⟨h.hk, h.hl, h.kl, fun e => by rw [h.free e]; simp, fun c hc => h.ks c (List.mem_of_mem_drop hc), fun c hc => h.vs c (List.mem_of_mem_drop hc), List.Pairwise.sublist (List.drop_sublist _ _) h.ris, by have := h.fit; have := needs_split L n; omega⟩

set_option maxHeartbeats 1000000 in
theorem packed_any (w : World) (k l : Nat) {a : Option Addr} {L : List Cl} (cap : Nat) (hC : Cs w a L) (h : CanPack k l L) : Calls Try.prog 54 #[.int .i64 (k : Int), .int .i64 (l : Int), .slice a L.length cap] w fun e w' => e = .returned (pgV (packS k l L)) ∧ Below w.heap.size w w' := by
  have h1 := h.hk
  have h2 := h.hl
  have hsm := h.small
  have hln := hsm.len
  have C1 : Hid (∀ w, Calls Try.prog 46 #[.int .i64 (k : Int), .int .i64 (l : Int)] w fun e w' => e = .returned (pgV (blankS k l)) ∧ Below w.heap.size w w') := fun w => blank_any w k l (by omega) (by omega)
  have HP : Hid (∀ n, Packed k l (L.take n) (packS k l (L.take n))) := (fun n => packed_all _ (h.take n) : ∀ n, Packed k l (L.take n) (packS k l (L.take n)))
  have HL : Hid ((packS k l L).length = 224) := (packed_all L h).right.head.len
  have HQ : Hid (∀ n (hn : n < L.length) w b, Sh w b (packS k l (L.take n)) → Calls Try.prog 64 #[.pointer (some ⟨b, 0, none⟩), .int .i64 (n : Int), .agg #[.string L[n].k, .string L[n].v]] w fun e w' => e = .returned (.tuple #[]) ∧ Put w w' b (packS k l (L.take (n + 1)))) := (fun n hn w b hS => by
    have hp := packed_all _ (h.take n)
    have e : L.take (n + 1) = L.take n ++ [L[n]] := List.take_succ_eq_append_getElem hn
    have hc := h.take (n + 1)
    rw [e] at hc ⊢
    have hcp := hp.canPut hc
    have hcn : cnt (packS k l (L.take n)) = n := by rw [← cells_length, hp.cells, List.length_take]; omega
    have := put_any w hS (cnt (packS k l (L.take n))) L[n] (Nat.le_refl _) hp.right.head.en4 hcp.k hcp.v hcp.room
    rw [packS_snoc]
    rw [hcn] at this ⊢
    exact this : ∀ n (hn : n < L.length) w b, Sh w b (packS k l (L.take n)) → Calls Try.prog 64 #[.pointer (some ⟨b, 0, none⟩), .int .i64 (n : Int), .agg #[.string L[n].k, .string L[n].v]] w fun e w' => e = .returned (.tuple #[]) ∧ Put w w' b (packS k l (L.take (n + 1))))
  have H : Hid _ := h
  clear h
  go_enter Try.func54, Try.ntmps54
  go_wp2_with (first | (refine wpList_new_sh _ rfl rfl ?_; first | (have := N1; intro w3 b3 N3) | (intro w1 b1 N1)) | (go_at_call 46; refine (C1.out _).mono ?_; rintro e w2 ⟨rfl, hb2⟩) | (refine wpList_put_sh _ rfl _ _ rfl rfl (t := blankS k l) rfl N3.sh (blankS_length k l) ?_; intro w4 P4))
  have hb4 : Below w.heap.size w w4 := opened (thn N1.below hb2) N3 P4
  have hne : b1 ≠ b3 := by
    have := N1.sh.lt
    have := hb2.size
    have := N3.le
    omega
  have hS1 : Sh w4 b1 zs := ((N1.sh.below hb2).below N3.below).off P4.off hne
  have hb3 : w.heap.size ≤ b3 := by
    have := N1.below.size
    have := hb2.size
    have := N3.le
    omega
  go_loopw [15] (fun kv wr => ∃ i : Nat, kv = .int .i64 (i : Int) ∧ i ≤ L.length ∧ Sh wr b3 (packS k l (L.take i)) ∧ Sh wr b1 zs ∧ Below w.heap.size w wr) (fun kv _ => L.length - (intOf kv).toNat)
  case atStart => exact ⟨0, rfl, Nat.zero_le _, by rw [List.take_zero]; exact P4.sh, hS1, hb4⟩
  case round =>
    obtain ⟨i, rfl, hi, hS, hZ, hbel⟩ := hrel
    by_cases hlt : i < L.length
    · have hltI : (i : Int) < (L.length : Int) := by omega
      obtain ⟨bb, off, rfl, hb, c0, c1⟩ := hC.at' hbel hlt
      have HP1 : Hid _ := HQ.out i hlt
      have HS : Hid _ := hS
      have HZ : Hid _ := hZ
      clear hS hZ
      generalize L[i] = c at *
      go_wp2_with (go_at_call 64; refine (HP1.out _ _ (HS.out.alloc _)).mono ?_; rintro e w5 ⟨rfl, P5⟩)
      go_roundw
      case rel =>
        have z := hbel.size
        exact ⟨i + 1, by go_num, by omega, P5.sh, (HZ.out.alloc _).off P5.off hne, (thnA hbel _).trans (P5.below hb3 (by simp; omega))⟩
      case measure => simp [intOf]; omega
    · have hie : i = L.length := by omega
      subst hie
      rw [List.take_length] at hS
      have hlt' : ¬ (L.length : Int) < (L.length : Int) := by omega
      go_wp2_with (first | (refine wpList_load_sh _ rfl _ rfl _ rfl _ hS ?_) | (refine wpList_put_sh _ rfl _ _ rfl rfl rfl hZ HL.out ?_; intro w5 P5))
      refine bodyPost_ret (results_cell_row rfl _ _ b1 63 _ (0, 0) _ rfl P5.sh.blk row_sheet rfl (info_pg HL.out)) rfl ?_
      exact ⟨rfl, hbel.trans (P5.below N1.le hbel.size)⟩

section
variable {w w' : World} {b : Nat} {s : List UInt8}
set_option maxHeartbeats 1000000 in
theorem lay_any (w : World) (h : Sh w b s) (i : Nat) (c : Cl) (hl : CanLay s i c) : Calls Try.prog 48 #[.pointer (some ⟨b, 0, none⟩), .int .i64 (i : Int), .agg #[.string c.k, .string c.v]] w fun e w' => e = .returned (.tuple #[]) ∧ Put w w' b (layS s i c) := by
  have C1 : Hid (∀ w, Sh w b s → Calls Try.prog 63 #[.pointer (some ⟨b, 0, none⟩)] w fun e w' => e = .returned (.int .i64 (en s)) ∧ w' = w) := fun w h => end_any w h
  have C2 : Hid (∀ w, Sh w b s → Calls Try.prog 39 #[.pointer (some ⟨b, 0, none⟩)] w fun e w' => e = .returned (.int .i64 (cnt s)) ∧ w' = w) := fun w h => count_any w h
  have hk := hl.k
  have hv := hl.v
  have C3 : Hid (∀ w, Calls Try.prog 27 #[.agg #[.string c.k, .string c.v]] w fun e w' => e = .returned (.int .i64 (need c)) ∧ Below w.heap.size w w') := fun w => Need_any w c (by omega) (by omega)
  have b2 : cnt s < 256 := g_lt s 2
  have b3 : en s < 256 := g_lt s 3
  have hnd : need c ≤ 51 := by simp only [need]; omega
  have H : Hid _ := h
  have hbl := h.lt
  clear h
  by_cases ho : 224 < en s + cnt s + need c
  · have hO : Hid (layS s i c = putS (packS (g s 0) (g s 1) (cells s)) i c) := (by rw [layS, if_pos ho] : layS s i c = putS (packS (g s 0) (g s 1) (cells s)) i c)
    have hp := hl.put2
    have hpk := hl.right.canPack
    have hcl : (cells s).length = cnt s := cells_length s
    have C5 : Hid (∀ w, Sh w b s → Calls Try.prog 41 #[.pointer (some ⟨b, 0, none⟩)] w fun e w' => e = .returned (.int .i64 (g s 0)) ∧ w' = w) := fun w h => kind_any w h
    have C6 : Hid (∀ w, Sh w b s → Calls Try.prog 42 #[.pointer (some ⟨b, 0, none⟩)] w fun e w' => e = .returned (.int .i64 (g s 1)) ∧ w' = w) := fun w h => level_any w h
    have C7 : Hid (∀ w, Sh w b s → Calls Try.prog 44 #[.pointer (some ⟨b, 0, none⟩)] w fun e w' => ∃ a, e = .returned (.slice (some ⟨a, 0, none⟩) (cnt s) (cnt s)) ∧ Cs w' (some ⟨a, 0, none⟩) (cells s) ∧ Below w.heap.size w w') := fun w h => cells_any w h hl.right
    have C8 : Hid (∀ w a, Cs w a (cells s) → Calls Try.prog 54 #[.int .i64 (g s 0 : Int), .int .i64 (g s 1 : Int), .slice a (cnt s) (cnt s)] w fun e w' => e = .returned (pgV (packS (g s 0) (g s 1) (cells s))) ∧ Below w.heap.size w w') := fun w a hc => by
      have := packed_any w (g s 0) (g s 1) (cnt s) hc hpk
      rw [hcl] at this
      exact this
    have C4 : Hid (∀ w, Sh w b (packS (g s 0) (g s 1) (cells s)) → Calls Try.prog 64 #[.pointer (some ⟨b, 0, none⟩), .int .i64 (i : Int), .agg #[.string c.k, .string c.v]] w fun e w' => e = .returned (.tuple #[]) ∧ Put w w' b (putS (packS (g s 0) (g s 1) (cells s)) i c)) := fun w h => put_any w h i c hp.i hp.right.head.en4 hk hv hp.room
    have HPL : Hid _ := hp.right.head.len
    generalize need c = nd at *
    have ho' : (224 : Int) < (en s : Int) + (cnt s : Int) + (nd : Int) := by omega
    generalize putS (packS (g s 0) (g s 1) (cells s)) i c = T at *
    generalize packS (g s 0) (g s 1) (cells s) = PS at *
    generalize en s = e at *
    generalize cnt s = n at *
    generalize c.k = k at *
    generalize c.v = v at *
    generalize g s 0 = k0 at *
    generalize g s 1 = l0 at *
    have q1 : IntKind.i64.wrap ((e : Int) + (n : Int)) = (e : Int) + (n : Int) := IntWalk.i64_in _ (by omega)
    have q2 : IntKind.i64.wrap ((e : Int) + (n : Int) + (nd : Int)) = (e : Int) + (n : Int) + (nd : Int) := IntWalk.i64_in _ (by omega)
    have q3 : decide ((224 : Int) < (e : Int) + (n : Int) + (nd : Int)) = true := decide_eq_true ho'
    clear hp hpk hl ho
    go_enter Try.func48, Try.ntmps48
    go_wp2_with (refine wpList_box_cb _ rfl _ rfl rfl ?_; intro w0 b0 N0)
    have hS0 := H.out.below N0.below
    have d0 := N0.cb.c0
    have d1 := N0.cb.c1
    have keep0 : ∀ W, Below w0.drew.heap.size w0.drew W → W.cell? ⟨b0, 0, none⟩ = some (.string k) ∧ W.cell? ⟨b0, 1, none⟩ = some (.string v) := fun W hb => ⟨(hb.cell (by exact N0.cb.lt)).trans d0, (hb.cell (by exact N0.cb.lt)).trans d1⟩
    have KP : Hid _ := keep0
    clear keep0
    go_region_held3 (fun w' => w'.cell? ⟨b0, 0, none⟩ = some (.string k) ∧ w'.cell? ⟨b0, 1, none⟩ = some (.string v)) (first | exact keep1 | exact ⟨d0, d1⟩ | go_keep) (first | (go_at_call 63; refine (C1.out _ ?_).mono ?_; (first | exact hS2 | exact hS0.drew); rintro e w' ⟨rfl, rfl⟩) | (go_at_call 39; refine (C2.out _ ?_).mono ?_; (first | exact hS2 | exact hS0.drew); rintro e w' ⟨rfl, rfl⟩) | (go_at_call 27; refine (C3.out _).mono ?_; rintro e w2 ⟨rfl, hb2⟩; have hS2 : Sh w2 b s := hS0.drew.below hb2; have keep1 := KP.out w2 hb2))
    obtain ⟨f0, f1⟩ := keep1
    clear d0 d1
    have hB0 : Cb w2 b0 k v := (N0.cb.of_block (by rfl) : Cb w0.drew b0 k v).below hb2
    clear f0 f1
    go_wp2_with (first | (go_at_call 41; refine (C5.out _ hS2).mono ?_; rintro e w' ⟨rfl, rfl⟩) | (go_at_call 42; refine (C6.out _ hS2).mono ?_; rintro e w' ⟨rfl, rfl⟩) | (go_at_call 44; refine (C7.out _ hS2).mono ?_; rintro e w3 ⟨a, rfl, hc3, hb3⟩) | (go_at_call 54; refine (C8.out _ _ hc3).mono ?_; rintro e w4 ⟨rfl, hb4⟩) | (refine wpList_put_sh _ rfl _ _ rfl rfl rfl ((hS2.below hb3).below hb4) HPL.out ?_; intro w5 P5; have hB5 : Cb w5 b0 k v := ((hB0.below hb3).below hb4).off P5.off (by have := N0.le; omega); have f0 := hB5.c0; have f1 := hB5.c1) | (go_at_call 64; refine (C4.out _ P5.sh).mono ?_; rintro e w6 ⟨rfl, P6⟩))
    go_end0
    exact ⟨rfl, by rw [hO.out]; exact ⟨P6.sh, (Off.of_below (thn (thn (thn (below_drewN N0.below 1) hb2) hb3) hb4)).trans (P5.off.trans P6.off)⟩⟩
  · have hO : Hid (layS s i c = putS s i c) := (by rw [layS, if_neg ho] : layS s i c = putS s i c)
    have hp := hl.put1 ho
    have C4 : Hid (∀ w, Sh w b s → Calls Try.prog 64 #[.pointer (some ⟨b, 0, none⟩), .int .i64 (i : Int), .agg #[.string c.k, .string c.v]] w fun e w' => e = .returned (.tuple #[]) ∧ Put w w' b (putS s i c)) := fun w h => put_any w h i c hl.i hp.right.head.en4 hk hv hp.room
    generalize need c = nd at *
    have ho' : ¬ (224 : Int) < (en s : Int) + (cnt s : Int) + (nd : Int) := by omega
    generalize putS s i c = T at *
    generalize en s = e at *
    generalize cnt s = n at *
    generalize c.k = k at *
    generalize c.v = v at *
    have q1 : IntKind.i64.wrap ((e : Int) + (n : Int)) = (e : Int) + (n : Int) := IntWalk.i64_in _ (by omega)
    have q2 : IntKind.i64.wrap ((e : Int) + (n : Int) + (nd : Int)) = (e : Int) + (n : Int) + (nd : Int) := IntWalk.i64_in _ (by omega)
    have q3 : decide ((224 : Int) < (e : Int) + (n : Int) + (nd : Int)) = false := decide_eq_false ho'
    clear hp hl ho
    go_enter Try.func48, Try.ntmps48
    go_wp2_with (refine wpList_box_cb _ rfl _ rfl rfl ?_; intro w0 b0 N0)
    have hS0 := H.out.below N0.below
    have d0 := N0.cb.c0
    have d1 := N0.cb.c1
    have keep0 : ∀ W, Below w0.drew.heap.size w0.drew W → W.cell? ⟨b0, 0, none⟩ = some (.string k) ∧ W.cell? ⟨b0, 1, none⟩ = some (.string v) := fun W hb => ⟨(hb.cell (by exact N0.cb.lt)).trans d0, (hb.cell (by exact N0.cb.lt)).trans d1⟩
    have KP : Hid _ := keep0
    clear keep0
    go_region_held3 (fun w' => w'.cell? ⟨b0, 0, none⟩ = some (.string k) ∧ w'.cell? ⟨b0, 1, none⟩ = some (.string v)) (first | exact keep1 | exact ⟨d0, d1⟩ | go_keep) (first | (go_at_call 63; refine (C1.out _ ?_).mono ?_; (first | exact hS2 | exact hS0.drew); rintro e w' ⟨rfl, rfl⟩) | (go_at_call 39; refine (C2.out _ ?_).mono ?_; (first | exact hS2 | exact hS0.drew); rintro e w' ⟨rfl, rfl⟩) | (go_at_call 27; refine (C3.out _).mono ?_; rintro e w2 ⟨rfl, hb2⟩; have hS2 : Sh w2 b s := hS0.drew.below hb2; have keep1 := KP.out w2 hb2))
    obtain ⟨f0, f1⟩ := keep1
    clear d0 d1
    go_wp2_with (go_at_call 64; refine (C4.out _ hS2).mono ?_; rintro e w3 ⟨rfl, P3⟩)
    go_end0
    exact ⟨rfl, by rw [hO.out]; exact ⟨P3.sh, (Off.of_below (thn (below_drewN N0.below 1) hb2)).trans P3.off⟩⟩
end
end Go.Proofs.Ytmoognjegjeegaa
