/- The developers' Note: a record of one who goes on, and went on already. Written by x_psn.py. -/
import Derived.Test.YtjlhohljkedbbaaPsC
import Derived.Test.YtjlhohljkedbbaaGmO
import Derived.WalkSpells
import Derived.Deep.QuietTactic
import Derived.BigQuiet
namespace Go.Proofs.Ytjlhohljkedbbaa.Pa
open Go.RowKit Gm Go.Maps
set_option linter.unusedVariables false
set_option linter.unusedSimpArgs false
set_option maxRecDepth 100000
theorem stRc : St 29 13 := ⟨⟨_, Try.underlying29⟩, by kernel_rfl⟩
theorem eqK (w : World) (x : Option Nat) : (binOp .eql 52 (.map x) (.map none)).run Try.prog w = .ok (.bool x.isNone) w := run_eql_map_nil w _ _ _ x uK
theorem oneW (x : Ws) : ∀ v ∈ x.A.toList, v.oneCell' = true := by intro v hv; simp [Ws.A] at hv; rcases hv with rfl | rfl <;> rfl
theorem np_bel {w w1 w2 : World} {b : Nat} {t : TypeId} {A A' : Array Value} (N : New w w1 b t A) (P : Put w1 w2 b t A') : Below w.heap.size w w2 := N.bel.trans ((P.fr (· = b) rfl).bel (fun j hj => by rw [hj, N.eq]; exact Nat.le_refl _) N.bel.size)
section
variable {W W' : Nat → Prop} {w w' : World} {pb bl bw : Nat} {L : List Dv} {P : List Gn} {r : Rc} {I T : Value}
set_option maxHeartbeats 1000000 in
theorem Note_on (h : DpI W w pb bl bw L) (hlt : ∀ j, W j → j < w.heap.size) (hx : r.tx ≠ 0) (hk : ¬ (r.kd = 7 ∨ r.kd = 8)) (hw : wfT r.tx) (hs : r.ky.size ≤ 9223372036854775807) (hn : L.length < 100000) {d : Dv} (hd : lkD L r.tx = some d) (hn2 : d.g.ks.length < 100000) (lsn : Int) : Calls Try.prog 7 #[.pointer (some ⟨pb, 0, none⟩), .agg (r.A I T), .int .i64 lsn] w fun e w' => e = .returned (.tuple #[]) ∧ NpO W w w' pb (noteM (L.map (·.g)) r lsn) := by
  generalize hPP : noteM (L.map (·.g)) r lsn = PP
  have HE : Hid (∀ w', DpI W w' pb bl bw (L.map (tnD r lsn)) → Fr W W w w' → NpO W w w' pb PP) := fun w' h1 h2 => by
    rw [← hPP, noteM_on hx hk h.nd hd]
    exact ⟨W, ⟨⟨bl, bw, _, h1, rfl⟩, fun j hj => Nat.lt_of_lt_of_le (hlt j hj) h2.size⟩, h2⟩
  clear hPP
  obtain ⟨kd, tx, pv, pg, ac, ky, ol, nw, nx, ep, nd⟩ := r
  have hx : ¬ tx = 0 := hx
  have hb0 : (tx == 0) = false := by simpa using hx
  have hb7 : (kd == 7) = false := by simpa using fun e => hk (Or.inl e)
  have hb8 : (kd == 8) = false := by simpa using fun e => hk (Or.inr e)
  have H : Hid (DpI W w pb bl bw L) := h
  have HL : Hid (∀ j, W j → j < w.heap.size) := hlt
  have HK : Hid (keyOf Try.prog 3 (.int .i64 tx) = some (.int .i64 tx)) := keyI hw
  have HS : Hid (keyOf Try.prog 9 (.string ky) = some (.string ky.data.toList)) := keyS hs
  have HN : Hid (L.length < 100000 ∧ d.g.ks.length < 100000) := ⟨hn, hn2⟩
  have HD : Hid (lkD L tx = some d) := hd
  have hq := eqK
  clear h hlt hw hs hn hd hk hn2
  generalize hT : tellsM ⟨kd, tx, pv, pg, ac, ky, ol, nw, nx, ep, nd⟩ = T0
  have HT : Hid (tellsM ⟨kd, tx, pv, pg, ac, ky, ol, nw, nx, ep, nd⟩ = T0) := hT
  clear hT
  generalize hK0 : lkK d.g.ks ky.data.toList = K0
  have HK0 : Hid (lkK d.g.ks ky.data.toList = K0) := hK0
  clear hK0
  go_enter Try.func7, Try.ntmps7
  go_wp2_with first
    | (refine wpList_box_at (A := Rc.A ⟨kd, tx, pv, pg, ac, ky, ol, nw, nx, ep, nd⟩ I T) _ rfl _ rfl rfl ?_; intro w1 b1 N1; have c1 : w1.cell? ⟨b1, 1, none⟩ = some (.int .i64 tx) := N1.is.c 1; have c0 : w1.cell? ⟨b1, 0, none⟩ = some (.int .i64 kd) := N1.is.c 0; have H1 : Hid (DpI W w1 pb bl bw L) := H.out.keep (fun j hj => N1.bel.block j (HL.out j hj)); have p0 : w1.cell? ⟨pb, 0, none⟩ = some (.map (some bl)) := H1.out.is.c 0; have p1 : w1.cell? ⟨pb, 1, none⟩ = some (.map (some bw)) := H1.out.is.c 1)
    | (go_at_call 14; refine (isMade_ok (H1.out.is)).mono ?_; rintro e w1 ⟨rfl, rfl⟩)
  obtain ⟨w2, hr2, M2, T2⟩ := (H1.out.la.keep (w' := w1.drew) rfl).store KI uL (by have := HN.out.1; omega) HK.out (.int .i64 lsn)
  have HM2 : Hid (Mp w2 3 bl (L.length) (updL (fL L) (.int .i64 tx) (some (.int .i64 lsn)))) := (by rw [fL_at, HD.out] at M2; exact M2 : Mp w2 3 bl (L.length) (updL (fL L) (.int .i64 tx) (some (.int .i64 lsn))))
  have O2 : Hid (∀ j, j ≠ bl → w2.heap[j]? = w1.heap[j]?) := fun j hj => (turned_off T2 j hj :)
  have F2 : Hid (Fr W W w w2) := (Fr.of_below (bdr N1.bel 1) W).trans (turned_fr T2 H1.out.w1.2.1)
  have S1 : Hid (w.heap.size + 1 ≤ w2.heap.size ∧ ∀ j, j < w.heap.size → j ≠ bl → w2.heap[j]? = w.heap[j]?) := ⟨by have := turned_size T2; have := N1.is.lt; have := N1.eq; have e : w1.drew.heap.size = w1.heap.size := rfl; omega, fun j hj hn => (O2.out j hn).trans (N1.bel.block j hj)⟩
  have R2 : Hid (At w2 b1 29 (Rc.A ⟨kd, tx, pv, pg, ac, ky, ol, nw, nx, ep, nd⟩ I T)) := N1.is.keep (O2.out b1 (H1.out.la.ne N1.is).symm)
  have d0 : w2.cell? ⟨pb, 0, none⟩ = some (.map (some bl)) := (World.cell?_of_block (O2.out pb (H1.out.la.ne H1.out.is).symm)).trans p0
  have d1 : w2.cell? ⟨pb, 1, none⟩ = some (.map (some bw)) := (World.cell?_of_block (O2.out pb (H1.out.la.ne H1.out.is).symm)).trans p1
  have e1 : w2.cell? ⟨b1, 1, none⟩ = some (.int .i64 tx) := R2.out.c 1
  have V2 : Hid (Mp w2 3 bw L.length (fW L)) := H1.out.wa.keep (O2.out bw (Ne.symm H1.out.ne.1))
  clear M2 T2
  go_region_held_law (fun wx => wx.cell? ⟨pb, 0, none⟩ = some (.map (some bl)) ∧ wx.cell? ⟨b1, 1, none⟩ = some (.int .i64 tx)) (first | exact ⟨p0, c1⟩ | exact ⟨d0, e1⟩) (fail)
  have hl6 : (Instr.lookup 49 (.map (some bw)) (.int .i64 tx) false).run Try.prog w2.drew = .ok (.map (some d.b)) w2.drew := (by
    have := (V2.out.keep (w' := w2.drew) rfl).look1 KI uW (zWv _) HK.out
    rw [fW_at, HD.out] at this
    exact this)
  clear p0 p1 c0 c1 hr2
  go_wp2
  go_region_held_law (fun wx => wx.cell? ⟨pb, 1, none⟩ = some (.map (some bw)) ∧ wx.cell? ⟨b1, 1, none⟩ = some (.int .i64 tx)) (exact ⟨d1, e1⟩) (fail)
  clear hl6
  have hl8 : (Instr.lookup 49 (.map (some bw)) (.int .i64 tx) false).run Try.prog w2.drew.drew = .ok (.map (some d.b)) w2.drew.drew := (by
    have := (V2.out.keep (w' := w2.drew.drew) rfl).look1 KI uW (zWv _) HK.out
    rw [fW_at, HD.out] at this
    exact this)
  go_wp2
  go_region_held_law (fun wx => wx.cell? ⟨pb, 1, none⟩ = some (.map (some bw)) ∧ wx.cell? ⟨b1, 1, none⟩ = some (.int .i64 tx)) (exact ⟨d1, e1⟩) (fail)
  have B4 : Hid (Below w2.heap.size w2 w2.drew.drew) := bdr (bdr (Below.refl _ _) 1) 1
  have G4 : Hid (∀ j, j < w.heap.size → j ≠ bl → j ≠ d.b → w2.drew.drew.heap[j]? = w.heap[j]?) := fun j hj hn _ => S1.out.2 j hj hn
  have F4 : Hid (Fr W W w w2.drew.drew) := F2.out.below B4.out
  have X4 : Hid (Mp w2.drew.drew 3 bl L.length (updL (fL L) (.int .i64 tx) (some (.int .i64 lsn)))) := HM2.out.bel B4.out
  have V4 : Hid (Mp w2.drew.drew 9 d.b d.g.ks.length (fK d.g.ks)) := ((H1.out.ks d (lkD_mem HD.out).1).keep (O2.out d.b (H1.out.ne.2 d (lkD_mem HD.out).1).1)).bel B4.out
  have R4 : Hid (At w2.drew.drew b1 29 (Rc.A ⟨kd, tx, pv, pg, ac, ky, ol, nw, nx, ep, nd⟩ I T)) := R2.out.bel B4.out
  have Z4 : Hid (w.heap.size + 1 ≤ w2.drew.drew.heap.size) := S1.out.1
  clear hl8 d0 d1 e1 S1 B4 F2 R2
  generalize w2.drew.drew = w4 at *
  rcases K0 with _ | p <;> rcases T0 with _ | x
  · have C9 : Hid (∀ w, Calls Try.prog 15 #[.agg (Rc.A ⟨kd, tx, pv, pg, ac, ky, ol, nw, nx, ep, nd⟩ I T)] w fun e w' => e = .returned (.tuple #[.agg (Ws.A zW), .bool false]) ∧ Below w.heap.size w w') := fun w => by have := told_any ⟨kd, tx, pv, pg, ac, ky, ol, nw, nx, ep, nd⟩ I T w; rw [HT.out] at this; exact this
    have L10 : Hid (∀ wx, Below w4.heap.size w4 wx → (Instr.lookup 52 (.map (some d.b)) (.string ky) true).run Try.prog wx = .ok (.tuple #[.agg (Ws.A zW), .bool false]) wx) := fun wx hb => by have := (V4.out.bel hb).look KS uK (zKv _) HS.out; rw [fK_at, HK0.out] at this; exact this
    go_wp2_with first
      | (refine wpList_load_at stRc (A := Rc.A ⟨kd, tx, pv, pg, ac, ky, ol, nw, nx, ep, nd⟩ I T) _ rfl (.tmp 4) rfl rfl R4.out rfl ?_)
      | (go_at_call 15; refine (C9.out _).mono ?_; rintro e w5 ⟨rfl, q5⟩)
      | (have := P9; refine wpList_new_at (A := zW.A) _ zKv rfl rfl ?_; intro w10 b10 N10)
      | (refine wpList_new_at (A := zW.A) _ zKv rfl rfl ?_; intro w8 b8 N8)
      | (have := N10; refine wpList_put_at (A := zW.A) (A' := Ws.A zW) stW _ rfl _ _ rfl rfl rfl N10.is rfl rfl (oneW _) ?_; intro w11 P11; have B11 : Below w4.heap.size w4 w11 := thn B9 (np_bel N10 P11); have j5 : w11.cell? ⟨b1, 5, none⟩ = some (.string ky) := (R4.out.bel B11).c 5)
      | (refine wpList_put_at (A := zW.A) (A' := Ws.A zW) stW _ rfl _ _ rfl rfl rfl N8.is rfl rfl (oneW _) ?_; intro w9 P9; have B9 : Below w4.heap.size w4 w9 := thn q5 (np_bel N8 P9); have hl10 := L10.out w9 B9; have k5 : w9.cell? ⟨b1, 5, none⟩ = some (.string ky) := (R4.out.bel B9).c 5)
    go_end0
    have ET : tks d.g.ks ⟨kd, tx, pv, pg, ac, ky, ol, nw, nx, ep, nd⟩ = d.g.ks := by unfold tks; rw [HT.out]
    refine ⟨rfl, HE.out _ (DpI.on H.out HL.out HD.out (fun j hj h1 h2 => (B11.block j (Nat.lt_of_lt_of_le hj (Nat.le_of_succ_le Z4.out))).trans (G4.out j hj h1 h2)) (X4.out.bel B11) ?_) (F4.out.below B11)⟩
    rw [ET]
    exact V4.out.bel B11
  · have C9 : Hid (∀ w, Calls Try.prog 15 #[.agg (Rc.A ⟨kd, tx, pv, pg, ac, ky, ol, nw, nx, ep, nd⟩ I T)] w fun e w' => e = .returned (.tuple #[.agg (Ws.A x), .bool true]) ∧ Below w.heap.size w w') := fun w => by have := told_any ⟨kd, tx, pv, pg, ac, ky, ol, nw, nx, ep, nd⟩ I T w; rw [HT.out] at this; exact this
    have L10 : Hid (∀ wx, Below w4.heap.size w4 wx → (Instr.lookup 52 (.map (some d.b)) (.string ky) true).run Try.prog wx = .ok (.tuple #[.agg (Ws.A zW), .bool false]) wx) := fun wx hb => by have := (V4.out.bel hb).look KS uK (zKv _) HS.out; rw [fK_at, HK0.out] at this; exact this
    go_wp2_with first
      | (refine wpList_load_at stRc (A := Rc.A ⟨kd, tx, pv, pg, ac, ky, ol, nw, nx, ep, nd⟩ I T) _ rfl (.tmp 4) rfl rfl R4.out rfl ?_)
      | (go_at_call 15; refine (C9.out _).mono ?_; rintro e w5 ⟨rfl, q5⟩)
      | (have := P9; refine wpList_new_at (A := zW.A) _ zKv rfl rfl ?_; intro w10 b10 N10)
      | (refine wpList_new_at (A := zW.A) _ zKv rfl rfl ?_; intro w8 b8 N8)
      | (have := N10; refine wpList_put_at (A := zW.A) (A' := Ws.A zW) stW _ rfl _ _ rfl rfl rfl N10.is rfl rfl (oneW _) ?_; intro w11 P11; have B11 : Below w4.heap.size w4 w11 := thn B9 (np_bel N10 P11); have j5 : w11.cell? ⟨b1, 5, none⟩ = some (.string ky) := (R4.out.bel B11).c 5)
      | (refine wpList_put_at (A := zW.A) (A' := Ws.A x) stW _ rfl _ _ rfl rfl rfl N8.is rfl rfl (oneW _) ?_; intro w9 P9; have B9 : Below w4.heap.size w4 w9 := thn q5 (np_bel N8 P9); have hl10 := L10.out w9 B9; have k5 : w9.cell? ⟨b1, 5, none⟩ = some (.string ky) := (R4.out.bel B9).c 5)
      | (refine wpList_load_at stW (A := Ws.A x) _ rfl (.tmp 7) rfl rfl (P9.is.bel (np_bel N10 P11)) rfl ?_)
      | (refine wpList_store_mp _ rfl _ _ _ rfl KS uK (by have := HN.out.2; omega) rfl (V4.out.bel B11) rfl rfl HS.out ?_; intro w12 M12 T12)
    go_end0
    have ET : tks d.g.ks ⟨kd, tx, pv, pg, ac, ky, ol, nw, nx, ep, nd⟩ = d.g.ks ++ [(ky, x)] := by unfold tks; rw [HT.out, HK0.out]
    refine ⟨rfl, HE.out _ (DpI.on H.out HL.out HD.out (fun j hj h1 h2 => (turned_off T12 j h2).trans ((B11.block j (Nat.lt_of_lt_of_le hj (Nat.le_of_succ_le Z4.out))).trans (G4.out j hj h1 h2))) ((X4.out.bel B11).keep (turned_off T12 bl (Ne.symm (H1.out.ne.2 d (lkD_mem HD.out).1).1))) ?_) ((F4.out.below B11).trans (turned_fr T12 (H1.out.w2 d (lkD_mem HD.out).1)))⟩
    rw [ET]
    rw [fK_at, HK0.out] at M12
    rw [List.length_append]
    exact M12.ext (fK_put x HK0.out)
  · have C9 : Hid (∀ w, Calls Try.prog 15 #[.agg (Rc.A ⟨kd, tx, pv, pg, ac, ky, ol, nw, nx, ep, nd⟩ I T)] w fun e w' => e = .returned (.tuple #[.agg (Ws.A zW), .bool false]) ∧ Below w.heap.size w w') := fun w => by have := told_any ⟨kd, tx, pv, pg, ac, ky, ol, nw, nx, ep, nd⟩ I T w; rw [HT.out] at this; exact this
    have L10 : Hid (∀ wx, Below w4.heap.size w4 wx → (Instr.lookup 52 (.map (some d.b)) (.string ky) true).run Try.prog wx = .ok (.tuple #[.agg (Ws.A p.2), .bool true]) wx) := fun wx hb => by have := (V4.out.bel hb).look KS uK (zKv _) HS.out; rw [fK_at, HK0.out] at this; exact this
    go_wp2_with first
      | (refine wpList_load_at stRc (A := Rc.A ⟨kd, tx, pv, pg, ac, ky, ol, nw, nx, ep, nd⟩ I T) _ rfl (.tmp 4) rfl rfl R4.out rfl ?_)
      | (go_at_call 15; refine (C9.out _).mono ?_; rintro e w5 ⟨rfl, q5⟩)
      | (have := P9; refine wpList_new_at (A := zW.A) _ zKv rfl rfl ?_; intro w10 b10 N10)
      | (refine wpList_new_at (A := zW.A) _ zKv rfl rfl ?_; intro w8 b8 N8)
      | (have := N10; refine wpList_put_at (A := zW.A) (A' := Ws.A p.2) stW _ rfl _ _ rfl rfl rfl N10.is rfl rfl (oneW _) ?_; intro w11 P11; have B11 : Below w4.heap.size w4 w11 := thn B9 (np_bel N10 P11); have j5 : w11.cell? ⟨b1, 5, none⟩ = some (.string ky) := (R4.out.bel B11).c 5)
      | (refine wpList_put_at (A := zW.A) (A' := Ws.A zW) stW _ rfl _ _ rfl rfl rfl N8.is rfl rfl (oneW _) ?_; intro w9 P9; have B9 : Below w4.heap.size w4 w9 := thn q5 (np_bel N8 P9); have hl10 := L10.out w9 B9; have k5 : w9.cell? ⟨b1, 5, none⟩ = some (.string ky) := (R4.out.bel B9).c 5)
    go_end0
    have ET : tks d.g.ks ⟨kd, tx, pv, pg, ac, ky, ol, nw, nx, ep, nd⟩ = d.g.ks := by unfold tks; rw [HT.out]
    refine ⟨rfl, HE.out _ (DpI.on H.out HL.out HD.out (fun j hj h1 h2 => (B11.block j (Nat.lt_of_lt_of_le hj (Nat.le_of_succ_le Z4.out))).trans (G4.out j hj h1 h2)) (X4.out.bel B11) ?_) (F4.out.below B11)⟩
    rw [ET]
    exact V4.out.bel B11
  · have C9 : Hid (∀ w, Calls Try.prog 15 #[.agg (Rc.A ⟨kd, tx, pv, pg, ac, ky, ol, nw, nx, ep, nd⟩ I T)] w fun e w' => e = .returned (.tuple #[.agg (Ws.A x), .bool true]) ∧ Below w.heap.size w w') := fun w => by have := told_any ⟨kd, tx, pv, pg, ac, ky, ol, nw, nx, ep, nd⟩ I T w; rw [HT.out] at this; exact this
    have L10 : Hid (∀ wx, Below w4.heap.size w4 wx → (Instr.lookup 52 (.map (some d.b)) (.string ky) true).run Try.prog wx = .ok (.tuple #[.agg (Ws.A p.2), .bool true]) wx) := fun wx hb => by have := (V4.out.bel hb).look KS uK (zKv _) HS.out; rw [fK_at, HK0.out] at this; exact this
    go_wp2_with first
      | (refine wpList_load_at stRc (A := Rc.A ⟨kd, tx, pv, pg, ac, ky, ol, nw, nx, ep, nd⟩ I T) _ rfl (.tmp 4) rfl rfl R4.out rfl ?_)
      | (go_at_call 15; refine (C9.out _).mono ?_; rintro e w5 ⟨rfl, q5⟩)
      | (have := P9; refine wpList_new_at (A := zW.A) _ zKv rfl rfl ?_; intro w10 b10 N10)
      | (refine wpList_new_at (A := zW.A) _ zKv rfl rfl ?_; intro w8 b8 N8)
      | (have := N10; refine wpList_put_at (A := zW.A) (A' := Ws.A p.2) stW _ rfl _ _ rfl rfl rfl N10.is rfl rfl (oneW _) ?_; intro w11 P11; have B11 : Below w4.heap.size w4 w11 := thn B9 (np_bel N10 P11); have j5 : w11.cell? ⟨b1, 5, none⟩ = some (.string ky) := (R4.out.bel B11).c 5)
      | (refine wpList_put_at (A := zW.A) (A' := Ws.A x) stW _ rfl _ _ rfl rfl rfl N8.is rfl rfl (oneW _) ?_; intro w9 P9; have B9 : Below w4.heap.size w4 w9 := thn q5 (np_bel N8 P9); have hl10 := L10.out w9 B9; have k5 : w9.cell? ⟨b1, 5, none⟩ = some (.string ky) := (R4.out.bel B9).c 5)
    go_end0
    have ET : tks d.g.ks ⟨kd, tx, pv, pg, ac, ky, ol, nw, nx, ep, nd⟩ = d.g.ks := by unfold tks; rw [HT.out, HK0.out]
    refine ⟨rfl, HE.out _ (DpI.on H.out HL.out HD.out (fun j hj h1 h2 => (B11.block j (Nat.lt_of_lt_of_le hj (Nat.le_of_succ_le Z4.out))).trans (G4.out j hj h1 h2)) (X4.out.bel B11) ?_) (F4.out.below B11)⟩
    rw [ET]
    exact V4.out.bel B11
end
end Go.Proofs.Ytjlhohljkedbbaa.Pa
