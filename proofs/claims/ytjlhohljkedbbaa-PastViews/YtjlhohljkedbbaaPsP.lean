/- The developers' Note: a record of one who goes on, and did not go on. Written by x_psn.py. -/
import Derived.Test.YtjlhohljkedbbaaPsO
namespace Go.Proofs.Ytjlhohljkedbbaa.Pa
open Go.RowKit Gm Go.Maps
set_option linter.unusedVariables false
set_option linter.unusedSimpArgs false
set_option maxRecDepth 100000
section
variable {W W' : Nat → Prop} {w w' : World} {pb bl bw : Nat} {L : List Dv} {P : List Gn} {r : Rc} {I T : Value}
set_option maxHeartbeats 1000000 in
theorem Note_new (h : DpI W w pb bl bw L) (hlt : ∀ j, W j → j < w.heap.size) (hx : r.tx ≠ 0) (hk : ¬ (r.kd = 7 ∨ r.kd = 8)) (hw : wfT r.tx) (hs : r.ky.size ≤ 9223372036854775807) (hn : L.length < 100000) (hd : lkD L r.tx = none) (lsn : Int) : Calls Try.prog 7 #[.pointer (some ⟨pb, 0, none⟩), .agg (r.A I T), .int .i64 lsn] w fun e w' => e = .returned (.tuple #[]) ∧ NpO W w w' pb (noteM (L.map (·.g)) r lsn) := by
  generalize hPP : noteM (L.map (·.g)) r lsn = PP
  have HE : Hid (∀ w' nb, w.heap.size ≤ nb → nb < w'.heap.size → DpI (fun j => W j ∨ j = nb) w' pb bl bw (L ++ [⟨(zG r.tx).turn r lsn, nb⟩]) → Fr W W w w' → NpO W w w' pb PP) := fun w' nb h0 h00 h1 h2 => by
    rw [← hPP, noteM_new hx hk hd nb]
    exact ⟨fun j => W j ∨ j = nb, ⟨⟨bl, bw, _, h1, rfl⟩, fun j hj => hj.elim (fun hj => Nat.lt_of_lt_of_le (hlt j hj) h2.size) (fun e => by omega)⟩, h2.more (fun j hj => hj.imp id (fun e => by omega))⟩
  clear hPP
  obtain ⟨kd, tx, pv, pg, ac, ky, ol, nw, nx, ep, nd⟩ := r
  have hx : ¬ tx = 0 := hx
  have hb0 : (tx == 0) = false := by simpa using hx
  have hb7 : (kd == 7) = false := by simpa using fun e => hk (Or.inl e)
  have hb8 : (kd == 8) = false := by simpa using fun e => hk (Or.inr e)
  have H : Hid (DpI W w pb bl bw L) := h
  have HL : Hid (∀ j, W j → j < w.heap.size) := hlt
  have HK : Hid (keyOf Try.prog 3 (.int .i64 tx) = some (.int .i64 tx)) := keyI hw
  have HS : Hid (keyOf Try.prog 9 (.string ky) = some (.string ky.data.toList)) := keyS hs
  have HN : Hid (L.length < 100000 ∧ ([] : List (ByteArray × Ws)).length < 100000) := ⟨hn, by simp⟩
  have HD : Hid (lkD L tx = none) := hd
  have hq := eqK
  clear h hlt hw hs hn hd hk
  generalize hT : tellsM ⟨kd, tx, pv, pg, ac, ky, ol, nw, nx, ep, nd⟩ = T0
  have HT : Hid (tellsM ⟨kd, tx, pv, pg, ac, ky, ol, nw, nx, ep, nd⟩ = T0) := hT
  clear hT
  have HK0 : Hid (lkK ([] : List (ByteArray × Ws)) ky.data.toList = none) := rfl
  go_enter Try.func7, Try.ntmps7
  go_wp2_with first
    | (refine wpList_box_at (A := Rc.A ⟨kd, tx, pv, pg, ac, ky, ol, nw, nx, ep, nd⟩ I T) _ rfl _ rfl rfl ?_; intro w1 b1 N1; have c1 : w1.cell? ⟨b1, 1, none⟩ = some (.int .i64 tx) := N1.is.c 1; have c0 : w1.cell? ⟨b1, 0, none⟩ = some (.int .i64 kd) := N1.is.c 0; have H1 : Hid (DpI W w1 pb bl bw L) := H.out.keep (fun j hj => N1.bel.block j (HL.out j hj)); have p0 : w1.cell? ⟨pb, 0, none⟩ = some (.map (some bl)) := H1.out.is.c 0; have p1 : w1.cell? ⟨pb, 1, none⟩ = some (.map (some bw)) := H1.out.is.c 1)
    | (go_at_call 14; refine (isMade_ok (H1.out.is)).mono ?_; rintro e w1 ⟨rfl, rfl⟩)
  obtain ⟨w2, hr2, M2, T2⟩ := (H1.out.la.keep (w' := w1.drew) rfl).store KI uL (by have := HN.out.1; omega) HK.out (.int .i64 lsn)
  have HM2 : Hid (Mp w2 3 bl (L.length + 1) (updL (fL L) (.int .i64 tx) (some (.int .i64 lsn)))) := (by rw [fL_at, HD.out] at M2; exact M2 : Mp w2 3 bl (L.length + 1) (updL (fL L) (.int .i64 tx) (some (.int .i64 lsn))))
  have O2 : Hid (∀ j, j ≠ bl → w2.heap[j]? = w1.heap[j]?) := fun j hj => (turned_off T2 j hj :)
  have F2 : Hid (Fr W W w w2) := (Fr.of_below (bdr N1.bel 1) W).trans (turned_fr T2 H1.out.w1.2.1)
  have S1 : Hid (w.heap.size + 1 ≤ w2.heap.size ∧ ∀ j, j < w.heap.size → j ≠ bl → w2.heap[j]? = w.heap[j]?) := ⟨by have := turned_size T2; have := N1.is.lt; have := N1.eq; have e : w1.drew.heap.size = w1.heap.size := rfl; omega, fun j hj hn => (O2.out j hn).trans (N1.bel.block j hj)⟩
  have R2 : Hid (At w2 b1 29 (Rc.A ⟨kd, tx, pv, pg, ac, ky, ol, nw, nx, ep, nd⟩ I T)) := N1.is.keep (O2.out b1 (H1.out.la.ne N1.is).symm)
  have d0 : w2.cell? ⟨pb, 0, none⟩ = some (.map (some bl)) := (World.cell?_of_block (O2.out pb (H1.out.la.ne H1.out.is).symm)).trans p0
  have d1 : w2.cell? ⟨pb, 1, none⟩ = some (.map (some bw)) := (World.cell?_of_block (O2.out pb (H1.out.la.ne H1.out.is).symm)).trans p1
  have e1 : w2.cell? ⟨b1, 1, none⟩ = some (.int .i64 tx) := R2.out.c 1
  have V2 : Hid (Mp w2 3 bw L.length (fW L)) := H1.out.wa.keep (O2.out bw (Ne.symm H1.out.ne.1))
  clear M2 T2
  go_region_held_law (fun wx => wx.cell? ⟨pb, 0, none⟩ = some (.map (some bl)) ∧ wx.cell? ⟨b1, 1, none⟩ = some (.int .i64 tx)) (first | exact ⟨p0, c1⟩ | exact ⟨d0, e1⟩) (fail)
  have hl6 : (Instr.lookup 49 (.map (some bw)) (.int .i64 tx) false).run Try.prog w2.drew = .ok (.map (none)) w2.drew := (by
    have := (V2.out.keep (w' := w2.drew) rfl).look1 KI uW (zWv _) HK.out
    rw [fW_at, HD.out] at this
    exact this)
  clear p0 p1 c0 c1 hr2
  go_wp2
  go_region_held_law (fun wx => wx.cell? ⟨pb, 1, none⟩ = some (.map (some bw)) ∧ wx.cell? ⟨b1, 1, none⟩ = some (.int .i64 tx)) (exact ⟨d1, e1⟩) (fail)
  clear hl6
  have BD : Below w2.heap.size w2 w2.drew := bdr (Below.refl _ _) 1
  have HD2 : Hid (Mp w2.drew 3 bl (L.length + 1) (updL (fL L) (.int .i64 tx) (some (.int .i64 lsn))) ∧ Mp w2.drew 3 bw L.length (fW L) ∧ At w2.drew b1 29 (Rc.A ⟨kd, tx, pv, pg, ac, ky, ol, nw, nx, ep, nd⟩ I T) ∧ At w2.drew pb 51 #[.map (some bl), .map (some bw)] ∧ Fr W W w w2.drew ∧ w.heap.size + 1 ≤ w2.drew.heap.size ∧ ∀ j, j < w.heap.size → j ≠ bl → w2.drew.heap[j]? = w.heap[j]?) := ⟨HM2.out.bel BD, V2.out.bel BD, R2.out.bel BD, (H1.out.is.keep (O2.out pb (H1.out.la.ne H1.out.is).symm)).bel BD, F2.out.below BD, S1.out.1, S1.out.2⟩
  have HB : Hid (bl < w.heap.size ∧ bw < w.heap.size ∧ b1 ≠ bw) := ⟨HL.out _ H1.out.w1.2.1, HL.out _ H1.out.w1.2.2, (H1.out.wa.ne N1.is).symm⟩
  clear HM2 V2 R2 F2 S1 BD d0 d1 e1 O2
  generalize w2.drew = wd at *
  obtain ⟨w3, hr7, M3, T3⟩ := ((HD2.out.2.1.bel (bl1 (.map #[] 0))).keep (w' := (wd.alloc (.map #[] 0)).drew) rfl).store KI uW (by have := HN.out.1; omega) HK.out (.map (some wd.heap.size))
  have BA : Below wd.heap.size wd (wd.alloc (.map #[] 0)).drew := bdr (bl1 _) 1
  have hm : ∀ t w, (Instr.makeMap t none).run Try.prog w = .ok (.map (some w.heap.size)) (w.alloc (.map #[] 0)) := fun t w => rfl
  have d1 : wd.cell? ⟨pb, 1, none⟩ = some (.map (some bw)) := HD2.out.2.2.2.1.c 1
  have e1 : wd.cell? ⟨b1, 1, none⟩ = some (.int .i64 tx) := HD2.out.2.2.1.c 1
  have f1 : (wd.alloc (.map #[] 0)).drew.cell? ⟨pb, 1, none⟩ = some (.map (some bw)) := (HD2.out.2.2.2.1.bel BA).c 1
  have g1 : (wd.alloc (.map #[] 0)).drew.cell? ⟨b1, 1, none⟩ = some (.int .i64 tx) := (HD2.out.2.2.1.bel BA).c 1
  have O3 : Hid (∀ j, j ≠ bw → w3.heap[j]? = (wd.alloc (.map #[] 0)).heap[j]?) := fun j hj => (turned_off T3 j hj :)
  have hpw : pb ≠ bw := (H1.out.wa.ne H1.out.is).symm
  have d3 : w3.cell? ⟨pb, 1, none⟩ = some (.map (some bw)) := (World.cell?_of_block (O3.out pb hpw)).trans f1
  have e3 : w3.cell? ⟨b1, 1, none⟩ = some (.int .i64 tx) := (World.cell?_of_block (O3.out b1 HB.out.2.2)).trans g1
  clear hpw
  go_wp2
  go_region_held_law (fun wx => wx.cell? ⟨pb, 1, none⟩ = some (.map (some bw)) ∧ wx.cell? ⟨b1, 1, none⟩ = some (.int .i64 tx)) (first | exact ⟨d1, e1⟩ | exact ⟨f1, g1⟩ | exact ⟨d3, e3⟩) (fail)
  have hl8 : (Instr.lookup 49 (.map (some bw)) (.int .i64 tx) false).run Try.prog w3.drew = .ok (.map (some wd.heap.size)) w3.drew := (by
    have := (M3.keep (w' := w3.drew) rfl).look1 KI uW (zWv _) HK.out
    rw [updL_same _ (kI _)] at this
    exact this)
  have M3' : Mp w3 3 bw (L.length + 1) (updL (fW L) (.int .i64 tx) (some (.map (some wd.heap.size)))) := (by rw [fW_at, HD.out] at M3; exact M3)
  have HM3 : Hid (Mp w3.drew 3 bw (L.length + 1) (updL (fW L) (.int .i64 tx) (some (.map (some wd.heap.size))))) := M3'.bel (bdr (Below.refl _ _) 1)
  have SZ : w3.heap.size = wd.heap.size + 1 := (turned_size T3).trans (by simp)
  have HV : Hid (wd.heap.size + 1 ≤ w3.drew.heap.size ∧ (∀ j, j < w.heap.size → j ≠ bl → j ≠ bw → w3.drew.heap[j]? = w.heap[j]?) ∧ Fr W W w w3.drew ∧ Mp w3.drew 3 bl (L.length + 1) (updL (fL L) (.int .i64 tx) (some (.int .i64 lsn))) ∧ Mp w3.drew 9 wd.heap.size 0 (fK []) ∧ At w3.drew b1 29 (Rc.A ⟨kd, tx, pv, pg, ac, ky, ol, nw, nx, ep, nd⟩ I T)) := (by
    have O := O3.out
    obtain ⟨a1, a2, a3, a4, a5, a6, a7⟩ := HD2.out
    have lw := a2.lt
    have BB := bl1 (w := wd) (.map #[] 0)
    refine ⟨Nat.le_of_eq SZ.symm, fun j hj h1 h2 => (O j h2).trans ((BB.block j (by omega)).trans (a7 j hj h1)), ((a5.below BB).below (bdr (Below.refl _ _) 1)).trans ((turned_fr T3 H1.out.w1.2.2).below (bdr (Below.refl _ _) 1)), (a1.bel BB).keep (O bl H1.out.ne.1), ?_, (a3.bel BB).keep (O b1 HB.out.2.2)⟩
    exact ((Mp.made wd 9).keep (w' := w3.drew) (O wd.heap.size (by omega))).ext (fun l => by cases l <;> rfl))
  clear M3 M3' T3 O3 hr7 f1 g1 SZ BA hm d1 e1
  go_wp2
  go_region_held_law (fun wx => wx.cell? ⟨pb, 1, none⟩ = some (.map (some bw)) ∧ wx.cell? ⟨b1, 1, none⟩ = some (.int .i64 tx)) (exact ⟨d3, e3⟩) (fail)
  clear hl8 d3 e3
  have HG : Hid (wd.heap.size + 1 ≤ w3.drew.heap.size) := HV.out.1
  have G4 : Hid (∀ j, j < w.heap.size → j ≠ bl → j ≠ bw → w3.drew.heap[j]? = w.heap[j]?) := HV.out.2.1
  have F4 : Hid (Fr W W w w3.drew) := HV.out.2.2.1
  have X4 : Hid (Mp w3.drew 3 bl (L.length + 1) (updL (fL L) (.int .i64 tx) (some (.int .i64 lsn)))) := HV.out.2.2.2.1
  have Y4 : Hid (Mp w3.drew 3 bw (L.length + 1) (updL (fW L) (.int .i64 tx) (some (.map (some wd.heap.size))))) := HM3.out
  have V4 : Hid (Mp w3.drew 9 wd.heap.size ([] : List (ByteArray × Ws)).length (fK [])) := HV.out.2.2.2.2.1
  have R4 : Hid (At w3.drew b1 29 (Rc.A ⟨kd, tx, pv, pg, ac, ky, ol, nw, nx, ep, nd⟩ I T)) := HV.out.2.2.2.2.2
  have Z4 : Hid (w.heap.size + 1 ≤ w3.drew.heap.size) := Nat.le_trans HD2.out.2.2.2.2.2.1 (Nat.le_of_succ_le HG.out)
  have HNB : Hid (w.heap.size ≤ wd.heap.size ∧ bl ≠ wd.heap.size ∧ bw ≠ wd.heap.size) := ⟨by have := HD2.out.2.2.2.2.2.1; omega, by have := HD2.out.1.lt; omega, by have := HD2.out.2.1.lt; omega⟩
  clear HV HM3 HD2
  generalize w3.drew = w4 at *
  generalize wd.heap.size = nb at *
  rcases T0 with _ | x
  · have C9 : Hid (∀ w, Calls Try.prog 15 #[.agg (Rc.A ⟨kd, tx, pv, pg, ac, ky, ol, nw, nx, ep, nd⟩ I T)] w fun e w' => e = .returned (.tuple #[.agg (Ws.A zW), .bool false]) ∧ Below w.heap.size w w') := fun w => by have := told_any ⟨kd, tx, pv, pg, ac, ky, ol, nw, nx, ep, nd⟩ I T w; rw [HT.out] at this; exact this
    have L10 : Hid (∀ wx, Below w4.heap.size w4 wx → (Instr.lookup 52 (.map (some nb)) (.string ky) true).run Try.prog wx = .ok (.tuple #[.agg (Ws.A zW), .bool false]) wx) := fun wx hb => by have := (V4.out.bel hb).look KS uK (zKv _) HS.out; rw [fK_at, HK0.out] at this; exact this
    go_wp2_with first
      | (refine wpList_load_at stRc (A := Rc.A ⟨kd, tx, pv, pg, ac, ky, ol, nw, nx, ep, nd⟩ I T) _ rfl (.tmp 4) rfl rfl R4.out rfl ?_)
      | (go_at_call 15; refine (C9.out _).mono ?_; rintro e w5 ⟨rfl, q5⟩)
      | (have := P9; refine wpList_new_at (A := zW.A) _ zKv rfl rfl ?_; intro w10 b10 N10)
      | (refine wpList_new_at (A := zW.A) _ zKv rfl rfl ?_; intro w8 b8 N8)
      | (have := N10; refine wpList_put_at (A := zW.A) (A' := Ws.A zW) stW _ rfl _ _ rfl rfl rfl N10.is rfl rfl (oneW _) ?_; intro w11 P11; have B11 : Below w4.heap.size w4 w11 := thn B9 (np_bel N10 P11); have j5 : w11.cell? ⟨b1, 5, none⟩ = some (.string ky) := (R4.out.bel B11).c 5)
      | (refine wpList_put_at (A := zW.A) (A' := Ws.A zW) stW _ rfl _ _ rfl rfl rfl N8.is rfl rfl (oneW _) ?_; intro w9 P9; have B9 : Below w4.heap.size w4 w9 := thn q5 (np_bel N8 P9); have hl10 := L10.out w9 B9; have k5 : w9.cell? ⟨b1, 5, none⟩ = some (.string ky) := (R4.out.bel B9).c 5)
    go_end0
    have ET : tks ([] : List (ByteArray × Ws)) ⟨kd, tx, pv, pg, ac, ky, ol, nw, nx, ep, nd⟩ = ([] : List (ByteArray × Ws)) := by unfold tks; rw [HT.out]
    refine ⟨rfl, HE.out _ nb HNB.out.1 (Nat.lt_of_lt_of_le HG.out B11.size) (DpI.snoc H.out HL.out HD.out (t := tx) HNB.out.1 (fun j hj h1 h2 => (B11.block j (Nat.lt_of_lt_of_le hj (Nat.le_of_succ_le Z4.out))).trans (G4.out j hj h1 h2)) (X4.out.bel B11) (Y4.out.bel B11) ?_) (F4.out.below B11)⟩
    rw [ET]
    exact V4.out.bel B11
  · have C9 : Hid (∀ w, Calls Try.prog 15 #[.agg (Rc.A ⟨kd, tx, pv, pg, ac, ky, ol, nw, nx, ep, nd⟩ I T)] w fun e w' => e = .returned (.tuple #[.agg (Ws.A x), .bool true]) ∧ Below w.heap.size w w') := fun w => by have := told_any ⟨kd, tx, pv, pg, ac, ky, ol, nw, nx, ep, nd⟩ I T w; rw [HT.out] at this; exact this
    have L10 : Hid (∀ wx, Below w4.heap.size w4 wx → (Instr.lookup 52 (.map (some nb)) (.string ky) true).run Try.prog wx = .ok (.tuple #[.agg (Ws.A zW), .bool false]) wx) := fun wx hb => by have := (V4.out.bel hb).look KS uK (zKv _) HS.out; rw [fK_at, HK0.out] at this; exact this
    go_wp2_with first
      | (refine wpList_load_at stRc (A := Rc.A ⟨kd, tx, pv, pg, ac, ky, ol, nw, nx, ep, nd⟩ I T) _ rfl (.tmp 4) rfl rfl R4.out rfl ?_)
      | (go_at_call 15; refine (C9.out _).mono ?_; rintro e w5 ⟨rfl, q5⟩)
      | (have := P9; refine wpList_new_at (A := zW.A) _ zKv rfl rfl ?_; intro w10 b10 N10)
      | (refine wpList_new_at (A := zW.A) _ zKv rfl rfl ?_; intro w8 b8 N8)
      | (have := N10; refine wpList_put_at (A := zW.A) (A' := Ws.A zW) stW _ rfl _ _ rfl rfl rfl N10.is rfl rfl (oneW _) ?_; intro w11 P11; have B11 : Below w4.heap.size w4 w11 := thn B9 (np_bel N10 P11); have j5 : w11.cell? ⟨b1, 5, none⟩ = some (.string ky) := (R4.out.bel B11).c 5)
      | (refine wpList_put_at (A := zW.A) (A' := Ws.A x) stW _ rfl _ _ rfl rfl rfl N8.is rfl rfl (oneW _) ?_; intro w9 P9; have B9 : Below w4.heap.size w4 w9 := thn q5 (np_bel N8 P9); have hl10 := L10.out w9 B9; have k5 : w9.cell? ⟨b1, 5, none⟩ = some (.string ky) := (R4.out.bel B9).c 5)
      | (refine wpList_load_at stW (A := Ws.A x) _ rfl (.tmp 7) rfl rfl (P9.is.bel (np_bel N10 P11)) rfl ?_)
      | (refine wpList_store_mp _ rfl _ _ _ rfl KS uK (by have := HN.out.2; omega) rfl (V4.out.bel B11) rfl rfl HS.out ?_; intro w12 M12 T12)
    go_end0
    have ET : tks ([] : List (ByteArray × Ws)) ⟨kd, tx, pv, pg, ac, ky, ol, nw, nx, ep, nd⟩ = ([] : List (ByteArray × Ws)) ++ [(ky, x)] := by unfold tks; rw [HT.out, HK0.out]
    refine ⟨rfl, HE.out _ nb HNB.out.1 (by have := turned_size T12; have := HG.out; have := B11.size; omega) (DpI.snoc H.out HL.out HD.out (t := tx) HNB.out.1 (fun j hj h1 h2 => (turned_off T12 j (by have := HNB.out.1; omega)).trans ((B11.block j (Nat.lt_of_lt_of_le hj (Nat.le_of_succ_le Z4.out))).trans (G4.out j hj h1 h2))) ((X4.out.bel B11).keep (turned_off T12 bl HNB.out.2.1)) ((Y4.out.bel B11).keep (turned_off T12 bw HNB.out.2.2)) ?_) ((((F4.out.below B11).more (V := fun j => W j ∨ j = nb) (fun j hj => hj.imp id (fun e => by have := HNB.out.1; omega))).trans (turned_fr T12 (Or.inr rfl))).more (fun j hj => Or.inl hj))⟩
    rw [ET]
    rw [fK_at, HK0.out] at M12
    rw [List.length_append]
    exact M12.ext (fK_put x HK0.out)
end
end Go.Proofs.Ytjlhohljkedbbaa.Pa
