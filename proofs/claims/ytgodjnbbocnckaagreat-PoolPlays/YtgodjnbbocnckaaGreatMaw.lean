/- The law's step: Flush, FlushAll, walked; any step. The law's step: FlushAll; any step. PoolLost: behind a loss of power each page on the disk is one that was set, of a record that the log has. -/
import Derived.Test.YtgodjnbbocnckaaGreatMav
import Derived.Deep.Slices
import Derived.OpenShut
namespace Go.Proofs.YtgodjnbbocnckaaGreat
open Go.RowKit Go.Maps Go.ChangeMaps
set_option linter.unusedVariables false
set_option linter.unusedSimpArgs false
set_option maxRecDepth 100000

section
variable {B k k' ww sure b : Nat} {w w' wr w0 : World} {S S' : Dk} {X : Ad} {G : Gp} {cs : List Nat} {st pg : Nat → Option Nat} {pn qn : Nat → Nat} {kd id c : Int}
theorem RdO.false_below (h : RdO B w wr ww X k S cs st pn false) (hb : Below wr.heap.size wr w') (hB : B ≤ wr.heap.size) : RdO B w w' ww X k S cs st pn false := by
  refine ⟨?_, h.bel.trans (hb.mono hB)⟩
  rcases h.or with ⟨h1, _⟩ | ⟨h1, h2, h3⟩
  · cases h1
  · exact Or.inr ⟨h1, h2, h3.below hb⟩
set_option maxHeartbeats 8000000 in
theorem step_flush_clean (h : PW B w ww X k S cs sure G st pn pg pn) (hk : k ≤ 29000) (c : Int) (id : Int) (hw : dtb G.F X.n id = false) : Calls Tryz.prog 11 #[.pointer (some ⟨ww, 0, none⟩), .agg (opA 5 id c)] w fun e w' => ∃ b, e = .returned (.bool b) ∧ RdO B w w' ww X (k + 46) S cs st pn b := by
  have hle := h.le
  have CD : Hid (∀ wx, Below w.heap.size w wx → Calls Tryz.prog 26 #[.pointer (some ⟨X.pb, 0, none⟩), .int .i64 id] wx fun e w' => e = .returned (.bool false) ∧ Below wx.heap.size wx w') := fun wx hx => by
    have := Dirty_any (h.below hx).pv id
    rw [hw] at this
    exact this.mono (fun e w' ⟨h1, h2⟩ => ⟨h1, h2 ▸ Below.refl _ _⟩)
  have CF : Hid (∀ wx, Below w.heap.size w wx → Calls Tryz.prog 33 #[.pointer (some ⟨X.pb, 0, none⟩), .int .i64 id] wx fun e w' => ∃ y, e = .returned (.int .i64 y) ∧ FcO B wx w' ww X (k + 46) S cs st pn y) := fun wx hx => (h.below hx).flushc hk id
  have H : Hid (PW B w ww X k S cs sure G st pn pg pn) := h
  clear h hk hw
  go_enter Tryz.func11, Tryz.ntmps11
  go_wp2_with (refine wpList_box_o (A := opA 5 id c) _ rfl _ rfl rfl ?_; intro w1 b1 N1; have O1 : OpB w1 b1 5 id c := ⟨N1.blk⟩; have k0 := O1.c0; have HO : Hid (OpB w1 b1 5 id c) := O1; have HB1 : Hid (Below w.heap.size w w1) := N1.below; clear O1 N1)
  have bd : Hid (Below w.heap.size w w1.drew) := HB1.out.drew
  have bd1 : Hid (Below w1.heap.size w1 w1.drew) := (Below.refl _ _).drew
  have q1 := (H.out.below bd.out).wb.c3
  have q2 := (HO.out.below bd1.out).c1
  go_region_held3 (fun W => W.cell? ⟨ww, 3, none⟩ = some (.pointer (some ⟨X.pb, 0, none⟩)) ∧ W.cell? ⟨b1, 1, none⟩ = some (.int .i64 id)) (first | exact ⟨keep1, keep2⟩ | exact ⟨q1, q2⟩ | go_keep) (first
    | (go_at_call 26; refine (CD.out _ bd.out).mono ?_; rintro e w2 ⟨rfl, b2⟩; have B2 : Hid (Below w.heap.size w w2) := thn bd.out b2; have O2 : Hid (OpB w2 b1 5 id c) := HO.out.below (thn bd1.out b2); have keep1 := (H.out.below B2.out).wb.c3; have keep2 := O2.out.c1; clear b2))
  go_wp2
  have bq : Hid (Below w.heap.size w w2.drew) := B2.out.drew
  have bq1 : Hid (Below w2.heap.size w2 w2.drew) := (Below.refl _ _).drew
  have r1 := (H.out.below bq.out).wb.c3
  have r2 := (O2.out.below bq1.out).c1
  go_region_held3 (fun W => W.cell? ⟨ww, 3, none⟩ = some (.pointer (some ⟨X.pb, 0, none⟩)) ∧ W.cell? ⟨b1, 1, none⟩ = some (.int .i64 id)) (first | exact ⟨kee1, kee2⟩ | exact ⟨r1, r2⟩ | go_keep) (first
    | (go_at_call 33; refine (CF.out _ bq.out).mono ?_; rintro e w3 ⟨y, rfl, F3⟩; have HF : Hid (FcO B w2.drew w3 ww X (k + 46) S cs st pn y) := F3; have kee1 := F3.wb.c3; have kee2 := ((O2.out.below bq1.out).kept F3.kp).c1; clear F3))
  have hB1 : Hid (Below B w w2.drew) := bq.out.mono hle
  rcases HF.out.or with ⟨hy, hR⟩ | ⟨hy, hR⟩ | ⟨hy, hR⟩
  · subst hy
    have HR : Hid (RdO B w w3 ww X (k + 46) S cs st pn true) := ⟨hR.or, hB1.out.trans hR.bel⟩
    clear hR HF
    go_wp2
    go_ret
    exact ⟨true, by simp, HR.out⟩
  · subst hy
    have HR : Hid (RdO B w w3 ww X (k + 46) S cs st pn true) := ⟨hR.or, hB1.out.trans hR.bel⟩
    clear hR HF
    go_wp2
    go_ret
    exact ⟨true, by simp, HR.out⟩
  · subst hy
    have HR : Hid (RdO B w w3 ww X (k + 46) S cs st pn false) := ⟨hR.or, hB1.out.trans hR.bel⟩
    clear hR HF
    go_wp2
    go_ret
    exact ⟨false, by simp, HR.out⟩
set_option maxHeartbeats 8000000 in
theorem step_flush_dirty (h : PW B w ww X k S cs sure G st pn pg pn) (hk : k ≤ 29000) (c : Int) (d : Nat) (hd : d < 8) (hw : dtb G.F X.n (d : Int) = true) : Calls Tryz.prog 11 #[.pointer (some ⟨ww, 0, none⟩), .agg (opA 5 (d : Int) c)] w fun e w' => ∃ b, e = .returned (.bool b) ∧ RdO B w w' ww X (k + 46) S cs st pn b := by
  have hle := h.le
  have CD : Hid (∀ wx, Below w.heap.size w wx → Calls Tryz.prog 26 #[.pointer (some ⟨X.pb, 0, none⟩), .int .i64 (d : Int)] wx fun e w' => e = .returned (.bool true) ∧ Below wx.heap.size wx w') := fun wx hx => by
    have := Dirty_any (h.below hx).pv (d : Int)
    rw [hw] at this
    exact this.mono (fun e w' ⟨h1, h2⟩ => ⟨h1, h2 ▸ Below.refl _ _⟩)
  have CF : Hid (∀ wx, Below w.heap.size w wx → Calls Tryz.prog 33 #[.pointer (some ⟨X.pb, 0, none⟩), .int .i64 (d : Int)] wx fun e w' => ∃ y, e = .returned (.int .i64 y) ∧ FfO B wx w' ww X (k + 46) S cs st pn d y) := fun wx hx => (h.below hx).flush hk d hd hw
  have H : Hid (PW B w ww X k S cs sure G st pn pg pn) := h
  have d8 : (d : Int) < 8 := by omega
  have d0 : (0 : Int) ≤ (d : Int) := by omega
  have HD : Hid (d < 8) := hd
  have m0 : Hid True := trivial
  clear h hk hw
  go_enter Tryz.func11, Tryz.ntmps11
  go_wp2_with (refine wpList_box_o (A := opA 5 (d : Int) c) _ rfl _ rfl rfl ?_; intro w1 b1 N1; have O1 : OpB w1 b1 5 (d : Int) c := ⟨N1.blk⟩; have k0 := O1.c0; have HO : Hid (OpB w1 b1 5 (d : Int) c) := O1; have HB1 : Hid (Below w.heap.size w w1) := N1.below; clear O1 N1)
  have bd : Hid (Below w.heap.size w w1.drew) := HB1.out.drew
  have bd1 : Hid (Below w1.heap.size w1 w1.drew) := (Below.refl _ _).drew
  have q1 := (H.out.below bd.out).wb.c3
  have q2 := (HO.out.below bd1.out).c1
  go_region_held3 (fun W => W.cell? ⟨ww, 3, none⟩ = some (.pointer (some ⟨X.pb, 0, none⟩)) ∧ W.cell? ⟨b1, 1, none⟩ = some (.int .i64 (d : Int))) (first | exact ⟨keep1, keep2⟩ | exact ⟨q1, q2⟩ | go_keep) (first
    | (go_at_call 26; refine (CD.out _ bd.out).mono ?_; rintro e w2 ⟨rfl, b2⟩; have B2 : Hid (Below w.heap.size w w2) := thn bd.out b2; have O2 : Hid (OpB w2 b1 5 (d : Int) c) := HO.out.below (thn bd1.out b2); have keep1 := (H.out.below B2.out).wb.c3; have keep2 := O2.out.c1; clear b2))
  go_wp2
  have bq : Hid (Below w.heap.size w w2.drew) := B2.out.drew
  have bq1 : Hid (Below w2.heap.size w2 w2.drew) := (Below.refl _ _).drew
  have r1 := (H.out.below bq.out).wb.c3
  have r2 := (O2.out.below bq1.out).c1
  go_region_held3 (fun W => W.cell? ⟨ww, 3, none⟩ = some (.pointer (some ⟨X.pb, 0, none⟩)) ∧ W.cell? ⟨b1, 1, none⟩ = some (.int .i64 (d : Int))) (first | exact ⟨kee1, kee2⟩ | exact ⟨r1, r2⟩ | go_keep) (first
    | (go_at_call 33; refine (CF.out _ bq.out).mono ?_; rintro e w3 ⟨y, rfl, F3⟩; have HF : Hid (FfO B w2.drew w3 ww X (k + 46) S cs st pn d y) := F3; have O3 : Hid (OpB w3 b1 5 (d : Int) c) := (O2.out.below bq1.out).kept F3.kp; have kee1 := F3.wb.c3; have kee2 := O3.out.c1; clear F3))
  have hB1 : Hid (Below B w w2.drew) := bq.out.mono hle
  have HW3 : Hid (WwIs w3 ww X cs st pn) := HF.out.wb
  have wle : Hid (B ≤ w3.heap.size) := HF.out.le
  rcases HF.out.or with ⟨hy, hDr, hIs, hR⟩ | ⟨hy, hR⟩
  · subst hy
    have HR : Hid (RdO B w w3 ww X (k + 46) S cs st pn true) := ⟨hR.or, hB1.out.trans hR.bel⟩
    have HDr : Hid (∀ wx, Below w3.heap.size w3 wx → Calls Tryz.prog 26 #[.pointer (some ⟨X.pb, 0, none⟩), .int .i64 (d : Int)] wx fun e w'' => e = .returned (.bool false) ∧ w'' = wx) := hDr
    have HIs : Hid (∀ wx, Below w3.heap.size w3 wx → Calls Tryz.prog 28 #[.pointer (some ⟨X.sb, 0, none⟩), .int .i64 (d : Int), .int .i64 (lnO (st d))] wx fun e w'' => e = .returned (.bool true) ∧ Below wx.heap.size wx w'') := hIs
    clear hR hDr hIs HF
    go_wp2
    have bs : Hid (Below w3.heap.size w3 w3.drew) := (Below.refl _ _).drew
    have HC : Hid (∀ wx, Below w3.heap.size w3 wx → wx.cell? ⟨ww, 3, none⟩ = some (.pointer (some ⟨X.pb, 0, none⟩)) ∧ wx.cell? ⟨ww, 1, none⟩ = some (.pointer (some ⟨X.sb, 0, none⟩)) ∧ wx.cell? ⟨ww, 12 + d, none⟩ = some (.int .i64 (lnO (st d))) ∧ wx.cell? ⟨b1, 1, none⟩ = some (.int .i64 (d : Int))) := fun wx hx => ⟨(HW3.out.below hx).c3, (HW3.out.below hx).c1, (HW3.out.below hx).ln HD.out, (O3.out.below hx).c1⟩
    have kd := HC.out _ bs.out
    have s1 := kd.1
    have s2 := kd.2.1
    have s3 := kd.2.2.1
    have s4 := kd.2.2.2
    clear kd
    generalize lnO (st d) = ln at *
    go_region_held3 (fun W => W.cell? ⟨ww, 3, none⟩ = some (.pointer (some ⟨X.pb, 0, none⟩)) ∧ W.cell? ⟨ww, 1, none⟩ = some (.pointer (some ⟨X.sb, 0, none⟩)) ∧ W.cell? ⟨ww, 12 + d, none⟩ = some (.int .i64 ln) ∧ W.cell? ⟨b1, 1, none⟩ = some (.int .i64 (d : Int))) (first | exact ⟨ke1, ke2, ke3, ke4⟩ | exact ⟨s1, s2, s3, s4⟩ | go_keep) (first
      | (go_at_call 26; refine (HDr.out _ bs.out).mono ?_; rintro e w7 ⟨rfl, rfl⟩)
      | (go_at_call 28; refine (HIs.out _ bs.out).mono ?_; rintro e w8 ⟨rfl, b8⟩; have B8 : Hid (Below w3.heap.size w3 w8) := thn bs.out b8; have kd := HC.out _ B8.out; have ke1 := kd.1; have ke2 := kd.2.1; have ke3 := kd.2.2.1; have ke4 := kd.2.2.2; clear kd))
    go_wp2
    go_ret
    exact ⟨true, by simp, HR.out.below B8.out wle.out⟩
  · subst hy
    have HR : Hid (RdO B w w3 ww X (k + 46) S cs st pn false) := ⟨hR.or, hB1.out.trans hR.bel⟩
    clear hR HF
    go_wp2
    go_quiet (fail)
    go_wp2
    go_ret
    exact ⟨false, by simp, HR.out.false_below (Sm.below_dr (Below.refl _ _) nq) wle.out⟩
end
end Go.Proofs.YtgodjnbbocnckaaGreat

namespace Go.Proofs.YtgodjnbbocnckaaGreat
open Go.RowKit Go.Maps Go.ChangeMaps
set_option linter.unusedVariables false
set_option linter.unusedSimpArgs false
set_option maxRecDepth 100000

section
variable {B k k' ww sure b : Nat} {w w' wr w0 : World} {S S' : Dk} {X : Ad} {G : Gp} {cs : List Nat} {st pg : Nat → Option Nat} {pn qn : Nat → Nat} {kd id c : Int}
/-- What the law's FlushAll comes to. -/
structure FaO (B : Nat) (w w' : World) (ww : Nat) (X : Ad) (k : Nat) (S : Dk) (cs : List Nat) (st : Nat → Option Nat) (pn : Nat → Nat) (y : Int) : Prop where
  or : (y = 0 ∧ (Calls Tryz.prog 35 #[.pointer (some ⟨X.pb, 0, none⟩)] w' fun e w'' => e = .returned (.slice none 0 0) ∧ Below w'.heap.size w' w'') ∧ RdO B w w' ww X k S cs st pn true) ∨ (y = 9 ∧ RdO B w w' ww X k S cs st pn false)
  wb : WwIs w' ww X cs st pn
  le : B ≤ w'.heap.size
theorem PW.flushall (h : PW B w ww X k S cs sure G st pn pg pn) (hk : k + 46 * X.n ≤ 30000) : Calls Tryz.prog 34 #[.pointer (some ⟨X.pb, 0, none⟩)] w fun e w' => ∃ y, e = .returned (.int .i64 y) ∧ FaO B w w' ww X (k + 46 * X.n) S cs st pn y := by
  have hle := h.le
  refine (FlushAll_any h.pv hk).mono ?_
  rintro e w' ⟨y, he, hO⟩
  refine ⟨y, he, ?_⟩
  by_cases hy : y = 0
  · obtain ⟨S1, s1, G1, p1, V, hz, _, hc, K⟩ := hO.ok hy
    exact ⟨Or.inl ⟨hy, Table_none V.q.po (fun j hj => hz j (List.mem_range.2 hj)), Or.inl ⟨rfl, S1, s1, G1, p1, ⟨V, h.wb.kept K, h.ge, h.pb⟩, hc⟩, K.bel⟩, h.wb.kept K, V.q.le⟩
  · obtain ⟨h9, L⟩ := hO.bad hy
    obtain ⟨S1, m1, L1⟩ := L.ex
    exact ⟨Or.inr ⟨h9, Or.inr ⟨rfl, L.set, ⟨⟨S1, m1, L1⟩, (h.wb.kept L.kp).f⟩⟩, L.kp.bel⟩, h.wb.kept L.kp, Nat.le_trans hle L.kp.size⟩
set_option maxHeartbeats 8000000 in
theorem step_all (h : PW B w ww X k S cs sure G st pn pg pn) (hk : k + 46 * X.n ≤ 30000) (c : Int) (id kd : Int) (h0 : kd ≠ 0) (h1 : kd ≠ 1) (h2 : kd ≠ 2) (h3 : kd ≠ 3) (h4 : kd ≠ 4) (h5 : kd ≠ 5) : Calls Tryz.prog 11 #[.pointer (some ⟨ww, 0, none⟩), .agg (opA kd id c)] w fun e w' => ∃ b, e = .returned (.bool b) ∧ RdO B w w' ww X (k + 46 * X.n) S cs st pn b := by
  have hle := h.le
  have CF : Hid (∀ wx, Below w.heap.size w wx → Calls Tryz.prog 34 #[.pointer (some ⟨X.pb, 0, none⟩)] wx fun e w' => ∃ y, e = .returned (.int .i64 y) ∧ FaO B wx w' ww X (k + 46 * X.n) S cs st pn y) := fun wx hx => (h.below hx).flushall hk
  have H : Hid (∀ wx, Below w.heap.size w wx → wx.cell? ⟨ww, 3, none⟩ = some (.pointer (some ⟨X.pb, 0, none⟩))) := fun wx hx => (h.below hx).wb.c3
  have t0 : (kd == 0) = false := by simpa using h0
  have t1 : (kd == 1) = false := by simpa using h1
  have t2 : (kd == 2) = false := by simpa using h2
  have t3 : (kd == 3) = false := by simpa using h3
  have t4 : (kd == 4) = false := by simpa using h4
  have t5 : (kd == 5) = false := by simpa using h5
  clear h hk h0 h1 h2 h3 h4 h5
  go_enter Tryz.func11, Tryz.ntmps11
  go_wp2_with (first
    | (refine wpList_box_o (A := opA kd id c) _ rfl _ rfl rfl ?_; intro w1 b1 N1; have O1 : OpB w1 b1 kd id c := ⟨N1.blk⟩; have k0 := O1.c0; have HB1 : Hid (Below w.heap.size w w1) := N1.below; have k3 := H.out _ N1.below; clear O1 N1)
    | (go_at_call 34; refine (CF.out _ HB1.out).mono ?_; rintro e w2 ⟨y, rfl, F2⟩; have kk := F2.wb.c3; have wle : Hid (B ≤ w2.heap.size) := F2.le; rcases F2.or with ⟨rfl, hT, hR⟩ | ⟨rfl, hR⟩ <;> first
        | (have HT : Hid (Calls Tryz.prog 35 #[.pointer (some ⟨X.pb, 0, none⟩)] w2 fun e w'' => e = .returned (.slice none 0 0) ∧ Below w2.heap.size w2 w'') := hT; have HR : Hid (RdO B w1 w2 ww X (k + 46 * X.n) S cs st pn true) := hR; clear hT hR F2)
        | (have HR : Hid (RdO B w1 w2 ww X (k + 46 * X.n) S cs st pn false) := hR; clear hR F2))
    | (go_at_call 35; refine HT.out.mono ?_; rintro e w3 ⟨rfl, b3⟩))
  · go_ret
    have hR : RdO B w w2 ww X (k + 46 * X.n) S cs st pn true := ⟨HR.out.or, (HB1.out.mono hle).trans HR.out.bel⟩
    exact ⟨true, by simp, hR.below b3 wle.out⟩
  · go_ret
    exact ⟨false, by simp, HR.out.or, (HB1.out.mono hle).trans HR.out.bel⟩
/-- The law's world behind some steps; m: how many. -/
structure Wm (B : Nat) (w : World) (ww : Nat) (X : Ad) (k : Nat) (S : Dk) (m : Nat) : Prop where
  ex : ∃ (cs : List Nat) (sure : Nat) (G : Gp) (st pg : Nat → Option Nat) (pn : Nat → Nat), PW B w ww X k S cs sure G st pn pg pn ∧ cs.length ≤ m ∧ ∀ d, pn d ≤ m
theorem Wm.below {m : Nat} (h : Wm B w ww X k S m) (hb : Below w.heap.size w w') : Wm B w' ww X k S m := by
  obtain ⟨cs, s, G, st, pg, pn, P, h1, h2⟩ := h.ex
  exact ⟨cs, s, G, st, pg, pn, P.below hb, h1, h2⟩
/-- What a step comes to. -/
structure SpO (B : Nat) (w w' : World) (ww : Nat) (X : Ad) (k : Nat) (S : Dk) (m : Nat) (b : Bool) : Prop where
  or : (b = true ∧ ∃ S', Wm B w' ww X k S' (m + 1) ∧ (S.set = false → S'.set = false)) ∨ (b = false ∧ S.set = true ∧ ∃ cs, LW B w' ww X k cs)
  bel : Below B w w'
theorem RdO.sp {m : Nat} {b : Bool} (h : RdO B w w' ww X k S cs st pn b) (hk : k ≤ k') (h1 : cs.length ≤ m) (h2 : ∀ d, pn d ≤ m) : SpO B w w' ww X k' S m b := by
  refine ⟨?_, h.bel⟩
  rcases h.or with ⟨e, S1, s1, G1, p1, P, hc⟩ | ⟨e1, e2, e3⟩
  · exact Or.inl ⟨e, S1, ⟨cs, s1, G1, st, p1, pn, P.mono hk, by omega, fun d => by have := h2 d; omega⟩, hc⟩
  · exact Or.inr ⟨e1, e2, cs, e3.mono hk⟩
theorem PtO.sp {m : Nat} {b : Bool} (h : PtO B w w' ww X k S cs st pn b) (hk : k ≤ k') (h1 : cs.length ≤ m) (h2 : ∀ d, pn d ≤ m) : SpO B w w' ww X k' S m b := by
  refine ⟨?_, h.bel⟩
  rcases h.or with ⟨e, S1, s1, G1, p1, pn1, P, h3, hc⟩ | ⟨e1, e2, e3⟩
  · exact Or.inl ⟨e, S1, ⟨cs, s1, G1, st, p1, pn1, P.mono hk, by omega, fun d => by have := h2 d; have := h3 d; omega⟩, hc⟩
  · exact Or.inr ⟨e1, e2, cs, e3.mono hk⟩
theorem SeO.sp {m c : Nat} {b : Bool} (h : SeO B w w' ww X k S cs c sure G st pn pg pn id b) (hv : 2 ≤ pc pn 8 ∨ ¬ (∀ i, i < X.n → (G.F i).pn ≠ 0)) (hk : k ≤ k') (h1 : cs.length ≤ m) (h2 : ∀ d, pn d ≤ m) : SpO B w w' ww X k' S m b := by
  have hl : (cs ++ [c]).length ≤ m + 1 := by rw [List.length_append]; simp; omega
  refine ⟨?_, h.bel⟩
  rcases h.or with ⟨e, _, P⟩ | ⟨e, _, e3, P⟩ | ⟨e, d, j, S1, s1, G1, p1, a1, a2, a3, a4, a5, a6, a7, a8, a9⟩ | ⟨e1, e2, e3⟩
  · exact Or.inl ⟨e, S, ⟨_, sure, G, st, pg, pn, P.mono hk, hl, fun d => by have := h2 d; omega⟩, fun hs => hs⟩
  · have h22 : 2 ≤ pc pn 8 := by
      rcases hv with h | h
      · exact h
      · exact absurd e3 h
    exact Or.inl ⟨by rw [e]; simp [h22], S, ⟨_, sure, G, st, pg, pn, P.mono hk, hl, fun d => by have := h2 d; omega⟩, fun hs => hs⟩
  · exact Or.inl ⟨e, S1, ⟨_, s1, G1, _, p1, pn, a3.mono hk, hl, fun d => by have := h2 d; omega⟩, a8⟩
  · exact Or.inr ⟨e1, e2, _, e3.mono hk⟩
theorem step_any {m : Nat} (h : Wm B w ww X k S m) (hn : X.n ≤ 10) (hk : k ≤ 28000) (hm : m ≤ 60) (kd id : Int) (c : Nat) (hc : c < 256) : Calls Tryz.prog 11 #[.pointer (some ⟨ww, 0, none⟩), .agg (opA kd id (c : Int))] w fun e w' => ∃ b, e = .returned (.bool b) ∧ SpO B w w' ww X (k + 460) S m b := by
  obtain ⟨cs, sure, G, st, pg, pn, P, h1, h2⟩ := h.ex
  have hv : 2 ≤ pc pn 8 ∨ ¬ (∀ i, i < X.n → (G.F i).pn ≠ 0) := by
    rcases Classical.em (∀ i, i < X.n → (G.F i).pn ≠ 0) with hx | hx
    · exact Or.inl (P.pv.two hx)
    · exact Or.inr hx
  have hp9 : ∀ d, pn d ≤ 900 := fun d => by have := h2 d; omega
  by_cases k0 : kd = 0 ∨ kd = 1
  · refine (step_set P (by omega) c hc (by omega) kd id k0).mono ?_
    rintro e w' ⟨b, he, hO⟩
    exact ⟨b, he, hO.sp hv (by omega) h1 h2⟩
  by_cases k2 : kd = 2
  · subst k2
    by_cases hid : 0 ≤ id ∧ id < 8
    · obtain ⟨d, rfl⟩ : ∃ d : Nat, id = (d : Int) := ⟨id.toNat, by omega⟩
      refine (step_get_in P (by omega) (c : Int) d (by omega)).mono ?_
      rintro e w' ⟨b, he, hO⟩
      exact ⟨b, he, hO.sp (by omega) h1 h2⟩
    · refine (step_get_out P (by omega) (c : Int) id hid).mono ?_
      rintro e w' ⟨b, he, hO⟩
      exact ⟨b, he, hO.sp (by omega) h1 h2⟩
  by_cases k3 : kd = 3
  · subst k3
    by_cases hid : 0 ≤ id ∧ id < 8
    · obtain ⟨d, rfl⟩ : ∃ d : Nat, id = (d : Int) := ⟨id.toNat, by omega⟩
      refine (step_pin_in P (by omega) hp9 (c : Int) d (by omega)).mono ?_
      rintro e w' ⟨b, he, hO⟩
      exact ⟨b, he, hO.sp (by omega) h1 h2⟩
    · refine (step_pin_out P (by omega) (c : Int) id hid).mono ?_
      rintro e w' ⟨b, he, hO⟩
      exact ⟨b, he, hO.sp (by omega) h1 h2⟩
  by_cases k4 : kd = 4
  · subst k4
    by_cases hid : 0 ≤ id ∧ id < 8
    · obtain ⟨d, rfl⟩ : ∃ d : Nat, id = (d : Int) := ⟨id.toNat, by omega⟩
      by_cases hz : pn d = 0
      · refine (step_unpin_zero P (c : Int) d (by omega) hz).mono ?_
        rintro e w' ⟨b, he, hO⟩
        exact ⟨b, he, hO.sp (by omega) h1 h2⟩
      · refine (step_unpin_some P hp9 (c : Int) d (by omega) hz).mono ?_
        rintro e w' ⟨b, he, hO⟩
        exact ⟨b, he, hO.sp (by omega) h1 h2⟩
    · refine (step_unpin_out P (c : Int) id hid).mono ?_
      rintro e w' ⟨b, he, hO⟩
      exact ⟨b, he, hO.sp (by omega) h1 h2⟩
  by_cases k5 : kd = 5
  · subst k5
    cases hw : dtb G.F X.n id with
    | false =>
      refine (step_flush_clean P (by omega) (c : Int) id hw).mono ?_
      rintro e w' ⟨b, he, hO⟩
      exact ⟨b, he, hO.sp (by omega) h1 h2⟩
    | true =>
      obtain ⟨j, hj, hh, hs⟩ := dtb_iff.1 hw
      obtain ⟨d, a1, a2⟩ := P.pv.v.us j hj hh.1
      have e : id = (d : Int) := by rw [← hh.2]; exact a2.id
      subst e
      refine (step_flush_dirty P (by omega) (c : Int) d a1 hw).mono ?_
      rintro e w' ⟨b, he, hO⟩
      exact ⟨b, he, hO.sp (by omega) h1 h2⟩
  · refine (step_all P (by omega) (c : Int) id kd (by omega) (by omega) k2 k3 k4 k5).mono ?_
    rintro e w' ⟨b, he, hO⟩
    exact ⟨b, he, hO.sp (by omega) h1 h2⟩
end
/-! ### The script that a law is handed -/
structure Op3 where
  kd : Int
  id : Int
  c : Nat
structure IsOp (w : World) (a : Option Addr) (len : Nat) (f : Nat → Op3) : Prop where
  at_ : ∀ i, i < len → ∃ b off, a = some ⟨b, off, none⟩ ∧ b < w.heap.size ∧ w.rangeAt b (off + i * 3) ((opA (f i).kd (f i).id ((f i).c : Int)).toList)
  c : ∀ i, i < len → (f i).c < 256
theorem open_ops10 {H : Type} {enc : TypeId × Value → H} {w : World} {fuel : Nat} {a : Option Addr} {len cap : Nat} {x : DataW H × List MemPlace}
    (h : DataW.trod enc Tryz.prog w 0 (fun _ => true) true fuel 22 [.slice a len cap] = some x) : ∃ f, IsOp w a len f := by
  rcases Go.Deep.open_slice Tryz.underlying22 h with ⟨hcs, _⟩ | ⟨ad, l, c, m, n, D, Pl, hcs, _, hl, hm, hmm, _, hall⟩
  · simp at hcs
    obtain ⟨rfl, rfl, rfl⟩ := hcs
    exact ⟨fun _ => ⟨0, 0, 0⟩, ⟨fun i hi => absurd hi (by omega), fun i hi => absurd hi (by omega)⟩⟩
  · simp at hcs
    obtain ⟨rfl, rfl, rfl⟩ := hcs
    rw [if_pos rfl] at hmm
    subst hmm
    have hop : Tryz.prog.cellsOf 28 = 3 := by kernel_rfl
    have h3 : Tryz.prog.cellsOf 3 = 1 := by kernel_rfl
    have h5 : Tryz.prog.cellsOf 5 = 1 := by kernel_rfl
    have each : ∀ i, i < len → ∃ q : Op3, (w.cell? (ad.add (i * 3)) = some (.int .i64 q.kd) ∧ w.cell? (ad.add (i * 3 + 1)) = some (.int .i64 q.id) ∧ w.cell? (ad.add (i * 3 + 2)) = some (.int .u8 (q.c : Int))) ∧ q.c < 256 := by
      intro i hi
      obtain ⟨cs', g1, g2⟩ := hall i (by omega)
      rw [hop] at g1
      obtain ⟨_, hlen, hcell⟩ := World.cells?_some g1
      obtain ⟨xs, k, hk, _, _, hxl, hf⟩ := DataW.trod_struct Tryz.underlying28 g2
      match xs, hxl, cs', hlen with
      | [y0, y1, y2], _, [v0, v1, v2], _ =>
        have e0 := hcell 0 (by omega)
        have e1 := hcell 1 (by omega)
        have e2 := hcell 2 (by omega)
        rw [Go.Deep.add_add] at e0 e1 e2
        have f0 := hf 0 _ rfl
        have f1 := hf 1 _ rfl
        have f2 := hf 2 _ rfl
        simp [h3, h5] at f0 f1 f2
        obtain ⟨n0, i0, _, _⟩ := DataW.trod_int Tryz.underlying3 f0
        obtain ⟨n1, i1, _, _⟩ := DataW.trod_int Tryz.underlying3 f1
        obtain ⟨n2, i2, _, b2⟩ := DataW.trod_int Tryz.underlying5 f2
        simp at i0 i1 i2
        subst i0 i1 i2
        have hb := bounds_u8 b2
        refine ⟨⟨n0, n1, n2.toNat⟩, ⟨by simpa using e0, by simpa using e1, ?_⟩, by show n2.toNat < 256; omega⟩
        have : ((n2.toNat : Nat) : Int) = n2 := by omega
        show _ = some (Value.int .u8 ((n2.toNat : Nat) : Int))
        rw [this]
        simpa using e2
    haveI : Inhabited Op3 := ⟨⟨0, 0, 0⟩⟩
    obtain ⟨q, hq⟩ := Go.Deep.choose_lt each
    refine ⟨q, ⟨fun i hi => ?_, fun i hi => (hq i hi).2⟩⟩
    obtain ⟨b, off, spot⟩ := ad
    have g0 := (hq 0 (by omega)).1.1
    have hspot : spot = none := by simpa [Addr.add] using World.cell?_spot g0
    subst hspot
    have hadd : ∀ k, (⟨b, off, none⟩ : Addr).add k = ⟨b, off + k, none⟩ := fun k => by unfold Addr.add; split <;> simp_all
    obtain ⟨⟨g1, g2, g3⟩, _⟩ := hq i hi
    rw [hadd] at g1 g2 g3
    refine ⟨b, off, rfl, ?_, fun j u hu => ?_⟩
    · rcases Nat.lt_or_ge b w.heap.size with h' | h'
      · exact h'
      · simp [World.cell?, Array.getElem?_eq_none h'] at g1
    · have hj : j < 3 := by
        have := (List.getElem?_eq_some_iff.1 hu).1
        simpa [opA] using this
      have : j = 0 ∨ j = 1 ∨ j = 2 := by omega
      rcases this with rfl | rfl | rfl
      · simp [opA] at hu; subst hu; exact g1
      · simp [opA] at hu; subst hu; exact g2
      · simp [opA] at hu; subst hu; exact g3
theorem IsOp.on {w wr : World} {B : Nat} {a : Option Addr} {len : Nat} {f : Nat → Op3} (h : IsOp w a len f) (hB : B = w.heap.size) (hb : Below B w wr) {i : Nat} (hi : i < len) : ∃ b off, a = some ⟨b, off, none⟩ ∧ wr.rangeAt b (off + i * 3) ((opA (f i).kd (f i).id ((f i).c : Int)).toList) := by
  subst hB
  obtain ⟨b, off, h0, h1, g1⟩ := h.at_ i hi
  exact ⟨b, off, h0, fun j u hu => (World.cell?_of_block (hb.block b h1)).trans (g1 j u hu)⟩
theorem info_op : (Tryz.prog.info? 28).map (·.size) = some 3 := by kernel_rfl
theorem wpList_load_op {ops : Array Oper} {rest : List Oper} {o : Oper} {a : Act} {Q : Exit → Act → World → Prop} {g of : Nat} {kd id c : Int} (w : World) (hg : o.guard = none) (x : Operand) (hop : o.op = Op.load 28 x) (hx : a.eval x = .pointer (some ⟨g, of, none⟩)) (hr : w.rangeAt g of ((opA kd id c).toList))
    (h : wpList Tryz.prog ops Q rest (a.put o.dst (.agg (opA kd id c))) w) : wpList Tryz.prog ops Q (o :: rest) a w :=
  wpList_load_mid hg 28 x hop g of hx ((opA kd id c).toList) _ hr Tryz.underlying28 rfl info_op h
end Go.Proofs.YtgodjnbbocnckaaGreat

namespace Go.Proofs.YtgodjnbbocnckaaGreat
open Go.RowKit Go.Maps Go.ChangeMaps
set_option linter.unusedVariables false
set_option linter.unusedSimpArgs false
set_option maxRecDepth 100000

section
variable {B k k' ww sure b m j l : Nat} {w w' wr w0 : World} {S S' : Dk} {X : Ad} {G : Gp} {cs : List Nat} {st pg : Nat → Option Nat} {pn qn : Nat → Nat} {kd id c : Int}
theorem arm_eq (S : Dk) (i x : Int) : (armDk S i x).sure = S.sure ∧ (armDk S i x).wait = S.wait ∧ (armDk S i x).up = S.up ∧ (armDk S i x).n = S.n := by
  unfold armDk; split <;> exact ⟨rfl, rfl, rfl, rfl⟩
theorem now_eq {S S' : Dk} (h1 : S'.sure = S.sure) (h2 : S'.wait = S.wait) (i : Nat) : S'.now i = S.now i := by unfold Dk.now; rw [h1, h2]
theorem PW.arm (h : PW B w ww X k S cs sure G st pn pg qn) (i x : Int) (i0 : 0 ≤ i) (i1 : i ≤ 9223372036854775807) (x0 : 0 ≤ x) (x1 : x ≤ 18446744073709551615) : Calls Tryz.prog 15 #[.pointer (some ⟨X.db, 0, none⟩), .int .i64 i, .int .u64 x] w fun e w' => e = .returned (.int .i64 0) ∧ PW B w' ww X k (armDk S i x) cs sure G st pn pg qn ∧ Below B w w' := by
  obtain ⟨e1, e2, e3, e4⟩ := arm_eq S i x
  have hu := h.pv.q.lv.up
  refine (h.pv.q.ds.arm i x i1 x0 x1).mono ?_
  rintro e w' ⟨he, hd, hK⟩
  have ha : armE S.up i = 0 := by unfold armE; rw [hu, if_pos rfl, if_neg (by omega)]
  rw [ha] at he
  obtain ⟨Q, hQ, hs⟩ := h.pv.q.lv.q
  refine ⟨he, ⟨⟨⟨⟨⟨hd, h.pv.q.lv.lx.g.keptD hK⟩, by rw [e3]; exact hu, h.pv.q.lv.fit, h.pv.q.lv.hs, by rw [e4]; exact h.pv.q.lv.n, h.pv.q.lv.r2, Q, ⟨fun i hi => by rw [now_eq e1 e2]; exact hQ.now i hi, hQ.run, hQ.sz, fun i => by rw [e2]; exact hQ.wait i⟩, hs⟩, h.pv.q.st.kept hK.d.q, h.pv.q.po.kept hK.d, by rw [e4]; exact h.pv.q.n, h.pv.q.len, h.pv.q.cb⟩, h.pv.p.eq (fun i _ => now_eq e1 e2 i), h.pv.v⟩, h.wb.kept hK.d.q, h.ge, h.pb⟩, hK.bel⟩
/-- Behind the loss: the disk is down. -/
structure Dn (B : Nat) (w : World) (ww : Nat) (X : Ad) (k : Nat) (cs : List Nat) (m : Nat) (S : Dk) : Prop where
  lo : Lo B w X.db X.sb k S cs m
  wb : WwF w ww X
theorem PW.crash (h : PW B w ww X k S cs sure G st pn pg qn) (hk : k ≤ 90000) (x : Int) (x0 : 0 ≤ x) (x1 : x ≤ 18446744073709551615) : Calls Tryz.prog 17 #[.pointer (some ⟨X.db, 0, none⟩), .int .u64 x] w fun e w' => ∃ y, e = .returned (.int .i64 y) ∧ Dn B w' ww X (k + 1) cs sure (crDk S x) ∧ Below B w w' := by
  have hq := h.pv.q
  refine (hq.ds.crash (by omega) x x0 x1).mono ?_
  rintro e w' ⟨he, hd, hK⟩
  have hn : (crDk S x).n = S.n := by unfold crDk; split <;> rfl
  refine ⟨_, he, ⟨⟨hd, hq.st.kept hK.d.q, hq.lv.wt.crash x, (h.pv.p.all hq.lv.nowait).crash x, by rw [hn]; exact hq.n, crDk_up S x, hq.len, hq.cb, hq.sl⟩, (h.wb.kept hK.d.q).f⟩, hK.bel⟩
theorem LW.crash (h : LW B w ww X k cs) (hk : k ≤ 90000) (x : Int) (x0 : 0 ≤ x) (x1 : x ≤ 18446744073709551615) : Calls Tryz.prog 17 #[.pointer (some ⟨X.db, 0, none⟩), .int .u64 x] w fun e w' => ∃ y, e = .returned (.int .i64 y) ∧ (∃ m S, Dn B w' ww X (k + 1) cs m S) ∧ Below B w w' := by
  obtain ⟨S, m, hL⟩ := h.ex
  refine (hL.d.crash (by omega) x x0 x1).mono ?_
  rintro e w' ⟨he, hd, hK⟩
  have e1 : crDk S x = S := by unfold crDk; rw [hL.up]; rfl
  rw [e1] at hd
  exact ⟨_, he, ⟨m, S, ⟨hd, hL.st.kept hK.d.q, hL.wt, hL.all, hL.n, hL.up, hL.len, hL.cb, hL.hm⟩, h.wb.kept hK.d.q⟩, hK.bel⟩
theorem Dn.calm (h : Dn B w ww X k cs m S) : Calls Tryz.prog 18 #[.pointer (some ⟨X.db, 0, none⟩)] w fun e w' => e = .returned (.tuple #[]) ∧ Dn B w' ww X k cs m (calmDk S) ∧ Below B w w' := by
  refine h.lo.d.calm.mono ?_
  rintro e w' ⟨he, hd, hK⟩
  have hL := h.lo
  exact ⟨he, ⟨⟨hd, hL.st.kept hK.d.q, hL.wt.eq rfl rfl, ⟨hL.all.sure, hL.all.wait⟩, hL.n, hL.up, hL.len, hL.cb, hL.hm⟩, h.wb.kept hK.d.q⟩, hK.bel⟩
/-- The disk is up again. -/
structure Up2 (B : Nat) (w : World) (ww : Nat) (X : Ad) (k : Nat) (cs : List Nat) (m : Nat) (S : Dk) : Prop where
  d : Ds B w X.db k S
  st : StIs w X.sb X.db 40 8 1
  wt : Wt S 0 40 1 (fsOf cs) m
  all : AllR (RW cs m) S
  n : S.n = 80
  up : S.up = true
  set : S.set = false
  len : cs.length ≤ 100
  cb : ∀ c ∈ cs, c < 256
  hm : m ≤ cs.length
  wb : WwF w ww X
theorem Dn.start (h : Dn B w ww X k cs m (calmDk S)) : Calls Tryz.prog 19 #[.pointer (some ⟨X.db, 0, none⟩)] w fun e w' => e = .returned (.int .i64 0) ∧ Up2 B w' ww X k cs m { calmDk S with up := true } ∧ Below B w w' := by
  refine h.lo.d.start.mono ?_
  rintro e w' ⟨he, hd, hK⟩
  have hL := h.lo
  have hu : (calmDk S).up = false := hL.up
  rw [hu] at he
  exact ⟨he, ⟨hd, hL.st.kept hK.d.q, hL.wt.eq rfl rfl, ⟨hL.all.sure, hL.all.wait⟩, hL.n, rfl, rfl, hL.len, hL.cb, hL.hm, h.wb.kept hK.d.q⟩, hK.bel⟩
/-- The log is open again. -/
structure Op2 (B : Nat) (w : World) (ww : Nat) (X : Ad) (l k : Nat) (cs : List Nat) (m j : Nat) (S : Dk) : Prop where
  lv : Lv B w l k S X.db 0 40 2 ((fsOf cs).take j) j
  st : StIs w X.sb X.db 40 8 1
  al : ∀ i, 40 ≤ i → RW cs m i (S.now i)
  n : S.n = 80
  mj : m ≤ j
  jl : j ≤ cs.length
  len : cs.length ≤ 100
  cb : ∀ c ∈ cs, c < 256
  wb : WwF w ww X
theorem fsOf_fit (h : ∀ c ∈ cs, c < 256) (hl : cs.length ≤ 100) : Fit 40 (fsOf cs) := by
  refine ⟨fun f hf => ?_, ?_, by omega, by omega⟩
  · obtain ⟨c, hc, rfl⟩ := List.mem_map.1 hf
    exact frm_good (fcm_ok (h c hc)).1
  · rw [fsOf_sz h]; omega
theorem Up2.open_ (h : Up2 B w ww X k cs m S) (hk : k ≤ 30000) : Calls Tryz.prog 20 #[.pointer (some ⟨X.db, 0, none⟩), .int .i64 0, .int .i64 40, .int .i64 2] w fun e w' => ∃ l, e = .returned (.tuple #[.pointer (some ⟨l, 0, none⟩), .int .i64 0]) ∧ (∃ j S', Op2 B w' ww X l (k + 41) cs m j S') ∧ Below B w w' := by
  refine (h.wt.open2 (bs := 0) (sc := 40) (run := 2) (fsOf_fit h.cb h.len) (by rw [fsOf_len]; exact h.hm) h.d hk (by omega) (by omega) (by rw [h.n]; omega) h.up h.set).mono ?_
  rintro e w' ⟨j, S', l, he, ⟨h1, h2, h3, h4⟩, hlv, hK, hO⟩
  rw [fsOf_len] at h2
  refine ⟨l, he, ⟨j, S', hlv, h.st.kept hK.q, fun i hi => ?_, by rw [h4, h.n], h1, h2, h.len, h.cb, h.wb.kept hK.q⟩, hK.bel⟩
  rcases hO with ⟨_, rfl⟩ | ⟨h5, hL⟩
  · exact h.all.now i
  · obtain ⟨hu, hw, hsu⟩ := hL.ok rfl
    unfold Dk.now
    rw [hw]
    show RW cs m i (S'.sure i)
    rw [hsu]
    have : nw 0 (cat ((fsOf cs).take j)) 2 ((cat ((fsOf cs).take j)).size / 58) (min ((cat ((fsOf cs).take j)).size / 58 + 1) 40) i = none := by
      unfold nw
      rw [if_neg (by omega)]
    rw [this]
    exact h.all.now i
theorem whl_all {c : Nat → ByteArray} (h : whlJ c 4 = true) : ∀ i, i < 4 → gnS (c i) = gnS (c 0) ∧ lnS (c i) = lnS (c 0) := by
  simp only [whlJ, Bool.and_eq_true, beq_iff_eq] at h
  intro i hi
  have : i = 0 ∨ i = 1 ∨ i = 2 ∨ i = 3 := by omega
  rcases this with rfl | rfl | rfl | rfl <;> omega
theorem knw_some {g : Nat} {c : Nat → ByteArray} (h : knwJ g c 4 = true) : ∃ i, i < 4 ∧ gnS (c i) = g := by
  simp only [knwJ, Bool.or_eq_true, beq_iff_eq] at h
  rcases h with (((h | h) | h) | h) | h
  · cases h
  · exact ⟨0, by omega, by omega⟩
  · exact ⟨1, by omega, by omega⟩
  · exact ⟨2, by omega, by omega⟩
  · exact ⟨3, by omega, by omega⟩
/-- What is read of a page behind a loss. -/
theorem read_rw (hm : m ≤ 1000) {c : Nat → ByteArray} (h : ∀ q, q < 4 → c q = zs64 ∨ ∃ r, r < m ∧ c q = sec 1 (19 * r + 1) (fillS (cs.getD r 0)) q) :
    rdV 1 c = (⟨#[]⟩, 0, 8) ∨ rdV 1 c = (⟨#[]⟩, 0, 10) ∨ ∃ r, r < m ∧ rdV 1 c = (fillS (cs.getD r 0), lnO (some r), 0) := by
  cases hk : knwJ 1 c 4
  · left; unfold rdV; rw [hk]; rfl
  · cases hw : whlJ c 4
    · right; left; unfold rdV; rw [hk, hw]; rfl
    · right; right
      have ha := whl_all hw
      obtain ⟨i, hi, hg⟩ := knw_some hk
      have hg0 : gnS (c 0) = 1 := by rw [← (ha i hi).1]; exact hg
      have hn : ∀ q, q < 4 → ∃ r, r < m ∧ c q = sec 1 (19 * r + 1) (fillS (cs.getD r 0)) q ∧ lnS (c q) = 19 * r + 1 := fun q hq => by
        rcases h q hq with e | ⟨r, h1, h3⟩
        · have := (ha q hq).1
          rw [e, gnS_zero, hg0] at this
          omega
        · refine ⟨r, h1, h3, ?_⟩
          rw [h3]
          exact (read_sec (g := 1) (l := 19 * r + 1) (by omega) (by omega) (fillS_size _) hq).2.1
      obtain ⟨r, h1, h3, h4⟩ := hn 0 (by omega)
      refine ⟨r, h1, ?_⟩
      have := rdV_whole (g := 1) (l := 19 * r + 1) (f := c) (by omega) (by omega) (fillS_size (cs.getD r 0)) (fun q hq => by
        obtain ⟨r', k1, k3, k4⟩ := hn q hq
        have e := (ha q hq).2
        rw [k4, h4] at e
        have e' : r' = r := by omega
        rw [k3, e'])
      rw [this]
      refine Prod.ext rfl (Prod.ext ?_ rfl)
      show ((19 * r + 1 : Nat) : Int) = 19 * (r : Int) + 1
      omega
/-- A page is read behind a loss. -/
structure R2O (w w' : World) (cs : List Nat) (j : Nat) (t : ByteArray) (x y : Int) : Prop where
  or : y = 8 ∨ y = 10 ∨ (y = 0 ∧ ∃ r, r < j ∧ t = fillS (cs.getD r 0) ∧ x = lnO (some r))
  bel : Below w.heap.size w w'
theorem Op2.rd (h : Op2 B w ww X l k cs m j S) (d : Nat) (hd : d < 8) : Calls Tryz.prog 21 #[.pointer (some ⟨X.sb, 0, none⟩), .int .i64 (d : Int)] w fun e w' => ∃ t x y, e = .returned (.tuple #[.string t, .int .i64 x, .int .i64 y]) ∧ R2O w w' cs j t x y := by
  have := h.lv.lx.d.strd h.st h.lv.up h.n (d : Int)
  refine this.mono ?_
  rintro e w' ⟨he, hb⟩
  have hr : rdOut 40 8 1 S (d : Int) = rdV 1 (fun i => S.now (40 + 4 * d + i)) := by
    unfold rdOut; rw [if_neg (by omega), Int.toNat_natCast]
  rw [hr] at he
  refine ⟨_, _, _, he, ?_, hb⟩
  have hmj := h.mj
  have hjl := h.jl
  have hl := h.len
  rcases read_rw (cs := cs) (m := m) (by omega) (c := fun i => S.now (40 + 4 * d + i)) (fun q hq => h.al _ (by omega) d q hd hq rfl) with e1 | e1 | ⟨r, hrm, e1⟩
  · left; rw [e1]
  · right; left; rw [e1]
  · right; right; rw [e1]; exact ⟨rfl, r, by omega, rfl, rfl⟩
theorem Op2.below (h : Op2 B w ww X l k cs m j S) (hb : Below w.heap.size w w') : Op2 B w' ww X l k cs m j S := ⟨h.lv.below hb, h.st.below hb, h.al, h.n, h.mj, h.jl, h.len, h.cb, h.wb.below hb⟩
theorem Op2.rdl (h : Op2 B w ww X l k cs m j S) (r : Nat) (hr : r < j) : Calls Tryz.prog 22 #[.pointer (some ⟨l, 0, none⟩), .int .i64 (lnO (some r))] w fun e w' => ∃ I T x, e = .returned (.tuple #[.agg ((cmS ((cs.getD r 0 : Nat) : Int)).A I T), .int .i64 x, .int .i64 0]) ∧ I.oneCell' = true ∧ T.oneCell' = true ∧ Op2 B w' ww X l k cs m j S ∧ Below B w w' := by
  have hjl := h.jl
  have hlen : ((fsOf cs).take j).length = j := by rw [List.length_take, fsOf_len]; omega
  have e0 : (fsOf cs).take j = fsOf (cs.take j) := by simp [fsOf, List.map_take]
  have hcb : ∀ c ∈ cs.take j, c < 256 := fun c hc => h.cb c (List.mem_of_mem_take hc)
  have hoff : off ((fsOf cs).take j) r = 19 * r := by rw [e0]; exact fsOf_off hcb (by rw [List.length_take]; omega)
  have hsz : (cat ((fsOf cs).take j)).size = 19 * j := by rw [e0, fsOf_sz hcb, List.length_take]; congr 1; omega
  have hget : ((fsOf cs).take j)[r]'(by omega) = fcm (cs.getD r 0) := by
    rw [List.getElem_take]
    simp [fsOf, List.getD, show r < cs.length by omega]
  have hc : cs.getD r 0 < 256 := by
    have : cs.getD r 0 = cs[r]'(by omega) := by simp [List.getD, show r < cs.length by omega]
    rw [this]; exact h.cb _ (List.getElem_mem _)
  have ho := open_at h.lv.fit.frm (i := r) (by omega)
  rw [hget, hoff, (fcm_ok hc).2.2, (fcm_ok hc).2.1] at ho
  refine (read_ok h.lv.lx h.lv.fit (lnO (some r)) (lnO_pos r) (by rw [hsz]; simp only [lnO]; omega) (m := cmM ((cs.getD r 0 : Nat) : Int)) (n := 19) (by
    have : lnO (some r) - 1 = ((19 * r : Nat) : Int) := by simp only [lnO]; omega
    rw [this]; exact ho) (by omega) (by omega)).mono ?_
  rintro e w' ⟨⟨v, he, hv⟩, hlx, hK, hce⟩
  obtain ⟨I, T, rfl, hI, hT⟩ := hv.ex
  exact ⟨I, T, _, he, hI.slI.one, hT.slT.one, ⟨⟨hlx, h.lv.up, h.lv.fit, h.lv.hs, h.lv.n, h.lv.r2, h.lv.q⟩, h.st.kept hK.l.q, h.al, h.n, h.mj, h.jl, h.len, h.cb, h.wb.kept hK.l.q⟩, hK.bel⟩
end
end Go.Proofs.YtgodjnbbocnckaaGreat
