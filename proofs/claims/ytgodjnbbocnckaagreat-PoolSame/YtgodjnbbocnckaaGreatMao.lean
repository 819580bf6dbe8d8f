/- The law's step: Flush, FlushAll, walked; any step. The law's step: FlushAll; any step. What the law's world rests on: two of them side by side. Two of the law's worlds side by side. PoolSame, walked. -/
import Derived.Test.YtgodjnbbocnckaaGreatMan
import Derived.Deep.Slices
import Derived.OpenShut
namespace Go.Proofs.YtgodjnbbocnckaaGreat
open Go.RowKit Go.Maps Go.ChangeMaps
set_option linter.unusedVariables false
set_option linter.unusedSimpArgs false
set_option maxRecDepth 100000

section
variable [Inhabited PrSet] {B k k' ww sure b : Nat} {w w' wr w0 : World} {S S' : Dk} {X : Ad} {G : Gp} {cs : List Nat} {st pg : Nat → Option Nat} {pn qn : Nat → Nat} {kd id c : Int}
theorem RdO.false_below (h : RdO B w wr ww X k S cs st pn false) (hb : Below wr.heap.size wr w') (hB : B ≤ wr.heap.size) : RdO B w w' ww X k S cs st pn false := by
  refine ⟨?_, h.bel.trans (hb.mono hB)⟩
  rcases h.or with ⟨h1, _⟩ | ⟨h1, h2, h3⟩
  · cases h1
  · exact Or.inr ⟨h1, h2, h3.below hb⟩
set_option maxHeartbeats 8000000 in
theorem step_flush_clean (h : PW B w ww X k S cs sure G st pn pg pn) (hk : k ≤ 29000) (c : Int) (id : Int) (hw : dtb G.F X.n id = false) : Calls Tryz.prog 11 #[.pointer (some ⟨ww, 0, none⟩), .agg (opA 5 id c)] w fun e w' => ∃ b, e = .returned (.bool b) ∧ RdO B w w' ww X (k + 46) S cs st pn b := by
  have hle := h.le
  have CD : Hid (∀ wx, Below w.heap.size w wx → Calls Tryz.prog 26 #[.pointer (some ⟨X.pb, 0, none⟩), .int .i64 id] wx fun e w' => e = .returned (.bool false) ∧ Below wx.heap.size wx w') := fun wx hx => by
    have := Dirty_any (h.below hx).pv id
    rw [hw] at this
    exact this.mono (fun e w' ⟨h1, h2⟩ => ⟨h1, h2 ▸ Below.refl _ _⟩)
  have CF : Hid (∀ wx, Below w.heap.size w wx → Calls Tryz.prog 33 #[.pointer (some ⟨X.pb, 0, none⟩), .int .i64 id] wx fun e w' => ∃ y, e = .returned (.int .i64 y) ∧ FcO B wx w' ww X (k + 46) S cs st pn y) := fun wx hx => (h.below hx).flushc hk id
  have H : Hid (PW B w ww X k S cs sure G st pn pg pn) := h
  clear h hk hw
  go_enter Tryz.func11, Tryz.ntmps11
  go_wp2_with (refine wpList_box_o (A := opA 5 id c) _ rfl _ rfl rfl ?_; intro w1 b1 N1; have O1 : OpB w1 b1 5 id c := ⟨N1.blk⟩; have k0 := O1.c0; have HO : Hid (OpB w1 b1 5 id c) := O1; have HB1 : Hid (Below w.heap.size w w1) := N1.below; clear O1 N1)
  have bd : Hid (Below w.heap.size w w1.drew) := HB1.out.drew
  have bd1 : Hid (Below w1.heap.size w1 w1.drew) := (Below.refl _ _).drew
  have q1 := (H.out.below bd.out).wb.c3
  have q2 := (HO.out.below bd1.out).c1
  go_region_held3 (fun W => W.cell? ⟨ww, 3, none⟩ = some (.pointer (some ⟨X.pb, 0, none⟩)) ∧ W.cell? ⟨b1, 1, none⟩ = some (.int .i64 id)) (first | exact ⟨keep1, keep2⟩ | exact ⟨q1, q2⟩ | go_keep) (first
    | (go_at_call 26; refine (CD.out _ bd.out).mono ?_; rintro e w2 ⟨rfl, b2⟩; have B2 : Hid (Below w.heap.size w w2) := thn bd.out b2; have O2 : Hid (OpB w2 b1 5 id c) := HO.out.below (thn bd1.out b2); have keep1 := (H.out.below B2.out).wb.c3; have keep2 := O2.out.c1; clear b2))
  go_wp2
  have bq : Hid (Below w.heap.size w w2.drew) := B2.out.drew
  have bq1 : Hid (Below w2.heap.size w2 w2.drew) := (Below.refl _ _).drew
  have r1 := (H.out.below bq.out).wb.c3
  have r2 := (O2.out.below bq1.out).c1
  go_region_held3 (fun W => W.cell? ⟨ww, 3, none⟩ = some (.pointer (some ⟨X.pb, 0, none⟩)) ∧ W.cell? ⟨b1, 1, none⟩ = some (.int .i64 id)) (first | exact ⟨kee1, kee2⟩ | exact ⟨r1, r2⟩ | go_keep) (first
    | (go_at_call 33; refine (CF.out _ bq.out).mono ?_; rintro e w3 ⟨y, rfl, F3⟩; have HF : Hid (FcO B w2.drew w3 ww X (k + 46) S cs st pn y) := F3; have kee1 := F3.wb.c3; have kee2 := ((O2.out.below bq1.out).kept F3.kp).c1; clear F3))
  have hB1 : Hid (Below B w w2.drew) := bq.out.mono hle
  rcases HF.out.or with ⟨hy, hR⟩ | ⟨hy, hR⟩ | ⟨hy, hR⟩
  · subst hy
    have HR : Hid (RdO B w w3 ww X (k + 46) S cs st pn true) := ⟨hR.or, hB1.out.trans hR.bel⟩
    clear hR HF
    go_wp2
    go_ret
    exact ⟨true, by simp, HR.out⟩
  · subst hy
    have HR : Hid (RdO B w w3 ww X (k + 46) S cs st pn true) := ⟨hR.or, hB1.out.trans hR.bel⟩
    clear hR HF
    go_wp2
    go_ret
    exact ⟨true, by simp, HR.out⟩
  · subst hy
    have HR : Hid (RdO B w w3 ww X (k + 46) S cs st pn false) := ⟨hR.or, hB1.out.trans hR.bel⟩
    clear hR HF
    go_wp2
    go_ret
    exact ⟨false, by simp, HR.out⟩
set_option maxHeartbeats 8000000 in
theorem step_flush_dirty (h : PW B w ww X k S cs sure G st pn pg pn) (hk : k ≤ 29000) (c : Int) (d : Nat) (hd : d < 8) (hw : dtb G.F X.n (d : Int) = true) : Calls Tryz.prog 11 #[.pointer (some ⟨ww, 0, none⟩), .agg (opA 5 (d : Int) c)] w fun e w' => ∃ b, e = .returned (.bool b) ∧ RdO B w w' ww X (k + 46) S cs st pn b := by
  have hle := h.le
  have CD : Hid (∀ wx, Below w.heap.size w wx → Calls Tryz.prog 26 #[.pointer (some ⟨X.pb, 0, none⟩), .int .i64 (d : Int)] wx fun e w' => e = .returned (.bool true) ∧ Below wx.heap.size wx w') := fun wx hx => by
    have := Dirty_any (h.below hx).pv (d : Int)
    rw [hw] at this
    exact this.mono (fun e w' ⟨h1, h2⟩ => ⟨h1, h2 ▸ Below.refl _ _⟩)
  have CF : Hid (∀ wx, Below w.heap.size w wx → Calls Tryz.prog 33 #[.pointer (some ⟨X.pb, 0, none⟩), .int .i64 (d : Int)] wx fun e w' => ∃ y, e = .returned (.int .i64 y) ∧ FfO B wx w' ww X (k + 46) S cs st pn d y) := fun wx hx => (h.below hx).flush hk d hd hw
  have H : Hid (PW B w ww X k S cs sure G st pn pg pn) := h
  have d8 : (d : Int) < 8 := by omega
  have d0 : (0 : Int) ≤ (d : Int) := by omega
  have HD : Hid (d < 8) := hd
  have m0 : Hid True := trivial
  clear h hk hw
  go_enter Tryz.func11, Tryz.ntmps11
  go_wp2_with (refine wpList_box_o (A := opA 5 (d : Int) c) _ rfl _ rfl rfl ?_; intro w1 b1 N1; have O1 : OpB w1 b1 5 (d : Int) c := ⟨N1.blk⟩; have k0 := O1.c0; have HO : Hid (OpB w1 b1 5 (d : Int) c) := O1; have HB1 : Hid (Below w.heap.size w w1) := N1.below; clear O1 N1)
  have bd : Hid (Below w.heap.size w w1.drew) := HB1.out.drew
  have bd1 : Hid (Below w1.heap.size w1 w1.drew) := (Below.refl _ _).drew
  have q1 := (H.out.below bd.out).wb.c3
  have q2 := (HO.out.below bd1.out).c1
  go_region_held3 (fun W => W.cell? ⟨ww, 3, none⟩ = some (.pointer (some ⟨X.pb, 0, none⟩)) ∧ W.cell? ⟨b1, 1, none⟩ = some (.int .i64 (d : Int))) (first | exact ⟨keep1, keep2⟩ | exact ⟨q1, q2⟩ | go_keep) (first
    | (go_at_call 26; refine (CD.out _ bd.out).mono ?_; rintro e w2 ⟨rfl, b2⟩; have B2 : Hid (Below w.heap.size w w2) := thn bd.out b2; have O2 : Hid (OpB w2 b1 5 (d : Int) c) := HO.out.below (thn bd1.out b2); have keep1 := (H.out.below B2.out).wb.c3; have keep2 := O2.out.c1; clear b2))
  go_wp2
  have bq : Hid (Below w.heap.size w w2.drew) := B2.out.drew
  have bq1 : Hid (Below w2.heap.size w2 w2.drew) := (Below.refl _ _).drew
  have r1 := (H.out.below bq.out).wb.c3
  have r2 := (O2.out.below bq1.out).c1
  go_region_held3 (fun W => W.cell? ⟨ww, 3, none⟩ = some (.pointer (some ⟨X.pb, 0, none⟩)) ∧ W.cell? ⟨b1, 1, none⟩ = some (.int .i64 (d : Int))) (first | exact ⟨kee1, kee2⟩ | exact ⟨r1, r2⟩ | go_keep) (first
    | (go_at_call 33; refine (CF.out _ bq.out).mono ?_; rintro e w3 ⟨y, rfl, F3⟩; have HF : Hid (FfO B w2.drew w3 ww X (k + 46) S cs st pn d y) := F3; have O3 : Hid (OpB w3 b1 5 (d : Int) c) := (O2.out.below bq1.out).kept F3.kp; have kee1 := F3.wb.c3; have kee2 := O3.out.c1; clear F3))
  have hB1 : Hid (Below B w w2.drew) := bq.out.mono hle
  have HW3 : Hid (WwIs w3 ww X cs st pn) := HF.out.wb
  have wle : Hid (B ≤ w3.heap.size) := HF.out.le
  rcases HF.out.or with ⟨hy, hDr, hIs, hR⟩ | ⟨hy, hR⟩
  · subst hy
    have HR : Hid (RdO B w w3 ww X (k + 46) S cs st pn true) := ⟨hR.or, hB1.out.trans hR.bel⟩
    have HDr : Hid (∀ wx, Below w3.heap.size w3 wx → Calls Tryz.prog 26 #[.pointer (some ⟨X.pb, 0, none⟩), .int .i64 (d : Int)] wx fun e w'' => e = .returned (.bool false) ∧ w'' = wx) := hDr
    have HIs : Hid (∀ wx, Below w3.heap.size w3 wx → Calls Tryz.prog 28 #[.pointer (some ⟨X.sb, 0, none⟩), .int .i64 (d : Int), .int .i64 (lnO (st d))] wx fun e w'' => e = .returned (.bool true) ∧ Below wx.heap.size wx w'') := hIs
    clear hR hDr hIs HF
    go_wp2
    have bs : Hid (Below w3.heap.size w3 w3.drew) := (Below.refl _ _).drew
    have HC : Hid (∀ wx, Below w3.heap.size w3 wx → wx.cell? ⟨ww, 3, none⟩ = some (.pointer (some ⟨X.pb, 0, none⟩)) ∧ wx.cell? ⟨ww, 1, none⟩ = some (.pointer (some ⟨X.sb, 0, none⟩)) ∧ wx.cell? ⟨ww, 12 + d, none⟩ = some (.int .i64 (lnO (st d))) ∧ wx.cell? ⟨b1, 1, none⟩ = some (.int .i64 (d : Int))) := fun wx hx => ⟨(HW3.out.below hx).c3, (HW3.out.below hx).c1, (HW3.out.below hx).ln HD.out, (O3.out.below hx).c1⟩
    have kd := HC.out _ bs.out
    have s1 := kd.1
    have s2 := kd.2.1
    have s3 := kd.2.2.1
    have s4 := kd.2.2.2
    clear kd
    generalize lnO (st d) = ln at *
    go_region_held3 (fun W => W.cell? ⟨ww, 3, none⟩ = some (.pointer (some ⟨X.pb, 0, none⟩)) ∧ W.cell? ⟨ww, 1, none⟩ = some (.pointer (some ⟨X.sb, 0, none⟩)) ∧ W.cell? ⟨ww, 12 + d, none⟩ = some (.int .i64 ln) ∧ W.cell? ⟨b1, 1, none⟩ = some (.int .i64 (d : Int))) (first | exact ⟨ke1, ke2, ke3, ke4⟩ | exact ⟨s1, s2, s3, s4⟩ | go_keep) (first
      | (go_at_call 26; refine (HDr.out _ bs.out).mono ?_; rintro e w7 ⟨rfl, rfl⟩)
      | (go_at_call 28; refine (HIs.out _ bs.out).mono ?_; rintro e w8 ⟨rfl, b8⟩; have B8 : Hid (Below w3.heap.size w3 w8) := thn bs.out b8; have kd := HC.out _ B8.out; have ke1 := kd.1; have ke2 := kd.2.1; have ke3 := kd.2.2.1; have ke4 := kd.2.2.2; clear kd))
    go_wp2
    go_ret
    exact ⟨true, by simp, HR.out.below B8.out wle.out⟩
  · subst hy
    have HR : Hid (RdO B w w3 ww X (k + 46) S cs st pn false) := ⟨hR.or, hB1.out.trans hR.bel⟩
    clear hR HF
    go_wp2
    go_quiet (fail)
    go_wp2
    go_ret
    exact ⟨false, by simp, HR.out.false_below (Sm.below_dr (Below.refl _ _) nq) wle.out⟩
end
end Go.Proofs.YtgodjnbbocnckaaGreat

namespace Go.Proofs.YtgodjnbbocnckaaGreat
open Go.RowKit Go.Maps Go.ChangeMaps
set_option linter.unusedVariables false
set_option linter.unusedSimpArgs false
set_option maxRecDepth 100000

section
variable [Inhabited PrSet] {B k k' ww sure b : Nat} {w w' wr w0 : World} {S S' : Dk} {X : Ad} {G : Gp} {cs : List Nat} {st pg : Nat → Option Nat} {pn qn : Nat → Nat} {kd id c : Int}
/-- What the law's FlushAll comes to. -/
structure FaO (B : Nat) (w w' : World) (ww : Nat) (X : Ad) (k : Nat) (S : Dk) (cs : List Nat) (st : Nat → Option Nat) (pn : Nat → Nat) (y : Int) : Prop where
  or : (y = 0 ∧ (Calls Tryz.prog 35 #[.pointer (some ⟨X.pb, 0, none⟩)] w' fun e w'' => e = .returned (.slice none 0 0) ∧ Below w'.heap.size w' w'') ∧ RdO B w w' ww X k S cs st pn true) ∨ (y = 9 ∧ RdO B w w' ww X k S cs st pn false)
  wb : WwIs w' ww X cs st pn
  le : B ≤ w'.heap.size
theorem PW.flushall (h : PW B w ww X k S cs sure G st pn pg pn) (hk : k + 46 * X.n ≤ 30000) : Calls Tryz.prog 34 #[.pointer (some ⟨X.pb, 0, none⟩)] w fun e w' => ∃ y, e = .returned (.int .i64 y) ∧ FaO B w w' ww X (k + 46 * X.n) S cs st pn y := by
  have hle := h.le
  refine (FlushAll_any h.pv hk).mono ?_
  rintro e w' ⟨y, he, hO⟩
  refine ⟨y, he, ?_⟩
  by_cases hy : y = 0
  · obtain ⟨S1, s1, G1, p1, V, hz, _, hc, K⟩ := hO.ok hy
    exact ⟨Or.inl ⟨hy, Table_none V.q.po (fun j hj => hz j (List.mem_range.2 hj)), Or.inl ⟨rfl, S1, s1, G1, p1, ⟨V, h.wb.kept K, h.ge, h.pb⟩, hc⟩, K.bel⟩, h.wb.kept K, V.q.le⟩
  · obtain ⟨h9, L⟩ := hO.bad hy
    obtain ⟨S1, m1, L1⟩ := L.ex
    exact ⟨Or.inr ⟨h9, Or.inr ⟨rfl, L.set, ⟨⟨S1, m1, L1⟩, (h.wb.kept L.kp).f⟩⟩, L.kp.bel⟩, h.wb.kept L.kp, Nat.le_trans hle L.kp.size⟩
set_option maxHeartbeats 8000000 in
theorem step_all (h : PW B w ww X k S cs sure G st pn pg pn) (hk : k + 46 * X.n ≤ 30000) (c : Int) (id kd : Int) (h0 : kd ≠ 0) (h1 : kd ≠ 1) (h2 : kd ≠ 2) (h3 : kd ≠ 3) (h4 : kd ≠ 4) (h5 : kd ≠ 5) : Calls Tryz.prog 11 #[.pointer (some ⟨ww, 0, none⟩), .agg (opA kd id c)] w fun e w' => ∃ b, e = .returned (.bool b) ∧ RdO B w w' ww X (k + 46 * X.n) S cs st pn b := by
  have hle := h.le
  have CF : Hid (∀ wx, Below w.heap.size w wx → Calls Tryz.prog 34 #[.pointer (some ⟨X.pb, 0, none⟩)] wx fun e w' => ∃ y, e = .returned (.int .i64 y) ∧ FaO B wx w' ww X (k + 46 * X.n) S cs st pn y) := fun wx hx => (h.below hx).flushall hk
  have H : Hid (∀ wx, Below w.heap.size w wx → wx.cell? ⟨ww, 3, none⟩ = some (.pointer (some ⟨X.pb, 0, none⟩))) := fun wx hx => (h.below hx).wb.c3
  have t0 : (kd == 0) = false := by simpa using h0
  have t1 : (kd == 1) = false := by simpa using h1
  have t2 : (kd == 2) = false := by simpa using h2
  have t3 : (kd == 3) = false := by simpa using h3
  have t4 : (kd == 4) = false := by simpa using h4
  have t5 : (kd == 5) = false := by simpa using h5
  clear h hk h0 h1 h2 h3 h4 h5
  go_enter Tryz.func11, Tryz.ntmps11
  go_wp2_with (first
    | (refine wpList_box_o (A := opA kd id c) _ rfl _ rfl rfl ?_; intro w1 b1 N1; have O1 : OpB w1 b1 kd id c := ⟨N1.blk⟩; have k0 := O1.c0; have HB1 : Hid (Below w.heap.size w w1) := N1.below; have k3 := H.out _ N1.below; clear O1 N1)
    | (go_at_call 34; refine (CF.out _ HB1.out).mono ?_; rintro e w2 ⟨y, rfl, F2⟩; have kk := F2.wb.c3; have wle : Hid (B ≤ w2.heap.size) := F2.le; rcases F2.or with ⟨rfl, hT, hR⟩ | ⟨rfl, hR⟩ <;> first
        | (have HT : Hid (Calls Tryz.prog 35 #[.pointer (some ⟨X.pb, 0, none⟩)] w2 fun e w'' => e = .returned (.slice none 0 0) ∧ Below w2.heap.size w2 w'') := hT; have HR : Hid (RdO B w1 w2 ww X (k + 46 * X.n) S cs st pn true) := hR; clear hT hR F2)
        | (have HR : Hid (RdO B w1 w2 ww X (k + 46 * X.n) S cs st pn false) := hR; clear hR F2))
    | (go_at_call 35; refine HT.out.mono ?_; rintro e w3 ⟨rfl, b3⟩))
  · go_ret
    have hR : RdO B w w2 ww X (k + 46 * X.n) S cs st pn true := ⟨HR.out.or, (HB1.out.mono hle).trans HR.out.bel⟩
    exact ⟨true, by simp, hR.below b3 wle.out⟩
  · go_ret
    exact ⟨false, by simp, HR.out.or, (HB1.out.mono hle).trans HR.out.bel⟩
/-- The law's world behind some steps; m: how many. -/
structure Wm (B : Nat) (w : World) (ww : Nat) (X : Ad) (k : Nat) (S : Dk) (m : Nat) : Prop where
  ex : ∃ (cs : List Nat) (sure : Nat) (G : Gp) (st pg : Nat → Option Nat) (pn : Nat → Nat), PW B w ww X k S cs sure G st pn pg pn ∧ cs.length ≤ m ∧ ∀ d, pn d ≤ m
theorem Wm.below {m : Nat} (h : Wm B w ww X k S m) (hb : Below w.heap.size w w') : Wm B w' ww X k S m := by
  obtain ⟨cs, s, G, st, pg, pn, P, h1, h2⟩ := h.ex
  exact ⟨cs, s, G, st, pg, pn, P.below hb, h1, h2⟩
/-- What a step comes to. -/
structure SpO (B : Nat) (w w' : World) (ww : Nat) (X : Ad) (k : Nat) (S : Dk) (m : Nat) (b : Bool) : Prop where
  or : (b = true ∧ ∃ S', Wm B w' ww X k S' (m + 1) ∧ (S.set = false → S'.set = false)) ∨ (b = false ∧ S.set = true ∧ ∃ cs, LW B w' ww X k cs)
  bel : Below B w w'
theorem RdO.sp {m : Nat} {b : Bool} (h : RdO B w w' ww X k S cs st pn b) (hk : k ≤ k') (h1 : cs.length ≤ m) (h2 : ∀ d, pn d ≤ m) : SpO B w w' ww X k' S m b := by
  refine ⟨?_, h.bel⟩
  rcases h.or with ⟨e, S1, s1, G1, p1, P, hc⟩ | ⟨e1, e2, e3⟩
  · exact Or.inl ⟨e, S1, ⟨cs, s1, G1, st, p1, pn, P.mono hk, by omega, fun d => by have := h2 d; omega⟩, hc⟩
  · exact Or.inr ⟨e1, e2, cs, e3.mono hk⟩
theorem PtO.sp {m : Nat} {b : Bool} (h : PtO B w w' ww X k S cs st pn b) (hk : k ≤ k') (h1 : cs.length ≤ m) (h2 : ∀ d, pn d ≤ m) : SpO B w w' ww X k' S m b := by
  refine ⟨?_, h.bel⟩
  rcases h.or with ⟨e, S1, s1, G1, p1, pn1, P, h3, hc⟩ | ⟨e1, e2, e3⟩
  · exact Or.inl ⟨e, S1, ⟨cs, s1, G1, st, p1, pn1, P.mono hk, by omega, fun d => by have := h2 d; have := h3 d; omega⟩, hc⟩
  · exact Or.inr ⟨e1, e2, cs, e3.mono hk⟩
theorem SeO.sp {m c : Nat} {b : Bool} (h : SeO B w w' ww X k S cs c sure G st pn pg pn id b) (hv : 2 ≤ pc pn 8 ∨ ¬ (∀ i, i < X.n → (G.F i).pn ≠ 0)) (hk : k ≤ k') (h1 : cs.length ≤ m) (h2 : ∀ d, pn d ≤ m) : SpO B w w' ww X k' S m b := by
  have hl : (cs ++ [c]).length ≤ m + 1 := by rw [List.length_append]; simp; omega
  refine ⟨?_, h.bel⟩
  rcases h.or with ⟨e, _, P⟩ | ⟨e, _, e3, P⟩ | ⟨e, d, j, S1, s1, G1, p1, a1, a2, a3, a4, a5, a6, a7, a8, a9⟩ | ⟨e1, e2, e3⟩
  · exact Or.inl ⟨e, S, ⟨_, sure, G, st, pg, pn, P.mono hk, hl, fun d => by have := h2 d; omega⟩, fun hs => hs⟩
  · have h22 : 2 ≤ pc pn 8 := by
      rcases hv with h | h
      · exact h
      · exact absurd e3 h
    exact Or.inl ⟨by rw [e]; simp [h22], S, ⟨_, sure, G, st, pg, pn, P.mono hk, hl, fun d => by have := h2 d; omega⟩, fun hs => hs⟩
  · exact Or.inl ⟨e, S1, ⟨_, s1, G1, _, p1, pn, a3.mono hk, hl, fun d => by have := h2 d; omega⟩, a8⟩
  · exact Or.inr ⟨e1, e2, _, e3.mono hk⟩
theorem step_any {m : Nat} (h : Wm B w ww X k S m) (hn : X.n ≤ 10) (hk : k ≤ 28000) (hm : m ≤ 60) (kd id : Int) (c : Nat) (hc : c < 256) : Calls Tryz.prog 11 #[.pointer (some ⟨ww, 0, none⟩), .agg (opA kd id (c : Int))] w fun e w' => ∃ b, e = .returned (.bool b) ∧ SpO B w w' ww X (k + 460) S m b := by
  obtain ⟨cs, sure, G, st, pg, pn, P, h1, h2⟩ := h.ex
  have hv : 2 ≤ pc pn 8 ∨ ¬ (∀ i, i < X.n → (G.F i).pn ≠ 0) := by
    rcases Classical.em (∀ i, i < X.n → (G.F i).pn ≠ 0) with hx | hx
    · exact Or.inl (P.pv.two hx)
    · exact Or.inr hx
  have hp9 : ∀ d, pn d ≤ 900 := fun d => by have := h2 d; omega
  by_cases k0 : kd = 0 ∨ kd = 1
  · refine (step_set P (by omega) c hc (by omega) kd id k0).mono ?_
    rintro e w' ⟨b, he, hO⟩
    exact ⟨b, he, hO.sp hv (by omega) h1 h2⟩
  by_cases k2 : kd = 2
  · subst k2
    by_cases hid : 0 ≤ id ∧ id < 8
    · obtain ⟨d, rfl⟩ : ∃ d : Nat, id = (d : Int) := ⟨id.toNat, by omega⟩
      refine (step_get_in P (by omega) (c : Int) d (by omega)).mono ?_
      rintro e w' ⟨b, he, hO⟩
      exact ⟨b, he, hO.sp (by omega) h1 h2⟩
    · refine (step_get_out P (by omega) (c : Int) id hid).mono ?_
      rintro e w' ⟨b, he, hO⟩
      exact ⟨b, he, hO.sp (by omega) h1 h2⟩
  by_cases k3 : kd = 3
  · subst k3
    by_cases hid : 0 ≤ id ∧ id < 8
    · obtain ⟨d, rfl⟩ : ∃ d : Nat, id = (d : Int) := ⟨id.toNat, by omega⟩
      refine (step_pin_in P (by omega) hp9 (c : Int) d (by omega)).mono ?_
      rintro e w' ⟨b, he, hO⟩
      exact ⟨b, he, hO.sp (by omega) h1 h2⟩
    · refine (step_pin_out P (by omega) (c : Int) id hid).mono ?_
      rintro e w' ⟨b, he, hO⟩
      exact ⟨b, he, hO.sp (by omega) h1 h2⟩
  by_cases k4 : kd = 4
  · subst k4
    by_cases hid : 0 ≤ id ∧ id < 8
    · obtain ⟨d, rfl⟩ : ∃ d : Nat, id = (d : Int) := ⟨id.toNat, by omega⟩
      by_cases hz : pn d = 0
      · refine (step_unpin_zero P (c : Int) d (by omega) hz).mono ?_
        rintro e w' ⟨b, he, hO⟩
        exact ⟨b, he, hO.sp (by omega) h1 h2⟩
      · refine (step_unpin_some P hp9 (c : Int) d (by omega) hz).mono ?_
        rintro e w' ⟨b, he, hO⟩
        exact ⟨b, he, hO.sp (by omega) h1 h2⟩
    · refine (step_unpin_out P (c : Int) id hid).mono ?_
      rintro e w' ⟨b, he, hO⟩
      exact ⟨b, he, hO.sp (by omega) h1 h2⟩
  by_cases k5 : kd = 5
  · subst k5
    cases hw : dtb G.F X.n id with
    | false =>
      refine (step_flush_clean P (by omega) (c : Int) id hw).mono ?_
      rintro e w' ⟨b, he, hO⟩
      exact ⟨b, he, hO.sp (by omega) h1 h2⟩
    | true =>
      obtain ⟨j, hj, hh, hs⟩ := dtb_iff.1 hw
      obtain ⟨d, a1, a2⟩ := P.pv.v.us j hj hh.1
      have e : id = (d : Int) := by rw [← hh.2]; exact a2.id
      subst e
      refine (step_flush_dirty P (by omega) (c : Int) d a1 hw).mono ?_
      rintro e w' ⟨b, he, hO⟩
      exact ⟨b, he, hO.sp (by omega) h1 h2⟩
  · refine (step_all P (by omega) (c : Int) id kd (by omega) (by omega) k2 k3 k4 k5).mono ?_
    rintro e w' ⟨b, he, hO⟩
    exact ⟨b, he, hO.sp (by omega) h1 h2⟩
end
/-! ### The script that a law is handed -/
structure Op3 where
  kd : Int
  id : Int
  c : Nat
structure IsOp (w : World) (a : Option Addr) (len : Nat) (f : Nat → Op3) : Prop where
  at_ : ∀ i, i < len → ∃ b off, a = some ⟨b, off, none⟩ ∧ b < w.heap.size ∧ w.rangeAt b (off + i * 3) ((opA (f i).kd (f i).id ((f i).c : Int)).toList)
  c : ∀ i, i < len → (f i).c < 256
theorem open_ops10 {H : Type} {enc : TypeId × Value → H} {w : World} {fuel : Nat} {a : Option Addr} {len cap : Nat} {x : DataW H × List MemPlace}
    (h : DataW.trod enc Tryz.prog w 0 (fun _ => true) true fuel 22 [.slice a len cap] = some x) : ∃ f, IsOp w a len f := by
  rcases Go.Deep.open_slice Tryz.underlying22 h with ⟨hcs, _⟩ | ⟨ad, l, c, m, n, D, Pl, hcs, _, hl, hm, hmm, _, hall⟩
  · simp at hcs
    obtain ⟨rfl, rfl, rfl⟩ := hcs
    exact ⟨fun _ => ⟨0, 0, 0⟩, ⟨fun i hi => absurd hi (by omega), fun i hi => absurd hi (by omega)⟩⟩
  · simp at hcs
    obtain ⟨rfl, rfl, rfl⟩ := hcs
    rw [if_pos rfl] at hmm
    subst hmm
    have hop : Tryz.prog.cellsOf 28 = 3 := by kernel_rfl
    have h3 : Tryz.prog.cellsOf 3 = 1 := by kernel_rfl
    have h5 : Tryz.prog.cellsOf 5 = 1 := by kernel_rfl
    have each : ∀ i, i < len → ∃ q : Op3, (w.cell? (ad.add (i * 3)) = some (.int .i64 q.kd) ∧ w.cell? (ad.add (i * 3 + 1)) = some (.int .i64 q.id) ∧ w.cell? (ad.add (i * 3 + 2)) = some (.int .u8 (q.c : Int))) ∧ q.c < 256 := by
      intro i hi
      obtain ⟨cs', g1, g2⟩ := hall i (by omega)
      rw [hop] at g1
      obtain ⟨_, hlen, hcell⟩ := World.cells?_some g1
      obtain ⟨xs, k, hk, _, _, hxl, hf⟩ := DataW.trod_struct Tryz.underlying28 g2
      match xs, hxl, cs', hlen with
      | [y0, y1, y2], _, [v0, v1, v2], _ =>
        have e0 := hcell 0 (by omega)
        have e1 := hcell 1 (by omega)
        have e2 := hcell 2 (by omega)
        rw [Go.Deep.add_add] at e0 e1 e2
        have f0 := hf 0 _ rfl
        have f1 := hf 1 _ rfl
        have f2 := hf 2 _ rfl
        simp [h3, h5] at f0 f1 f2
        obtain ⟨n0, i0, _, _⟩ := DataW.trod_int Tryz.underlying3 f0
        obtain ⟨n1, i1, _, _⟩ := DataW.trod_int Tryz.underlying3 f1
        obtain ⟨n2, i2, _, b2⟩ := DataW.trod_int Tryz.underlying5 f2
        simp at i0 i1 i2
        subst i0 i1 i2
        have hb := bounds_u8 b2
        refine ⟨⟨n0, n1, n2.toNat⟩, ⟨by simpa using e0, by simpa using e1, ?_⟩, by show n2.toNat < 256; omega⟩
        have : ((n2.toNat : Nat) : Int) = n2 := by omega
        show _ = some (Value.int .u8 ((n2.toNat : Nat) : Int))
        rw [this]
        simpa using e2
    haveI : Inhabited Op3 := ⟨⟨0, 0, 0⟩⟩
    obtain ⟨q, hq⟩ := Go.Deep.choose_lt each
    refine ⟨q, ⟨fun i hi => ?_, fun i hi => (hq i hi).2⟩⟩
    obtain ⟨b, off, spot⟩ := ad
    have g0 := (hq 0 (by omega)).1.1
    have hspot : spot = none := by simpa [Addr.add] using World.cell?_spot g0
    subst hspot
    have hadd : ∀ k, (⟨b, off, none⟩ : Addr).add k = ⟨b, off + k, none⟩ := fun k => by unfold Addr.add; split <;> simp_all
    obtain ⟨⟨g1, g2, g3⟩, _⟩ := hq i hi
    rw [hadd] at g1 g2 g3
    refine ⟨b, off, rfl, ?_, fun j u hu => ?_⟩
    · rcases Nat.lt_or_ge b w.heap.size with h' | h'
      · exact h'
      · simp [World.cell?, Array.getElem?_eq_none h'] at g1
    · have hj : j < 3 := by
        have := (List.getElem?_eq_some_iff.1 hu).1
        simpa [opA] using this
      have : j = 0 ∨ j = 1 ∨ j = 2 := by omega
      rcases this with rfl | rfl | rfl
      · simp [opA] at hu; subst hu; exact g1
      · simp [opA] at hu; subst hu; exact g2
      · simp [opA] at hu; subst hu; exact g3
theorem IsOp.on {w wr : World} {B : Nat} {a : Option Addr} {len : Nat} {f : Nat → Op3} (h : IsOp w a len f) (hB : B = w.heap.size) (hb : Below B w wr) {i : Nat} (hi : i < len) : ∃ b off, a = some ⟨b, off, none⟩ ∧ wr.rangeAt b (off + i * 3) ((opA (f i).kd (f i).id ((f i).c : Int)).toList) := by
  subst hB
  obtain ⟨b, off, h0, h1, g1⟩ := h.at_ i hi
  exact ⟨b, off, h0, fun j u hu => (World.cell?_of_block (hb.block b h1)).trans (g1 j u hu)⟩
theorem info_op : (Tryz.prog.info? 28).map (·.size) = some 3 := by kernel_rfl
theorem wpList_load_op {ops : Array Oper} {rest : List Oper} {o : Oper} {a : Act} {Q : Exit → Act → World → Prop} {g of : Nat} {kd id c : Int} (w : World) (hg : o.guard = none) (x : Operand) (hop : o.op = Op.load 28 x) (hx : a.eval x = .pointer (some ⟨g, of, none⟩)) (hr : w.rangeAt g of ((opA kd id c).toList))
    (h : wpList Tryz.prog ops Q rest (a.put o.dst (.agg (opA kd id c))) w) : wpList Tryz.prog ops Q (o :: rest) a w :=
  wpList_load_mid hg 28 x hop g of hx ((opA kd id c).toList) _ hr Tryz.underlying28 rfl info_op h
end Go.Proofs.YtgodjnbbocnckaaGreat

namespace Go.Proofs.YtgodjnbbocnckaaGreat
open Go.RowKit Go.Maps Go.ChangeMaps
set_option linter.unusedVariables false
set_option linter.unusedSimpArgs false
set_option maxRecDepth 100000

section
variable {B n : Nat} {w w' : World} {v : Value} {xs : List Value} {ps : List Int}
theorem ownF_at (h : w.ownsRowF B 5 1 v n xs) (hb : ∀ g, v.ownBlock = some g → w'.heap[g]? = w.heap[g]?) : w'.ownsRowF B 5 1 v n xs := by
  refine ⟨h.1, ?_⟩
  rcases h.2 with hn | ⟨g, cap, cur, fz, hv, hbg, hg, rest⟩
  · exact .inl hn
  · exact .inr ⟨g, cap, cur, fz, hv, hbg, (hb g (by rw [hv]; rfl)).trans hg, rest⟩
theorem OwnI.at_own (h : OwnI B w v ps) (hb : ∀ g, v.ownBlock = some g → w'.heap[g]? = w.heap[g]?) : OwnI B w' v ps := by
  obtain ⟨h1, h2⟩ := h.row
  refine ⟨h1, ?_⟩
  rcases h2 with h2 | ⟨g, cap, cur, e, hB, hg, h3⟩
  · exact Or.inl h2
  · exact Or.inr ⟨g, cap, cur, e, hB, (hb g (by rw [e]; rfl)).trans hg, h3⟩
theorem OwnI.own_lt (h : OwnI B w v ps) {g : Nat} (e : v.ownBlock = some g) : g < w.heap.size := by
  obtain ⟨h1, h2⟩ := h.row
  rcases h2 with ⟨h2, _⟩ | ⟨g', cap, cur, e', hB, hg, h3⟩
  · rw [h2] at e; cases e
  · rw [e'] at e
    have : g' = g := by simpa [Value.ownBlock] using e
    subst this
    exact lt_of_some hg
end
/-- What a law's world rests on: W: the blocks that its calls turn; O: all its blocks. -/
structure Sup (B : Nat) (w : World) (ww : Nat) (X : Ad) (k : Nat) (S : Dk) (cs : List Nat) (sure : Nat) (G : Gp) (st : Nat → Option Nat) (pn : Nat → Nat) (pg : Nat → Option Nat) (qn : Nat → Nat) (W O : Nat → Prop) : Prop where
  wo : ∀ j, W j → O j
  lt : ∀ j, O j → j < w.heap.size
  sb : O X.sb
  os : ∀ j, O j → W j ∨ j = X.sb
  go : ∀ (I : Inhabited PrSet) (w' : World), (∀ j, O j → w'.heap[j]? = w.heap[j]?) → w.heap.size ≤ w'.heap.size → (∀ j, W j → @np I j) → @Ltp I w' → @PW I B w' ww X k S cs sure G st pn pg qn
section
variable {B k k' ww sure : Nat} {w w' : World} {S S' : Dk} {X : Ad} {G : Gp} {cs : List Nat} {st pg : Nat → Option Nat} {pn qn : Nat → Nat} {W O : Nat → Prop}
theorem Sup.turn (h : Sup B w ww X k S cs sure G st pn pg qn W O) (hO : ∀ j, O j → w'.heap[j]? = w.heap[j]?) (hs : w.heap.size ≤ w'.heap.size) : Sup B w' ww X k S cs sure G st pn pg qn W O :=
  ⟨h.wo, fun j hj => Nat.lt_of_lt_of_le (h.lt j hj) hs, h.sb, h.os, fun I w2 h1 h2 h3 h4 => h.go I w2 (fun j hj => (h1 j hj).trans (hO j hj)) (Nat.le_trans hs h2) h3 h4⟩
end
theorem PW.sup {I : Inhabited PrSet} {B k ww sure : Nat} {w : World} {S : Dk} {X : Ad} {G : Gp} {cs : List Nat} {st pg : Nat → Option Nat} {pn qn : Nat → Nat} (h : @PW I B w ww X k S cs sure G st pn pg qn) : ∃ W O, Sup B w ww X k S cs sure G st pn pg qn W O ∧ ∀ j, W j → @np I j := by
  have hd := h.pv.q.lv.lx.d
  have hg := h.pv.q.lv.lx.g
  have hp := h.pv.q.po
  obtain ⟨lb, mb, m, d1, d2, d3, d4⟩ := hd.dsk
  obtain ⟨p, v, pv, h1, h2, h3, h4, n3, n4⟩ := hg.ex
  obtain ⟨cur, fz, e, hc⟩ := hp.row
  obtain ⟨C, eC, rC⟩ := h.wb.ex
  have g3 := d3.ge
  have g4 := d4.ge
  have dq := hd.q
  have dg := hd.hd.ge
  have dl := hd.lt
  have gg := hg.ge.ge
  have gl := hg.le
  have pb1 := hp.blk
  have pf := hp.fr
  have pi := hp.inj
  have pn1 := hp.n1
  have pn2 := hp.n2
  have pg1 := hp.gp.ge
  have pgf : ∀ j, j < X.n → B ≤ X.fb j := fun j hj => (hp.gf j hj).ge
  have ph0 := hp.h0
  have ph1 := hp.h1
  have vu := h.pv.q.lv.up
  have vf := h.pv.q.lv.fit
  have vs := h.pv.q.lv.hs
  have vn := h.pv.q.lv.n
  have vr := h.pv.q.lv.r2
  have vq := h.pv.q.lv.q
  have sb1 := h.pv.q.st.blk
  have qn1 := h.pv.q.n
  have ql := h.pv.q.len
  have qc := h.pv.q.cb
  have vp := h.pv.p
  have v1 := h.pv.v.us
  have v2 := h.pv.v.un
  have v3 := h.pv.v.ds
  have v4 := h.pv.v.cl
  have v5 := h.pv.v.pl
  have v6 := h.pv.v.sl
  have v7 := h.pv.v.np
  have wg := h.ge.ge
  have wp := h.pb
  refine ⟨fun j => j = X.db ∨ j = lb ∨ j = mb ∨ j = X.l ∨ v.ownBlock = some j ∨ pv.ownBlock = some j ∨ j = X.pb ∨ j = X.ra ∨ (∃ i, i < X.n ∧ j = X.fb i) ∨ j = ww, fun j => (j = X.db ∨ j = lb ∨ j = mb ∨ j = X.l ∨ v.ownBlock = some j ∨ pv.ownBlock = some j ∨ j = X.pb ∨ j = X.ra ∨ (∃ i, i < X.n ∧ j = X.fb i) ∨ j = ww) ∨ j = X.sb, ⟨fun j hj => Or.inl hj, ?_, Or.inr rfl, fun j hj => hj, ?_⟩, ?_⟩
  · rintro j ((rfl | rfl | rfl | rfl | e2 | e2 | rfl | rfl | ⟨i, hi, rfl⟩ | rfl) | rfl)
    · exact lt_of_some d1.blk
    · obtain ⟨c2, f2, e2⟩ := d1.row.ty; exact lt_of_some e2
    · obtain ⟨c2, f2, e2⟩ := d1.map.is; exact lt_of_some e2
    · exact lt_of_some h1
    · exact (h3.lt j e2).2
    · exact h4.own_lt e2
    · exact hp.lt
    · exact lt_of_some e
    · exact hp.flt hi
    · exact lt_of_some eC
    · exact lt_of_some h.pv.q.st.blk
  · clear h hd hg hp d3 d4 n3 n4
    intro I' w' hO hs hW hL
    have D : DkIs w' X.db lb mb m S := ⟨(hO _ (Or.inl (Or.inl rfl))).trans d1.blk, d1.row.of_block (hO _ (Or.inl (Or.inr (Or.inl rfl)))) hs, d1.map.of_block (hO _ (Or.inl (Or.inr (Or.inr (Or.inl rfl))))), d1.ne⟩
    have Dn : @Ds I' B w' X.db k S := @Ds.mk I' _ _ _ _ _ ⟨lb, mb, m, D, d2, @Ow.mk I' _ _ g3 (hW _ (Or.inr (Or.inl rfl))), @Ow.mk I' _ _ g4 (hW _ (Or.inr (Or.inr (Or.inl rfl))))⟩ dq (@Ow.mk I' _ _ dg (hW _ (Or.inl rfl))) (Nat.le_trans dl hs) hL
    have Ln : @LrIs I' B w' X.l (lgR X.db 0 40 1 (fsOf cs) (off (fsOf cs) sure) false) := @LrIs.mk I' _ _ _ _ ⟨p, v, pv, (hO _ (Or.inl (Or.inr (Or.inr (Or.inr (Or.inl rfl)))))).trans h1, h2, ownF_at h3 (fun g eg => hO _ (Or.inl (Or.inr (Or.inr (Or.inr (Or.inr (Or.inl eg))))))), h4.at_own (fun g eg => hO _ (Or.inl (Or.inr (Or.inr (Or.inr (Or.inr (Or.inr (Or.inl eg)))))))), fun g eg => hW _ (Or.inr (Or.inr (Or.inr (Or.inr (Or.inl eg))))), fun g eg => hW _ (Or.inr (Or.inr (Or.inr (Or.inr (Or.inr (Or.inl eg))))))⟩ (@Ow.mk I' _ _ gg (hW _ (Or.inr (Or.inr (Or.inr (Or.inl rfl)))))) (Nat.le_trans gl hs) hL
    have Pn : @PoIs I' B w' X G := @PoIs.mk I' _ _ _ _ ((hO _ (Or.inl (Or.inr (Or.inr (Or.inr (Or.inr (Or.inr (Or.inr (Or.inl rfl))))))))).trans pb1) ⟨cur, fz, (hO _ (Or.inl (Or.inr (Or.inr (Or.inr (Or.inr (Or.inr (Or.inr (Or.inr (Or.inl rfl)))))))))).trans e, hc⟩ (fun j hj => (hO _ (Or.inl (Or.inr (Or.inr (Or.inr (Or.inr (Or.inr (Or.inr (Or.inr (Or.inr (Or.inl ⟨j, hj, rfl⟩))))))))))).trans (pf j hj)) pi pn1 pn2 (@Ow.mk I' _ _ pg1 (hW _ (Or.inr (Or.inr (Or.inr (Or.inr (Or.inr (Or.inr (Or.inl rfl))))))))) (fun j hj => @Ow.mk I' _ _ (pgf j hj) (hW _ (Or.inr (Or.inr (Or.inr (Or.inr (Or.inr (Or.inr (Or.inr (Or.inr (Or.inl ⟨j, hj, rfl⟩))))))))))) (hW _ (Or.inr (Or.inr (Or.inr (Or.inr (Or.inr (Or.inr (Or.inr (Or.inl rfl))))))))) ph0 ph1
    have Lxn : @Lx I' B w' X.l k S (lgR X.db 0 40 1 (fsOf cs) (off (fsOf cs) sure) false) := @Lx.mk I' _ _ _ _ _ _ Dn Ln
    have Lvn : @Lv I' B w' X.l k S X.db 0 40 1 (fsOf cs) sure := @Lv.mk I' _ _ _ _ _ _ _ _ _ _ _ Lxn vu vf vs vn vr vq
    have Stn : StIs w' X.sb X.db 40 8 1 := ⟨(hO _ (Or.inr rfl)).trans sb1⟩
    have Pqn : @Pq I' B w' X k S cs sure G := @Pq.mk I' _ _ _ _ _ _ _ _ Lvn Stn Pn qn1 ql qc
    have Pvn : @Pv I' B w' X k S cs sure G st pn pg := @Pv.mk I' _ _ _ _ _ _ _ _ _ _ _ Pqn vp (@Iv.mk I' _ _ _ _ _ _ v1 v2 v3 v4 v5 v6 v7)
    exact @PW.mk I' _ _ _ _ _ _ _ _ _ _ _ _ _ Pvn ⟨C, (hO _ (Or.inl (Or.inr (Or.inr (Or.inr (Or.inr (Or.inr (Or.inr (Or.inr (Or.inr (Or.inr rfl))))))))))).trans eC, rC⟩ (@Ow.mk I' _ _ wg (hW _ (Or.inr (Or.inr (Or.inr (Or.inr (Or.inr (Or.inr (Or.inr (Or.inr (Or.inr rfl))))))))))) wp
  · rintro j (rfl | rfl | rfl | rfl | e2 | e2 | rfl | rfl | ⟨i, hi, rfl⟩ | rfl)
    · exact hd.hd.np
    · exact d3.np
    · exact d4.np
    · exact hg.ge.np
    · exact n3 j e2
    · exact n4 j e2
    · exact hp.gp.np
    · exact hp.gr
    · exact (hp.gf i hi).np
    · exact h.ge.np
end Go.Proofs.YtgodjnbbocnckaaGreat

namespace Go.Proofs.YtgodjnbbocnckaaGreat
open Go.RowKit Go.Maps Go.ChangeMaps
set_option linter.unusedVariables false
set_option linter.unusedSimpArgs false
set_option maxRecDepth 100000

/-- The records behind a call that pins nothing. -/
def stC (kd : Int) (c : Nat) (cs : List Nat) : List Nat := if kd = 0 ∨ kd = 1 then cs ++ [c] else cs
/-- The pages' records behind it. -/
def stP (kd id : Int) (cs : List Nat) (st : Nat → Option Nat) : Nat → Option Nat := if (kd = 0 ∨ kd = 1) ∧ 0 ≤ id ∧ id < 8 then upd st id.toNat (some cs.length) else st
/-- Two worlds, neither with a block of the other's. -/
structure Tw (N B B' : Nat) (w : World) (a b : Nat) (X Y : Ad) (k k2 : Nat) (cs cs2 : List Nat) (st st2 : Nat → Option Nat) : Prop where
  ex : ∃ (S T : Dk) (s t : Nat) (G H : Gp) (pg qg : Nat → Option Nat) (W O W' O' : Nat → Prop),
    Sup B w a X k S cs s G st (fun _ => 0) pg (fun _ => 0) W O ∧ Sup B' w b Y k2 T cs2 t H st2 (fun _ => 0) qg (fun _ => 0) W' O' ∧ (∀ j, W j → ¬ O' j) ∧ (∀ j, W' j → ¬ O j) ∧ S.set = false ∧ T.set = false ∧ (∀ j, O j → j < N) ∧ (∀ j, O' j → j < N) ∧ N ≤ w.heap.size
/-- What a call of one world comes to. -/
structure PsO [Inhabited PrSet] (B : Nat) (w w' : World) (ww : Nat) (X : Ad) (k : Nat) (cs : List Nat) (st : Nat → Option Nat) : Prop where
  bel : Below B w w'
  ex : ∃ (S : Dk) (s : Nat) (G : Gp) (pg : Nat → Option Nat), PW B w' ww X k S cs s G st (fun _ => 0) pg (fun _ => 0) ∧ S.set = false
section
variable {N B B' a b k k2 : Nat} {w w' : World} {X Y : Ad} {cs cs2 : List Nat} {st st2 : Nat → Option Nat}
theorem Tw.symm (h : Tw N B B' w a b X Y k k2 cs cs2 st st2) : Tw N B' B w b a Y X k2 k cs2 cs st2 st := by
  obtain ⟨S, T, s, t, G, H, pg, qg, W, O, W', O', h1, h2, h3, h4, h5, h6, l1, l2, l3⟩ := h.ex
  exact ⟨T, S, t, s, H, G, qg, pg, W', O', W, O, h2, h1, h4, h3, h6, h5, l2, l1, l3⟩
theorem Tw.below (h : Tw N B B' w a b X Y k k2 cs cs2 st st2) (hb : Below w.heap.size w w') : Tw N B B' w' a b X Y k k2 cs cs2 st st2 := by
  obtain ⟨S, T, s, t, G, H, pg, qg, W, O, W', O', h1, h2, h3, h4, h5, h6, l1, l2, l3⟩ := h.ex
  exact ⟨S, T, s, t, G, H, pg, qg, W, O, W', O', h1.turn (fun j hj => hb.block j (h1.lt j hj)) hb.size, h2.turn (fun j hj => hb.block j (h2.lt j hj)) hb.size, h3, h4, h5, h6, l1, l2, Nat.le_trans l3 hb.size⟩
/-- A call of the first of them. -/
theorem Tw.op {fn : Nat} {args : Array Value} {R : Ending → Prop} {k' : Nat} {cs' : List Nat} {st' : Nat → Option Nat} (h : Tw N B B' w a b X Y k k2 cs cs2 st st2)
    (hop : ∀ (I : Inhabited PrSet) (S : Dk) (s : Nat) (G : Gp) (pg : Nat → Option Nat), @PW I B w a X k S cs s G st (fun _ => 0) pg (fun _ => 0) → S.set = false → Calls Tryz.prog fn args w fun e w' => R e ∧ @PsO I B w w' a X k' cs' st') :
    Calls Tryz.prog fn args w fun e w' => R e ∧ Below B w w' ∧ Tw w'.heap.size B B' w' a b X Y k' k2 cs' cs2 st' st2 ∧ ∀ j, N ≤ j → j < w.heap.size → w'.heap[j]? = w.heap[j]? := by
  obtain ⟨S, T, s, t, G, H, pg, qg, W, O, W', O', h1, h2, h3, h4, h5, h6, l1, l2, l3⟩ := h.ex
  obtain ⟨p, hp⟩ : ∃ p : Nat → Option Obj, (∀ j, (O' j ∨ (N ≤ j ∧ j < w.heap.size)) → p j = w.heap[j]?) ∧ (∀ j, ¬ (O' j ∨ (N ≤ j ∧ j < w.heap.size)) → p j = none) := by
    refine ⟨fun j => @ite _ (O' j ∨ (N ≤ j ∧ j < w.heap.size)) (Classical.propDecidable _) (w.heap[j]?) none, fun j hj => ?_, fun j hj => ?_⟩
    · exact if_pos hj
    · exact if_neg hj
  have hnp : ∀ j, @np ⟨⟨p⟩⟩ j → ¬ O' j := fun j hj ho => by
    have h0 := h2.lt j ho
    refine hj (show p j ≠ none from ?_)
    rw [hp.1 j (Or.inl ho)]
    simp [h0]
  have hP := h1.go ⟨⟨p⟩⟩ w (fun _ _ => rfl) (Nat.le_refl _) (fun j hj e => e (hp.2 j (fun x => x.elim (h3 j hj) (fun y => by have := l1 j (h1.wo j hj); omega)))) (fun j o e => by
    rcases Classical.em (O' j ∨ (N ≤ j ∧ j < w.heap.size)) with ho | ho
    · exact (hp.1 j ho).symm.trans e
    · have := (hp.2 j ho).symm.trans e; cases this)
  letI : Inhabited PrSet := ⟨⟨p⟩⟩
  refine (hop ⟨⟨p⟩⟩ S s G pg hP h5).mono ?_
  rintro e w' ⟨hR, hO⟩
  obtain ⟨S2, s2, G2, pg2, P2, hs2⟩ := hO.ex
  have hL := P2.pv.q.lv.lx.d.lp
  have hsz : w.heap.size ≤ w'.heap.size := hO.bel.size
  have hst0 : ∀ j, (O' j ∨ (N ≤ j ∧ j < w.heap.size)) → j < w.heap.size → w'.heap[j]? = w.heap[j]? := fun j ho h0 => by
    have e1 : w.heap[j]? = some w.heap[j] := by simp [h0]
    have := hL j _ (show p j = some w.heap[j] from (hp.1 j ho).trans e1)
    rw [e1]; exact this
  have hst : ∀ j, O' j → w'.heap[j]? = w.heap[j]? := fun j ho => hst0 j (Or.inl ho) (h2.lt j ho)
  obtain ⟨W2, O2, U2, n2⟩ := P2.sup
  refine ⟨hR, hO.bel, ⟨S2, T, s2, t, G2, H, pg2, qg, W2, O2, W', O', U2, h2.turn hst hsz, fun j hj => hnp j (n2 j hj), fun j hj ho => ?_, hs2, h6, U2.lt, fun j hj => Nat.lt_of_lt_of_le (h2.lt j hj) hsz, Nat.le_refl _⟩, fun j j1 j2 => hst0 j (Or.inr ⟨j1, j2⟩) j2⟩
  rcases U2.os j ho with hw | rfl
  · exact hnp j (n2 j hw) (h2.wo j hj)
  · exact h4 _ hj h1.sb
end
section
variable [Inhabited PrSet] {B ww k sure : Nat} {w w' : World} {S : Dk} {G : Gp} {X : Ad} {cs : List Nat} {st pg : Nat → Option Nat}
end
section
variable {B ww k sure : Nat} {w w' : World} {S : Dk} {G : Gp} {X : Ad} {cs : List Nat} {st pg : Nat → Option Nat}
theorem pc_zero : pc (fun _ => 0) 8 = 0 := by rfl
end
section
variable [Inhabited PrSet] {B ww k sure : Nat} {w w' : World} {S : Dk} {G : Gp} {X : Ad} {cs : List Nat} {st pg : Nat → Option Nat}
theorem RdO.ps {b : Bool} {k' : Nat} (h : RdO B w w' ww X k S cs st (fun _ => 0) b) (hs : S.set = false) (hk : k ≤ k') : b = true ∧ PsO B w w' ww X k' cs st := by
  rcases h.or with ⟨rfl, S1, s1, G1, p1, P, hc⟩ | ⟨_, e2, _⟩
  · exact ⟨rfl, h.bel, S1, s1, G1, p1, P.mono hk, hc hs⟩
  · rw [hs] at e2; cases e2
theorem step_same (h : PW B w ww X k S cs sure G st (fun _ => 0) pg (fun _ => 0)) (hs : S.set = false) (hn : X.n ≤ 10) (hk : k ≤ 28000) (hl : cs.length < 100) (kd id : Int) (c : Nat) (hc : c < 256) (h3 : kd ≠ 3) (h4 : kd ≠ 4) : Calls Tryz.prog 11 #[.pointer (some ⟨ww, 0, none⟩), .agg (opA kd id (c : Int))] w fun e w' => e = .returned (.bool true) ∧ PsO B w w' ww X (k + 460) (stC kd c cs) (stP kd id cs st) := by
  by_cases k0 : kd = 0 ∨ kd = 1
  · have e1 : stC kd c cs = cs ++ [c] := if_pos k0
    rw [e1]
    refine (step_set h (by omega) c hc hl kd id k0).mono ?_
    rintro e w' ⟨b, he, hO⟩
    rcases hO.or with ⟨rfl, e2, P⟩ | ⟨_, _, e3, _⟩ | ⟨rfl, d, j, S1, s1, G1, p1, rfl, a2, a3, a4, a5, a6, a7, a8, a9⟩ | ⟨_, e2, _⟩
    · have e4 : stP kd id cs st = st := if_neg (fun x => e2 x.2)
      rw [e4]
      exact ⟨he, hO.bel, S, sure, G, pg, P.mono (by omega), hs⟩
    · exact absurd (h.pins0 (j := 0) (by have := h.pv.q.po.n1; omega)) (e3 0 (by have := h.pv.q.po.n1; omega))
    · have e4 : stP kd (d : Int) cs st = upd st d (some cs.length) := by unfold stP; rw [if_pos ⟨k0, by omega, by omega⟩, Int.toNat_natCast]
      rw [e4]
      exact ⟨he, hO.bel, S1, s1, G1, p1, a3.mono (by omega), a8 hs⟩
    · rw [hs] at e2; cases e2
  · have e1 : stC kd c cs = cs := if_neg k0
    have e4 : stP kd id cs st = st := if_neg (fun x => k0 x.1)
    rw [e1, e4]
    by_cases k2 : kd = 2
    · subst k2
      by_cases hid : 0 ≤ id ∧ id < 8
      · obtain ⟨d, rfl⟩ : ∃ d : Nat, id = (d : Int) := ⟨id.toNat, by omega⟩
        refine (step_get_in h (by omega) (c : Int) d (by omega)).mono ?_
        rintro e w' ⟨b, he, hO⟩
        obtain ⟨rfl, hP⟩ := hO.ps hs (show k + 46 ≤ k + 460 by omega)
        exact ⟨he, hP⟩
      · refine (step_get_out h (by omega) (c : Int) id hid).mono ?_
        rintro e w' ⟨b, he, hO⟩
        obtain ⟨rfl, hP⟩ := hO.ps hs (show k + 46 ≤ k + 460 by omega)
        exact ⟨he, hP⟩
    · by_cases k5 : kd = 5
      · subst k5
        cases hw : dtb G.F X.n id with
        | false =>
          refine (step_flush_clean h (by omega) (c : Int) id hw).mono ?_
          rintro e w' ⟨b, he, hO⟩
          obtain ⟨rfl, hP⟩ := hO.ps hs (show k + 46 ≤ k + 460 by omega)
          exact ⟨he, hP⟩
        | true =>
          obtain ⟨j, hj, hh, hd⟩ := dtb_iff.1 hw
          obtain ⟨d, hd8, hf⟩ := h.pv.v.us j hj hh.1
          have : id = (d : Int) := by have := hf.id; have := hh.2; omega
          subst this
          refine (step_flush_dirty h (by omega) (c : Int) d hd8 hw).mono ?_
          rintro e w' ⟨b, he, hO⟩
          obtain ⟨rfl, hP⟩ := hO.ps hs (show k + 46 ≤ k + 460 by omega)
          exact ⟨he, hP⟩
      · refine (step_all h (by omega) (c : Int) id kd (by omega) (by omega) k2 h3 h4 k5).mono ?_
        rintro e w' ⟨b, he, hO⟩
        obtain ⟨rfl, hP⟩ := hO.ps hs (show k + 46 * X.n ≤ k + 460 by omega)
        exact ⟨he, hP⟩
theorem get_same (h : PW B w ww X k S cs sure G st (fun _ => 0) pg (fun _ => 0)) (hs : S.set = false) (hk : k ≤ 29000) (d : Nat) (hd : d < 8) : Calls Tryz.prog 14 #[.pointer (some ⟨X.pb, 0, none⟩), .int .i64 (d : Int)] w fun e w' => e = .returned (.tuple #[.string (txO cs (st d)), .int .i64 (lnO (st d)), .int .i64 0]) ∧ PsO B w w' ww X (k + 46) cs st := by
  refine (h.get hk d hd).mono ?_
  rintro e w' ⟨t, l, y, he, hG⟩
  rcases hG.or with ⟨rfl, rfl, rfl, hR⟩ | ⟨_, h2, _⟩ | ⟨_, hR⟩
  · exact ⟨he, (hR.ps hs (Nat.le_refl _)).2⟩
  · rw [pc_zero] at h2; omega
  · have := (hR.ps hs (Nat.le_refl _)).1; cases this
end
end Go.Proofs.YtgodjnbbocnckaaGreat

namespace Go.Proofs.YtgodjnbbocnckaaGreat
open Go.RowKit Go.Maps Go.ChangeMaps
set_option linter.unusedVariables false
set_option linter.unusedSimpArgs false
set_option maxRecDepth 100000

/-- Two worlds behind i calls. -/
structure Ts (N B B' : Nat) (w w' : World) (a b : Nat) (X Y : Ad) (i : Nat) : Prop where
  ex : ∃ cs st, Tw N B B' w' a b X Y (41 + 460 * i) (41 + 460 * i) cs cs st st ∧ cs.length ≤ i
  n1 : X.n ≤ 10
  n2 : Y.n ≤ 10
  hB : B ≤ B'
  bel : Below B w w'
section
variable {N B B' a b i k : Nat} {w w' w0 : World} {X Y : Ad} {cs : List Nat} {st : Nat → Option Nat}
theorem Tw.c3 {k2 : Nat} {cs2 : List Nat} {st2 : Nat → Option Nat} (h : Tw N B B' w a b X Y k k2 cs cs2 st st2) : w.cell? ⟨a, 3, none⟩ = some (.pointer (some ⟨X.pb, 0, none⟩)) := by
  obtain ⟨S, T, s, t, G, H, pg, qg, W, O, W', O', h1, h2, h3, h4, h5, h6, l1, l2, l3⟩ := h.ex
  letI : Inhabited PrSet := ⟨⟨fun _ => none⟩⟩
  exact (h1.go ⟨⟨fun _ => none⟩⟩ w (fun _ _ => rfl) (Nat.le_refl _) (fun j _ => np_none j) (Ltp_none w)).wb.c3
theorem Tw.le {k2 : Nat} {cs2 : List Nat} {st2 : Nat → Option Nat} (h : Tw N B B' w a b X Y k k2 cs cs2 st st2) : B ≤ w.heap.size := by
  obtain ⟨S, T, s, t, G, H, pg, qg, W, O, W', O', h1, h2, h3, h4, h5, h6, l1, l2, l3⟩ := h.ex
  letI : Inhabited PrSet := ⟨⟨fun _ => none⟩⟩
  exact (h1.go ⟨⟨fun _ => none⟩⟩ w (fun _ _ => rfl) (Nat.le_refl _) (fun j _ => np_none j) (Ltp_none w)).le
/-- Two new worlds. -/
theorem Tw.new {n m : Nat} {e : Ending} {S : Dk} {G : Gp} {w1 : World} {I : Inhabited PrSet} (h : @MdO I w w1 n e a X S G)
    (hm : ∀ (I : Inhabited PrSet), @Ltp I w1 → Calls Tryz.prog 10 #[.int .i64 (m : Int)] w1 fun e w' => ∃ ww X S G, @MdO I w1 w' m e ww X S G) :
    Calls Tryz.prog 10 #[.int .i64 (m : Int)] w1 fun e w' => ∃ b Y, e = .returned (.pointer (some ⟨b, 0, none⟩)) ∧ Tw w'.heap.size w.heap.size w1.heap.size w' a b X Y 41 41 [] [] (fun _ => none) (fun _ => none) ∧ Y.n = m ∧ Below w1.heap.size w1 w' := by
  obtain ⟨W, O, U, _⟩ := h.pw.sup
  have hset := h.set
  clear h
  obtain ⟨p, hp⟩ : ∃ p : Nat → Option Obj, (∀ j, O j → p j = w1.heap[j]?) ∧ (∀ j, ¬ O j → p j = none) := by
    refine ⟨fun j => @ite _ (O j) (Classical.propDecidable _) (w1.heap[j]?) none, fun j hj => ?_, fun j hj => ?_⟩
    · simp [hj]
    · simp [hj]
  letI : Inhabited PrSet := ⟨⟨p⟩⟩
  refine (hm ⟨⟨p⟩⟩ (fun j o e => by
    rcases Classical.em (O j) with ho | ho
    · exact (hp.1 j ho).symm.trans e
    · have := (hp.2 j ho).symm.trans e; cases this)).mono ?_
  rintro e w' ⟨b, Y, T, H, M⟩
  obtain ⟨W', O', U', n'⟩ := M.pw.sup
  have hnp : ∀ j, W' j → ¬ O j := fun j hj ho => by
    have h0 := U.lt j ho
    refine n' j hj (show p j ≠ none from ?_)
    rw [hp.1 j ho]
    simp [h0]
  refine ⟨b, Y, M.e, ⟨S, T, 0, 0, G, H, _, _, W, O, W', O', U.turn (fun j hj => M.bel.block j (U.lt j hj)) M.bel.size, U', fun j hj ho => ?_, hnp, hset, M.set, fun j hj => Nat.lt_of_lt_of_le (U.lt j hj) M.bel.size, U'.lt, Nat.le_refl _⟩, M.n, M.bel⟩
  rcases U'.os j ho with hw | rfl
  · exact hnp j hw (U.wo j hj)
  · have := U.lt _ (U.wo _ hj)
    have := M.sb
    omega
theorem Ts.step1 (h : Ts N B B' w0 w a b X Y i) (hi : i < 60) (kd id : Int) (c : Nat) (hc : c < 256) (h3 : kd ≠ 3) (h4 : kd ≠ 4) : Calls Tryz.prog 11 #[.pointer (some ⟨a, 0, none⟩), .agg (opA kd id (c : Int))] w fun e w' => e = .returned (.bool true) ∧ (∀ j, N ≤ j → j < w.heap.size → w'.heap[j]? = w.heap[j]?) ∧ Calls Tryz.prog 11 #[.pointer (some ⟨b, 0, none⟩), .agg (opA kd id (c : Int))] w' fun e w2 => e = .returned (.bool true) ∧ Ts w2.heap.size B B' w0 w2 a b X Y (i + 1) := by
  obtain ⟨cs, st, hT, hl⟩ := h.ex
  refine (hT.op (R := fun e => e = .returned (.bool true)) (fun I S s G pg P hs => step_same P hs h.n1 (by omega) (by omega) kd id c hc h3 h4)).mono ?_
  rintro e w' ⟨he, hb, hT2, hq⟩
  refine ⟨he, hq, ?_⟩
  refine (hT2.symm.op (R := fun e => e = .returned (.bool true)) (fun I S s G pg P hs => step_same P hs h.n2 (by omega) (by omega) kd id c hc h3 h4)).mono ?_
  rintro e2 w2 ⟨he2, hb2, hT3, _⟩
  refine ⟨he2, ⟨stC kd c cs, stP kd id cs st, ?_, ?_⟩, h.n1, h.n2, h.hB, (h.bel.trans hb).trans (hb2.mono h.hB)⟩
  · rw [show 41 + 460 * (i + 1) = 41 + 460 * i + 460 by omega]
    exact hT3.symm
  · unfold stC; split
    · rw [List.length_append]; simp; omega
    · omega
theorem Sup.mono {k' sure : Nat} {S : Dk} {G : Gp} {pg : Nat → Option Nat} {pn qn : Nat → Nat} {W O : Nat → Prop} (h : Sup B w a X k S cs sure G st pn pg qn W O) (hk : k ≤ k') : Sup B w a X k' S cs sure G st pn pg qn W O :=
  ⟨h.wo, h.lt, h.sb, h.os, fun I w2 h1 h2 h3 h4 => (h.go I w2 h1 h2 h3 h4).mono hk⟩
theorem Tw.mono {k' : Nat} (h : Tw N B B' w a b X Y k k cs cs st st) (hk : k ≤ k') : Tw N B B' w a b X Y k' k' cs cs st st := by
  obtain ⟨S, T, s, t, G, H, pg, qg, W, O, W', O', h1, h2, h3, h4, h5, h6, l1, l2, l3⟩ := h.ex
  exact ⟨S, T, s, t, G, H, pg, qg, W, O, W', O', h1.mono hk, h2.mono hk, h3, h4, h5, h6, l1, l2, l3⟩
theorem Ts.nle (h : Ts N B B' w0 w a b X Y i) : N ≤ w.heap.size := by
  obtain ⟨cs, st, hT, hl⟩ := h.ex
  obtain ⟨S, T, s, t, G, H, pg, qg, W, O, W', O', h1, h2, h3, h4, h5, h6, l1, l2, l3⟩ := hT.ex
  exact l3
theorem Ts.skip (h : Ts N B B' w0 w a b X Y i) : Ts N B B' w0 w a b X Y (i + 1) := by
  obtain ⟨cs, st, hT, hl⟩ := h.ex
  exact ⟨⟨cs, st, hT.mono (by omega), by omega⟩, h.n1, h.n2, h.hB, h.bel⟩
theorem Ts.below (h : Ts N B B' w0 w a b X Y i) (hb : Below w.heap.size w w') : Ts N B B' w0 w' a b X Y i := by
  obtain ⟨cs, st, hT, hl⟩ := h.ex
  exact ⟨⟨cs, st, hT.below hb, hl⟩, h.n1, h.n2, h.hB, h.bel.trans (hb.mono hT.le)⟩
/-- The two worlds, asked of d pages. -/
structure Tg (B B' : Nat) (w w' : World) (a b : Nat) (X Y : Ad) (d : Nat) (cs : List Nat) (st : Nat → Option Nat) : Prop where
  tw : ∃ N, Tw N B B' w' a b X Y (27700 + 46 * d) (27700 + 46 * d) cs cs st st
  hB : B ≤ B'
  bel : Below B w w'
theorem Ts.get (h : Ts N B B' w0 w a b X Y i) (hi : i ≤ 60) : ∃ cs st, Tg B B' w0 w a b X Y 0 cs st := by
  obtain ⟨cs, st, hT, hl⟩ := h.ex
  exact ⟨cs, st, ⟨N, hT.mono (by omega)⟩, h.hB, h.bel⟩
theorem Tg.ask {d : Nat} (h : Tg B B' w0 w a b X Y d cs st) (hd : d < 8) : w.cell? ⟨a, 3, none⟩ = some (.pointer (some ⟨X.pb, 0, none⟩)) ∧ Calls Tryz.prog 14 #[.pointer (some ⟨X.pb, 0, none⟩), .int .i64 (d : Int)] w fun e w' => e = .returned (.tuple #[.string (txO cs (st d)), .int .i64 (lnO (st d)), .int .i64 0]) ∧ w'.cell? ⟨b, 3, none⟩ = some (.pointer (some ⟨Y.pb, 0, none⟩)) ∧ Calls Tryz.prog 14 #[.pointer (some ⟨Y.pb, 0, none⟩), .int .i64 (d : Int)] w' fun e w2 => e = .returned (.tuple #[.string (txO cs (st d)), .int .i64 (lnO (st d)), .int .i64 0]) ∧ Tg B B' w0 w2 a b X Y (d + 1) cs st := by
  obtain ⟨N, htw⟩ := h.tw
  refine ⟨htw.c3, (htw.op (R := fun e => e = .returned (.tuple #[.string (txO cs (st d)), .int .i64 (lnO (st d)), .int .i64 0])) (fun I S s G pg P hs => get_same P hs (by omega) d hd)).mono ?_⟩
  rintro e w' ⟨he, hb, hT2, _⟩
  refine ⟨he, hT2.symm.c3, ?_⟩
  refine (hT2.symm.op (R := fun e => e = .returned (.tuple #[.string (txO cs (st d)), .int .i64 (lnO (st d)), .int .i64 0])) (fun I S s G pg P hs => get_same P hs (by omega) d hd)).mono ?_
  rintro e2 w2 ⟨he2, hb2, hT3, _⟩
  refine ⟨he2, ⟨w2.heap.size, ?_⟩, h.hB, (h.bel.trans hb).trans (hb2.mono h.hB)⟩
  rw [show 27700 + 46 * (d + 1) = 27700 + 46 * d + 46 by omega]
  exact hT3.symm
end
end Go.Proofs.YtgodjnbbocnckaaGreat
