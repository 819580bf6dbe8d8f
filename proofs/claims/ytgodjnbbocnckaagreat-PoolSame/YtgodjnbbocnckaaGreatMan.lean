/- The law's step: sets and Get. The law's step: Get of a page that there is. The law's step: Pin. The law's step: Unpin, Flush, FlushAll. -/
import Derived.Test.YtgodjnbbocnckaaGreatMam
import Derived.Deep.RegionHeld3
import Derived.BigRegion
namespace Go.Proofs.YtgodjnbbocnckaaGreat
open Go.RowKit Go.Maps Go.ChangeMaps
set_option linter.unusedVariables false
set_option linter.unusedSimpArgs false
set_option maxRecDepth 100000

def opA (kd id c : Int) : Array Value := #[.int .i64 kd, .int .i64 id, .int .u8 c]
/-- The step's call, in a box. -/
structure OpB (w : World) (b : Nat) (kd id c : Int) : Prop where
  blk : w.heap[b]? = some (.cells (opA kd id c) 28)
section
variable [Inhabited PrSet] {B k k' ww sure b : Nat} {w w' wr w0 : World} {S S' : Dk} {X : Ad} {G : Gp} {cs : List Nat} {st pg : Nat → Option Nat} {pn qn : Nat → Nat} {kd id c : Int}
end
section
variable {B k k' ww sure b : Nat} {w w' wr w0 : World} {S S' : Dk} {X : Ad} {G : Gp} {cs : List Nat} {st pg : Nat → Option Nat} {pn qn : Nat → Nat} {kd id c : Int}
theorem OpB.c0 (h : OpB w b kd id c) : w.cell? ⟨b, 0, none⟩ = some (.int .i64 kd) := Joins.cell_of_block h.blk 0
end
section
variable [Inhabited PrSet] {B k k' ww sure b : Nat} {w w' wr w0 : World} {S S' : Dk} {X : Ad} {G : Gp} {cs : List Nat} {st pg : Nat → Option Nat} {pn qn : Nat → Nat} {kd id c : Int}
end
section
variable {B k k' ww sure b : Nat} {w w' wr w0 : World} {S S' : Dk} {X : Ad} {G : Gp} {cs : List Nat} {st pg : Nat → Option Nat} {pn qn : Nat → Nat} {kd id c : Int}
theorem OpB.c1 (h : OpB w b kd id c) : w.cell? ⟨b, 1, none⟩ = some (.int .i64 id) := Joins.cell_of_block h.blk 1
end
section
variable [Inhabited PrSet] {B k k' ww sure b : Nat} {w w' wr w0 : World} {S S' : Dk} {X : Ad} {G : Gp} {cs : List Nat} {st pg : Nat → Option Nat} {pn qn : Nat → Nat} {kd id c : Int}
end
section
variable {B k k' ww sure b : Nat} {w w' wr w0 : World} {S S' : Dk} {X : Ad} {G : Gp} {cs : List Nat} {st pg : Nat → Option Nat} {pn qn : Nat → Nat} {kd id c : Int}
theorem OpB.c2 (h : OpB w b kd id c) : w.cell? ⟨b, 2, none⟩ = some (.int .u8 c) := Joins.cell_of_block h.blk 2
end
section
variable [Inhabited PrSet] {B k k' ww sure b : Nat} {w w' wr w0 : World} {S S' : Dk} {X : Ad} {G : Gp} {cs : List Nat} {st pg : Nat → Option Nat} {pn qn : Nat → Nat} {kd id c : Int}
end
section
variable {B k k' ww sure b : Nat} {w w' wr w0 : World} {S S' : Dk} {X : Ad} {G : Gp} {cs : List Nat} {st pg : Nat → Option Nat} {pn qn : Nat → Nat} {kd id c : Int}
theorem OpB.below (h : OpB w b kd id c) (hb : Below w.heap.size w w') : OpB w' b kd id c := ⟨(hb.block _ (lt_of_some h.blk)).trans h.blk⟩
end
section
variable [Inhabited PrSet] {B k k' ww sure b : Nat} {w w' wr w0 : World} {S S' : Dk} {X : Ad} {G : Gp} {cs : List Nat} {st pg : Nat → Option Nat} {pn qn : Nat → Nat} {kd id c : Int}
theorem OpB.kept {B' : Nat} (h : OpB w b kd id c) (hb : Kp isQ B' w w') : OpB w' b kd id c := ⟨hb.block _ _ h.blk (by simp [isQ, isA, isD, isL, isF])⟩
/-- set, of any page. -/
theorem set_any (h : PW B w ww X k S cs sure G st pn pg qn) (hk : k ≤ 29000) (c : Nat) (hc : c < 256) (hl : cs.length < 100) (id : Int) : Calls Tryz.prog 24 #[.pointer (some ⟨ww, 0, none⟩), .int .i64 id, .int .u8 (c : Int)] w fun e w' => ∃ b, e = .returned (.bool b) ∧ SeO B w w' ww X (k + 46) S cs c sure G st pn pg qn id b := by
  by_cases hid : 0 ≤ id ∧ id < 8
  · obtain ⟨d, rfl⟩ : ∃ d : Nat, id = (d : Int) := ⟨id.toNat, by omega⟩
    exact set_in h hk c hc hl d (by omega)
  · refine (set_out h hk c hc hl id hid).mono ?_
    rintro e w' ⟨he, hO⟩
    exact ⟨true, he, hO⟩
set_option maxHeartbeats 1000000 in
theorem step_set (h : PW B w ww X k S cs sure G st pn pg qn) (hk : k ≤ 29000) (c : Nat) (hc : c < 256) (hl : cs.length < 100) (kd id : Int) (hkd : kd = 0 ∨ kd = 1) : Calls Tryz.prog 11 #[.pointer (some ⟨ww, 0, none⟩), .agg (opA kd id (c : Int))] w fun e w' => ∃ b, e = .returned (.bool b) ∧ SeO B w w' ww X (k + 46) S cs c sure G st pn pg qn id b := by
  have hle := h.le
  have CS : Hid (∀ wx, Below w.heap.size w wx → Calls Tryz.prog 24 #[.pointer (some ⟨ww, 0, none⟩), .int .i64 id, .int .u8 (c : Int)] wx fun e w' => ∃ b, e = .returned (.bool b) ∧ SeO B w w' ww X (k + 46) S cs c sure G st pn pg qn id b) := fun wx hx => by
    refine (set_any (h.below hx) hk c hc hl id).mono ?_
    rintro e w' ⟨b, he, hO⟩
    exact ⟨b, he, hO.or, (hx.mono hle).trans hO.bel⟩
  clear h hk hc hl
  generalize (c : Int) = cI at *
  rcases hkd with rfl | rfl
  · go_enter Tryz.func11, Tryz.ntmps11
    go_wp2_with (first
      | (refine wpList_box_o (A := opA 0 id cI) _ rfl _ rfl rfl ?_; intro w1 b1 N1; have O1 : OpB w1 b1 0 id cI := ⟨N1.blk⟩; have k0 := O1.c0; have k1 := O1.c1; have k2 := O1.c2)
      | (go_at_call 24; refine (CS.out _ N1.below).mono ?_; rintro e w2 ⟨b, rfl, hO⟩))
    go_ret
    exact ⟨b, rfl, hO⟩
  · go_enter Tryz.func11, Tryz.ntmps11
    go_wp2_with (first
      | (refine wpList_box_o (A := opA 1 id cI) _ rfl _ rfl rfl ?_; intro w1 b1 N1; have O1 : OpB w1 b1 1 id cI := ⟨N1.blk⟩; have k0 := O1.c0; have k1 := O1.c1; have k2 := O1.c2)
      | (go_at_call 24; refine (CS.out _ N1.below).mono ?_; rintro e w2 ⟨b, rfl, hO⟩))
    go_ret
    exact ⟨b, rfl, hO⟩
/-- What a call that sets nothing comes to. -/
structure RdO (B : Nat) (w w' : World) (ww : Nat) (X : Ad) (k : Nat) (S : Dk) (cs : List Nat) (st : Nat → Option Nat) (pn : Nat → Nat) (b : Bool) : Prop where
  or : (b = true ∧ ∃ (S' : Dk) (sure' : Nat) (G' : Gp) (pg' : Nat → Option Nat), PW B w' ww X k S' cs sure' G' st pn pg' pn ∧ (S.set = false → S'.set = false)) ∨ (b = false ∧ S.set = true ∧ LW B w' ww X k cs)
  bel : Below B w w'
theorem RdO.below (h : RdO B w wr ww X k S cs st pn true) (hb : Below wr.heap.size wr w') (hB : B ≤ wr.heap.size) : RdO B w w' ww X k S cs st pn true := by
  refine ⟨?_, h.bel.trans (hb.mono hB)⟩
  rcases h.or with ⟨h1, S1, s1, G1, p1, P, hc⟩ | ⟨h1, _⟩
  · exact Or.inl ⟨h1, S1, s1, G1, p1, P.below hb, hc⟩
  · cases h1
/-- What Get comes to, by its page. -/
structure G3O (B : Nat) (w w' : World) (ww : Nat) (X : Ad) (k : Nat) (S : Dk) (cs : List Nat) (st : Nat → Option Nat) (pn : Nat → Nat) (d : Nat) (t : ByteArray) (l y : Int) : Prop where
  or : (y = 0 ∧ t = txO cs (st d) ∧ l = lnO (st d) ∧ RdO B w w' ww X k S cs st pn true) ∨ (y = 7 ∧ 2 ≤ pc pn 8 ∧ RdO B w w' ww X k S cs st pn true) ∨ (y = 9 ∧ RdO B w w' ww X k S cs st pn false)
  wb : WwIs w' ww X cs st pn
  kp : Kp isQ B w w'
  le : B ≤ w'.heap.size
theorem PW.get (h : PW B w ww X k S cs sure G st pn pg pn) (hk : k ≤ 29000) (d : Nat) (hd : d < 8) : Calls Tryz.prog 14 #[.pointer (some ⟨X.pb, 0, none⟩), .int .i64 (d : Int)] w fun e w' => ∃ t l y, e = .returned (.tuple #[.string t, .int .i64 l, .int .i64 y]) ∧ G3O B w w' ww X (k + 46) S cs st pn d t l y := by
  have hle := h.le
  refine (Get_any h.pv hk (d : Int)).mono ?_
  rintro e w' ⟨t, l, y, he, hO⟩
  refine ⟨t, l, y, he, ?_⟩
  by_cases hy : y = 0
  · obtain ⟨d', j, S1, s1, G1, p1, a1, a2, a3, a4, T⟩ := hO.ok hy
    have : d' = d := by omega
    subst this
    refine ⟨Or.inl ⟨hy, a3, a4, Or.inl ⟨rfl, S1, s1, G1, p1, ⟨T.v, h.wb.kept T.kp, h.ge, h.pb⟩, T.cm⟩, T.kp.bel⟩, h.wb.kept T.kp, T.kp, T.v.q.le⟩
  · obtain ⟨_, _, hE⟩ := hO.bad hy
    rcases hE.or with ⟨_, e2, _⟩ | ⟨e1, _, _, e4, e5⟩ | ⟨e1, _, e3⟩
    · exact absurd ⟨by omega, by omega⟩ e2
    · exact ⟨Or.inr (Or.inl ⟨e1, h.pv.two e4, Or.inl ⟨rfl, S, sure, G, pg, (h.below e5).mono (by omega), fun hs => hs⟩, e5.mono hle⟩), h.wb.below e5, Kp.of_below e5 hle, Nat.le_trans hle e5.size⟩
    · obtain ⟨S1, m1, L1⟩ := e3.ex
      exact ⟨Or.inr (Or.inr ⟨e1, Or.inr ⟨rfl, e3.set, ⟨⟨S1, m1, L1⟩, (h.wb.kept e3.kp).f⟩⟩, e3.kp.bel⟩), h.wb.kept e3.kp, e3.kp, Nat.le_trans hle e3.kp.size⟩
theorem PW.geto (h : PW B w ww X k S cs sure G st pn pg qn) (hk : k ≤ 29000) (id : Int) (hid : ¬ (0 ≤ id ∧ id < 8)) : Calls Tryz.prog 14 #[.pointer (some ⟨X.pb, 0, none⟩), .int .i64 id] w fun e w' => e = .returned (.tuple #[.string ⟨#[]⟩, .int .i64 0, .int .i64 6]) ∧ Below w.heap.size w w' := by
  refine (Get_any h.pv hk id).mono ?_
  rintro e w' ⟨t, l, y, he, hO⟩
  by_cases hy : y = 0
  · obtain ⟨d', j, S1, s1, G1, p1, a1, a2, _⟩ := hO.ok hy
    exact absurd ⟨by omega, by omega⟩ hid
  · obtain ⟨rfl, rfl, hE⟩ := hO.bad hy
    rcases hE.or with ⟨e1, _, e3⟩ | ⟨_, e2, _⟩ | ⟨_, e2, _⟩
    · subst e1; exact ⟨he, e3⟩
    · exact absurd e2 hid
    · exact absurd e2 hid
set_option maxHeartbeats 2000000 in
theorem step_get_out (h : PW B w ww X k S cs sure G st pn pg pn) (hk : k ≤ 29000) (c : Int) (id : Int) (hid : ¬ (0 ≤ id ∧ id < 8)) : Calls Tryz.prog 11 #[.pointer (some ⟨ww, 0, none⟩), .agg (opA 2 id c)] w fun e w' => ∃ b, e = .returned (.bool b) ∧ RdO B w w' ww X (k + 46) S cs st pn b := by
  have hle := h.le
  have CG : Hid (∀ wx, Below w.heap.size w wx → Calls Tryz.prog 14 #[.pointer (some ⟨X.pb, 0, none⟩), .int .i64 id] wx fun e w' => e = .returned (.tuple #[.string ⟨#[]⟩, .int .i64 0, .int .i64 6]) ∧ Below wx.heap.size wx w') := fun wx hx => (h.below hx).geto hk id hid
  have CI : Hid (∀ wx, Calls Tryz.prog 39 #[.int .i64 id] wx fun e w' => e = .returned (.bool false) ∧ w' = wx) := fun wx => by
    have := in_any id wx
    rw [decide_eq_false hid] at this
    exact this
  have H : Hid (PW B w ww X k S cs sure G st pn pg pn) := h
  clear h hk hid
  go_enter Tryz.func11, Tryz.ntmps11
  go_wp2_with (refine wpList_box_o (A := opA 2 id c) _ rfl _ rfl rfl ?_; intro w1 b1 N1; have O1 : OpB w1 b1 2 id c := ⟨N1.blk⟩; have k0 := O1.c0; have HO : Hid (OpB w1 b1 2 id c) := O1; have HB1 : Hid (Below w.heap.size w w1) := N1.below; clear O1 N1)
  have bd : Hid (Below w.heap.size w w1.drew) := HB1.out.drew
  have bd1 : Hid (Below w1.heap.size w1 w1.drew) := (Below.refl _ _).drew
  have q1 := (H.out.below bd.out).wb.c3
  have q2 := (HO.out.below bd1.out).c1
  go_region_held3 (fun W => W.cell? ⟨ww, 3, none⟩ = some (.pointer (some ⟨X.pb, 0, none⟩)) ∧ W.cell? ⟨b1, 1, none⟩ = some (.int .i64 id)) (first | exact ⟨keep1, keep2⟩ | exact ⟨q1, q2⟩ | go_keep) (first
    | (go_at_call 14; refine (CG.out _ bd.out).mono ?_; rintro e w2 ⟨rfl, b2⟩; have B2 : Hid (Below w.heap.size w w2) := thn bd.out b2; have O2 := HO.out.below (thn bd1.out b2); have keep1 := (H.out.below B2.out).wb.c3; have keep2 := O2.c1; clear O2 b2))
  go_wp2_with (go_at_call 39; refine (CI.out _).mono ?_; rintro e w3 ⟨rfl, rfl⟩)
  go_ret
  exact ⟨true, by simp, Or.inl ⟨rfl, S, sure, G, pg, (H.out.below B2.out).mono (by omega), fun hs => hs⟩, B2.out.mono hle⟩
end
end Go.Proofs.YtgodjnbbocnckaaGreat

namespace Go.Proofs.YtgodjnbbocnckaaGreat
open Go.RowKit Go.Maps Go.ChangeMaps
set_option linter.unusedVariables false
set_option linter.unusedSimpArgs false
set_option maxRecDepth 100000

section
variable [Inhabited PrSet] {B k k' ww sure b : Nat} {w w' wr w0 : World} {S S' : Dk} {X : Ad} {G : Gp} {cs : List Nat} {st pg : Nat → Option Nat} {pn qn : Nat → Nat} {kd id c : Int}
end
section
variable {B k k' ww sure b : Nat} {w w' wr w0 : World} {S S' : Dk} {X : Ad} {G : Gp} {cs : List Nat} {st pg : Nat → Option Nat} {pn qn : Nat → Nat} {kd id c : Int}
theorem in_true {d : Nat} (hd : d < 8) (w : World) : Calls Tryz.prog 39 #[.int .i64 (d : Int)] w fun e w' => e = .returned (.bool true) ∧ w' = w := by
  have := in_any (d : Int) w
  rw [decide_eq_true (by omega)] at this
  exact this
end
section
variable [Inhabited PrSet] {B k k' ww sure b : Nat} {w w' wr w0 : World} {S S' : Dk} {X : Ad} {G : Gp} {cs : List Nat} {st pg : Nat → Option Nat} {pn qn : Nat → Nat} {kd id c : Int}
set_option maxHeartbeats 8000000 in
theorem step_get_in (h : PW B w ww X k S cs sure G st pn pg pn) (hk : k ≤ 29000) (c : Int) (d : Nat) (hd : d < 8) : Calls Tryz.prog 11 #[.pointer (some ⟨ww, 0, none⟩), .agg (opA 2 (d : Int) c)] w fun e w' => ∃ b, e = .returned (.bool b) ∧ RdO B w w' ww X (k + 46) S cs st pn b := by
  have hle := h.le
  have CG : Hid (∀ wx, Below w.heap.size w wx → Calls Tryz.prog 14 #[.pointer (some ⟨X.pb, 0, none⟩), .int .i64 (d : Int)] wx fun e w' => ∃ t l y, e = .returned (.tuple #[.string t, .int .i64 l, .int .i64 y]) ∧ G3O B wx w' ww X (k + 46) S cs st pn d t l y) := fun wx hx => (h.below hx).get hk d hd
  have CI : Hid (∀ wx, Calls Tryz.prog 39 #[.int .i64 (d : Int)] wx fun e w' => e = .returned (.bool true) ∧ w' = wx) := fun wx => in_true hd wx
  have CP : Hid (∀ wx, WwIs wx ww X cs st pn → Calls Tryz.prog 40 #[.pointer (some ⟨ww, 0, none⟩)] wx fun e w' => e = .returned (.int .i64 (pc pn 8 : Int)) ∧ w' = wx) := fun wx hx => pinned_any hx
  have H : Hid (PW B w ww X k S cs sure G st pn pg pn) := h
  have d8 : (d : Int) < 8 := by omega
  have d0 : (0 : Int) ≤ (d : Int) := by omega
  have HD : Hid (d < 8) := hd
  clear h hk
  go_enter Tryz.func11, Tryz.ntmps11
  go_wp2_with (refine wpList_box_o (A := opA 2 (d : Int) c) _ rfl _ rfl rfl ?_; intro w1 b1 N1; have O1 : OpB w1 b1 2 (d : Int) c := ⟨N1.blk⟩; have k0 := O1.c0; have HO : Hid (OpB w1 b1 2 (d : Int) c) := O1; have HB1 : Hid (Below w.heap.size w w1) := N1.below; clear O1 N1)
  have bd : Hid (Below w.heap.size w w1.drew) := HB1.out.drew
  have bd1 : Hid (Below w1.heap.size w1 w1.drew) := (Below.refl _ _).drew
  have q1 := (H.out.below bd.out).wb.c3
  have q2 := (HO.out.below bd1.out).c1
  go_region_held3 (fun W => W.cell? ⟨ww, 3, none⟩ = some (.pointer (some ⟨X.pb, 0, none⟩)) ∧ W.cell? ⟨b1, 1, none⟩ = some (.int .i64 (d : Int))) (first | exact ⟨keep1, keep2⟩ | exact ⟨q1, q2⟩ | go_keep) (first
    | (go_at_call 14; refine (CG.out _ bd.out).mono ?_; rintro e w2 ⟨t, l, y, rfl, g2⟩; have HG : Hid (G3O B w1.drew w2 ww X (k + 46) S cs st pn d t l y) := g2; have O2 : Hid (OpB w2 b1 2 (d : Int) c) := (HO.out.below bd1.out).kept g2.kp; have keep1 := g2.wb.c3; have keep2 := O2.out.c1; clear g2))
  have HW : Hid (WwIs w2 ww X cs st pn) := HG.out.wb
  have wle : Hid (B ≤ w2.heap.size) := HG.out.le
  have hB1 : Hid (Below B w w1.drew) := bd.out.mono hle
  have HX : Hid (∀ b, RdO B w1.drew w2 ww X (k + 46) S cs st pn b → RdO B w w2 ww X (k + 46) S cs st pn b) := fun b hb => ⟨hb.or, hB1.out.trans hb.bel⟩
  go_wp2_with (go_at_call 39; refine (CI.out _).mono ?_; rintro e w3 ⟨rfl, rfl⟩)
  have tx := HW.out.tx HD.out
  have ln := HW.out.ln HD.out
  have c1 := O2.out.c1
  have HQ : Hid (∀ n, WwIs (w3.drewN n) ww X cs st pn) := fun n => HW.out.below (Sm.below_dr (Below.refl _ _) n)
  rcases HG.out.or with ⟨hy, ht, hl, hR⟩ | ⟨hy, hp, hR⟩ | ⟨hy, hR⟩
  · subst hy ht hl
    have HR : Hid (RdO B w w3 ww X (k + 46) S cs st pn true) := HX.out _ hR
    clear hR HG
    generalize txO cs (st d) = t at *
    generalize lnO (st d) = l at *
    go_quiet ((go_at_call 40; exact Calls.quiet_of_same (CP.out _ (HQ.out _))))
    go_wp2
    go_ret
    exact ⟨true, by simp, HR.out.below (Sm.below_dr (Below.refl _ _) nq) wle.out⟩
  · subst hy
    have HR : Hid (RdO B w w3 ww X (k + 46) S cs st pn true) := HX.out _ hR
    have hp2 : (2 : Int) ≤ (pc pn 8 : Int) := by omega
    clear hR HG hp
    generalize (pc pn 8 : Int) = pcn at *
    go_quiet ((go_at_call 40; exact Calls.quiet_of_same (CP.out _ (HQ.out _))))
    go_wp2
    go_ret
    exact ⟨true, by simp [hp2], HR.out.below (Sm.below_dr (Below.refl _ _) nq) wle.out⟩
  · subst hy
    have HR : Hid (RdO B w w3 ww X (k + 46) S cs st pn false) := HX.out _ hR
    clear hR HG
    go_quiet ((go_at_call 40; exact Calls.quiet_of_same (CP.out _ (HQ.out _))))
    go_wp2
    go_ret
    refine ⟨false, by simp, ?_⟩
    refine ⟨?_, HR.out.bel.trans ((Sm.below_dr (Below.refl _ _) nq).mono wle.out)⟩
    rcases HR.out.or with ⟨h1, _⟩ | ⟨h1, h2, h3⟩
    · cases h1
    · exact Or.inr ⟨rfl, h2, h3.below (Sm.below_dr (Below.refl _ _) nq)⟩
end
end Go.Proofs.YtgodjnbbocnckaaGreat

namespace Go.Proofs.YtgodjnbbocnckaaGreat
open Go.RowKit Go.Maps Go.ChangeMaps
set_option linter.unusedVariables false
set_option linter.unusedSimpArgs false
set_option maxRecDepth 100000

/-- What a call that turns a page's pins comes to. -/
structure PtO [Inhabited PrSet] (B : Nat) (w w' : World) (ww : Nat) (X : Ad) (k : Nat) (S : Dk) (cs : List Nat) (st : Nat → Option Nat) (pn : Nat → Nat) (b : Bool) : Prop where
  or : (b = true ∧ ∃ (S' : Dk) (sure' : Nat) (G' : Gp) (pg' : Nat → Option Nat) (pn' : Nat → Nat), PW B w' ww X k S' cs sure' G' st pn' pg' pn' ∧ (∀ d, pn' d ≤ pn d + 1) ∧ (S.set = false → S'.set = false)) ∨ (b = false ∧ S.set = true ∧ LW B w' ww X k cs)
  bel : Below B w w'
section
variable [Inhabited PrSet] {B k k' ww sure b : Nat} {w w' wr w0 : World} {S S' : Dk} {X : Ad} {G : Gp} {cs : List Nat} {st pg : Nat → Option Nat} {pn qn : Nat → Nat} {kd id c : Int}
theorem RdO.pt {b : Bool} (h : RdO B w w' ww X k S cs st pn b) : PtO B w w' ww X k S cs st pn b := by
  refine ⟨?_, h.bel⟩
  rcases h.or with ⟨h1, S1, s1, G1, p1, P, hc⟩ | h1
  · exact Or.inl ⟨h1, S1, s1, G1, p1, pn, P, fun d => Nat.le_succ _, hc⟩
  · exact Or.inr h1
/-- The pool's Pin, by its page. -/
structure N3O (B : Nat) (w w' : World) (ww : Nat) (X : Ad) (k : Nat) (S : Dk) (cs : List Nat) (st : Nat → Option Nat) (pn : Nat → Nat) (d : Nat) (y : Int) : Prop where
  or : (y = 0 ∧ ∃ (S' : Dk) (sure' : Nat) (G' : Gp) (pg' : Nat → Option Nat), Pv B w' X k S' cs sure' G' st (upd pn d (pn d + 1)) pg' ∧ (S.set = false → S'.set = false)) ∨ (y = 7 ∧ 2 ≤ pc pn 8 ∧ RdO B w w' ww X k S cs st pn true) ∨ (y = 9 ∧ RdO B w w' ww X k S cs st pn false)
  wb : WwIs w' ww X cs st pn
  kp : Kp isQ B w w'
  le : B ≤ w'.heap.size
theorem PW.pin (h : PW B w ww X k S cs sure G st pn pg pn) (hk : k ≤ 29000) (hp : ∀ d, pn d ≤ 900) (d : Nat) (hd : d < 8) : Calls Tryz.prog 25 #[.pointer (some ⟨X.pb, 0, none⟩), .int .i64 (d : Int)] w fun e w' => ∃ y, e = .returned (.int .i64 y) ∧ N3O B w w' ww X (k + 46) S cs st pn d y := by
  have hle := h.le
  refine (Pin_any h.pv hk (d : Int) h.pb).mono ?_
  rintro e w' ⟨y, he, hO⟩
  refine ⟨y, he, ?_⟩
  by_cases hy : y = 0
  · obtain ⟨w1, d', j, S1, s1, G1, p1, a1, a2, T, V, K⟩ := hO.ok hy
    have : d' = d := by omega
    subst this
    exact ⟨Or.inl ⟨hy, S1, s1, _, p1, V, T.cm⟩, h.wb.kept K, K, V.q.le⟩
  · rcases (hO.bad hy).or with ⟨_, e2, _⟩ | ⟨e1, _, _, e4, e5⟩ | ⟨e1, _, e3⟩
    · exact absurd ⟨by omega, by omega⟩ e2
    · exact ⟨Or.inr (Or.inl ⟨e1, h.pv.two e4, Or.inl ⟨rfl, S, sure, G, pg, (h.below e5).mono (by omega), fun hs => hs⟩, e5.mono hle⟩), h.wb.below e5, Kp.of_below e5 hle, Nat.le_trans hle e5.size⟩
    · obtain ⟨S1, m1, L1⟩ := e3.ex
      exact ⟨Or.inr (Or.inr ⟨e1, Or.inr ⟨rfl, e3.set, ⟨⟨S1, m1, L1⟩, (h.wb.kept e3.kp).f⟩⟩, e3.kp.bel⟩), h.wb.kept e3.kp, e3.kp, Nat.le_trans hle e3.kp.size⟩
theorem PW.pino (h : PW B w ww X k S cs sure G st pn pg qn) (hk : k ≤ 29000) (id : Int) (hid : ¬ (0 ≤ id ∧ id < 8)) : Calls Tryz.prog 25 #[.pointer (some ⟨X.pb, 0, none⟩), .int .i64 id] w fun e w' => e = .returned (.int .i64 6) ∧ Below w.heap.size w w' := by
  refine (Pin_any h.pv hk id h.pb).mono ?_
  rintro e w' ⟨y, he, hO⟩
  by_cases hy : y = 0
  · obtain ⟨w1, d', j, S1, s1, G1, p1, a1, a2, _⟩ := hO.ok hy
    exact absurd ⟨by omega, by omega⟩ hid
  · rcases (hO.bad hy).or with ⟨e1, _, e3⟩ | ⟨_, e2, _⟩ | ⟨_, e2, _⟩
    · subst e1; exact ⟨he, e3⟩
    · exact absurd e2 hid
    · exact absurd e2 hid
set_option maxHeartbeats 2000000 in
theorem step_pin_out (h : PW B w ww X k S cs sure G st pn pg pn) (hk : k ≤ 29000) (c : Int) (id : Int) (hid : ¬ (0 ≤ id ∧ id < 8)) : Calls Tryz.prog 11 #[.pointer (some ⟨ww, 0, none⟩), .agg (opA 3 id c)] w fun e w' => ∃ b, e = .returned (.bool b) ∧ PtO B w w' ww X (k + 46) S cs st pn b := by
  have hle := h.le
  have CG : Hid (∀ wx, Below w.heap.size w wx → Calls Tryz.prog 25 #[.pointer (some ⟨X.pb, 0, none⟩), .int .i64 id] wx fun e w' => e = .returned (.int .i64 6) ∧ Below wx.heap.size wx w') := fun wx hx => (h.below hx).pino hk id hid
  have CI : Hid (∀ wx, Calls Tryz.prog 39 #[.int .i64 id] wx fun e w' => e = .returned (.bool false) ∧ w' = wx) := fun wx => by
    have := in_any id wx
    rw [decide_eq_false hid] at this
    exact this
  have H : Hid (PW B w ww X k S cs sure G st pn pg pn) := h
  clear h hk hid
  go_enter Tryz.func11, Tryz.ntmps11
  go_wp2_with (refine wpList_box_o (A := opA 3 id c) _ rfl _ rfl rfl ?_; intro w1 b1 N1; have O1 : OpB w1 b1 3 id c := ⟨N1.blk⟩; have k0 := O1.c0; have HO : Hid (OpB w1 b1 3 id c) := O1; have HB1 : Hid (Below w.heap.size w w1) := N1.below; clear O1 N1)
  have bd : Hid (Below w.heap.size w w1.drew) := HB1.out.drew
  have bd1 : Hid (Below w1.heap.size w1 w1.drew) := (Below.refl _ _).drew
  have q1 := (H.out.below bd.out).wb.c3
  have q2 := (HO.out.below bd1.out).c1
  go_region_held3 (fun W => W.cell? ⟨ww, 3, none⟩ = some (.pointer (some ⟨X.pb, 0, none⟩)) ∧ W.cell? ⟨b1, 1, none⟩ = some (.int .i64 id)) (first | exact ⟨keep1, keep2⟩ | exact ⟨q1, q2⟩ | go_keep) (first
    | (go_at_call 25; refine (CG.out _ bd.out).mono ?_; rintro e w2 ⟨rfl, b2⟩; have B2 : Hid (Below w.heap.size w w2) := thn bd.out b2; have O2 := HO.out.below (thn bd1.out b2); have keep1 := (H.out.below B2.out).wb.c3; have keep2 := O2.c1; clear O2 b2))
  go_wp2_with (go_at_call 39; refine (CI.out _).mono ?_; rintro e w3 ⟨rfl, rfl⟩)
  go_ret
  exact ⟨true, by simp, Or.inl ⟨rfl, S, sure, G, pg, pn, (H.out.below B2.out).mono (by omega), fun d => Nat.le_succ _, fun hs => hs⟩, B2.out.mono hle⟩
set_option maxHeartbeats 8000000 in
theorem step_pin_in (h : PW B w ww X k S cs sure G st pn pg pn) (hk : k ≤ 29000) (hp : ∀ d, pn d ≤ 900) (c : Int) (d : Nat) (hd : d < 8) : Calls Tryz.prog 11 #[.pointer (some ⟨ww, 0, none⟩), .agg (opA 3 (d : Int) c)] w fun e w' => ∃ b, e = .returned (.bool b) ∧ PtO B w w' ww X (k + 46) S cs st pn b := by
  have hle := h.le
  have CG : Hid (∀ wx, Below w.heap.size w wx → Calls Tryz.prog 25 #[.pointer (some ⟨X.pb, 0, none⟩), .int .i64 (d : Int)] wx fun e w' => ∃ y, e = .returned (.int .i64 y) ∧ N3O B wx w' ww X (k + 46) S cs st pn d y) := fun wx hx => (h.below hx).pin hk hp d hd
  have CI : Hid (∀ wx, Calls Tryz.prog 39 #[.int .i64 (d : Int)] wx fun e w' => e = .returned (.bool true) ∧ w' = wx) := fun wx => in_true hd wx
  have CP : Hid (∀ wx, WwIs wx ww X cs st pn → Calls Tryz.prog 40 #[.pointer (some ⟨ww, 0, none⟩)] wx fun e w' => e = .returned (.int .i64 (pc pn 8 : Int)) ∧ w' = wx) := fun wx hx => pinned_any hx
  have d8 : (d : Int) < 8 := by omega
  have d0 : (0 : Int) ≤ (d : Int) := by omega
  have HD : Hid (d < 8) := hd
  have hge : Hid (Ow B ww) := h.ge
  have HP : Hid (∀ d, pn d ≤ 900) := hp
  have p9 : (pn d : Int) ≤ 900 := by have := hp d; omega
  have p0 : (0 : Int) ≤ (pn d : Int) := by omega
  have H : Hid (PW B w ww X k S cs sure G st pn pg pn) := h
  clear h hk hp
  go_enter Tryz.func11, Tryz.ntmps11
  go_wp2_with (refine wpList_box_o (A := opA 3 (d : Int) c) _ rfl _ rfl rfl ?_; intro w1 b1 N1; have O1 : OpB w1 b1 3 (d : Int) c := ⟨N1.blk⟩; have k0 := O1.c0; have HO : Hid (OpB w1 b1 3 (d : Int) c) := O1; have HB1 : Hid (Below w.heap.size w w1) := N1.below; clear O1 N1)
  have bd : Hid (Below w.heap.size w w1.drew) := HB1.out.drew
  have bd1 : Hid (Below w1.heap.size w1 w1.drew) := (Below.refl _ _).drew
  have q1 := (H.out.below bd.out).wb.c3
  have q2 := (HO.out.below bd1.out).c1
  go_region_held3 (fun W => W.cell? ⟨ww, 3, none⟩ = some (.pointer (some ⟨X.pb, 0, none⟩)) ∧ W.cell? ⟨b1, 1, none⟩ = some (.int .i64 (d : Int))) (first | exact ⟨keep1, keep2⟩ | exact ⟨q1, q2⟩ | go_keep) (first
    | (go_at_call 25; refine (CG.out _ bd.out).mono ?_; rintro e w2 ⟨y, rfl, g2⟩; have HG : Hid (N3O B w1.drew w2 ww X (k + 46) S cs st pn d y) := g2; have O2 : Hid (OpB w2 b1 3 (d : Int) c) := (HO.out.below bd1.out).kept g2.kp; have keep1 := g2.wb.c3; have keep2 := O2.out.c1; clear g2))
  have HW : Hid (WwIs w2 ww X cs st pn) := HG.out.wb
  have wle : Hid (B ≤ w2.heap.size) := HG.out.le
  have hB1 : Hid (Below B w w1.drew) := bd.out.mono hle
  have HX : Hid (∀ b, RdO B w1.drew w2 ww X (k + 46) S cs st pn b → RdO B w w2 ww X (k + 46) S cs st pn b) := fun b hb => ⟨hb.or, hB1.out.trans hb.bel⟩
  have hbel : Hid (Below B w w2) := hB1.out.trans HG.out.kp.bel
  have pnc := HW.out.pns HD.out
  have pnz := HW.out.z (20 + d)
  have c1 := O2.out.c1
  rcases HG.out.or with ⟨hy, S3, s3, G3, p3, V3, hc3⟩ | ⟨hy, hp, hR⟩ | ⟨hy, hR⟩
  · subst hy
    have HV : Hid (Pv B w2 X (k + 46) S3 cs s3 G3 st (upd pn d (pn d + 1)) p3 ∧ (S.set = false → S3.set = false)) := ⟨V3, hc3⟩
    clear V3 hc3 HG
    have hw1 : IntKind.i64.wrap ((pn d : Int) + 1) = (pn d : Int) + 1 := by rw [IntKind.wrap_i64]; omega
    go_wp2_with (go_at_call 39; refine (CI.out _).mono ?_; rintro e w3 ⟨rfl, rfl⟩)
    go_region
    go_wp2
    go_ret
    have K1 : Kp isW B w3 (w3.setCell ⟨ww, 20 + d, none⟩ (.int .i64 ((pn d : Int) + 1))) := HW.out.kp hge.out _ _
    have W1 : WwIs (w3.setCell ⟨ww, 20 + d, none⟩ (.int .i64 ((pn d : Int) + 1))) ww X cs st (upd pn d (pn d + 1)) := HW.out.pin (x := pn d + 1) HD.out
    have hbd : Below (w3.setCell ⟨ww, 20 + d, none⟩ (.int .i64 ((pn d : Int) + 1))).heap.size (w3.setCell ⟨ww, 20 + d, none⟩ (.int .i64 ((pn d : Int) + 1))) (w3.setCell ⟨ww, 20 + d, none⟩ (.int .i64 ((pn d : Int) + 1))).drew := (Below.refl _ _).drew
    refine ⟨true, by simp, Or.inl ⟨rfl, S3, s3, G3, p3, upd pn d (pn d + 1), ⟨(HV.out.1.keptW K1).below hbd, W1.below hbd, hge.out, fun x => ?_⟩, fun x => ?_, HV.out.2⟩, (hbel.out.trans K1.bel).trans (hbd.mono (Nat.le_trans wle.out K1.size))⟩
    · unfold upd
      have h1 := HP.out x
      have h2 := HP.out d
      split <;> omega
    · unfold upd
      split
      · rename_i e; subst e; exact Nat.le_refl _
      · exact Nat.le_succ _
  · subst hy
    have HR : Hid (RdO B w w2 ww X (k + 46) S cs st pn true) := HX.out _ hR
    have hp2 : (2 : Int) ≤ (pc pn 8 : Int) := by omega
    clear hR HG hp
    generalize (pc pn 8 : Int) = pcn at *
    go_wp2_with (first
      | (go_at_call 39; refine (CI.out _).mono ?_; rintro e w3 ⟨rfl, rfl⟩)
      | (go_at_call 40; refine (CP.out _ HW.out).mono ?_; rintro e w4 ⟨rfl, rfl⟩))
    go_ret
    exact ⟨true, by simp [hp2], HR.out.pt⟩
  · subst hy
    have HR : Hid (RdO B w w2 ww X (k + 46) S cs st pn false) := HX.out _ hR
    clear hR HG
    go_wp2_with (go_at_call 39; refine (CI.out _).mono ?_; rintro e w3 ⟨rfl, rfl⟩)
    go_ret
    exact ⟨false, by simp, HR.out.pt⟩
end
end Go.Proofs.YtgodjnbbocnckaaGreat

namespace Go.Proofs.YtgodjnbbocnckaaGreat
open Go.RowKit Go.Maps Go.ChangeMaps
set_option linter.unusedVariables false
set_option linter.unusedSimpArgs false
set_option maxRecDepth 100000

section
variable [Inhabited PrSet] {B k k' ww sure b : Nat} {w w' wr w0 : World} {S S' : Dk} {X : Ad} {G : Gp} {cs : List Nat} {st pg : Nat → Option Nat} {pn qn : Nat → Nat} {kd id c : Int}
set_option maxHeartbeats 4000000 in
theorem step_unpin_out (h : PW B w ww X k S cs sure G st pn pg pn) (c : Int) (id : Int) (hid : ¬ (0 ≤ id ∧ id < 8)) : Calls Tryz.prog 11 #[.pointer (some ⟨ww, 0, none⟩), .agg (opA 4 id c)] w fun e w' => ∃ b, e = .returned (.bool b) ∧ PtO B w w' ww X k S cs st pn b := by
  have hle := h.le
  have CU : Hid (∀ wx, Below w.heap.size w wx → Calls Tryz.prog 27 #[.pointer (some ⟨X.pb, 0, none⟩), .int .i64 id] wx fun e w' => e = .returned (.int .i64 8) ∧ Below wx.heap.size wx w') := fun wx hx => (Unpin_none (h.below hx).pv id (fun d e hd => absurd ⟨by omega, by omega⟩ hid)).mono (fun e w' ⟨h1, h2⟩ => ⟨h1, h2 ▸ Below.refl _ _⟩)
  have CI : Hid (∀ wx, Calls Tryz.prog 39 #[.int .i64 id] wx fun e w' => e = .returned (.bool false) ∧ w' = wx) := fun wx => by
    have := in_any id wx
    rw [decide_eq_false hid] at this
    exact this
  have H : Hid (PW B w ww X k S cs sure G st pn pg pn) := h
  clear h hid
  go_enter Tryz.func11, Tryz.ntmps11
  go_wp2_with (refine wpList_box_o (A := opA 4 id c) _ rfl _ rfl rfl ?_; intro w1 b1 N1; have O1 : OpB w1 b1 4 id c := ⟨N1.blk⟩; have k0 := O1.c0; have HO : Hid (OpB w1 b1 4 id c) := O1; have HB1 : Hid (Below w.heap.size w w1) := N1.below; clear O1 N1)
  have bd : Hid (Below w.heap.size w w1.drew) := HB1.out.drew
  have bd1 : Hid (Below w1.heap.size w1 w1.drew) := (Below.refl _ _).drew
  have q1 := (H.out.below bd.out).wb.c3
  have q2 := (HO.out.below bd1.out).c1
  go_region_held3 (fun W => W.cell? ⟨ww, 3, none⟩ = some (.pointer (some ⟨X.pb, 0, none⟩)) ∧ W.cell? ⟨b1, 1, none⟩ = some (.int .i64 id)) (first | exact ⟨keep1, keep2⟩ | exact ⟨q1, q2⟩ | go_keep) (first
    | (go_at_call 27; refine (CU.out _ bd.out).mono ?_; rintro e w2 ⟨rfl, b2⟩; have B2 : Hid (Below w.heap.size w w2) := thn bd.out b2; have O2 := HO.out.below (thn bd1.out b2); have keep1 := (H.out.below B2.out).wb.c3; have keep2 := O2.c1; clear O2 b2))
  go_wp2
  go_quiet ((go_at_call 39; exact Calls.quiet_of_same (CI.out _)))
  go_wp2
  go_ret
  have hb : Below w.heap.size w (w2.drewN nq) := Sm.below_dr B2.out nq
  exact ⟨true, by simp, Or.inl ⟨rfl, S, sure, G, pg, pn, H.out.below hb, fun d => Nat.le_succ _, fun hs => hs⟩, hb.mono hle⟩
set_option maxHeartbeats 4000000 in
theorem step_unpin_zero (h : PW B w ww X k S cs sure G st pn pg pn) (c : Int) (d : Nat) (hd : d < 8) (hz : pn d = 0) : Calls Tryz.prog 11 #[.pointer (some ⟨ww, 0, none⟩), .agg (opA 4 (d : Int) c)] w fun e w' => ∃ b, e = .returned (.bool b) ∧ PtO B w w' ww X k S cs st pn b := by
  have hle := h.le
  have CU : Hid (∀ wx, Below w.heap.size w wx → Calls Tryz.prog 27 #[.pointer (some ⟨X.pb, 0, none⟩), .int .i64 (d : Int)] wx fun e w' => e = .returned (.int .i64 8) ∧ Below wx.heap.size wx w') := fun wx hx => (Unpin_none (h.below hx).pv (d : Int) (fun d' e hd' => (show d' = d by omega) ▸ hz)).mono (fun e w' ⟨h1, h2⟩ => ⟨h1, h2 ▸ Below.refl _ _⟩)
  have CI : Hid (∀ wx, Calls Tryz.prog 39 #[.int .i64 (d : Int)] wx fun e w' => e = .returned (.bool true) ∧ w' = wx) := fun wx => in_true hd wx
  have HC : Hid (∀ wx, Below w.heap.size w wx → wx.cell? ⟨ww, 20 + d, none⟩ = some (.int .i64 0)) := fun wx hx => by
    have := (h.below hx).wb.pns hd
    rw [hz] at this
    exact this
  have H : Hid (PW B w ww X k S cs sure G st pn pg pn) := h
  have d8 : (d : Int) < 8 := by omega
  have d0 : (0 : Int) ≤ (d : Int) := by omega
  clear h hz
  go_enter Tryz.func11, Tryz.ntmps11
  go_wp2_with (refine wpList_box_o (A := opA 4 (d : Int) c) _ rfl _ rfl rfl ?_; intro w1 b1 N1; have O1 : OpB w1 b1 4 (d : Int) c := ⟨N1.blk⟩; have k0 := O1.c0; have HO : Hid (OpB w1 b1 4 (d : Int) c) := O1; have HB1 : Hid (Below w.heap.size w w1) := N1.below; clear O1 N1)
  have bd : Hid (Below w.heap.size w w1.drew) := HB1.out.drew
  have bd1 : Hid (Below w1.heap.size w1 w1.drew) := (Below.refl _ _).drew
  have q1 := (H.out.below bd.out).wb.c3
  have q2 := (HO.out.below bd1.out).c1
  have q4 := HC.out _ bd.out
  go_region_held3 (fun W => W.cell? ⟨ww, 3, none⟩ = some (.pointer (some ⟨X.pb, 0, none⟩)) ∧ W.cell? ⟨b1, 1, none⟩ = some (.int .i64 (d : Int))) (first | exact ⟨keep1, keep2⟩ | exact ⟨q1, q2⟩ | go_keep) (first
    | (go_at_call 27; refine (CU.out _ bd.out).mono ?_; rintro e w2 ⟨rfl, b2⟩; have B2 : Hid (Below w.heap.size w w2) := thn bd.out b2; have O2 := HO.out.below (thn bd1.out b2); have keep1 := (H.out.below B2.out).wb.c3; have keep2 := O2.c1; have q5 := HC.out _ B2.out; clear O2 b2))
  go_wp2
  go_quiet ((go_at_call 39; exact Calls.quiet_of_same (CI.out _)))
  go_wp2
  go_ret
  have hb : Below w.heap.size w (w2.drewN nq) := Sm.below_dr B2.out nq
  exact ⟨true, by simp, Or.inl ⟨rfl, S, sure, G, pg, pn, H.out.below hb, fun d => Nat.le_succ _, fun hs => hs⟩, hb.mono hle⟩
set_option maxHeartbeats 8000000 in
theorem step_unpin_some (h : PW B w ww X k S cs sure G st pn pg pn) (hp : ∀ d, pn d ≤ 900) (c : Int) (d : Nat) (hd : d < 8) (hz : pn d ≠ 0) : Calls Tryz.prog 11 #[.pointer (some ⟨ww, 0, none⟩), .agg (opA 4 (d : Int) c)] w fun e w' => ∃ b, e = .returned (.bool b) ∧ PtO B w w' ww X k S cs st pn b := by
  have hle := h.le
  have CU : Hid (∀ wx, Below w.heap.size w wx → Calls Tryz.prog 27 #[.pointer (some ⟨X.pb, 0, none⟩), .int .i64 (d : Int)] wx fun e w' => e = .returned (.int .i64 0) ∧ ∃ G', Pv B w' X k S cs sure G' st (upd pn d (pn d - 1)) pg ∧ Kp isQ B wx w') := fun wx hx => by
    refine (Unpin_ok (h.below hx).pv d hd hz (by have := hp d; omega)).mono ?_
    rintro e w' ⟨he, j, _, _, V, K⟩
    exact ⟨he, _, V, K⟩
  have CI : Hid (∀ wx, Calls Tryz.prog 39 #[.int .i64 (d : Int)] wx fun e w' => e = .returned (.bool true) ∧ w' = wx) := fun wx => in_true hd wx
  have H : Hid (PW B w ww X k S cs sure G st pn pg pn) := h
  have d8 : (d : Int) < 8 := by omega
  have d0 : (0 : Int) ≤ (d : Int) := by omega
  have hge : Hid (Ow B ww) := h.ge
  have HP : Hid (∀ d, pn d ≤ 900) := hp
  have HD : Hid (d < 8) := hd
  have p9 : (pn d : Int) ≤ 900 := by have := hp d; omega
  have p1 : (1 : Int) ≤ (pn d : Int) := by omega
  have pz : ((pn d : Int) == 0) = false := by simp; omega
  have hw1 : IntKind.i64.wrap ((pn d : Int) - 1) = (pn d : Int) - 1 := by rw [IntKind.wrap_i64]; omega
  have HE : Hid (((pn d - 1 : Nat) : Int) = (pn d : Int) - 1) := (by omega : ((pn d - 1 : Nat) : Int) = (pn d : Int) - 1)
  clear h hz hp
  go_enter Tryz.func11, Tryz.ntmps11
  go_wp2_with (refine wpList_box_o (A := opA 4 (d : Int) c) _ rfl _ rfl rfl ?_; intro w1 b1 N1; have O1 : OpB w1 b1 4 (d : Int) c := ⟨N1.blk⟩; have k0 := O1.c0; have HO : Hid (OpB w1 b1 4 (d : Int) c) := O1; have HB1 : Hid (Below w.heap.size w w1) := N1.below; clear O1 N1)
  have bd : Hid (Below w.heap.size w w1.drew) := HB1.out.drew
  have bd1 : Hid (Below w1.heap.size w1 w1.drew) := (Below.refl _ _).drew
  have q1 := (H.out.below bd.out).wb.c3
  have q2 := (HO.out.below bd1.out).c1
  go_region_held3 (fun W => W.cell? ⟨ww, 3, none⟩ = some (.pointer (some ⟨X.pb, 0, none⟩)) ∧ W.cell? ⟨b1, 1, none⟩ = some (.int .i64 (d : Int))) (first | exact ⟨keep1, keep2⟩ | exact ⟨q1, q2⟩ | go_keep) (first
    | (go_at_call 27; refine (CU.out _ bd.out).mono ?_; rintro e w2 ⟨rfl, G2, V2, K2⟩; have HV : Hid (Pv B w2 X k S cs sure G2 st (upd pn d (pn d - 1)) pg) := V2; have HK : Hid (Kp isQ B w1.drew w2) := K2; have HW : Hid (WwIs w2 ww X cs st pn) := (H.out.below bd.out).wb.kept K2; have O2 : Hid (OpB w2 b1 4 (d : Int) c) := (HO.out.below bd1.out).kept K2; have keep1 := HW.out.c3; have keep2 := O2.out.c1; clear V2 K2))
  have pnc := HW.out.pns HD.out
  go_wp2
  go_quiet ((go_at_call 39; exact Calls.quiet_of_same (CI.out _)))
  have pnz := HW.out.z (20 + d)
  go_wp2
  go_region
  go_wp2
  go_ret
  have hwn : Below w2.heap.size w2 (w2.drewN (nq + 1)) := Sm.below_dr (Below.refl _ _) (nq + 1)
  have W0 := HW.out.below hwn
  have K1 : Kp isW B (w2.drewN (nq + 1)) ((w2.drewN (nq + 1)).setCell ⟨ww, 20 + d, none⟩ (.int .i64 ((pn d : Int) - 1))) := W0.kp hge.out _ _
  have W1 := W0.pin (x := pn d - 1) HD.out
  rw [HE.out] at W1
  refine ⟨true, by simp, Or.inl ⟨rfl, S, sure, G2, pg, upd pn d (pn d - 1), ⟨(HV.out.below hwn).keptW K1, W1, hge.out, fun x => ?_⟩, fun x => ?_, fun hs => hs⟩, ?_⟩
  · unfold upd
    have h1 := HP.out x
    have h2 := HP.out d
    split <;> omega
  · unfold upd
    split
    · rename_i e; subst e; omega
    · exact Nat.le_succ _
  · exact (((bd.out.mono hle).trans HK.out.bel).trans (hwn.mono HV.out.q.le)).trans K1.bel
/-- A page that is dirty is flushed. -/
structure FfO (B : Nat) (w w' : World) (ww : Nat) (X : Ad) (k : Nat) (S : Dk) (cs : List Nat) (st : Nat → Option Nat) (pn : Nat → Nat) (d : Nat) (y : Int) : Prop where
  or : (y = 0 ∧ (∀ wx, Below w'.heap.size w' wx → Calls Tryz.prog 26 #[.pointer (some ⟨X.pb, 0, none⟩), .int .i64 (d : Int)] wx fun e w'' => e = .returned (.bool false) ∧ w'' = wx) ∧ (∀ wx, Below w'.heap.size w' wx → Calls Tryz.prog 28 #[.pointer (some ⟨X.sb, 0, none⟩), .int .i64 (d : Int), .int .i64 (lnO (st d))] wx fun e w'' => e = .returned (.bool true) ∧ Below wx.heap.size wx w'') ∧ RdO B w w' ww X k S cs st pn true) ∨ (y = 9 ∧ RdO B w w' ww X k S cs st pn false)
  wb : WwIs w' ww X cs st pn
  kp : Kp isQ B w w'
  le : B ≤ w'.heap.size
theorem PW.flush (h : PW B w ww X k S cs sure G st pn pg pn) (hk : k ≤ 29000) (d : Nat) (hd : d < 8) (hw : dtb G.F X.n (d : Int) = true) : Calls Tryz.prog 33 #[.pointer (some ⟨X.pb, 0, none⟩), .int .i64 (d : Int)] w fun e w' => ∃ y, e = .returned (.int .i64 y) ∧ FfO B w w' ww X (k + 46) S cs st pn d y := by
  have hle := h.le
  obtain ⟨j, hj, hh, hs⟩ := dtb_iff.1 hw
  obtain ⟨d', k0, r, a1, a2, a3, a4, a5, a6⟩ := h.pv.v.pos hj hs
  have : d' = d := by have x := a3.2; have y := hh.2; omega
  subst this
  refine (Flush_any h.pv (by omega) (d' : Int)).mono ?_
  rintro e w' ⟨y, he, hO⟩
  refine ⟨y, he, ?_⟩
  by_cases hy : y = 0
  · obtain ⟨S1, s1, G1, p1, V, hdt, hc, K⟩ := hO.ok hy
    have hpg : p1 d' = some r := by
      rw [V.v.cl d' hd (fun i hi hh' => ?_), a4]
      rcases Classical.em (0 < (G1.F i).si) with hp | hp
      · rw [dtb_iff.2 ⟨i, hi, hh', hp⟩] at hdt; cases hdt
      · exact V.v.si0 hi hp
    refine ⟨Or.inl ⟨hy, fun wx hx => ?_, fun wx hx => ?_, Or.inl ⟨rfl, S1, s1, G1, p1, ⟨V, h.wb.kept K, h.ge, h.pb⟩, hc⟩, K.bel⟩, h.wb.kept K, K, V.q.le⟩
    · have := Dirty_any (V.below hx) (d' : Int)
      rw [hdt] at this
      exact this
    · have hq := V.q.below hx
      have := hq.ds.stis hq.st hq.lv.up hq.n (d' : Int) (lnO (st d'))
      rw [V.p.rd (by have := V.q.sl; have := V.q.len; omega) hd, hpg] at this
      refine this.mono ?_
      rintro e w2 ⟨he2, hb2⟩
      refine ⟨?_, hb2⟩
      rw [he2, a4]
      simp
  · by_cases h8 : y = 8
    · exact absurd hh ((hO.none h8).1 j hj)
    · obtain ⟨h9, L⟩ := hO.bad hy h8
      obtain ⟨S1, m1, L1⟩ := L.ex
      exact ⟨Or.inr ⟨h9, Or.inr ⟨rfl, L.set, ⟨⟨S1, m1, L1⟩, (h.wb.kept L.kp).f⟩⟩, L.kp.bel⟩, h.wb.kept L.kp, L.kp, Nat.le_trans hle L.kp.size⟩
/-- A page that is not dirty is flushed. -/
structure FcO (B : Nat) (w w' : World) (ww : Nat) (X : Ad) (k : Nat) (S : Dk) (cs : List Nat) (st : Nat → Option Nat) (pn : Nat → Nat) (y : Int) : Prop where
  or : (y = 0 ∧ RdO B w w' ww X k S cs st pn true) ∨ (y = 8 ∧ RdO B w w' ww X k S cs st pn true) ∨ (y = 9 ∧ RdO B w w' ww X k S cs st pn false)
  wb : WwIs w' ww X cs st pn
  kp : Kp isQ B w w'
theorem PW.flushc (h : PW B w ww X k S cs sure G st pn pg pn) (hk : k ≤ 29000) (id : Int) : Calls Tryz.prog 33 #[.pointer (some ⟨X.pb, 0, none⟩), .int .i64 id] w fun e w' => ∃ y, e = .returned (.int .i64 y) ∧ FcO B w w' ww X (k + 46) S cs st pn y := by
  have hle := h.le
  refine (Flush_any h.pv (by omega) id).mono ?_
  rintro e w' ⟨y, he, hO⟩
  refine ⟨y, he, ?_⟩
  by_cases hy : y = 0
  · obtain ⟨S1, s1, G1, p1, V, hdt, hc, K⟩ := hO.ok hy
    exact ⟨Or.inl ⟨hy, Or.inl ⟨rfl, S1, s1, G1, p1, ⟨V, h.wb.kept K, h.ge, h.pb⟩, hc⟩, K.bel⟩, h.wb.kept K, K⟩
  · by_cases h8 : y = 8
    · obtain ⟨_, rfl⟩ := hO.none h8
      exact ⟨Or.inr (Or.inl ⟨h8, Or.inl ⟨rfl, S, sure, G, pg, h.mono (by omega), fun hs => hs⟩, Below.refl _ _⟩), h.wb, Kp.refl _ _ _⟩
    · obtain ⟨h9, L⟩ := hO.bad hy h8
      obtain ⟨S1, m1, L1⟩ := L.ex
      exact ⟨Or.inr (Or.inr ⟨h9, Or.inr ⟨rfl, L.set, ⟨⟨S1, m1, L1⟩, (h.wb.kept L.kp).f⟩⟩, L.kp.bel⟩), h.wb.kept L.kp, L.kp⟩
end
end Go.Proofs.YtgodjnbbocnckaaGreat
