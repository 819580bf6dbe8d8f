/- The developers' fold: turn. -/
import Derived.Test.YtkcpclmkbmeigabFdB
import Derived.Deep.QuietTactic
import Derived.BigQuiet
import Derived.Deep.RegionHeldLaw
namespace Go.Proofs.Ytkcpclmkbmeigab.Fd
open Go.RowKit Gm Go.Maps
set_option linter.unusedVariables false
set_option linter.unusedSimpArgs false
set_option maxRecDepth 100000
section
variable {W W' : Nat → Prop} {w w' : World} {fb bw : Nat} {v : Value} {K : List CL} {L : List Dv} {G : List Gt} {n t : Int} {r : Rc} {I T : Value}
theorem turn_none (h : bhd r = none) (I T : Value) (w : World) : Calls Try.prog 19 #[.pointer (some ⟨fb, 0, none⟩), .agg (r.A I T)] w fun e w' => e = .returned (.tuple #[]) ∧ Below w.heap.size w w' := by
  have C := behind_any r I T
  rw [h] at C
  have C1 : Hid (∀ w, Calls Try.prog 30 #[.agg (r.A I T)] w fun e w' => e = .returned (.tuple #[.agg zH.A, .bool false]) ∧ Below w.heap.size w w') := C
  have h2 := stH
  clear C h
  go_enter Try.func19, Try.ntmps19
  go_wp2_with first
    | (refine wpList_box_at (A := r.A I T) _ rfl _ rfl rfl ?_; intro w1 b1 N1)
    | (refine wpList_load_at stRc (A := r.A I T) _ rfl _ rfl rfl N1.is rfl ?_)
    | (go_at_call 30; refine (C1.out _).mono ?_; rintro e w2 ⟨rfl, q2⟩)
    | (refine wpList_new_at (A := zH.A) _ zKv rfl rfl ?_; intro w3 b3 N3)
    | (refine wpList_put_at (A := zH.A) (A' := zH.A) h2 _ rfl _ _ rfl rfl rfl N3.is rfl rfl (oneH _) ?_; intro w4 P4)
  refine bodyPost_ret (results_none rfl _ _ _) rfl ?_
  exact ⟨rfl, thn (thn N1.bel q2) (np_bel N3 P4)⟩
set_option maxHeartbeats 1000000 in
theorem turn_on {x : Hs} {d : Dv} (h : FoI W w fb v bw K L n) (hlt : ∀ j, W j → j < w.heap.size) (hx : bhd r = some x) (hw : wfT r.tx) (hs : r.ky.size ≤ 9223372036854775807) (hd : lkD L r.tx = some d) (hn2 : d.g.ks.length < 100000) (hl : L.length < 100000) :
    Calls Try.prog 19 #[.pointer (some ⟨fb, 0, none⟩), .agg (r.A I T)] w fun e w' => e = .returned (.tuple #[]) ∧ FoO W w w' fb K (putG (L.map (·.g)) r.tx r.ky x) n := by
  have C := behind_any r I T
  rw [hx] at C
  have C1 : Hid (∀ w, Calls Try.prog 30 #[.agg (r.A I T)] w fun e w' => e = .returned (.tuple #[.agg x.A, .bool true]) ∧ Below w.heap.size w w') := C
  have h2 := stH
  have H : Hid (FoI W w fb v bw K L n) := h
  have HL : Hid (∀ j, W j → j < w.heap.size) := hlt
  have HK : Hid (keyOf Try.prog 3 (.int .i64 r.tx) = some (.int .i64 r.tx)) := keyI hw
  have HS : Hid (keyOf Try.prog 9 (.string r.ky) = some (.string r.ky.data.toList)) := keyS hs
  have HN : Hid (L.length < 100000 ∧ d.g.ks.length < 100000) := ⟨hl, hn2⟩
  have HD : Hid (lkD L r.tx = some d) := hd
  have hq := eqK
  clear C h hx hlt hw hs hd hn2 hl
  obtain ⟨kd, tx, pv, pg, ac, ky, ol, nw, nx, ep, nd⟩ := r
  dsimp only at HK HS HD ⊢
  obtain ⟨xv, xi⟩ := x
  go_enter Try.func19, Try.ntmps19
  go_wp2_with first
    | (refine wpList_box_at (A := Rc.A ⟨kd, tx, pv, pg, ac, ky, ol, nw, nx, ep, nd⟩ I T) _ rfl _ rfl rfl ?_; intro w1 b1 N1)
    | (refine wpList_load_at stRc (A := Rc.A ⟨kd, tx, pv, pg, ac, ky, ol, nw, nx, ep, nd⟩ I T) _ rfl _ rfl rfl N1.is rfl ?_)
    | (go_at_call 30; refine (C1.out _).mono ?_; rintro e w2 ⟨rfl, q2⟩)
    | (refine wpList_new_at (A := zH.A) _ zKv rfl rfl ?_; intro w3 b3 N3)
    | (refine wpList_put_at (A := zH.A) (A' := Hs.A ⟨xv, xi⟩) h2 _ rfl _ _ rfl rfl rfl N3.is rfl rfl (oneH _) ?_; intro w4 P4)
  have B4 : Hid (Below w.heap.size w w4) := thn (thn N1.bel q2) (np_bel N3 P4)
  have H4 : Hid (FoI W w4 fb v bw K L n) := H.out.keep (fun j hj => B4.out.block j (HL.out j hj))
  have R4 : Hid (At w4 b1 28 (Rc.A ⟨kd, tx, pv, pg, ac, ky, ol, nw, nx, ep, nd⟩ I T)) := (N1.is.bel q2).bel (np_bel N3 P4)
  have A4 : Hid (At w4 b3 60 (Hs.A ⟨xv, xi⟩)) := P4.is
  have d1 : w4.cell? ⟨fb, 1, none⟩ = some (.map (some bw)) := H4.out.is.c 1
  have e1 : w4.cell? ⟨b1, 1, none⟩ = some (.int .i64 tx) := R4.out.c 1
  clear N1 q2 N3 P4
  have hl6 : (Instr.lookup 46 (.map (some bw)) (.int .i64 tx) false).run Try.prog w4.drew = .ok (.map (some d.b)) w4.drew := (by
    have := (H4.out.wa.keep (w' := w4.drew) rfl).look1 KI uW (zWv _) HK.out
    rw [fW_at, HD.out] at this
    exact this)
  go_region_held_law (fun wx => wx.cell? ⟨fb, 1, none⟩ = some (.map (some bw)) ∧ wx.cell? ⟨b1, 1, none⟩ = some (.int .i64 tx)) (exact ⟨d1, e1⟩) (fail)
  clear hl6
  go_wp2
  clear d1 e1
  have B5 : Hid (Below w4.heap.size w4 w4.drew.drew) := bdr (bdr (Below.refl _ _) 1) 1
  have H5 : Hid (FoI W w4.drew.drew fb v bw K L n) := H4.out.keep (fun j hj => rfl)
  have R5 : Hid (At w4.drew.drew b1 28 (Rc.A ⟨kd, tx, pv, pg, ac, ky, ol, nw, nx, ep, nd⟩ I T)) := R4.out.bel B5.out
  have A5 : Hid (At w4.drew.drew b3 60 (Hs.A ⟨xv, xi⟩)) := A4.out.bel B5.out
  have HDm := lkD_mem HD.out
  obtain ⟨w6, hr6, M6, T6⟩ := (H5.out.ks d HDm.1).store KS uK (by have := HN.out; omega) HS.out (.agg (Hs.A ⟨xv, xi⟩))
  have O6 : Hid (∀ j, j ≠ d.b → w6.heap[j]? = w4.drew.drew.heap[j]?) := fun j hj => turned_off T6 j hj
  have d1 : w4.drew.drew.cell? ⟨fb, 1, none⟩ = some (.map (some bw)) := H5.out.is.c 1
  have e1 : w4.drew.drew.cell? ⟨b1, 1, none⟩ = some (.int .i64 tx) := R5.out.c 1
  have e5 : w4.drew.drew.cell? ⟨b1, 5, none⟩ = some (.string ky) := R5.out.c 5
  have a0 : w4.drew.drew.cell? ⟨b3, 0, none⟩ = some (.string xv) := A5.out.c 0
  have a1 : w4.drew.drew.cell? ⟨b3, 1, none⟩ = some (.bool xi) := A5.out.c 1
  have n1 := ((H5.out.ks d HDm.1).ne H5.out.is).symm
  have n2 := ((H5.out.ks d HDm.1).ne R5.out).symm
  have n3 := ((H5.out.ks d HDm.1).ne A5.out).symm
  have d1' : w6.cell? ⟨fb, 1, none⟩ = some (.map (some bw)) := (World.cell?_of_block (O6.out fb n1)).trans d1
  have e1' : w6.cell? ⟨b1, 1, none⟩ = some (.int .i64 tx) := (World.cell?_of_block (O6.out b1 n2)).trans e1
  have e5' : w6.cell? ⟨b1, 5, none⟩ = some (.string ky) := (World.cell?_of_block (O6.out b1 n2)).trans e5
  have a0' : w6.cell? ⟨b3, 0, none⟩ = some (.string xv) := (World.cell?_of_block (O6.out b3 n3)).trans a0
  have a1' : w6.cell? ⟨b3, 1, none⟩ = some (.bool xi) := (World.cell?_of_block (O6.out b3 n3)).trans a1
  have hl8 : (Instr.lookup 46 (.map (some bw)) (.int .i64 tx) false).run Try.prog w4.drew.drew = .ok (.map (some d.b)) w4.drew.drew := (by
    have := (H5.out.wa).look1 KI uW (zWv _) HK.out
    rw [fW_at, HD.out] at this
    exact this)
  have M7 : Hid (Mp w6 9 d.b (if (fK d.g.ks (.string ky.data.toList)).isSome then d.g.ks.length else d.g.ks.length + 1) (updL (fK d.g.ks) (.string ky.data.toList) (some (.agg (Hs.A ⟨xv, xi⟩))))) := M6
  have F7 : Hid (Fr W W w w6) := ((Fr.of_below (thn B4.out B5.out) W)).trans (turned_fr T6 (H.out.w2 d HDm.1))
  unfold Hs.A at hr6
  clear M6 T6 n1 n2 n3
  go_region_held_law (fun wx => wx.cell? ⟨fb, 1, none⟩ = some (.map (some bw)) ∧ wx.cell? ⟨b1, 1, none⟩ = some (.int .i64 tx) ∧ wx.cell? ⟨b1, 5, none⟩ = some (.string ky) ∧ wx.cell? ⟨b3, 0, none⟩ = some (.string xv) ∧ wx.cell? ⟨b3, 1, none⟩ = some (.bool xi)) (first | exact ⟨d1, e1, e5, a0, a1⟩ | exact ⟨d1', e1', e5', a0', a1'⟩) (fail)
  go_end0
  have hsum : (fK d.g.ks (.string ky.data.toList)).isSome = (lkK d.g.ks ky.data.toList).isSome := by rw [fK_at, Option.isSome_map]
  have M8 : Mp w6 9 d.b (putH d.g.ks ky ⟨xv, xi⟩).length (fK (putH d.g.ks ky ⟨xv, xi⟩)) := by
    have := M7.out
    rw [hsum, ← putH_len (H.out.kn d HDm.1) ky ⟨xv, xi⟩] at this
    exact this.ext (fK_put _ _ _)
  have e9 : putG (L.map (·.g)) tx ky ⟨xv, xi⟩ = (L.map (tnD tx ky ⟨xv, xi⟩)).map (·.g) := by
    unfold putG
    rw [lkG_map, HD.out]
    simp [tnD, Function.comp_def]
  rw [e9]
  refine ⟨rfl, W, ⟨⟨v, bw, _, H.out.on HL.out HD.out (fun j hj hne => (O6.out j hne).trans ((thn B4.out B5.out).block j hj)) (row_neMp H.out.row (H.out.ks d HDm.1)) M8, rfl⟩, fun j hj => Nat.lt_of_lt_of_le (HL.out j hj) F7.out.size⟩, F7.out⟩
set_option maxHeartbeats 1000000 in
theorem turn_new {x : Hs} (h : FoI W w fb v bw K L n) (hlt : ∀ j, W j → j < w.heap.size) (hx : bhd r = some x) (hw : wfT r.tx) (hs : r.ky.size ≤ 9223372036854775807) (hd : lkD L r.tx = none) (hl : L.length < 100000) :
    Calls Try.prog 19 #[.pointer (some ⟨fb, 0, none⟩), .agg (r.A I T)] w fun e w' => e = .returned (.tuple #[]) ∧ FoO W w w' fb K (putG (L.map (·.g)) r.tx r.ky x) n := by
  have C := behind_any r I T
  rw [hx] at C
  have C1 : Hid (∀ w, Calls Try.prog 30 #[.agg (r.A I T)] w fun e w' => e = .returned (.tuple #[.agg x.A, .bool true]) ∧ Below w.heap.size w w') := C
  have h2 := stH
  have H : Hid (FoI W w fb v bw K L n) := h
  have HL : Hid (∀ j, W j → j < w.heap.size) := hlt
  have HK : Hid (keyOf Try.prog 3 (.int .i64 r.tx) = some (.int .i64 r.tx)) := keyI hw
  have HS : Hid (keyOf Try.prog 9 (.string r.ky) = some (.string r.ky.data.toList)) := keyS hs
  have HN : Hid (L.length < 100000) := hl
  have HD : Hid (lkD L r.tx = none) := hd
  have hq := eqK
  clear C h hx hlt hw hs hd hl
  obtain ⟨kd, tx, pv, pg, ac, ky, ol, nw, nx, ep, nd⟩ := r
  dsimp only at HK HS HD ⊢
  obtain ⟨xv, xi⟩ := x
  go_enter Try.func19, Try.ntmps19
  go_wp2_with first
    | (refine wpList_box_at (A := Rc.A ⟨kd, tx, pv, pg, ac, ky, ol, nw, nx, ep, nd⟩ I T) _ rfl _ rfl rfl ?_; intro w1 b1 N1)
    | (refine wpList_load_at stRc (A := Rc.A ⟨kd, tx, pv, pg, ac, ky, ol, nw, nx, ep, nd⟩ I T) _ rfl _ rfl rfl N1.is rfl ?_)
    | (go_at_call 30; refine (C1.out _).mono ?_; rintro e w2 ⟨rfl, q2⟩)
    | (refine wpList_new_at (A := zH.A) _ zKv rfl rfl ?_; intro w3 b3 N3)
    | (refine wpList_put_at (A := zH.A) (A' := Hs.A ⟨xv, xi⟩) h2 _ rfl _ _ rfl rfl rfl N3.is rfl rfl (oneH _) ?_; intro w4 P4)
  have B4 : Hid (Below w.heap.size w w4) := thn (thn N1.bel q2) (np_bel N3 P4)
  have H4 : Hid (FoI W w4 fb v bw K L n) := H.out.keep (fun j hj => B4.out.block j (HL.out j hj))
  have R4 : Hid (At w4 b1 28 (Rc.A ⟨kd, tx, pv, pg, ac, ky, ol, nw, nx, ep, nd⟩ I T)) := (N1.is.bel q2).bel (np_bel N3 P4)
  have A4 : Hid (At w4 b3 60 (Hs.A ⟨xv, xi⟩)) := P4.is
  have d1 : w4.cell? ⟨fb, 1, none⟩ = some (.map (some bw)) := H4.out.is.c 1
  have e1 : w4.cell? ⟨b1, 1, none⟩ = some (.int .i64 tx) := R4.out.c 1
  have hl6 : (Instr.lookup 46 (.map (some bw)) (.int .i64 tx) false).run Try.prog w4.drew = .ok (.map none) w4.drew := (by
    have := (H4.out.wa.keep (w' := w4.drew) rfl).look1 KI uW (zWv _) HK.out
    rw [fW_at, HD.out] at this
    exact this)
  go_region_held_law (fun wx => wx.cell? ⟨fb, 1, none⟩ = some (.map (some bw)) ∧ wx.cell? ⟨b1, 1, none⟩ = some (.int .i64 tx)) (exact ⟨d1, e1⟩) (fail)
  clear hl6 d1 e1
  have HD2 : Hid (FoI W w4.drew fb v bw K L n ∧ At w4.drew b1 28 (Rc.A ⟨kd, tx, pv, pg, ac, ky, ol, nw, nx, ep, nd⟩ I T) ∧ At w4.drew b3 60 (Hs.A ⟨xv, xi⟩) ∧ Below w.heap.size w w4.drew) := ⟨H4.out.keep (fun j hj => rfl), R4.out.bel (bdr (Below.refl _ _) 1), A4.out.bel (bdr (Below.refl _ _) 1), bdr B4.out 1⟩
  clear H4 R4 A4 B4
  generalize w4.drew = wd at *
  obtain ⟨w3, hr7, M3, T3⟩ := ((HD2.out.1.wa.bel (bl1 (.map #[] 0))).keep (w' := (wd.alloc (.map #[] 0)).drew) rfl).store KI uW (by have := HN.out; omega) HK.out (.map (some wd.heap.size))
  have BA : Below wd.heap.size wd (wd.alloc (.map #[] 0)).drew := bdr (bl1 _) 1
  have hm : ∀ t w, (Instr.makeMap t none).run Try.prog w = .ok (.map (some w.heap.size)) (w.alloc (.map #[] 0)) := fun t w => rfl
  have d1 : wd.cell? ⟨fb, 1, none⟩ = some (.map (some bw)) := HD2.out.1.is.c 1
  have e1 : wd.cell? ⟨b1, 1, none⟩ = some (.int .i64 tx) := HD2.out.2.1.c 1
  have f1 : (wd.alloc (.map #[] 0)).drew.cell? ⟨fb, 1, none⟩ = some (.map (some bw)) := (HD2.out.1.is.bel BA).c 1
  have g1 : (wd.alloc (.map #[] 0)).drew.cell? ⟨b1, 1, none⟩ = some (.int .i64 tx) := (HD2.out.2.1.bel BA).c 1
  have O3 : Hid (∀ j, j ≠ bw → w3.heap[j]? = (wd.alloc (.map #[] 0)).heap[j]?) := fun j hj => (turned_off T3 j hj :)
  have hfw : Hid (fb ≠ bw ∧ b1 ≠ bw ∧ b3 ≠ bw) := ⟨(HD2.out.1.wa.ne HD2.out.1.is).symm, (HD2.out.1.wa.ne HD2.out.2.1).symm, (HD2.out.1.wa.ne HD2.out.2.2.1).symm⟩
  have d3 : w3.cell? ⟨fb, 1, none⟩ = some (.map (some bw)) := (World.cell?_of_block (O3.out fb hfw.out.1)).trans f1
  have e3 : w3.cell? ⟨b1, 1, none⟩ = some (.int .i64 tx) := (World.cell?_of_block (O3.out b1 hfw.out.2.1)).trans g1
  go_wp2
  go_region_held_law (fun wx => wx.cell? ⟨fb, 1, none⟩ = some (.map (some bw)) ∧ wx.cell? ⟨b1, 1, none⟩ = some (.int .i64 tx)) (first | exact ⟨d1, e1⟩ | exact ⟨f1, g1⟩ | exact ⟨d3, e3⟩) (fail)
  have M3' : Hid (Mp w3 3 bw (L.length + 1) (updL (fW L) (.int .i64 tx) (some (.map (some wd.heap.size))))) := (by rw [fW_at, HD.out] at M3; exact M3)
  have SZ : w3.heap.size = wd.heap.size + 1 := (turned_size T3).trans (by simp)
  have BB := bl1 (w := wd) (.map #[] 0)
  have HV : Hid (wd.heap.size < w3.heap.size ∧ (∀ j, j < w.heap.size → j ≠ bw → w3.heap[j]? = w.heap[j]?) ∧ Fr W W w w3 ∧ Mp w3 9 wd.heap.size 0 (fK []) ∧ At w3 b1 28 (Rc.A ⟨kd, tx, pv, pg, ac, ky, ol, nw, nx, ep, nd⟩ I T) ∧ At w3 b3 60 (Hs.A ⟨xv, xi⟩) ∧ w.heap.size ≤ wd.heap.size ∧ bw < wd.heap.size) := (by
    have O := O3.out
    obtain ⟨a1, a2, a3, a4⟩ := HD2.out
    have lw := a1.wa.lt
    have hs := a4.size
    refine ⟨by omega, fun j hj h2 => (O j h2).trans ((BB.block j (by omega)).trans (a4.block j hj)), ((Fr.of_below a4 W).below BB).trans ((Fr.of_below (bdr (Below.refl _ _) 1) W).trans (turned_fr T3 a1.w1.2)), ?_, (a2.bel BB).keep (O b1 hfw.out.2.1), (a3.bel BB).keep (O b3 hfw.out.2.2), hs, lw⟩
    exact ((Mp.made wd 9).keep (w' := w3) (O wd.heap.size (by omega))).ext (fun l => by cases l <;> rfl))
  clear M3 T3 O3 hr7 f1 g1 SZ BA hm d1 e1 d3 e3 BB
  generalize wd.heap.size = nb at *
  go_wp2
  have B5 : Hid (Below w3.heap.size w3 w3.drew) := bdr (Below.refl _ _) 1
  have M5 : Hid (Mp w3.drew 3 bw (L.length + 1) (updL (fW L) (.int .i64 tx) (some (.map (some nb))))) := M3'.out.bel B5.out
  have R5 : Hid (At w3.drew b1 28 (Rc.A ⟨kd, tx, pv, pg, ac, ky, ol, nw, nx, ep, nd⟩ I T)) := HV.out.2.2.2.2.1.bel B5.out
  have A5 : Hid (At w3.drew b3 60 (Hs.A ⟨xv, xi⟩)) := HV.out.2.2.2.2.2.1.bel B5.out
  have F5 : Hid (At w3.drew fb 48 #[v, .map (some bw), .int .i64 n]) := (H.out.is.keep (HV.out.2.1 fb (HL.out _ H.out.w1.1) hfw.out.1)).bel B5.out
  have K5 : Hid (Mp w3.drew 9 nb 0 (fK [])) := HV.out.2.2.2.1.bel B5.out
  obtain ⟨w6, hr6, M6, T6⟩ := K5.out.store KS uK (by omega) HS.out (.agg (Hs.A ⟨xv, xi⟩))
  have O6 : Hid (∀ j, j ≠ nb → w6.heap[j]? = w3.drew.heap[j]?) := fun j hj => turned_off T6 j hj
  have d1 : w3.drew.cell? ⟨fb, 1, none⟩ = some (.map (some bw)) := F5.out.c 1
  have e1 : w3.drew.cell? ⟨b1, 1, none⟩ = some (.int .i64 tx) := R5.out.c 1
  have e5 : w3.drew.cell? ⟨b1, 5, none⟩ = some (.string ky) := R5.out.c 5
  have a0 : w3.drew.cell? ⟨b3, 0, none⟩ = some (.string xv) := A5.out.c 0
  have a1 : w3.drew.cell? ⟨b3, 1, none⟩ = some (.bool xi) := A5.out.c 1
  have n1 := (K5.out.ne F5.out).symm
  have n2 := (K5.out.ne R5.out).symm
  have n3 := (K5.out.ne A5.out).symm
  have d1' : w6.cell? ⟨fb, 1, none⟩ = some (.map (some bw)) := (World.cell?_of_block (O6.out fb n1)).trans d1
  have e1' : w6.cell? ⟨b1, 1, none⟩ = some (.int .i64 tx) := (World.cell?_of_block (O6.out b1 n2)).trans e1
  have e5' : w6.cell? ⟨b1, 5, none⟩ = some (.string ky) := (World.cell?_of_block (O6.out b1 n2)).trans e5
  have a0' : w6.cell? ⟨b3, 0, none⟩ = some (.string xv) := (World.cell?_of_block (O6.out b3 n3)).trans a0
  have a1' : w6.cell? ⟨b3, 1, none⟩ = some (.bool xi) := (World.cell?_of_block (O6.out b3 n3)).trans a1
  have hl8 : (Instr.lookup 46 (.map (some bw)) (.int .i64 tx) false).run Try.prog w3.drew = .ok (.map (some nb)) w3.drew := (by
    have := M5.out.look1 KI uW (zWv _) HK.out
    rw [updL_same _ (kI _)] at this
    exact this)
  have M7 : Hid (Mp w6 9 nb 1 (updL (fK []) (.string ky.data.toList) (some (.agg (Hs.A ⟨xv, xi⟩))))) := M6
  have F7 : Hid (w3.drew.mapTurned w6 nb) := T6
  unfold Hs.A at hr6
  clear M6 T6 n1 n2 n3
  go_region_held_law (fun wx => wx.cell? ⟨fb, 1, none⟩ = some (.map (some bw)) ∧ wx.cell? ⟨b1, 1, none⟩ = some (.int .i64 tx) ∧ wx.cell? ⟨b1, 5, none⟩ = some (.string ky) ∧ wx.cell? ⟨b3, 0, none⟩ = some (.string xv) ∧ wx.cell? ⟨b3, 1, none⟩ = some (.bool xi)) (first | exact ⟨d1, e1, e5, a0, a1⟩ | exact ⟨d1', e1', e5', a0', a1'⟩) (fail)
  go_end0
  obtain ⟨v1, v2, v3, v4, v5, v6, v7, v8⟩ := HV.out
  have e9 : putG (L.map (·.g)) tx ky ⟨xv, xi⟩ = (L ++ [⟨⟨tx, [(ky, ⟨xv, xi⟩)]⟩, nb⟩] : List Dv).map (·.g) := by
    unfold putG
    rw [lkG_map, HD.out]
    simp
  rw [e9]
  have M8 : Mp w6 9 nb 1 (fK [(ky, ⟨xv, xi⟩)]) := M7.out.ext (fK_put [] _ _)
  have S6 : w6.heap.size = w3.heap.size := (turned_size F7.out :)
  have G6 : Fr (fun j => j = nb) (fun j => j = nb) w3 w6 := (Fr.of_below B5.out _).trans (turned_fr F7.out rfl)
  have FF : Fr W (fun j => W j ∨ j = nb) w w6 := ⟨G6.os.trans v3.os, G6.tape.trans v3.tape, G6.output.trans v3.output, by have := v3.size; omega, fun j hj hn => (G6.blk j (Nat.lt_of_lt_of_le hj v3.size) (by omega)).trans (v3.blk j hj hn), fun j hj => hj.imp id (fun e => by omega)⟩
  refine ⟨rfl, fun j => W j ∨ j = nb, ⟨⟨v, bw, _, H.out.snoc HL.out HD.out (nb := nb) v7 (fun j hj hne => (G6.blk j (by have := v3.size; omega) (by omega)).trans (v2 j hj hne)) (row_neMp H.out.row H.out.wa) (M3'.out.keep (G6.blk bw M3'.out.lt (by omega))) M8, rfl⟩, fun j hj => hj.elim (fun hj => Nat.lt_of_lt_of_le (HL.out j hj) FF.size) (fun e => by omega)⟩, FF⟩
theorem turn_any (h : Fo W w fb K G n) (hw : wfT r.tx) (hs : r.ky.size ≤ 9223372036854775807) (hn2 : ∀ g ∈ G, g.ks.length < 100000) (hl : G.length < 100000) :
    Calls Try.prog 19 #[.pointer (some ⟨fb, 0, none⟩), .agg (r.A I T)] w fun e w' => e = .returned (.tuple #[]) ∧ FoO W w w' fb K (match bhd r with | some x => putG G r.tx r.ky x | none => G) n := by
  cases hx : bhd r with
  | none =>
    refine (turn_none hx I T w).mono ?_
    rintro e w' ⟨he, hb⟩
    exact ⟨he, W, h.bel hb, Fr.of_below hb W⟩
  | some x =>
    obtain ⟨v, bw, L, hI, rfl⟩ := h.ex
    rw [List.length_map] at hl
    cases hd : lkD L r.tx with
    | none => exact turn_new hI h.lt hx hw hs hd hl
    | some d => exact turn_on hI h.lt hx hw hs hd (hn2 _ (List.mem_map.2 ⟨d, (lkD_mem hd).1, rfl⟩)) hl
end
end Go.Proofs.Ytkcpclmkbmeigab.Fd
