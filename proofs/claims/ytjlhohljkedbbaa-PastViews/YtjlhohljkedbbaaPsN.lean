/- The developers' Note: of nobody's past, of no transaction, of one that ends. -/
import Derived.Test.YtjlhohljkedbbaaPsB
import Derived.Deep.RegionHeldLaw
namespace Go.Proofs.Ytjlhohljkedbbaa.Pa
open Go.RowKit Gm Go.Maps
set_option linter.unusedVariables false
set_option linter.unusedSimpArgs false
set_option maxRecDepth 100000
/-- What Note leaves. -/
structure NpO (W : Nat → Prop) (w w' : World) (pb : Nat) (P : List Gn) : Prop where
  ex : ∃ W', Dp W' w' pb P ∧ Fr W W' w w'
def wfT (t : Int) : Prop := (Lit.int .i64 t).wf = true
theorem keyI {t : Int} (h : wfT t) : keyOf Try.prog 3 (.int .i64 t) = some (.int .i64 t) := keyOf_int_mk Try.underlying3 h
theorem keyS {s : ByteArray} (h : s.size ≤ 9223372036854775807) : keyOf Try.prog 9 (.string s) = some (.string s.data.toList)   := WideMaps.keyOf_string_mk (P := Try.prog) Try.underlying9 h
section
variable {W W' : Nat → Prop} {w w' : World} {pb bl bw : Nat} {L : List Dv} {P : List Gn} {r : Rc} {I T : Value}
theorem Note_nil (w : World) (r : Rc) (I T : Value) (lsn : Int) : Calls Try.prog 7 #[.pointer none, .agg (r.A I T), .int .i64 lsn] w fun e w' => e = .returned (.tuple #[]) ∧ Below w.heap.size w w' := by
  have C : Hid (∀ w, Calls Try.prog 14 #[.pointer none] w fun e w' => e = .returned (.bool false) ∧ w' = w) := isMade_nil
  go_enter Try.func7, Try.ntmps7
  go_wp2_with first
    | (refine wpList_box_at (A := r.A I T) _ rfl _ rfl rfl ?_; intro w1 b1 N1)
    | (go_at_call 14; refine (C.out _).mono ?_; rintro e w2 ⟨rfl, rfl⟩)
  refine bodyPost_ret (results_none rfl _ _ _) rfl ?_
  exact ⟨rfl, N1.bel⟩
theorem Note_made {z : Nat} {x : Option Nat} (h : At w z 51 #[.map x, .map none]) (r : Rc) (I T : Value) (lsn : Int) : Calls Try.prog 7 #[.pointer (some ⟨z, 0, none⟩), .agg (r.A I T), .int .i64 lsn] w fun e w' => e = .returned (.tuple #[]) ∧ Below w.heap.size w w' := by
  have H : Hid (At w z 51 #[.map x, .map none]) := h
  clear h
  go_enter Try.func7, Try.ntmps7
  go_wp2_with first
    | (refine wpList_box_at (A := r.A I T) _ rfl _ rfl rfl ?_; intro w1 b1 N1)
    | (go_at_call 14; refine (isMade_zero (H.out.bel N1.bel)).mono ?_; rintro e w2 ⟨rfl, rfl⟩)
  refine bodyPost_ret (results_none rfl _ _ _) rfl ?_
  exact ⟨rfl, N1.bel⟩
theorem Note_zero (h : Dp W w pb P) (hx : r.tx = 0) (lsn : Int) : Calls Try.prog 7 #[.pointer (some ⟨pb, 0, none⟩), .agg (r.A I T), .int .i64 lsn] w fun e w' => e = .returned (.tuple #[]) ∧ NpO W w w' pb P := by
  have H : Hid (Dp W w pb P) := h
  obtain ⟨kd, tx, pv, pg, ac, ky, ol, nw, nx, ep, nd⟩ := r
  obtain rfl : tx = 0 := hx
  obtain ⟨bl, bw, L, hI, rfl⟩ := h.ex
  have HI : Hid (At w pb 51 #[.map (some bl), .map (some bw)]) := hI.is
  clear h hI
  go_enter Try.func7, Try.ntmps7
  go_wp2_with first
    | (refine wpList_box_at (A := Rc.A ⟨kd, 0, pv, pg, ac, ky, ol, nw, nx, ep, nd⟩ I T) _ rfl _ rfl rfl ?_; intro w1 b1 N1; have c1 : w1.cell? ⟨b1, 1, none⟩ = some (.int .i64 0) := N1.is.c 1)
    | (go_at_call 14; refine (isMade_ok (HI.out.bel N1.bel)).mono ?_; rintro e w2 ⟨rfl, rfl⟩)
  refine bodyPost_ret (results_none rfl _ _ _) rfl ?_
  exact ⟨rfl, W, H.out.bel N1.bel, Fr.of_below N1.bel W⟩
theorem DpI.gone {w1 w2 w3 : World} (h : DpI W w1 pb bl bw L) (t : Int) (o1 : ∀ j, j ≠ bl → w2.heap[j]? = w1.heap[j]?) (o2 : ∀ j, j ≠ bw → w3.heap[j]? = w2.heap[j]?) (M1 : Mp w2 3 bl (if (fL L (.int .i64 t)).isSome then L.length - 1 else L.length) (updL (fL L) (.int .i64 t) none)) (M2 : Mp w3 3 bw (if (fW L (.int .i64 t)).isSome then L.length - 1 else L.length) (updL (fW L) (.int .i64 t) none)) : DpI W w3 pb bl bw (L.filter fun d => d.g.txn != t) := by
  have hne := h.ne
  have he : ∀ d ∈ L.filter (fun d => d.g.txn != t), d ∈ L := fun d hd => (List.mem_filter.1 hd).1
  have hl := len_drop h.nd t
  refine ⟨h.is.keep ?_, ?_, ?_, fun d hd => (h.ks d (he d hd)).keep ?_, h.nd.sublist List.filter_sublist, fun d hd => h.kn d (he d hd), ⟨hne.1, fun d hd => hne.2 d (he d hd)⟩, h.w1, fun d hd => h.w2 d (he d hd)⟩
  · rw [o2 pb (fun e => h.wa.ne h.is e.symm), o1 pb (fun e => h.la.ne h.is e.symm)]
  · rw [hl]
    have e : (fL L (.int .i64 t)).isSome = (lkD L t).isSome := by rw [fL_at, Option.isSome_map]
    rw [e] at M1
    exact (M1.keep (o2 bl hne.1)).ext (fL_drop t)
  · rw [hl]
    have e : (fW L (.int .i64 t)).isSome = (lkD L t).isSome := by rw [fW_at, Option.isSome_map]
    rw [e] at M2
    exact M2.ext (fW_drop t)
  · have := hne.2 d (he d hd)
    rw [o2 _ this.2, o1 _ this.1]
theorem NpO.gone {w1 w2 w3 : World} (H : DpI W w pb bl bw L) (HL : ∀ j, W j → j < w.heap.size) (hb : Below w.heap.size w w1) (t : Int) (T1 : w1.mapTurned w2 bl) (T2 : w2.drew.mapTurned w3 bw) (M1 : Mp w2 3 bl (if (fL L (.int .i64 t)).isSome then L.length - 1 else L.length) (updL (fL L) (.int .i64 t) none)) (M2 : Mp w3 3 bw (if (fW L (.int .i64 t)).isSome then L.length - 1 else L.length) (updL (fW L) (.int .i64 t) none)) : NpO W w w3 pb ((L.filter fun d => d.g.txn != t).map (·.g)) := by
  have H1 : DpI W w1 pb bl bw L := H.keep (fun j hj => hb.block j (HL j hj))
  have F : Fr W W w w3 := ((Fr.of_below hb W).trans (turned_fr T1 H.w1.2.1)).trans ((Fr.of_below (bdr (Below.refl _ _) 1) W).trans (turned_fr T2 H.w1.2.2))
  exact ⟨W, ⟨⟨bl, bw, _, H1.gone t (turned_off T1) (fun j hj => (turned_off T2 j hj :)) M1 M2, rfl⟩, fun j hj => Nat.lt_of_lt_of_le (HL j hj) F.size⟩, F⟩
theorem Note_gone (h : Dp W w pb P) (hx : r.tx ≠ 0) (hk : r.kd = 7 ∨ r.kd = 8) (hw : wfT r.tx) (lsn : Int) : Calls Try.prog 7 #[.pointer (some ⟨pb, 0, none⟩), .agg (r.A I T), .int .i64 lsn] w fun e w' => e = .returned (.tuple #[]) ∧ NpO W w w' pb (noteM P r lsn) := by
  have hlt := h.lt
  obtain ⟨kd, tx, pv, pg, ac, ky, ol, nw, nx, ep, nd⟩ := r
  obtain ⟨bl, bw, L, hI, rfl⟩ := h.ex
  have hx : ¬ tx = 0 := hx
  have hk : kd = 7 ∨ kd = 8 := hk
  have eP : noteM (L.map (·.g)) ⟨kd, tx, pv, pg, ac, ky, ol, nw, nx, ep, nd⟩ lsn = (L.filter fun d => d.g.txn != tx).map (·.g) := by
    unfold noteM
    rw [if_neg hx, if_pos hk, erase_fnd (List.pairwise_map.2 (hI.nd.imp fun h => h.1)), List.filter_map]
    rfl
  rw [eP]
  have H : Hid (DpI W w pb bl bw L) := hI
  have HL : Hid (∀ j, W j → j < w.heap.size) := hlt
  have HK : Hid (keyOf Try.prog 3 (.int .i64 tx) = some (.int .i64 tx)) := keyI hw
  clear h hI eP hlt hw
  rcases hk with rfl | rfl
  all_goals
    go_enter Try.func7, Try.ntmps7
    go_wp2_with first
      | (refine wpList_box_at (A := Rc.A ⟨_, tx, pv, pg, ac, ky, ol, nw, nx, ep, nd⟩ I T) _ rfl _ rfl rfl ?_; intro w1 b1 N1; have c1 : w1.cell? ⟨b1, 1, none⟩ = some (.int .i64 tx) := N1.is.c 1; have c0 := N1.is.c 0; simp only [Rc.A] at c0; have H1 : Hid (DpI W w1 pb bl bw L) := H.out.keep (fun j hj => N1.bel.block j (HL.out j hj)); have p0 : w1.cell? ⟨pb, 0, none⟩ = some (.map (some bl)) := H1.out.is.c 0; have p1 : w1.cell? ⟨pb, 1, none⟩ = some (.map (some bw)) := H1.out.is.c 1)
      | (go_at_call 14; refine (isMade_ok (H1.out.is)).mono ?_; rintro e w2 ⟨rfl, rfl⟩)
    go_region_held_law (fun wx => wx.cell? ⟨pb, 0, none⟩ = some (.map (some bl)) ∧ wx.cell? ⟨b1, 1, none⟩ = some (.int .i64 tx)) (first | exact ⟨p0, c1⟩ | exact ⟨j0, j1⟩) ((refine step_drop_mp rfl _ _ rfl KI uL (by simp [Act.eval, Act.put]) (H1.out.la.keep (by rfl)) (by simp [Act.eval, Act.put]) HK.out ?_; intro w2 M2 T2; have j0 : w2.cell? ⟨pb, 0, none⟩ = some (.map (some bl)) := (World.cell?_of_block (turned_off T2 pb (H1.out.la.ne H1.out.is).symm)).trans p0; have j1 : w2.cell? ⟨b1, 1, none⟩ = some (.int .i64 tx) := (World.cell?_of_block (turned_off T2 b1 (H1.out.la.ne N1.is).symm)).trans c1))
    have q1 : w2.cell? ⟨pb, 1, none⟩ = some (.map (some bw)) := (World.cell?_of_block (turned_off T2 pb (H1.out.la.ne H1.out.is).symm)).trans p1
    have V2 : Hid (Mp w2 3 bw L.length (fW L)) := H1.out.wa.keep (turned_off T2 bw (Ne.symm H1.out.ne.1))
    go_wp2
    go_region_held_law (fun wx => wx.cell? ⟨pb, 1, none⟩ = some (.map (some bw)) ∧ wx.cell? ⟨b1, 1, none⟩ = some (.int .i64 tx)) (first | exact ⟨q1, j1⟩ | exact ⟨k0, k1⟩) ((refine step_drop_mp rfl _ _ rfl KI uW (by simp [Act.eval, Act.put]) (V2.out.keep (by rfl)) (by simp [Act.eval, Act.put]) HK.out ?_; intro w3 M3 T3; have k0 : w3.cell? ⟨pb, 1, none⟩ = some (.map (some bw)) := (World.cell?_of_block (turned_off T3 pb (H1.out.wa.ne H1.out.is).symm)).trans q1; have k1 : w3.cell? ⟨b1, 1, none⟩ = some (.int .i64 tx) := (World.cell?_of_block (turned_off T3 b1 (H1.out.wa.ne N1.is).symm)).trans j1))
    go_wp2
    refine bodyPost_ret (results_none rfl _ _ _) rfl ?_
    exact ⟨rfl, NpO.gone H.out HL.out (bdr N1.bel _) tx T2 T3 M2 M3⟩
end
end Go.Proofs.Ytjlhohljkedbbaa.Pa
