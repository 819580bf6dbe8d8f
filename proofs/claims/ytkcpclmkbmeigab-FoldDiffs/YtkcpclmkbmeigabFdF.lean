/- The developers' fold: commit of whoever; Note. -/
import Derived.Test.YtkcpclmkbmeigabFdE
import Derived.Laws.IdiomRangeMap
namespace Go.Proofs.Ytkcpclmkbmeigab.Fd
open Go.RowKit Gm Go.Maps
set_option linter.unusedVariables false
set_option linter.unusedSimpArgs false
set_option maxRecDepth 100000
def ksG (G : List Gt) (t : Int) : List (ByteArray × Hs) := ((lkG G t).map (·.ks)).getD []
section
variable {W W' : Nat → Prop} {w w' : World} {fb bw : Nat} {v : Value} {K : List CL} {L : List Dv} {G : List Gt} {n t : Int} {r : Rc} {I T : Value}
theorem commit_none (h : FoI W w fb v bw K L n) (hw : wfT t) (hd : lkD L t = none) (hc : 0 ≤ n ∧ n < 1000000) :
    Calls Try.prog 18 #[.pointer (some ⟨fb, 0, none⟩), .int .i64 t] w fun e w' => e = .returned (.tuple #[]) ∧ CoO w w' fb bw v K (n + 1) := by
  have H : Hid (FoI W w fb v bw K L n) := h
  have HK : Hid (keyOf Try.prog 3 (.int .i64 t) = some (.int .i64 t)) := keyI hw
  have HD : Hid (lkD L t = none) := hd
  have d1 : w.cell? ⟨fb, 1, none⟩ = some (.map (some bw)) := h.is.c 1
  have d2 : w.cell? ⟨fb, 2, none⟩ = some (.int .i64 n) := h.is.c 2
  have hwn : IntKind.i64.wrap (n + 1) = n + 1 := by rw [IntKind.wrap_i64]; omega
  have f2 : w.frozen? ⟨fb, 2, none⟩ = false := h.is.f 2
  obtain ⟨w1, hw1⟩ : ∃ w1, w1 = w.setCell ⟨fb, 2, none⟩ (.int .i64 (n + 1)) := ⟨_, rfl⟩
  have I1 : Hid (At w1 fb 48 #[v, .map (some bw), .int .i64 (n + 1)]) := (by rw [hw1]; have := H.out.is.set 2 (.int .i64 (n + 1)); simp at this; exact this)
  have O1 : Hid (∀ j, j ≠ fb → w1.heap[j]? = w.heap[j]?) := (fun j hj => by rw [hw1]; exact Below.heap_setCell w _ _ j hj)
  have F1 : Hid (Fr (fun j => j = fb ∨ v.ownBlock = some j) (fun j => j = fb ∨ v.ownBlock = some j) w w1) := (by rw [hw1]; exact (Fr.refl _ w).set (Or.inl rfl) 2 _)
  have hl6 : (Instr.lookup 46 (.map (some bw)) (.int .i64 t) false).run Try.prog w1 = .ok (.map none) w1 := (by have := (H.out.wa.keep (w' := w1) (O1.out bw (H.out.wa.ne H.out.is))).look1 KI uW (zWv _) HK.out; rw [fW_at, HD.out] at this; exact this)
  have hrg := run_range_nilMap (P := Try.prog) w1 56 9 60 uK
  have hnx : ∀ ty, (Instr.next (.pointer (some ⟨w1.heap.size, 0, none⟩)) false ty).run Try.prog (w1.alloc (.mapIter none 0 #[] 0)) = _ := fun ty => run_next_nilMap w1 ty 0 0 #[]
  clear h hw hd
  go_enter Try.func18, Try.ntmps18
  go_wp2_with fail
  rw [← hw1]
  clear hw1 d1 d2 f2
  rw [hl6]
  (try simp only [Result.andThen])
  rw [Oper.upon_value]
  go_wp2
  refine wp_loop_rounds 1 ?_
  rw [rounds_succ]
  go_wp2
  go_end0
  have hrow := (H.out.row.keep (w' := w1) (fun g e => O1.out g (fun e2 => H.out.row.ne (g := g) H.out.is (by decide) (by rw [← e2]; exact e))))
  exact ⟨rfl, v, I1.out.bel (bl1 _), hrow.bel (bl1 _), F1.out.below (bl1 _)⟩
theorem CoO.fo {K2 : List CL} (c : CoO w w' fb bw v K2 (n + 1)) (h : FoI W w fb v bw K L n) (hlt : ∀ j, W j → j < w.heap.size) (hr : Ris K2) : FoO W w w' fb K2 (L.map (·.g)) (n + 1) := by
  obtain ⟨v', c1, c2, c3⟩ := c.ex
  have hsub : ∀ j, (j = fb ∨ v.ownBlock = some j) → W j := fun j hj => hj.elim (fun e => by rw [e]; exact h.w1.1) (fun e => h.wv j e)
  have FF : Fr W (fun j => W j ∨ v'.ownBlock = some j) w w' := (c3.wide hsub).more fun j hj => hj.elim Or.inl (fun e => (c3.sub j (Or.inr e)).elim (fun e2 => Or.inl (hsub j e2)) Or.inr)
  have off : ∀ j, j < w.heap.size → j ≠ fb → v.ownBlock ≠ some j → w'.heap[j]? = w.heap[j]? := fun j hj h1 h2 => c3.blk j hj (fun e => e.elim h1 h2)
  refine ⟨fun j => W j ∨ v'.ownBlock = some j, ⟨⟨v', bw, L, ⟨c1, c2, h.wa.keep (off bw h.wa.lt (h.wa.ne h.is) (row_neMp h.row h.wa)), fun d hd => (h.ks d hd).keep (off d.b (h.ks d hd).lt ((h.ks d hd).ne h.is) (row_neMp h.row (h.ks d hd))), h.nd, h.kn, h.ne, ⟨Or.inl h.w1.1, Or.inl h.w1.2⟩, fun g e => Or.inr e, fun d hd => Or.inl (h.w2 d hd), hr⟩, rfl⟩, fun j hj => hj.elim (fun hj => Nat.lt_of_lt_of_le (hlt j hj) FF.size) (fun e => c2.lt e)⟩, FF⟩
theorem commit_any (h : Fo W w fb K G n) (hw : wfT t) (hn : K.length + (ksG G t).length ≤ 1000) (hc : 0 ≤ n ∧ n < 1000000) :
    Calls Try.prog 18 #[.pointer (some ⟨fb, 0, none⟩), .int .i64 t] w fun e w' => e = .returned (.tuple #[]) ∧ FoO W w w' fb (cmsK K (ksG G t)) G (n + 1) := by
  obtain ⟨v, bw, L, hI, rfl⟩ := h.ex
  cases hd : lkD L t with
  | none =>
    have e : ksG (L.map (·.g)) t = [] := by unfold ksG; rw [lkG_map, hd]; rfl
    rw [e]
    refine (commit_none hI hw hd hc).mono ?_
    rintro e w' ⟨he, hco⟩
    exact ⟨he, hco.fo hI h.lt hI.up⟩
  | some d =>
    have e : ksG (L.map (·.g)) t = d.g.ks := by unfold ksG; rw [lkG_map, hd]; rfl
    rw [e] at hn ⊢
    refine (commit_on hI h.lt hw hd hn hc).mono ?_
    rintro e w' ⟨he, hco⟩
    exact ⟨he, hco.fo hI h.lt (cmsK_ris hI.up)⟩
/-! ### Note -/
/-- The fold behind a record. -/
structure Fs where
  K : List CL
  G : List Gt
  n : Int
def noteF (s : Fs) (r : Rc) : Fs :=
  if r.kd = 7 then ⟨cmsK s.K (ksG s.G r.tx), dropG s.G r.tx, s.n + 1⟩
  else if r.kd = 8 then ⟨s.K, dropG s.G r.tx, s.n⟩
  else ⟨s.K, (match bhd r with | some x => putG s.G r.tx r.ky x | none => s.G), s.n⟩
theorem FoO.dropped {w1 w2 : World} (h : FoI W w1 fb v bw K L n) (hlt : ∀ j, W j → j < w1.heap.size) (t : Int) (Tn : w1.mapTurned w2 bw) (M : Mp w2 3 bw (if (fW L (.int .i64 t)).isSome then L.length - 1 else L.length) (updL (fW L) (.int .i64 t) none)) : FoO W w1 w2 fb K (dropG (L.map (·.g)) t) n := by
  have F : Fr W W w1 w2 := turned_fr Tn h.w1.2
  have e : dropG (L.map (·.g)) t = (L.filter fun d => d.g.txn != t).map (·.g) := by unfold dropG; rw [List.filter_map]; rfl
  rw [e]
  exact ⟨W, ⟨⟨v, bw, _, h.gone t (turned_off Tn) (row_neMp h.row h.wa) M, rfl⟩, fun j hj => Nat.lt_of_lt_of_le (hlt j hj) F.size⟩, F⟩
theorem FoO.trans {w1 w2 : World} {K2 : List CL} {G2 : List Gt} {n2 : Int} {W1 : Nat → Prop} (f : Fr W W1 w w1) (h : FoO W1 w1 w2 fb K2 G2 n2) : FoO W w w2 fb K2 G2 n2 := by
  obtain ⟨W2, h1, h2⟩ := h.ex
  exact ⟨W2, h1, f.trans h2⟩
theorem Note_nil (w : World) (r : Rc) (I T : Value) : Calls Try.prog 6 #[.pointer none, .agg (r.A I T)] w fun e w' => e = .returned (.tuple #[]) ∧ Below w.heap.size w w' := by
  have C : Hid (∀ w, Calls Try.prog 17 #[.pointer none] w fun e w' => e = .returned (.bool false) ∧ w' = w) := isMade_nil
  go_enter Try.func6, Try.ntmps6
  go_wp2_with first
    | (refine wpList_box_at (A := r.A I T) _ rfl _ rfl rfl ?_; intro w1 b1 N1)
    | (go_at_call 17; refine (C.out _).mono ?_; rintro e w2 ⟨rfl, rfl⟩)
  refine bodyPost_ret (results_none rfl _ _ _) rfl ?_
  exact ⟨rfl, N1.bel⟩
theorem Note_zero {z : Nat} {u y : Value} (h : At w z 48 #[u, .map none, y]) (r : Rc) (I T : Value) : Calls Try.prog 6 #[.pointer (some ⟨z, 0, none⟩), .agg (r.A I T)] w fun e w' => e = .returned (.tuple #[]) ∧ Below w.heap.size w w' := by
  have H : Hid (At w z 48 #[u, .map none, y]) := h
  clear h
  go_enter Try.func6, Try.ntmps6
  go_wp2_with first
    | (refine wpList_box_at (A := r.A I T) _ rfl _ rfl rfl ?_; intro w1 b1 N1)
    | (go_at_call 17; refine (isMade_zero (H.out.bel N1.bel)).mono ?_; rintro e w2 ⟨rfl, rfl⟩)
  refine bodyPost_ret (results_none rfl _ _ _) rfl ?_
  exact ⟨rfl, N1.bel⟩
set_option maxHeartbeats 1000000 in
theorem Note_any (h : Fo W w fb K G n) (hw : wfT r.tx) (hs : r.ky.size ≤ 9223372036854775807) (hn : K.length + (ksG G r.tx).length ≤ 1000) (hc : 0 ≤ n ∧ n < 1000000) (hn2 : ∀ g ∈ G, g.ks.length < 100000) (hl : G.length < 100000) :
    Calls Try.prog 6 #[.pointer (some ⟨fb, 0, none⟩), .agg (r.A I T)] w fun e w' => e = .returned (.tuple #[]) ∧ FoO W w w' fb (noteF ⟨K, G, n⟩ r).K (noteF ⟨K, G, n⟩ r).G (noteF ⟨K, G, n⟩ r).n := by
  have HF : Hid (Fo W w fb K G n) := h
  have HM : Hid (∀ wx, Below w.heap.size w wx → Calls Try.prog 17 #[.pointer (some ⟨fb, 0, none⟩)] wx fun e w' => e = .returned (.bool true) ∧ w' = wx) := fun wx hb => by
    obtain ⟨v, bw, L, hI, _⟩ := (h.bel hb).ex
    exact isMade_ok hI.is
  by_cases h7 : r.kd = 7
  · have CC : Hid (∀ wx, Below w.heap.size w wx → Calls Try.prog 18 #[.pointer (some ⟨fb, 0, none⟩), .int .i64 r.tx] wx fun e w' => e = .returned (.tuple #[]) ∧ FoO W wx w' fb (cmsK K (ksG G r.tx)) G (n + 1)) := fun wx hb => commit_any (h.bel hb) hw hn hc
    have HK : Hid (keyOf Try.prog 3 (.int .i64 r.tx) = some (.int .i64 r.tx)) := keyI hw
    have e9 : noteF ⟨K, G, n⟩ r = ⟨cmsK K (ksG G r.tx), dropG G r.tx, n + 1⟩ := by unfold noteF; rw [if_pos h7]
    rw [e9]
    clear h hw hs hn hn2 hl hc e9
    obtain ⟨kd, tx, pv, pg, ac, ky, ol, nw, nx, ep, nd⟩ := r
    dsimp only at CC HK h7 ⊢
    subst h7
    generalize cmsK K (ksG G tx) = K2 at *
    go_enter Try.func6, Try.ntmps6
    go_wp2_with first
      | (refine wpList_box_at (A := Rc.A ⟨7, tx, pv, pg, ac, ky, ol, nw, nx, ep, nd⟩ I T) _ rfl _ rfl rfl ?_; intro w1 b1 N1; have c1 : w1.cell? ⟨b1, 1, none⟩ = some (.int .i64 tx) := N1.is.c 1; have c0 : w1.cell? ⟨b1, 0, none⟩ = some (.int .i64 7) := N1.is.c 0)
      | (go_at_call 17; refine (HM.out _ N1.bel).mono ?_; rintro e w2 ⟨rfl, rfl⟩)
      | (go_at_call 18; refine (CC.out _ N1.bel).mono ?_; rintro e w3 ⟨rfl, W3, hF3, hf3⟩)
    obtain ⟨v3, bw, L3, hI3, rfl⟩ := hF3.ex
    have I3 : Hid (FoI W3 w3 fb v3 bw K2 L3 (n + 1)) := hI3
    have R3 : Hid (At w3 b1 28 (Rc.A ⟨7, tx, pv, pg, ac, ky, ol, nw, nx, ep, nd⟩ I T)) := N1.is.fr hf3 (fun e => by have := HF.out.lt _ e; have := N1.eq; omega)
    have p1 : w3.cell? ⟨fb, 1, none⟩ = some (.map (some bw)) := I3.out.is.c 1
    have q1 : w3.cell? ⟨b1, 1, none⟩ = some (.int .i64 tx) := R3.out.c 1
    go_region_held_law (fun wx => wx.cell? ⟨fb, 1, none⟩ = some (.map (some bw)) ∧ wx.cell? ⟨b1, 1, none⟩ = some (.int .i64 tx)) (first | exact ⟨p1, q1⟩ | exact ⟨j0, j1⟩) ((refine step_drop_mp rfl _ _ rfl KI uW (by simp [Act.eval, Act.put]) (I3.out.wa.keep (by rfl)) (by simp [Act.eval, Act.put]) HK.out ?_; intro w5 M5 T5; have j0 : w5.cell? ⟨fb, 1, none⟩ = some (.map (some bw)) := (World.cell?_of_block (turned_off T5 fb (I3.out.wa.ne I3.out.is).symm)).trans p1; have j1 : w5.cell? ⟨b1, 1, none⟩ = some (.int .i64 tx) := (World.cell?_of_block (turned_off T5 b1 (I3.out.wa.ne R3.out).symm)).trans q1))
    go_wp2
    go_end0
    refine ⟨rfl, FoO.trans ((Fr.of_below N1.bel W).trans (hf3.below (bdr (Below.refl _ _) 1))) ?_⟩
    exact FoO.dropped (w1 := w3.drew) (I3.out.keep (fun j hj => rfl)) (fun j hj => hF3.lt j hj) tx T5 M5
  · by_cases h8 : r.kd = 8
    · have HK : Hid (keyOf Try.prog 3 (.int .i64 r.tx) = some (.int .i64 r.tx)) := keyI hw
      have e9 : noteF ⟨K, G, n⟩ r = ⟨K, dropG G r.tx, n⟩ := by unfold noteF; rw [if_neg h7, if_pos h8]
      rw [e9]
      clear h hw hs hn hn2 hl hc e9 h7
      obtain ⟨kd, tx, pv, pg, ac, ky, ol, nw, nx, ep, nd⟩ := r
      dsimp only at HK h8 ⊢
      subst h8
      obtain ⟨v3, bw, L3, hI3, rfl⟩ := HF.out.ex
      have I0 : Hid (FoI W w fb v3 bw K L3 n) := hI3
      clear hI3
      go_enter Try.func6, Try.ntmps6
      go_wp2_with first
        | (refine wpList_box_at (A := Rc.A ⟨8, tx, pv, pg, ac, ky, ol, nw, nx, ep, nd⟩ I T) _ rfl _ rfl rfl ?_; intro w3 b1 N1; have q1 : w3.cell? ⟨b1, 1, none⟩ = some (.int .i64 tx) := N1.is.c 1; have c0 : w3.cell? ⟨b1, 0, none⟩ = some (.int .i64 8) := N1.is.c 0; have I3 : Hid (FoI W w3 fb v3 bw K L3 n) := I0.out.keep (fun j hj => N1.bel.block j (HF.out.lt j hj)); have p1 : w3.cell? ⟨fb, 1, none⟩ = some (.map (some bw)) := I3.out.is.c 1)
        | (go_at_call 17; refine (HM.out _ N1.bel).mono ?_; rintro e w2 ⟨rfl, rfl⟩)
      go_region_held_law (fun wx => wx.cell? ⟨fb, 1, none⟩ = some (.map (some bw)) ∧ wx.cell? ⟨b1, 1, none⟩ = some (.int .i64 tx)) (first | exact ⟨p1, q1⟩ | exact ⟨j0, j1⟩) ((refine step_drop_mp rfl _ _ rfl KI uW (by simp [Act.eval, Act.put]) (I3.out.wa.keep (by rfl)) (by simp [Act.eval, Act.put]) HK.out ?_; intro w5 M5 T5; have j0 : w5.cell? ⟨fb, 1, none⟩ = some (.map (some bw)) := (World.cell?_of_block (turned_off T5 fb (I3.out.wa.ne I3.out.is).symm)).trans p1; have j1 : w5.cell? ⟨b1, 1, none⟩ = some (.int .i64 tx) := (World.cell?_of_block (turned_off T5 b1 (I3.out.wa.ne N1.is).symm)).trans q1))
      go_wp2
      go_end0
      refine ⟨rfl, FoO.trans (Fr.of_below (bdr N1.bel 1) W) ?_⟩
      exact FoO.dropped (w1 := w2.drew) (I3.out.keep (fun j hj => rfl)) (fun j hj => Nat.lt_of_lt_of_le (HF.out.lt j hj) N1.bel.size) tx T5 M5
    · have CT : Hid (∀ wx, Below w.heap.size w wx → Calls Try.prog 19 #[.pointer (some ⟨fb, 0, none⟩), .agg (r.A I T)] wx fun e w' => e = .returned (.tuple #[]) ∧ FoO W wx w' fb K (match bhd r with | some x => putG G r.tx r.ky x | none => G) n) := fun wx hb => turn_any (h.bel hb) hw hs hn2 hl
      have e9 : noteF ⟨K, G, n⟩ r = ⟨K, (match bhd r with | some x => putG G r.tx r.ky x | none => G), n⟩ := by unfold noteF; rw [if_neg h7, if_neg h8]
      rw [e9]
      dsimp only
      clear h hw hs hn hn2 hl hc e9
      generalize (match bhd r with | some x => putG G r.tx r.ky x | none => G) = G2 at *
      obtain ⟨kd, tx, pv, pg, ac, ky, ol, nw, nx, ep, nd⟩ := r
      have hb7 : (kd == 7) = false := by simpa using h7
      have hb8 : (kd == 8) = false := by simpa using h8
      go_enter Try.func6, Try.ntmps6
      go_wp2_with first
        | (refine wpList_box_at (A := Rc.A ⟨kd, tx, pv, pg, ac, ky, ol, nw, nx, ep, nd⟩ I T) _ rfl _ rfl rfl ?_; intro w1 b1 N1; have c0 : w1.cell? ⟨b1, 0, none⟩ = some (.int .i64 kd) := N1.is.c 0)
        | (go_at_call 17; refine (HM.out _ N1.bel).mono ?_; rintro e w2 ⟨rfl, rfl⟩)
        | (refine wpList_load_at stRc (A := Rc.A ⟨kd, tx, pv, pg, ac, ky, ol, nw, nx, ep, nd⟩ I T) _ rfl _ rfl rfl N1.is rfl ?_)
        | (go_at_call 19; refine (CT.out _ N1.bel).mono ?_; rintro e w3 ⟨rfl, hO⟩)
      go_end0
      exact ⟨rfl, FoO.trans (Fr.of_below N1.bel W) hO⟩
end
end Go.Proofs.Ytkcpclmkbmeigab.Fd
