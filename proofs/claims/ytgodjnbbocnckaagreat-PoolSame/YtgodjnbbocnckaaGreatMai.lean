/- The program's read: the record that bytes are read as. -/
import Derived.Test.YtgodjnbbocnckaaGreatMaf
import Derived.Test.YtgodjnbbocnckaaGreatMah
import Derived.Deep.RegionHeld3
namespace Go.Proofs.YtgodjnbbocnckaaGreat
open Go.RowKit
set_option linter.unusedVariables false
set_option linter.unusedSimpArgs false
set_option maxRecDepth 100000

theorem wp_put_rc {o : Oper} {a : Act} {K : Act → World → Prop} {Q : Exit → Act → World → Prop} {b : Nat} {s s' : Sc} {I T I' T' : Value} (w : World) (x y : Operand) (hop : o.op = Op.store 51 x y)
    (hx : a.eval x = .pointer (some ⟨b, 0, none⟩)) (hy : a.eval y = .agg (s'.A I' T')) (hs : RcAt w b s I T) (hI : I'.oneCell' = true) (hT : T'.oneCell' = true)
    (h : ∀ w', PutR w w' b s' I' T' → K (a.put o.dst undef) w') : o.wp Tryz.prog a w K Q := by
  have h1 : ∀ v ∈ (s'.A I' T').toList, v.oneCell' = true := by
    intro v hv
    simp [Sc.A] at hv
    rcases hv with rfl | rfl | rfl | rfl | rfl | rfl | rfl | rfl | rfl | rfl | rfl | rfl | rfl
    all_goals first | rfl | assumption
  refine wp_store_mid 51 x y hop b 0 (s'.A I' T') hx hy ?_ (info_rc s' I' T') (Array.all_eq_true_iff_forall_mem.2 (fun v hv => h1 v (by simpa using hv))) ?_
  · intro j hj
    refine ⟨?_, hs.f _⟩
    rw [cell_of_row w b _ _ 51 (0, 0) hs.blk]
    have : j < 13 := hj
    simp [rc_size, this]
  · rw [setCells_rc hs s' I' T' h1]
    refine h _ ⟨⟨setRow_heap w b _ _ 51 _ hs.blk⟩, ⟨rfl, rfl, rfl, by simp, fun k _ hk => setRow_other w b k _ hk⟩⟩
/-- A record as a value, whose slices are new since the heap had B blocks. -/
structure RecF (w : World) (v : Value) (m : Rm) (B : Nat) : Prop where
  ex : ∃ I T, v = .agg (m.s.A I T) ∧ Fr w I (encI m.im) B ∧ Fr w T (encT m.tb) B
theorem RecF.recV {w : World} {v : Value} {m : Rm} {B : Nat} (h : RecF w v m B) : RecV w v m := by
  obtain ⟨I, T, h0, h1, h2⟩ := h.ex; exact ⟨I, T, h0, h1.slI, h2.slT⟩
theorem Fr.mono {w : World} {v : Value} {L : List P2} {B B' : Nat} (h : Fr w v L B) (hb : B' ≤ B) : Fr w v L B' := by
  obtain ⟨a, c, h0, h1, h2, h3, h4, h5⟩ := h.ex
  exact ⟨a, c, h0, h1, h2, h3, h4, fun b off e => Nat.le_trans hb (h5 b off e)⟩
theorem Fr.nil (w : World) (B : Nat) : Fr w nilV [] B := ⟨none, 0, rfl, Cs.nil _ _, fun _ => rfl, Nat.le_refl _, (fun _ h => by cases h), fun _ _ h => by cases h⟩
theorem RecF.zero (w : World) (B : Nat) : RecF w (.agg (zS.A nilV nilV)) zM B := ⟨nilV, nilV, rfl, Fr.nil _ _, Fr.nil _ _⟩
theorem RecF.below {w w' : World} {v : Value} {m : Rm} {B : Nat} (h : RecF w v m B) (hb : Below w.heap.size w w') : RecF w' v m B := by
  obtain ⟨I, T, h0, h1, h2⟩ := h.ex; exact ⟨I, T, h0, h1.below hb, h2.below hb⟩
theorem RecF.off {w w' : World} {v : Value} {m : Rm} {B b : Nat} (h : RecF w v m B) (o : Pk.Off b w w') (hb : b < B) : RecF w' v m B := by
  obtain ⟨I, T, h0, h1, h2⟩ := h.ex; exact ⟨I, T, h0, h1.off o hb, h2.off o hb⟩
theorem RecF.mono {w : World} {v : Value} {m : Rm} {B B' : Nat} (h : RecF w v m B) (hb : B' ≤ B) : RecF w v m B' := by
  obtain ⟨I, T, h0, h1, h2⟩ := h.ex; exact ⟨I, T, h0, h1.mono hb, h2.mono hb⟩
/-- The result, the record that is read, and the reader. -/
structure RaS (w wx : World) (b2 b4 b5 : Nat) (s : Sc) (I T : Value) (q : Lf) : Prop where
  r : RcAt wx b2 zS nilV nilV
  c : RcAt wx b4 s I T
  rd : RdS wx b5 q
  bel : Below w.heap.size w wx
  n1 : b2 ≠ b4
  n2 : b2 ≠ b5
  n3 : b5 ≠ b4
  l2 : w.heap.size ≤ b2
  l4 : w.heap.size ≤ b4
  l5 : w.heap.size ≤ b5
section
variable {w wx wq : World} {b2 b4 b5 : Nat} {s s' : Sc} {I T I' T' : Value} {q q' : Lf}
theorem RaS.below (h : RaS w wx b2 b4 b5 s I T q) (hb : Below wx.heap.size wx wq) : RaS w wq b2 b4 b5 s I T q := ⟨h.r.below hb, h.c.below hb, h.rd.below hb, thn h.bel hb, h.n1, h.n2, h.n3, h.l2, h.l4, h.l5⟩
theorem RaS.step (h : RaS w wx b2 b4 b5 s I T q) (hr : RdS wq b5 q') (o : Pk.Off b5 wx wq) : RaS w wq b2 b4 b5 s I T q' := ⟨h.r.off o h.n2, h.c.off o (fun e => h.n3 e.symm), hr, h.bel.trans (o.below h.l5 h.bel.size), h.n1, h.n2, h.n3, h.l2, h.l4, h.l5⟩
theorem RaS.put (h : RaS w wx b2 b4 b5 s I T q) (P : PutR wx wq b4 s' I' T') : RaS w wq b2 b4 b5 s' I' T' q := ⟨h.r.off P.off h.n1, P.rc, h.rd.off P.off h.n3, h.bel.trans (P.below h.l4 h.bel.size), h.n1, h.n2, h.n3, h.l2, h.l4, h.l5⟩
theorem RaS.two (h : RaS w wx b2 b4 b5 s I T q) (hc : RcAt wq b4 s' I' T') (hr : RdS wq b5 q') (o : Off2 b5 b4 wx wq) : RaS w wq b2 b4 b5 s' I' T' q' := ⟨⟨(o.block b2 h.r.lt h.n2 h.n1).trans h.r.blk⟩, hc, hr, h.bel.trans (o.bel h.l5 h.l4 h.bel.size), h.n1, h.n2, h.n3, h.l2, h.l4, h.l5⟩
theorem RaS.num (h : RaS w wx b2 b4 b5 s I T q) (k : Int) : Calls Tryz.prog 70 #[.pointer (some ⟨b5, 0, none⟩), .int .i64 k] wx fun r w' => r = .returned (.int .i64 (nN q k)) ∧ RaS w w' b2 b4 b5 s I T (sN q k) :=
  (h.rd.num k).mono fun e w' ⟨he, h1, o1⟩ => ⟨he, h.step h1 o1⟩
theorem RaS.num0 {K : Int} (h : RaS w wx b2 b4 b5 s I T q) (k : Int) (hK : nN q k = K) (hq : sN q k = q') : Calls Tryz.prog 70 #[.pointer (some ⟨b5, 0, none⟩), .int .i64 k] wx fun r w' => r = .returned (.int .i64 K) ∧ RaS w w' b2 b4 b5 s I T q' := by
  rw [← hK, ← hq]; exact h.num k
theorem RaS.fin (h : RaS w wx b2 b4 b5 s I T q) : Calls Tryz.prog 117 #[.pointer (some ⟨b5, 0, none⟩)] wx fun r w' => r = .returned (.int .i64 (Pk.rdEnd q.1 q.2).2) ∧ RaS w w' b2 b4 b5 s I T (Pk.rdEnd q.1 q.2) :=
  (Pk.End_any b5 q.1 q.2 wx h.rd.sz h.rd.rd).mono fun e w' ⟨he, h1, o1⟩ => ⟨he, h.step ⟨h1, by
    have hz := h.rd.sz
    unfold Pk.rdEnd
    split
    · exact Nat.le_trans (Pk.rdFail_size _ _ _) hz
    · exact hz⟩ o1⟩
theorem RaS.fin' (h : RaS w wx b2 b4 b5 s I T q) : Calls Tryz.prog 117 #[.pointer (some ⟨b5, 0, none⟩)] wx fun r w' => r = .returned (.int .i64 (Pk.rdEnd q.1 q.2).2) ∧ RaS w w' b2 b4 b5 s I T (Pk.rdEnd q.1 q.2) ∧ Pk.Off b5 wx w' :=
  (Pk.End_any b5 q.1 q.2 wx h.rd.sz h.rd.rd).mono fun e w' ⟨he, h1, o1⟩ => ⟨he, h.step ⟨h1, by
    have hz := h.rd.sz
    unfold Pk.rdEnd
    split
    · exact Nat.le_trans (Pk.rdFail_size _ _ _) hz
    · exact hz⟩ o1, o1⟩
theorem RaS.change (h : RaS w wx b2 b4 b5 s I T q) (act : Int) (ha : act = actOf s) : Calls Tryz.prog 115 #[.pointer (some ⟨b5, 0, none⟩), .pointer (some ⟨b4, 0, none⟩)] wx fun e w' => e = .returned (.tuple #[]) ∧ RaS w w' b2 b4 b5 (rdChg act s q).1 I T (rdChg act s q).2 :=
  (readChange_any ⟨h.rd, h.c, Off2.refl _ _ _, h.n3⟩ act ha).mono fun e w' ⟨he, h1⟩ => ⟨he, h.two h1.rc h1.rd h1.off⟩
theorem RaS.places2 (h : RaS w wx b2 b4 b5 s I T q) : Calls Tryz.prog 114 #[.pointer (some ⟨b5, 0, none⟩), .slice (some ⟨wx.heap.size, 0, none⟩) 2 2] (wx.alloc (.cells #[.pointer (some ⟨b4, 1, none⟩), .pointer (some ⟨b4, 2, none⟩)] 166)) fun e w' => e = .returned (.tuple #[]) ∧ RaS w w' b2 b4 b5 {s with tx := nN q 6, pv := nN (sN q 6) 6} I T (sN (sN q 6) 6) := by
  have hb : Below wx.heap.size wx (wx.alloc (.cells #[.pointer (some ⟨b4, 1, none⟩), .pointer (some ⟨b4, 2, none⟩)] 166)) := (Below.refl _ _).alloc (Nat.le_refl _) _
  have h' := h.below hb
  have l1 := h.rd.lt
  have l2 := h.c.lt
  refine (readPlaces_2 (k0 := 1) (k1 := 2) ⟨h'.rd, ⟨(MapKept.heap_alloc wx _).1⟩, ⟨h'.c.blk⟩, Off2.refl _ _ _, by omega, h.n3, by omega⟩ (by rw [rc_size]; omega) (by rw [rc_size]; omega)).mono ?_
  rintro e w' ⟨he, h1, h2, h3⟩
  exact ⟨he, h'.two ⟨h2.blk⟩ h1 h3⟩
theorem RaS.places3 (h : RaS w wx b2 b4 b5 s I T q) : Calls Tryz.prog 114 #[.pointer (some ⟨b5, 0, none⟩), .slice (some ⟨wx.heap.size, 0, none⟩) 3 3] (wx.alloc (.cells #[.pointer (some ⟨b4, 1, none⟩), .pointer (some ⟨b4, 2, none⟩), .pointer (some ⟨b4, 8, none⟩)] 166)) fun e w' => e = .returned (.tuple #[]) ∧ RaS w w' b2 b4 b5 {s with tx := nN q 6, pv := nN (sN q 6) 6, nx := nN (sN (sN q 6) 6) 6} I T (sN (sN (sN q 6) 6) 6) := by
  have hb : Below wx.heap.size wx (wx.alloc (.cells #[.pointer (some ⟨b4, 1, none⟩), .pointer (some ⟨b4, 2, none⟩), .pointer (some ⟨b4, 8, none⟩)] 166)) := (Below.refl _ _).alloc (Nat.le_refl _) _
  have h' := h.below hb
  have l1 := h.rd.lt
  have l2 := h.c.lt
  refine (readPlaces_3 (k0 := 1) (k1 := 2) (k2 := 8) ⟨h'.rd, ⟨(MapKept.heap_alloc wx _).1⟩, ⟨h'.c.blk⟩, Off2.refl _ _ _, by omega, h.n3, by omega⟩ (by rw [rc_size]; omega) (by rw [rc_size]; omega) (by rw [rc_size]; omega)).mono ?_
  rintro e w' ⟨he, h1, h2, h3⟩
  exact ⟨he, h'.two ⟨h2.blk⟩ h1 h3⟩
theorem RaS.start {w1 w2 w3 : World} (N1 : NewR w w1 b2 zS nilV nilV) (N2 : NewR w1 w2 b4 zS nilV nilV) {t : ByteArray} (ht : t.size ≤ 140737488351232) (hb : Below w2.heap.size w2 w3) (hr : Pk.isRd w3 b5 t 0) (he : b5 = w2.heap.size) : RaS w w3 b2 b4 b5 zS nilV nilV (t, 0) := by
  have e1 := N1.eq
  have e2 := N2.eq
  have z1 := N1.rc.lt
  have z2 := N2.rc.lt
  have z3 := N1.below.size
  have z4 := N2.below.size
  exact ⟨(N1.rc.below N2.below).below hb, N2.rc.below hb, ⟨hr, ht⟩, thn (thn N1.below N2.below) hb, by omega, by omega, by omega, by omega, by omega, by omega⟩
end
section
variable {w : World} {t : ByteArray} {K : Int} {q : Lf}
set_option maxHeartbeats 2000000 in
theorem read_7 (ht : t.size ≤ 140737488351232) (hK : nN (t, 0) 1 = K) (hq : sN (t, 0) 1 = q) (hk : K = 7) : Calls Tryz.prog 95 #[.string t] w fun e w' => (∃ v, e = .returned (.tuple #[v, .int .i64 (Pk.rdEnd (sN (sN q 6) 6).1 (sN (sN q 6) 6).2).2]) ∧ RecF w' v ⟨{kR K with tx := nN q 6, pv := nN (sN q 6) 6}, [], []⟩ w.heap.size) ∧ Below w.heap.size w w' := by
  have e1 : (K == 1) = false := by rw [hk]; rfl
  have e2 : (K == 2) = false := by rw [hk]; rfl
  have e3 : (K == 3) = false := by rw [hk]; rfl
  have e4 : (K == 4) = false := by rw [hk]; rfl
  have e5 : (K == 5) = false := by rw [hk]; rfl
  have e6 : (K == 6) = false := by rw [hk]; rfl
  have e7 : (K == 7) = true := by rw [hk]; rfl
  clear hk
  go_enter Tryz.func95, Tryz.ntmps95
  go_wp2_with (first
    | (have := N1; refine wpList_new_rc _ rfl rfl ?_; intro w2 b4 N2)
    | (refine wpList_new_rc _ rfl rfl ?_; intro w1 b2 N1)
    | (go_at_call 69; refine (Sm.Read_any _ _).mono ?_; rintro e w3 ⟨rfl, hr, hb⟩; have H0 := RaS.start N1 N2 ht hb hr rfl; clear N1 N2 hr hb this; generalize w2.heap.size = b5 at *)
    | (go_at_call 70; refine (H0.num0 _ hK hq).mono ?_; clear H0; rintro e w4 ⟨rfl, H⟩)
    | (refine wpList_at (Op.store 3 (.tmp 10) (.tmp 9)) rfl ?_; refine wpList_fput (s' := kR K) (I' := nilV) (T' := nilV) _ rfl 3 (.tmp 10) (.tmp 9) rfl rfl rfl H.c (by omega) rfl (by kernel_rfl) rfl ?_; intro w5 P5; have H1 := H.put P5; clear H P5; have H := H1; clear H1; have k0 := H.c.c0; dsimp only [kR] at k0)
    | (go_at_call 114; refine H.places2.mono ?_; clear H; rintro e w6 ⟨rfl, H⟩))
  obtain ⟨wz, s9, q9, hwz, hs9, hq9, H9⟩ : ∃ wz s9 q9, wz = _ ∧ Hid (s9 = _) ∧ Hid (q9 = _) ∧ RaS w wz b2 b4 b5 s9 nilV nilV q9 := ⟨_, _, _, rfl, rfl, rfl, H⟩
  subst hwz
  clear H
  have HD := H9.below ((Below.refl _ _).drew)
  clear H9
  have H := HD
  clear HD
  refine wp_region_held_drew (S := fun W : World => W.cell? ⟨b4, 0, none⟩ = some (.int .i64 s9.kd) ∧ W.cell? ⟨b4, 1, none⟩ = some (.int .i64 s9.tx) ∧ W.cell? ⟨b4, 2, none⟩ = some (.int .i64 s9.pv) ∧ W.cell? ⟨b4, 3, none⟩ = some (.int .i64 s9.pg) ∧ W.cell? ⟨b4, 4, none⟩ = some (.int .i64 s9.ac) ∧ W.cell? ⟨b4, 5, none⟩ = some (.string s9.ky) ∧ W.cell? ⟨b4, 6, none⟩ = some (.string s9.ol) ∧ W.cell? ⟨b4, 7, none⟩ = some (.string s9.nw) ∧ W.cell? ⟨b4, 8, none⟩ = some (.int .i64 s9.nx) ∧ W.cell? ⟨b4, 9, none⟩ = some nilV ∧ W.cell? ⟨b4, 10, none⟩ = some nilV ∧ W.cell? ⟨b4, 11, none⟩ = some (.int .i64 s9.ep) ∧ W.cell? ⟨b4, 12, none⟩ = some (.int .i64 s9.nd)) (by kernel_rfl) H.c.row (fun hHeld => ?_)
  refine wpAnyH_take (i := 0) (oi := _) (v := ?_) rfl (by kernel_rfl) (by kernel_rfl) (by kernel_rfl) (fun _ _ _ h => h) (Or.inl ⟨by rfl, ?_⟩) hHeld ?_
  rotate_left
  · (intro w hSw; (try dsimp only at hSw); go_simp; (try with_reducible rfl))
  try simp only [Act.put, List.setIfInBounds_toArray, List.set_cons_zero, List.set_cons_succ, List.getElem_toArray, List.getElem_cons_succ, List.getElem_cons_zero]
  refine wpAnyH_take (i := 1) (oi := _) (v := ?_) rfl (by kernel_rfl) (by kernel_rfl) (by kernel_rfl) (fun _ _ _ h => h) (Or.inl ⟨by rfl, ?_⟩) hHeld ?_
  rotate_left
  · (intro w hSw; (try dsimp only at hSw); go_simp; (try with_reducible rfl))
  try simp only [Act.put, List.setIfInBounds_toArray, List.set_cons_zero, List.set_cons_succ, List.getElem_toArray, List.getElem_cons_succ, List.getElem_cons_zero]
  refine wpAnyH_ready (rs := [2]) (by kernel_rfl) (by simp) ?_
  refine AllReadyH.cons (o := _) rfl (fun K hK => ?_) AllReadyH.nil
  go_simp
  refine H.fin.mono ?_
  clear H
  rintro e w7 ⟨rfl, H⟩
  go_wp2_with fail
  refine hK.out _ _ H.c.row (fun hHeld => ?_)
  clear hK K
  try simp only [Act.put, List.setIfInBounds_toArray, List.set_cons_zero, List.set_cons_succ, List.getElem_toArray, List.getElem_cons_succ, List.getElem_cons_zero]
  refine wpAnyH_ready (rs := [3]) (by kernel_rfl) (by simp) ?_
  refine AllReadyH.cons (o := _) rfl (fun K hK => ?_) AllReadyH.nil
  rw [if_pos (by rfl)]
  refine wp_put_rc (s' := s9) (I' := nilV) (T' := nilV) _ (.tmp 2) (.tmp 64) rfl rfl rfl H.r rfl rfl ?_
  intro w8 P8
  refine hK.out _ _ (H.c.off P8.off (fun e => H.n1 e.symm)).row (fun hHeld => ?_)
  clear hK K
  try simp only [Act.put, List.setIfInBounds_toArray, List.set_cons_zero, List.set_cons_succ, List.getElem_toArray, List.getElem_cons_succ, List.getElem_cons_zero]
  refine wpAnyH_take (i := 4) (oi := _) (v := ?_) rfl (by kernel_rfl) (by kernel_rfl) (by kernel_rfl) (fun _ _ _ h => h) (Or.inl ⟨by rfl, ?_⟩) hHeld ?_
  rotate_left
  · (intro w hSw; (try dsimp only at hSw); go_simp; (try with_reducible rfl))
  try simp only [Act.put, List.setIfInBounds_toArray, List.set_cons_zero, List.set_cons_succ, List.getElem_toArray, List.getElem_cons_succ, List.getElem_cons_zero]
  refine wpAnyH_done (by kernel_rfl) ?_ _
  go_wp2
  refine bodyPost_ret (results_rc2 rfl _ _ rfl P8.rc) rfl ?_
  rw [← hq9.out, ← hs9.out]
  refine ⟨⟨_, rfl, ?_⟩, H.bel.trans (P8.below H.l2 H.bel.size)⟩
  exact ⟨_, _, rfl, Fr.nil _ _, Fr.nil _ _⟩
set_option maxHeartbeats 2000000 in
theorem read_8 (ht : t.size ≤ 140737488351232) (hK : nN (t, 0) 1 = K) (hq : sN (t, 0) 1 = q) (hk : K = 8) : Calls Tryz.prog 95 #[.string t] w fun e w' => (∃ v, e = .returned (.tuple #[v, .int .i64 (Pk.rdEnd (sN (sN q 6) 6).1 (sN (sN q 6) 6).2).2]) ∧ RecF w' v ⟨{kR K with tx := nN q 6, pv := nN (sN q 6) 6}, [], []⟩ w.heap.size) ∧ Below w.heap.size w w' := by
  have e1 : (K == 1) = false := by rw [hk]; rfl
  have e2 : (K == 2) = false := by rw [hk]; rfl
  have e3 : (K == 3) = false := by rw [hk]; rfl
  have e4 : (K == 4) = false := by rw [hk]; rfl
  have e5 : (K == 5) = false := by rw [hk]; rfl
  have e6 : (K == 6) = false := by rw [hk]; rfl
  have e7 : (K == 7) = false := by rw [hk]; rfl
  have e8 : (K == 8) = true := by rw [hk]; rfl
  clear hk
  go_enter Tryz.func95, Tryz.ntmps95
  go_wp2_with (first
    | (have := N1; refine wpList_new_rc _ rfl rfl ?_; intro w2 b4 N2)
    | (refine wpList_new_rc _ rfl rfl ?_; intro w1 b2 N1)
    | (go_at_call 69; refine (Sm.Read_any _ _).mono ?_; rintro e w3 ⟨rfl, hr, hb⟩; have H0 := RaS.start N1 N2 ht hb hr rfl; clear N1 N2 hr hb this; generalize w2.heap.size = b5 at *)
    | (go_at_call 70; refine (H0.num0 _ hK hq).mono ?_; clear H0; rintro e w4 ⟨rfl, H⟩)
    | (refine wpList_at (Op.store 3 (.tmp 10) (.tmp 9)) rfl ?_; refine wpList_fput (s' := kR K) (I' := nilV) (T' := nilV) _ rfl 3 (.tmp 10) (.tmp 9) rfl rfl rfl H.c (by omega) rfl (by kernel_rfl) rfl ?_; intro w5 P5; have H1 := H.put P5; clear H P5; have H := H1; clear H1; have k0 := H.c.c0; dsimp only [kR] at k0)
    | (go_at_call 114; refine H.places2.mono ?_; clear H; rintro e w6 ⟨rfl, H⟩))
  obtain ⟨wz, s9, q9, hwz, hs9, hq9, H9⟩ : ∃ wz s9 q9, wz = _ ∧ Hid (s9 = _) ∧ Hid (q9 = _) ∧ RaS w wz b2 b4 b5 s9 nilV nilV q9 := ⟨_, _, _, rfl, rfl, rfl, H⟩
  subst hwz
  clear H
  have HD := H9.below ((Below.refl _ _).drew)
  clear H9
  have H := HD
  clear HD
  refine wp_region_held_drew (S := fun W : World => W.cell? ⟨b4, 0, none⟩ = some (.int .i64 s9.kd) ∧ W.cell? ⟨b4, 1, none⟩ = some (.int .i64 s9.tx) ∧ W.cell? ⟨b4, 2, none⟩ = some (.int .i64 s9.pv) ∧ W.cell? ⟨b4, 3, none⟩ = some (.int .i64 s9.pg) ∧ W.cell? ⟨b4, 4, none⟩ = some (.int .i64 s9.ac) ∧ W.cell? ⟨b4, 5, none⟩ = some (.string s9.ky) ∧ W.cell? ⟨b4, 6, none⟩ = some (.string s9.ol) ∧ W.cell? ⟨b4, 7, none⟩ = some (.string s9.nw) ∧ W.cell? ⟨b4, 8, none⟩ = some (.int .i64 s9.nx) ∧ W.cell? ⟨b4, 9, none⟩ = some nilV ∧ W.cell? ⟨b4, 10, none⟩ = some nilV ∧ W.cell? ⟨b4, 11, none⟩ = some (.int .i64 s9.ep) ∧ W.cell? ⟨b4, 12, none⟩ = some (.int .i64 s9.nd)) (by kernel_rfl) H.c.row (fun hHeld => ?_)
  refine wpAnyH_take (i := 0) (oi := _) (v := ?_) rfl (by kernel_rfl) (by kernel_rfl) (by kernel_rfl) (fun _ _ _ h => h) (Or.inl ⟨by rfl, ?_⟩) hHeld ?_
  rotate_left
  · (intro w hSw; (try dsimp only at hSw); go_simp; (try with_reducible rfl))
  try simp only [Act.put, List.setIfInBounds_toArray, List.set_cons_zero, List.set_cons_succ, List.getElem_toArray, List.getElem_cons_succ, List.getElem_cons_zero]
  refine wpAnyH_take (i := 1) (oi := _) (v := ?_) rfl (by kernel_rfl) (by kernel_rfl) (by kernel_rfl) (fun _ _ _ h => h) (Or.inl ⟨by rfl, ?_⟩) hHeld ?_
  rotate_left
  · (intro w hSw; (try dsimp only at hSw); go_simp; (try with_reducible rfl))
  try simp only [Act.put, List.setIfInBounds_toArray, List.set_cons_zero, List.set_cons_succ, List.getElem_toArray, List.getElem_cons_succ, List.getElem_cons_zero]
  refine wpAnyH_ready (rs := [2]) (by kernel_rfl) (by simp) ?_
  refine AllReadyH.cons (o := _) rfl (fun K hK => ?_) AllReadyH.nil
  go_simp
  refine H.fin.mono ?_
  clear H
  rintro e w7 ⟨rfl, H⟩
  go_wp2_with fail
  refine hK.out _ _ H.c.row (fun hHeld => ?_)
  clear hK K
  try simp only [Act.put, List.setIfInBounds_toArray, List.set_cons_zero, List.set_cons_succ, List.getElem_toArray, List.getElem_cons_succ, List.getElem_cons_zero]
  refine wpAnyH_ready (rs := [3]) (by kernel_rfl) (by simp) ?_
  refine AllReadyH.cons (o := _) rfl (fun K hK => ?_) AllReadyH.nil
  rw [if_pos (by rfl)]
  refine wp_put_rc (s' := s9) (I' := nilV) (T' := nilV) _ (.tmp 2) (.tmp 64) rfl rfl rfl H.r rfl rfl ?_
  intro w8 P8
  refine hK.out _ _ (H.c.off P8.off (fun e => H.n1 e.symm)).row (fun hHeld => ?_)
  clear hK K
  try simp only [Act.put, List.setIfInBounds_toArray, List.set_cons_zero, List.set_cons_succ, List.getElem_toArray, List.getElem_cons_succ, List.getElem_cons_zero]
  refine wpAnyH_take (i := 4) (oi := _) (v := ?_) rfl (by kernel_rfl) (by kernel_rfl) (by kernel_rfl) (fun _ _ _ h => h) (Or.inl ⟨by rfl, ?_⟩) hHeld ?_
  rotate_left
  · (intro w hSw; (try dsimp only at hSw); go_simp; (try with_reducible rfl))
  try simp only [Act.put, List.setIfInBounds_toArray, List.set_cons_zero, List.set_cons_succ, List.getElem_toArray, List.getElem_cons_succ, List.getElem_cons_zero]
  refine wpAnyH_done (by kernel_rfl) ?_ _
  go_wp2
  refine bodyPost_ret (results_rc2 rfl _ _ rfl P8.rc) rfl ?_
  rw [← hq9.out, ← hs9.out]
  refine ⟨⟨_, rfl, ?_⟩, H.bel.trans (P8.below H.l2 H.bel.size)⟩
  exact ⟨_, _, rfl, Fr.nil _ _, Fr.nil _ _⟩
set_option maxHeartbeats 2000000 in
theorem read_10 (ht : t.size ≤ 140737488351232) (hK : nN (t, 0) 1 = K) (hq : sN (t, 0) 1 = q) (hk : K = 10) : Calls Tryz.prog 95 #[.string t] w fun e w' => (∃ v, e = .returned (.tuple #[v, .int .i64 (Pk.rdEnd (sN (sN q 4) 1).1 (sN (sN q 4) 1).2).2]) ∧ RecF w' v ⟨{kR K with ep := nN q 4, nd := nN (sN q 4) 1}, [], []⟩ w.heap.size) ∧ Below w.heap.size w w' := by
  have e1 : (K == 1) = false := by rw [hk]; rfl
  have e2 : (K == 2) = false := by rw [hk]; rfl
  have e3 : (K == 3) = false := by rw [hk]; rfl
  have e4 : (K == 4) = false := by rw [hk]; rfl
  have e5 : (K == 5) = false := by rw [hk]; rfl
  have e6 : (K == 6) = false := by rw [hk]; rfl
  have e7 : (K == 7) = false := by rw [hk]; rfl
  have e8 : (K == 8) = false := by rw [hk]; rfl
  have e9 : (K == 9) = false := by rw [hk]; rfl
  have e10 : (K == 10) = true := by rw [hk]; rfl
  clear hk
  go_enter Tryz.func95, Tryz.ntmps95
  go_wp2_with (first
    | (have := N1; refine wpList_new_rc _ rfl rfl ?_; intro w2 b4 N2)
    | (refine wpList_new_rc _ rfl rfl ?_; intro w1 b2 N1)
    | (go_at_call 69; refine (Sm.Read_any _ _).mono ?_; rintro e w3 ⟨rfl, hr, hb⟩; have H0 := RaS.start N1 N2 ht hb hr rfl; clear N1 N2 hr hb this; generalize w2.heap.size = b5 at *)
    | (go_at_call 70; refine (H0.num0 _ hK hq).mono ?_; clear H0; rintro e w4 ⟨rfl, H⟩)
    | (refine wpList_at (Op.store 3 (.tmp 10) (.tmp 9)) rfl ?_; refine wpList_fput (s' := kR K) (I' := nilV) (T' := nilV) _ rfl 3 (.tmp 10) (.tmp 9) rfl rfl rfl H.c (by omega) rfl (by kernel_rfl) rfl ?_; intro w5 P5; have H1 := H.put P5; clear H P5; have H := H1; clear H1; have k0 := H.c.c0; dsimp only [kR] at k0)
    | (refine wpList_at (Op.store 3 (.tmp 60) (.tmp 59)) rfl ?_; refine wpList_fput (s' := {kR K with ep := nN q 4}) (I' := nilV) (T' := nilV) _ rfl 3 (.tmp 60) (.tmp 59) rfl rfl rfl H.c (by omega) rfl (by kernel_rfl) rfl ?_; intro w5 P5; have H1 := H.put P5; clear H P5; have H := H1; clear H1)
    | (refine wpList_at (Op.store 3 (.tmp 63) (.tmp 62)) rfl ?_; refine wpList_fput (s' := {kR K with ep := nN q 4, nd := nN (sN q 4) 1}) (I' := nilV) (T' := nilV) _ rfl 3 (.tmp 63) (.tmp 62) rfl rfl rfl H.c (by omega) rfl (by kernel_rfl) rfl ?_; intro w5 P5; have H1 := H.put P5; clear H P5; have H := H1; clear H1)
    | (go_at_call 70; refine (H.num _).mono ?_; clear H; rintro e w6 ⟨rfl, H⟩))
  obtain ⟨wz, s9, q9, hwz, hs9, hq9, H9⟩ : ∃ wz s9 q9, wz = _ ∧ Hid (s9 = _) ∧ Hid (q9 = _) ∧ RaS w wz b2 b4 b5 s9 nilV nilV q9 := ⟨_, _, _, rfl, rfl, rfl, H⟩
  subst hwz
  clear H
  have HD := H9.below ((Below.refl _ _).drew)
  clear H9
  have H := HD
  clear HD
  refine wp_region_held_drew (S := fun W : World => W.cell? ⟨b4, 0, none⟩ = some (.int .i64 s9.kd) ∧ W.cell? ⟨b4, 1, none⟩ = some (.int .i64 s9.tx) ∧ W.cell? ⟨b4, 2, none⟩ = some (.int .i64 s9.pv) ∧ W.cell? ⟨b4, 3, none⟩ = some (.int .i64 s9.pg) ∧ W.cell? ⟨b4, 4, none⟩ = some (.int .i64 s9.ac) ∧ W.cell? ⟨b4, 5, none⟩ = some (.string s9.ky) ∧ W.cell? ⟨b4, 6, none⟩ = some (.string s9.ol) ∧ W.cell? ⟨b4, 7, none⟩ = some (.string s9.nw) ∧ W.cell? ⟨b4, 8, none⟩ = some (.int .i64 s9.nx) ∧ W.cell? ⟨b4, 9, none⟩ = some nilV ∧ W.cell? ⟨b4, 10, none⟩ = some nilV ∧ W.cell? ⟨b4, 11, none⟩ = some (.int .i64 s9.ep) ∧ W.cell? ⟨b4, 12, none⟩ = some (.int .i64 s9.nd)) (by kernel_rfl) H.c.row (fun hHeld => ?_)
  refine wpAnyH_take (i := 0) (oi := _) (v := ?_) rfl (by kernel_rfl) (by kernel_rfl) (by kernel_rfl) (fun _ _ _ h => h) (Or.inl ⟨by rfl, ?_⟩) hHeld ?_
  rotate_left
  · (intro w hSw; (try dsimp only at hSw); go_simp; (try with_reducible rfl))
  try simp only [Act.put, List.setIfInBounds_toArray, List.set_cons_zero, List.set_cons_succ, List.getElem_toArray, List.getElem_cons_succ, List.getElem_cons_zero]
  refine wpAnyH_take (i := 1) (oi := _) (v := ?_) rfl (by kernel_rfl) (by kernel_rfl) (by kernel_rfl) (fun _ _ _ h => h) (Or.inl ⟨by rfl, ?_⟩) hHeld ?_
  rotate_left
  · (intro w hSw; (try dsimp only at hSw); go_simp; (try with_reducible rfl))
  try simp only [Act.put, List.setIfInBounds_toArray, List.set_cons_zero, List.set_cons_succ, List.getElem_toArray, List.getElem_cons_succ, List.getElem_cons_zero]
  refine wpAnyH_ready (rs := [2]) (by kernel_rfl) (by simp) ?_
  refine AllReadyH.cons (o := _) rfl (fun K hK => ?_) AllReadyH.nil
  go_simp
  refine H.fin.mono ?_
  clear H
  rintro e w7 ⟨rfl, H⟩
  go_wp2_with fail
  refine hK.out _ _ H.c.row (fun hHeld => ?_)
  clear hK K
  try simp only [Act.put, List.setIfInBounds_toArray, List.set_cons_zero, List.set_cons_succ, List.getElem_toArray, List.getElem_cons_succ, List.getElem_cons_zero]
  refine wpAnyH_ready (rs := [3]) (by kernel_rfl) (by simp) ?_
  refine AllReadyH.cons (o := _) rfl (fun K hK => ?_) AllReadyH.nil
  rw [if_pos (by rfl)]
  refine wp_put_rc (s' := s9) (I' := nilV) (T' := nilV) _ (.tmp 2) (.tmp 64) rfl rfl rfl H.r rfl rfl ?_
  intro w8 P8
  refine hK.out _ _ (H.c.off P8.off (fun e => H.n1 e.symm)).row (fun hHeld => ?_)
  clear hK K
  try simp only [Act.put, List.setIfInBounds_toArray, List.set_cons_zero, List.set_cons_succ, List.getElem_toArray, List.getElem_cons_succ, List.getElem_cons_zero]
  refine wpAnyH_take (i := 4) (oi := _) (v := ?_) rfl (by kernel_rfl) (by kernel_rfl) (by kernel_rfl) (fun _ _ _ h => h) (Or.inl ⟨by rfl, ?_⟩) hHeld ?_
  rotate_left
  · (intro w hSw; (try dsimp only at hSw); go_simp; (try with_reducible rfl))
  try simp only [Act.put, List.setIfInBounds_toArray, List.set_cons_zero, List.set_cons_succ, List.getElem_toArray, List.getElem_cons_succ, List.getElem_cons_zero]
  refine wpAnyH_done (by kernel_rfl) ?_ _
  go_wp2
  refine bodyPost_ret (results_rc2 rfl _ _ rfl P8.rc) rfl ?_
  rw [← hq9.out, ← hs9.out]
  refine ⟨⟨_, rfl, ?_⟩, H.bel.trans (P8.below H.l2 H.bel.size)⟩
  exact ⟨_, _, rfl, Fr.nil _ _, Fr.nil _ _⟩
set_option maxHeartbeats 2000000 in
theorem read_o (ht : t.size ≤ 140737488351232) (hK : nN (t, 0) 1 = K) (hq : sN (t, 0) 1 = q) (h1 : K ≠ 1) (h2 : K ≠ 2) (h3 : K ≠ 3) (h4 : K ≠ 4) (h5 : K ≠ 5) (h6 : K ≠ 6) (h7 : K ≠ 7) (h8 : K ≠ 8) (h9 : K ≠ 9) (h10 : K ≠ 10) : Calls Tryz.prog 95 #[.string t] w fun e w' => (∃ v, e = .returned (.tuple #[v, .int .i64 (Pk.rdEnd (q).1 (q).2).2]) ∧ RecF w' v ⟨kR K, [], []⟩ w.heap.size) ∧ Below w.heap.size w w' := by
  have e1 : (K == 1) = false := by simpa using h1
  have e2 : (K == 2) = false := by simpa using h2
  have e3 : (K == 3) = false := by simpa using h3
  have e4 : (K == 4) = false := by simpa using h4
  have e5 : (K == 5) = false := by simpa using h5
  have e6 : (K == 6) = false := by simpa using h6
  have e7 : (K == 7) = false := by simpa using h7
  have e8 : (K == 8) = false := by simpa using h8
  have e9 : (K == 9) = false := by simpa using h9
  have e10 : (K == 10) = false := by simpa using h10
  clear h1 h2 h3 h4 h5 h6 h7 h8 h9 h10
  go_enter Tryz.func95, Tryz.ntmps95
  go_wp2_with (first
    | (have := N1; refine wpList_new_rc _ rfl rfl ?_; intro w2 b4 N2)
    | (refine wpList_new_rc _ rfl rfl ?_; intro w1 b2 N1)
    | (go_at_call 69; refine (Sm.Read_any _ _).mono ?_; rintro e w3 ⟨rfl, hr, hb⟩; have H0 := RaS.start N1 N2 ht hb hr rfl; clear N1 N2 hr hb this; generalize w2.heap.size = b5 at *)
    | (go_at_call 70; refine (H0.num0 _ hK hq).mono ?_; clear H0; rintro e w4 ⟨rfl, H⟩)
    | (refine wpList_at (Op.store 3 (.tmp 10) (.tmp 9)) rfl ?_; refine wpList_fput (s' := kR K) (I' := nilV) (T' := nilV) _ rfl 3 (.tmp 10) (.tmp 9) rfl rfl rfl H.c (by omega) rfl (by kernel_rfl) rfl ?_; intro w5 P5; have H1 := H.put P5; clear H P5; have H := H1; clear H1; have k0 := H.c.c0; dsimp only [kR] at k0))
  obtain ⟨wz, s9, q9, hwz, hs9, hq9, H9⟩ : ∃ wz s9 q9, wz = _ ∧ Hid (s9 = _) ∧ Hid (q9 = _) ∧ RaS w wz b2 b4 b5 s9 nilV nilV q9 := ⟨_, _, _, rfl, rfl, rfl, H⟩
  subst hwz
  clear H
  have HD := H9.below ((Below.refl _ _).drew)
  clear H9
  have H := HD
  clear HD
  refine wp_region_held_drew (S := fun W : World => W.cell? ⟨b4, 0, none⟩ = some (.int .i64 s9.kd) ∧ W.cell? ⟨b4, 1, none⟩ = some (.int .i64 s9.tx) ∧ W.cell? ⟨b4, 2, none⟩ = some (.int .i64 s9.pv) ∧ W.cell? ⟨b4, 3, none⟩ = some (.int .i64 s9.pg) ∧ W.cell? ⟨b4, 4, none⟩ = some (.int .i64 s9.ac) ∧ W.cell? ⟨b4, 5, none⟩ = some (.string s9.ky) ∧ W.cell? ⟨b4, 6, none⟩ = some (.string s9.ol) ∧ W.cell? ⟨b4, 7, none⟩ = some (.string s9.nw) ∧ W.cell? ⟨b4, 8, none⟩ = some (.int .i64 s9.nx) ∧ W.cell? ⟨b4, 9, none⟩ = some nilV ∧ W.cell? ⟨b4, 10, none⟩ = some nilV ∧ W.cell? ⟨b4, 11, none⟩ = some (.int .i64 s9.ep) ∧ W.cell? ⟨b4, 12, none⟩ = some (.int .i64 s9.nd)) (by kernel_rfl) H.c.row (fun hHeld => ?_)
  refine wpAnyH_take (i := 0) (oi := _) (v := ?_) rfl (by kernel_rfl) (by kernel_rfl) (by kernel_rfl) (fun _ _ _ h => h) (Or.inl ⟨by rfl, ?_⟩) hHeld ?_
  rotate_left
  · (intro w hSw; (try dsimp only at hSw); go_simp; (try with_reducible rfl))
  try simp only [Act.put, List.setIfInBounds_toArray, List.set_cons_zero, List.set_cons_succ, List.getElem_toArray, List.getElem_cons_succ, List.getElem_cons_zero]
  refine wpAnyH_take (i := 1) (oi := _) (v := ?_) rfl (by kernel_rfl) (by kernel_rfl) (by kernel_rfl) (fun _ _ _ h => h) (Or.inl ⟨by rfl, ?_⟩) hHeld ?_
  rotate_left
  · (intro w hSw; (try dsimp only at hSw); go_simp; (try with_reducible rfl))
  try simp only [Act.put, List.setIfInBounds_toArray, List.set_cons_zero, List.set_cons_succ, List.getElem_toArray, List.getElem_cons_succ, List.getElem_cons_zero]
  refine wpAnyH_ready (rs := [2]) (by kernel_rfl) (by simp) ?_
  refine AllReadyH.cons (o := _) rfl (fun K hK => ?_) AllReadyH.nil
  go_simp
  refine H.fin.mono ?_
  clear H
  rintro e w7 ⟨rfl, H⟩
  go_wp2_with fail
  refine hK.out _ _ H.c.row (fun hHeld => ?_)
  clear hK K
  try simp only [Act.put, List.setIfInBounds_toArray, List.set_cons_zero, List.set_cons_succ, List.getElem_toArray, List.getElem_cons_succ, List.getElem_cons_zero]
  refine wpAnyH_ready (rs := [3]) (by kernel_rfl) (by simp) ?_
  refine AllReadyH.cons (o := _) rfl (fun K hK => ?_) AllReadyH.nil
  rw [if_pos (by rfl)]
  refine wp_put_rc (s' := s9) (I' := nilV) (T' := nilV) _ (.tmp 2) (.tmp 64) rfl rfl rfl H.r rfl rfl ?_
  intro w8 P8
  refine hK.out _ _ (H.c.off P8.off (fun e => H.n1 e.symm)).row (fun hHeld => ?_)
  clear hK K
  try simp only [Act.put, List.setIfInBounds_toArray, List.set_cons_zero, List.set_cons_succ, List.getElem_toArray, List.getElem_cons_succ, List.getElem_cons_zero]
  refine wpAnyH_take (i := 4) (oi := _) (v := ?_) rfl (by kernel_rfl) (by kernel_rfl) (by kernel_rfl) (fun _ _ _ h => h) (Or.inl ⟨by rfl, ?_⟩) hHeld ?_
  rotate_left
  · (intro w hSw; (try dsimp only at hSw); go_simp; (try with_reducible rfl))
  try simp only [Act.put, List.setIfInBounds_toArray, List.set_cons_zero, List.set_cons_succ, List.getElem_toArray, List.getElem_cons_succ, List.getElem_cons_zero]
  refine wpAnyH_done (by kernel_rfl) ?_ _
  go_wp2
  refine bodyPost_ret (results_rc2 rfl _ _ rfl P8.rc) rfl ?_
  rw [← hq9.out, ← hs9.out]
  refine ⟨⟨_, rfl, ?_⟩, H.bel.trans (P8.below H.l2 H.bel.size)⟩
  exact ⟨_, _, rfl, Fr.nil _ _, Fr.nil _ _⟩
set_option maxHeartbeats 2000000 in
theorem read_3 (ht : t.size ≤ 140737488351232) (hK : nN (t, 0) 1 = K) (hq : sN (t, 0) 1 = q) (hk : K = 3) : Calls Tryz.prog 95 #[.string t] w fun e w' => (∃ v, e = .returned (.tuple #[v, .int .i64 (Pk.rdEnd ((rdChg K {kR K with tx := nN q 6, pv := nN (sN q 6) 6} (sN (sN q 6) 6)).2).1 ((rdChg K {kR K with tx := nN q 6, pv := nN (sN q 6) 6} (sN (sN q 6) 6)).2).2).2]) ∧ RecF w' v ⟨(rdChg K {kR K with tx := nN q 6, pv := nN (sN q 6) 6} (sN (sN q 6) 6)).1, [], []⟩ w.heap.size) ∧ Below w.heap.size w w' := by
  have e1 : (K == 1) = false := by rw [hk]; rfl
  have e2 : (K == 2) = false := by rw [hk]; rfl
  have e3 : (K == 3) = true := by rw [hk]; rfl
  have ha : Hid (K = actOf {kR K with tx := nN q 6, pv := nN (sN q 6) 6}) := (by simp [actOf, kR, zS, hk] : K = actOf {kR K with tx := nN q 6, pv := nN (sN q 6) 6})
  clear hk
  go_enter Tryz.func95, Tryz.ntmps95
  go_wp2_with (first
    | (have := N1; refine wpList_new_rc _ rfl rfl ?_; intro w2 b4 N2)
    | (refine wpList_new_rc _ rfl rfl ?_; intro w1 b2 N1)
    | (go_at_call 69; refine (Sm.Read_any _ _).mono ?_; rintro e w3 ⟨rfl, hr, hb⟩; have H0 := RaS.start N1 N2 ht hb hr rfl; clear N1 N2 hr hb this; generalize w2.heap.size = b5 at *)
    | (go_at_call 70; refine (H0.num0 _ hK hq).mono ?_; clear H0; rintro e w4 ⟨rfl, H⟩)
    | (refine wpList_at (Op.store 3 (.tmp 10) (.tmp 9)) rfl ?_; refine wpList_fput (s' := kR K) (I' := nilV) (T' := nilV) _ rfl 3 (.tmp 10) (.tmp 9) rfl rfl rfl H.c (by omega) rfl (by kernel_rfl) rfl ?_; intro w5 P5; have H1 := H.put P5; clear H P5; have H := H1; clear H1; have k0 := H.c.c0; dsimp only [kR] at k0)
    | (go_at_call 114; refine H.places2.mono ?_; clear H; rintro e w6 ⟨rfl, H⟩)
    | (go_at_call 115; refine (H.change _ ha.out).mono ?_; clear H; rintro e w7 ⟨rfl, H⟩))
  obtain ⟨wz, s9, q9, hwz, hs9, hq9, H9⟩ : ∃ wz s9 q9, wz = _ ∧ Hid (s9 = _) ∧ Hid (q9 = _) ∧ RaS w wz b2 b4 b5 s9 nilV nilV q9 := ⟨_, _, _, rfl, rfl, rfl, H⟩
  subst hwz
  clear H
  have HD := H9.below ((Below.refl _ _).drew)
  clear H9
  have H := HD
  clear HD
  refine wp_region_held_drew (S := fun W : World => W.cell? ⟨b4, 0, none⟩ = some (.int .i64 s9.kd) ∧ W.cell? ⟨b4, 1, none⟩ = some (.int .i64 s9.tx) ∧ W.cell? ⟨b4, 2, none⟩ = some (.int .i64 s9.pv) ∧ W.cell? ⟨b4, 3, none⟩ = some (.int .i64 s9.pg) ∧ W.cell? ⟨b4, 4, none⟩ = some (.int .i64 s9.ac) ∧ W.cell? ⟨b4, 5, none⟩ = some (.string s9.ky) ∧ W.cell? ⟨b4, 6, none⟩ = some (.string s9.ol) ∧ W.cell? ⟨b4, 7, none⟩ = some (.string s9.nw) ∧ W.cell? ⟨b4, 8, none⟩ = some (.int .i64 s9.nx) ∧ W.cell? ⟨b4, 9, none⟩ = some nilV ∧ W.cell? ⟨b4, 10, none⟩ = some nilV ∧ W.cell? ⟨b4, 11, none⟩ = some (.int .i64 s9.ep) ∧ W.cell? ⟨b4, 12, none⟩ = some (.int .i64 s9.nd)) (by kernel_rfl) H.c.row (fun hHeld => ?_)
  refine wpAnyH_take (i := 0) (oi := _) (v := ?_) rfl (by kernel_rfl) (by kernel_rfl) (by kernel_rfl) (fun _ _ _ h => h) (Or.inl ⟨by rfl, ?_⟩) hHeld ?_
  rotate_left
  · (intro w hSw; (try dsimp only at hSw); go_simp; (try with_reducible rfl))
  try simp only [Act.put, List.setIfInBounds_toArray, List.set_cons_zero, List.set_cons_succ, List.getElem_toArray, List.getElem_cons_succ, List.getElem_cons_zero]
  refine wpAnyH_take (i := 1) (oi := _) (v := ?_) rfl (by kernel_rfl) (by kernel_rfl) (by kernel_rfl) (fun _ _ _ h => h) (Or.inl ⟨by rfl, ?_⟩) hHeld ?_
  rotate_left
  · (intro w hSw; (try dsimp only at hSw); go_simp; (try with_reducible rfl))
  try simp only [Act.put, List.setIfInBounds_toArray, List.set_cons_zero, List.set_cons_succ, List.getElem_toArray, List.getElem_cons_succ, List.getElem_cons_zero]
  refine wpAnyH_ready (rs := [2]) (by kernel_rfl) (by simp) ?_
  refine AllReadyH.cons (o := _) rfl (fun K hK => ?_) AllReadyH.nil
  go_simp
  refine H.fin.mono ?_
  clear H
  rintro e w7 ⟨rfl, H⟩
  go_wp2_with fail
  refine hK.out _ _ H.c.row (fun hHeld => ?_)
  clear hK K
  try simp only [Act.put, List.setIfInBounds_toArray, List.set_cons_zero, List.set_cons_succ, List.getElem_toArray, List.getElem_cons_succ, List.getElem_cons_zero]
  refine wpAnyH_ready (rs := [3]) (by kernel_rfl) (by simp) ?_
  refine AllReadyH.cons (o := _) rfl (fun K hK => ?_) AllReadyH.nil
  rw [if_pos (by rfl)]
  refine wp_put_rc (s' := s9) (I' := nilV) (T' := nilV) _ (.tmp 2) (.tmp 64) rfl rfl rfl H.r rfl rfl ?_
  intro w8 P8
  refine hK.out _ _ (H.c.off P8.off (fun e => H.n1 e.symm)).row (fun hHeld => ?_)
  clear hK K
  try simp only [Act.put, List.setIfInBounds_toArray, List.set_cons_zero, List.set_cons_succ, List.getElem_toArray, List.getElem_cons_succ, List.getElem_cons_zero]
  refine wpAnyH_take (i := 4) (oi := _) (v := ?_) rfl (by kernel_rfl) (by kernel_rfl) (by kernel_rfl) (fun _ _ _ h => h) (Or.inl ⟨by rfl, ?_⟩) hHeld ?_
  rotate_left
  · (intro w hSw; (try dsimp only at hSw); go_simp; (try with_reducible rfl))
  try simp only [Act.put, List.setIfInBounds_toArray, List.set_cons_zero, List.set_cons_succ, List.getElem_toArray, List.getElem_cons_succ, List.getElem_cons_zero]
  refine wpAnyH_done (by kernel_rfl) ?_ _
  go_wp2
  refine bodyPost_ret (results_rc2 rfl _ _ rfl P8.rc) rfl ?_
  rw [← hq9.out, ← hs9.out]
  refine ⟨⟨_, rfl, ?_⟩, H.bel.trans (P8.below H.l2 H.bel.size)⟩
  exact ⟨_, _, rfl, Fr.nil _ _, Fr.nil _ _⟩
set_option maxHeartbeats 2000000 in
theorem read_4 (ht : t.size ≤ 140737488351232) (hK : nN (t, 0) 1 = K) (hq : sN (t, 0) 1 = q) (hk : K = 4) : Calls Tryz.prog 95 #[.string t] w fun e w' => (∃ v, e = .returned (.tuple #[v, .int .i64 (Pk.rdEnd ((rdChg K {kR K with tx := nN q 6, pv := nN (sN q 6) 6} (sN (sN q 6) 6)).2).1 ((rdChg K {kR K with tx := nN q 6, pv := nN (sN q 6) 6} (sN (sN q 6) 6)).2).2).2]) ∧ RecF w' v ⟨(rdChg K {kR K with tx := nN q 6, pv := nN (sN q 6) 6} (sN (sN q 6) 6)).1, [], []⟩ w.heap.size) ∧ Below w.heap.size w w' := by
  have e1 : (K == 1) = false := by rw [hk]; rfl
  have e2 : (K == 2) = false := by rw [hk]; rfl
  have e3 : (K == 3) = false := by rw [hk]; rfl
  have e4 : (K == 4) = true := by rw [hk]; rfl
  have ha : Hid (K = actOf {kR K with tx := nN q 6, pv := nN (sN q 6) 6}) := (by simp [actOf, kR, zS, hk] : K = actOf {kR K with tx := nN q 6, pv := nN (sN q 6) 6})
  clear hk
  go_enter Tryz.func95, Tryz.ntmps95
  go_wp2_with (first
    | (have := N1; refine wpList_new_rc _ rfl rfl ?_; intro w2 b4 N2)
    | (refine wpList_new_rc _ rfl rfl ?_; intro w1 b2 N1)
    | (go_at_call 69; refine (Sm.Read_any _ _).mono ?_; rintro e w3 ⟨rfl, hr, hb⟩; have H0 := RaS.start N1 N2 ht hb hr rfl; clear N1 N2 hr hb this; generalize w2.heap.size = b5 at *)
    | (go_at_call 70; refine (H0.num0 _ hK hq).mono ?_; clear H0; rintro e w4 ⟨rfl, H⟩)
    | (refine wpList_at (Op.store 3 (.tmp 10) (.tmp 9)) rfl ?_; refine wpList_fput (s' := kR K) (I' := nilV) (T' := nilV) _ rfl 3 (.tmp 10) (.tmp 9) rfl rfl rfl H.c (by omega) rfl (by kernel_rfl) rfl ?_; intro w5 P5; have H1 := H.put P5; clear H P5; have H := H1; clear H1; have k0 := H.c.c0; dsimp only [kR] at k0)
    | (go_at_call 114; refine H.places2.mono ?_; clear H; rintro e w6 ⟨rfl, H⟩)
    | (go_at_call 115; refine (H.change _ ha.out).mono ?_; clear H; rintro e w7 ⟨rfl, H⟩))
  obtain ⟨wz, s9, q9, hwz, hs9, hq9, H9⟩ : ∃ wz s9 q9, wz = _ ∧ Hid (s9 = _) ∧ Hid (q9 = _) ∧ RaS w wz b2 b4 b5 s9 nilV nilV q9 := ⟨_, _, _, rfl, rfl, rfl, H⟩
  subst hwz
  clear H
  have HD := H9.below ((Below.refl _ _).drew)
  clear H9
  have H := HD
  clear HD
  refine wp_region_held_drew (S := fun W : World => W.cell? ⟨b4, 0, none⟩ = some (.int .i64 s9.kd) ∧ W.cell? ⟨b4, 1, none⟩ = some (.int .i64 s9.tx) ∧ W.cell? ⟨b4, 2, none⟩ = some (.int .i64 s9.pv) ∧ W.cell? ⟨b4, 3, none⟩ = some (.int .i64 s9.pg) ∧ W.cell? ⟨b4, 4, none⟩ = some (.int .i64 s9.ac) ∧ W.cell? ⟨b4, 5, none⟩ = some (.string s9.ky) ∧ W.cell? ⟨b4, 6, none⟩ = some (.string s9.ol) ∧ W.cell? ⟨b4, 7, none⟩ = some (.string s9.nw) ∧ W.cell? ⟨b4, 8, none⟩ = some (.int .i64 s9.nx) ∧ W.cell? ⟨b4, 9, none⟩ = some nilV ∧ W.cell? ⟨b4, 10, none⟩ = some nilV ∧ W.cell? ⟨b4, 11, none⟩ = some (.int .i64 s9.ep) ∧ W.cell? ⟨b4, 12, none⟩ = some (.int .i64 s9.nd)) (by kernel_rfl) H.c.row (fun hHeld => ?_)
  refine wpAnyH_take (i := 0) (oi := _) (v := ?_) rfl (by kernel_rfl) (by kernel_rfl) (by kernel_rfl) (fun _ _ _ h => h) (Or.inl ⟨by rfl, ?_⟩) hHeld ?_
  rotate_left
  · (intro w hSw; (try dsimp only at hSw); go_simp; (try with_reducible rfl))
  try simp only [Act.put, List.setIfInBounds_toArray, List.set_cons_zero, List.set_cons_succ, List.getElem_toArray, List.getElem_cons_succ, List.getElem_cons_zero]
  refine wpAnyH_take (i := 1) (oi := _) (v := ?_) rfl (by kernel_rfl) (by kernel_rfl) (by kernel_rfl) (fun _ _ _ h => h) (Or.inl ⟨by rfl, ?_⟩) hHeld ?_
  rotate_left
  · (intro w hSw; (try dsimp only at hSw); go_simp; (try with_reducible rfl))
  try simp only [Act.put, List.setIfInBounds_toArray, List.set_cons_zero, List.set_cons_succ, List.getElem_toArray, List.getElem_cons_succ, List.getElem_cons_zero]
  refine wpAnyH_ready (rs := [2]) (by kernel_rfl) (by simp) ?_
  refine AllReadyH.cons (o := _) rfl (fun K hK => ?_) AllReadyH.nil
  go_simp
  refine H.fin.mono ?_
  clear H
  rintro e w7 ⟨rfl, H⟩
  go_wp2_with fail
  refine hK.out _ _ H.c.row (fun hHeld => ?_)
  clear hK K
  try simp only [Act.put, List.setIfInBounds_toArray, List.set_cons_zero, List.set_cons_succ, List.getElem_toArray, List.getElem_cons_succ, List.getElem_cons_zero]
  refine wpAnyH_ready (rs := [3]) (by kernel_rfl) (by simp) ?_
  refine AllReadyH.cons (o := _) rfl (fun K hK => ?_) AllReadyH.nil
  rw [if_pos (by rfl)]
  refine wp_put_rc (s' := s9) (I' := nilV) (T' := nilV) _ (.tmp 2) (.tmp 64) rfl rfl rfl H.r rfl rfl ?_
  intro w8 P8
  refine hK.out _ _ (H.c.off P8.off (fun e => H.n1 e.symm)).row (fun hHeld => ?_)
  clear hK K
  try simp only [Act.put, List.setIfInBounds_toArray, List.set_cons_zero, List.set_cons_succ, List.getElem_toArray, List.getElem_cons_succ, List.getElem_cons_zero]
  refine wpAnyH_take (i := 4) (oi := _) (v := ?_) rfl (by kernel_rfl) (by kernel_rfl) (by kernel_rfl) (fun _ _ _ h => h) (Or.inl ⟨by rfl, ?_⟩) hHeld ?_
  rotate_left
  · (intro w hSw; (try dsimp only at hSw); go_simp; (try with_reducible rfl))
  try simp only [Act.put, List.setIfInBounds_toArray, List.set_cons_zero, List.set_cons_succ, List.getElem_toArray, List.getElem_cons_succ, List.getElem_cons_zero]
  refine wpAnyH_done (by kernel_rfl) ?_ _
  go_wp2
  refine bodyPost_ret (results_rc2 rfl _ _ rfl P8.rc) rfl ?_
  rw [← hq9.out, ← hs9.out]
  refine ⟨⟨_, rfl, ?_⟩, H.bel.trans (P8.below H.l2 H.bel.size)⟩
  exact ⟨_, _, rfl, Fr.nil _ _, Fr.nil _ _⟩
set_option maxHeartbeats 2000000 in
theorem read_5 (ht : t.size ≤ 140737488351232) (hK : nN (t, 0) 1 = K) (hq : sN (t, 0) 1 = q) (hk : K = 5) : Calls Tryz.prog 95 #[.string t] w fun e w' => (∃ v, e = .returned (.tuple #[v, .int .i64 (Pk.rdEnd ((rdChg K {kR K with tx := nN q 6, pv := nN (sN q 6) 6} (sN (sN q 6) 6)).2).1 ((rdChg K {kR K with tx := nN q 6, pv := nN (sN q 6) 6} (sN (sN q 6) 6)).2).2).2]) ∧ RecF w' v ⟨(rdChg K {kR K with tx := nN q 6, pv := nN (sN q 6) 6} (sN (sN q 6) 6)).1, [], []⟩ w.heap.size) ∧ Below w.heap.size w w' := by
  have e1 : (K == 1) = false := by rw [hk]; rfl
  have e2 : (K == 2) = false := by rw [hk]; rfl
  have e3 : (K == 3) = false := by rw [hk]; rfl
  have e4 : (K == 4) = false := by rw [hk]; rfl
  have e5 : (K == 5) = true := by rw [hk]; rfl
  have ha : Hid (K = actOf {kR K with tx := nN q 6, pv := nN (sN q 6) 6}) := (by simp [actOf, kR, zS, hk] : K = actOf {kR K with tx := nN q 6, pv := nN (sN q 6) 6})
  clear hk
  go_enter Tryz.func95, Tryz.ntmps95
  go_wp2_with (first
    | (have := N1; refine wpList_new_rc _ rfl rfl ?_; intro w2 b4 N2)
    | (refine wpList_new_rc _ rfl rfl ?_; intro w1 b2 N1)
    | (go_at_call 69; refine (Sm.Read_any _ _).mono ?_; rintro e w3 ⟨rfl, hr, hb⟩; have H0 := RaS.start N1 N2 ht hb hr rfl; clear N1 N2 hr hb this; generalize w2.heap.size = b5 at *)
    | (go_at_call 70; refine (H0.num0 _ hK hq).mono ?_; clear H0; rintro e w4 ⟨rfl, H⟩)
    | (refine wpList_at (Op.store 3 (.tmp 10) (.tmp 9)) rfl ?_; refine wpList_fput (s' := kR K) (I' := nilV) (T' := nilV) _ rfl 3 (.tmp 10) (.tmp 9) rfl rfl rfl H.c (by omega) rfl (by kernel_rfl) rfl ?_; intro w5 P5; have H1 := H.put P5; clear H P5; have H := H1; clear H1; have k0 := H.c.c0; dsimp only [kR] at k0)
    | (go_at_call 114; refine H.places2.mono ?_; clear H; rintro e w6 ⟨rfl, H⟩)
    | (go_at_call 115; refine (H.change _ ha.out).mono ?_; clear H; rintro e w7 ⟨rfl, H⟩))
  obtain ⟨wz, s9, q9, hwz, hs9, hq9, H9⟩ : ∃ wz s9 q9, wz = _ ∧ Hid (s9 = _) ∧ Hid (q9 = _) ∧ RaS w wz b2 b4 b5 s9 nilV nilV q9 := ⟨_, _, _, rfl, rfl, rfl, H⟩
  subst hwz
  clear H
  have HD := H9.below ((Below.refl _ _).drew)
  clear H9
  have H := HD
  clear HD
  refine wp_region_held_drew (S := fun W : World => W.cell? ⟨b4, 0, none⟩ = some (.int .i64 s9.kd) ∧ W.cell? ⟨b4, 1, none⟩ = some (.int .i64 s9.tx) ∧ W.cell? ⟨b4, 2, none⟩ = some (.int .i64 s9.pv) ∧ W.cell? ⟨b4, 3, none⟩ = some (.int .i64 s9.pg) ∧ W.cell? ⟨b4, 4, none⟩ = some (.int .i64 s9.ac) ∧ W.cell? ⟨b4, 5, none⟩ = some (.string s9.ky) ∧ W.cell? ⟨b4, 6, none⟩ = some (.string s9.ol) ∧ W.cell? ⟨b4, 7, none⟩ = some (.string s9.nw) ∧ W.cell? ⟨b4, 8, none⟩ = some (.int .i64 s9.nx) ∧ W.cell? ⟨b4, 9, none⟩ = some nilV ∧ W.cell? ⟨b4, 10, none⟩ = some nilV ∧ W.cell? ⟨b4, 11, none⟩ = some (.int .i64 s9.ep) ∧ W.cell? ⟨b4, 12, none⟩ = some (.int .i64 s9.nd)) (by kernel_rfl) H.c.row (fun hHeld => ?_)
  refine wpAnyH_take (i := 0) (oi := _) (v := ?_) rfl (by kernel_rfl) (by kernel_rfl) (by kernel_rfl) (fun _ _ _ h => h) (Or.inl ⟨by rfl, ?_⟩) hHeld ?_
  rotate_left
  · (intro w hSw; (try dsimp only at hSw); go_simp; (try with_reducible rfl))
  try simp only [Act.put, List.setIfInBounds_toArray, List.set_cons_zero, List.set_cons_succ, List.getElem_toArray, List.getElem_cons_succ, List.getElem_cons_zero]
  refine wpAnyH_take (i := 1) (oi := _) (v := ?_) rfl (by kernel_rfl) (by kernel_rfl) (by kernel_rfl) (fun _ _ _ h => h) (Or.inl ⟨by rfl, ?_⟩) hHeld ?_
  rotate_left
  · (intro w hSw; (try dsimp only at hSw); go_simp; (try with_reducible rfl))
  try simp only [Act.put, List.setIfInBounds_toArray, List.set_cons_zero, List.set_cons_succ, List.getElem_toArray, List.getElem_cons_succ, List.getElem_cons_zero]
  refine wpAnyH_ready (rs := [2]) (by kernel_rfl) (by simp) ?_
  refine AllReadyH.cons (o := _) rfl (fun K hK => ?_) AllReadyH.nil
  go_simp
  refine H.fin.mono ?_
  clear H
  rintro e w7 ⟨rfl, H⟩
  go_wp2_with fail
  refine hK.out _ _ H.c.row (fun hHeld => ?_)
  clear hK K
  try simp only [Act.put, List.setIfInBounds_toArray, List.set_cons_zero, List.set_cons_succ, List.getElem_toArray, List.getElem_cons_succ, List.getElem_cons_zero]
  refine wpAnyH_ready (rs := [3]) (by kernel_rfl) (by simp) ?_
  refine AllReadyH.cons (o := _) rfl (fun K hK => ?_) AllReadyH.nil
  rw [if_pos (by rfl)]
  refine wp_put_rc (s' := s9) (I' := nilV) (T' := nilV) _ (.tmp 2) (.tmp 64) rfl rfl rfl H.r rfl rfl ?_
  intro w8 P8
  refine hK.out _ _ (H.c.off P8.off (fun e => H.n1 e.symm)).row (fun hHeld => ?_)
  clear hK K
  try simp only [Act.put, List.setIfInBounds_toArray, List.set_cons_zero, List.set_cons_succ, List.getElem_toArray, List.getElem_cons_succ, List.getElem_cons_zero]
  refine wpAnyH_take (i := 4) (oi := _) (v := ?_) rfl (by kernel_rfl) (by kernel_rfl) (by kernel_rfl) (fun _ _ _ h => h) (Or.inl ⟨by rfl, ?_⟩) hHeld ?_
  rotate_left
  · (intro w hSw; (try dsimp only at hSw); go_simp; (try with_reducible rfl))
  try simp only [Act.put, List.setIfInBounds_toArray, List.set_cons_zero, List.set_cons_succ, List.getElem_toArray, List.getElem_cons_succ, List.getElem_cons_zero]
  refine wpAnyH_done (by kernel_rfl) ?_ _
  go_wp2
  refine bodyPost_ret (results_rc2 rfl _ _ rfl P8.rc) rfl ?_
  rw [← hq9.out, ← hs9.out]
  refine ⟨⟨_, rfl, ?_⟩, H.bel.trans (P8.below H.l2 H.bel.size)⟩
  exact ⟨_, _, rfl, Fr.nil _ _, Fr.nil _ _⟩
set_option maxHeartbeats 2000000 in
theorem read_6 (ht : t.size ≤ 140737488351232) (hK : nN (t, 0) 1 = K) (hq : sN (t, 0) 1 = q) (hk : K = 6) : Calls Tryz.prog 95 #[.string t] w fun e w' => (∃ v, e = .returned (.tuple #[v, .int .i64 (Pk.rdEnd ((rdChg (nN (sN (sN (sN q 6) 6) 6) 1) {kR K with tx := nN q 6, pv := nN (sN q 6) 6, nx := nN (sN (sN q 6) 6) 6, ac := nN (sN (sN (sN q 6) 6) 6) 1} (sN (sN (sN (sN q 6) 6) 6) 1)).2).1 ((rdChg (nN (sN (sN (sN q 6) 6) 6) 1) {kR K with tx := nN q 6, pv := nN (sN q 6) 6, nx := nN (sN (sN q 6) 6) 6, ac := nN (sN (sN (sN q 6) 6) 6) 1} (sN (sN (sN (sN q 6) 6) 6) 1)).2).2).2]) ∧ RecF w' v ⟨(rdChg (nN (sN (sN (sN q 6) 6) 6) 1) {kR K with tx := nN q 6, pv := nN (sN q 6) 6, nx := nN (sN (sN q 6) 6) 6, ac := nN (sN (sN (sN q 6) 6) 6) 1} (sN (sN (sN (sN q 6) 6) 6) 1)).1, [], []⟩ w.heap.size) ∧ Below w.heap.size w w' := by
  have e1 : (K == 1) = false := by rw [hk]; rfl
  have e2 : (K == 2) = false := by rw [hk]; rfl
  have e3 : (K == 3) = false := by rw [hk]; rfl
  have e4 : (K == 4) = false := by rw [hk]; rfl
  have e5 : (K == 5) = false := by rw [hk]; rfl
  have e6 : (K == 6) = true := by rw [hk]; rfl
  have ha : Hid (nN (sN (sN (sN q 6) 6) 6) 1 = actOf {kR K with tx := nN q 6, pv := nN (sN q 6) 6, nx := nN (sN (sN q 6) 6) 6, ac := nN (sN (sN (sN q 6) 6) 6) 1}) := (by simp [actOf, kR, zS, hk] : nN (sN (sN (sN q 6) 6) 6) 1 = actOf {kR K with tx := nN q 6, pv := nN (sN q 6) 6, nx := nN (sN (sN q 6) 6) 6, ac := nN (sN (sN (sN q 6) 6) 6) 1})
  clear hk
  go_enter Tryz.func95, Tryz.ntmps95
  go_wp2_with (first
    | (have := N1; refine wpList_new_rc _ rfl rfl ?_; intro w2 b4 N2)
    | (refine wpList_new_rc _ rfl rfl ?_; intro w1 b2 N1)
    | (go_at_call 69; refine (Sm.Read_any _ _).mono ?_; rintro e w3 ⟨rfl, hr, hb⟩; have H0 := RaS.start N1 N2 ht hb hr rfl; clear N1 N2 hr hb this; generalize w2.heap.size = b5 at *)
    | (go_at_call 70; refine (H0.num0 _ hK hq).mono ?_; clear H0; rintro e w4 ⟨rfl, H⟩)
    | (refine wpList_at (Op.store 3 (.tmp 10) (.tmp 9)) rfl ?_; refine wpList_fput (s' := kR K) (I' := nilV) (T' := nilV) _ rfl 3 (.tmp 10) (.tmp 9) rfl rfl rfl H.c (by omega) rfl (by kernel_rfl) rfl ?_; intro w5 P5; have H1 := H.put P5; clear H P5; have H := H1; clear H1; have k0 := H.c.c0; dsimp only [kR] at k0)
    | (go_at_call 114; refine H.places3.mono ?_; clear H; rintro e w6 ⟨rfl, H⟩)
    | (go_at_call 70; refine (H.num _).mono ?_; clear H; rintro e w6 ⟨rfl, H⟩)
    | (refine wpList_at (Op.store 3 (.tmp 40) (.tmp 39)) rfl ?_; refine wpList_fput (s' := {kR K with tx := nN q 6, pv := nN (sN q 6) 6, nx := nN (sN (sN q 6) 6) 6, ac := nN (sN (sN (sN q 6) 6) 6) 1}) (I' := nilV) (T' := nilV) _ rfl 3 (.tmp 40) (.tmp 39) rfl rfl rfl H.c (by omega) rfl (by kernel_rfl) rfl ?_; intro w5 P5; have H1 := H.put P5; clear H P5; have H := H1; clear H1)
    | (go_at_call 115; refine (H.change _ ha.out).mono ?_; clear H; rintro e w7 ⟨rfl, H⟩))
  obtain ⟨wz, s9, q9, hwz, hs9, hq9, H9⟩ : ∃ wz s9 q9, wz = _ ∧ Hid (s9 = _) ∧ Hid (q9 = _) ∧ RaS w wz b2 b4 b5 s9 nilV nilV q9 := ⟨_, _, _, rfl, rfl, rfl, H⟩
  subst hwz
  clear H
  have HD := H9.below ((Below.refl _ _).drew)
  clear H9
  have H := HD
  clear HD
  refine wp_region_held_drew (S := fun W : World => W.cell? ⟨b4, 0, none⟩ = some (.int .i64 s9.kd) ∧ W.cell? ⟨b4, 1, none⟩ = some (.int .i64 s9.tx) ∧ W.cell? ⟨b4, 2, none⟩ = some (.int .i64 s9.pv) ∧ W.cell? ⟨b4, 3, none⟩ = some (.int .i64 s9.pg) ∧ W.cell? ⟨b4, 4, none⟩ = some (.int .i64 s9.ac) ∧ W.cell? ⟨b4, 5, none⟩ = some (.string s9.ky) ∧ W.cell? ⟨b4, 6, none⟩ = some (.string s9.ol) ∧ W.cell? ⟨b4, 7, none⟩ = some (.string s9.nw) ∧ W.cell? ⟨b4, 8, none⟩ = some (.int .i64 s9.nx) ∧ W.cell? ⟨b4, 9, none⟩ = some nilV ∧ W.cell? ⟨b4, 10, none⟩ = some nilV ∧ W.cell? ⟨b4, 11, none⟩ = some (.int .i64 s9.ep) ∧ W.cell? ⟨b4, 12, none⟩ = some (.int .i64 s9.nd)) (by kernel_rfl) H.c.row (fun hHeld => ?_)
  refine wpAnyH_take (i := 0) (oi := _) (v := ?_) rfl (by kernel_rfl) (by kernel_rfl) (by kernel_rfl) (fun _ _ _ h => h) (Or.inl ⟨by rfl, ?_⟩) hHeld ?_
  rotate_left
  · (intro w hSw; (try dsimp only at hSw); go_simp; (try with_reducible rfl))
  try simp only [Act.put, List.setIfInBounds_toArray, List.set_cons_zero, List.set_cons_succ, List.getElem_toArray, List.getElem_cons_succ, List.getElem_cons_zero]
  refine wpAnyH_take (i := 1) (oi := _) (v := ?_) rfl (by kernel_rfl) (by kernel_rfl) (by kernel_rfl) (fun _ _ _ h => h) (Or.inl ⟨by rfl, ?_⟩) hHeld ?_
  rotate_left
  · (intro w hSw; (try dsimp only at hSw); go_simp; (try with_reducible rfl))
  try simp only [Act.put, List.setIfInBounds_toArray, List.set_cons_zero, List.set_cons_succ, List.getElem_toArray, List.getElem_cons_succ, List.getElem_cons_zero]
  refine wpAnyH_ready (rs := [2]) (by kernel_rfl) (by simp) ?_
  refine AllReadyH.cons (o := _) rfl (fun K hK => ?_) AllReadyH.nil
  go_simp
  refine H.fin.mono ?_
  clear H
  rintro e w7 ⟨rfl, H⟩
  go_wp2_with fail
  refine hK.out _ _ H.c.row (fun hHeld => ?_)
  clear hK K
  try simp only [Act.put, List.setIfInBounds_toArray, List.set_cons_zero, List.set_cons_succ, List.getElem_toArray, List.getElem_cons_succ, List.getElem_cons_zero]
  refine wpAnyH_ready (rs := [3]) (by kernel_rfl) (by simp) ?_
  refine AllReadyH.cons (o := _) rfl (fun K hK => ?_) AllReadyH.nil
  rw [if_pos (by rfl)]
  refine wp_put_rc (s' := s9) (I' := nilV) (T' := nilV) _ (.tmp 2) (.tmp 64) rfl rfl rfl H.r rfl rfl ?_
  intro w8 P8
  refine hK.out _ _ (H.c.off P8.off (fun e => H.n1 e.symm)).row (fun hHeld => ?_)
  clear hK K
  try simp only [Act.put, List.setIfInBounds_toArray, List.set_cons_zero, List.set_cons_succ, List.getElem_toArray, List.getElem_cons_succ, List.getElem_cons_zero]
  refine wpAnyH_take (i := 4) (oi := _) (v := ?_) rfl (by kernel_rfl) (by kernel_rfl) (by kernel_rfl) (fun _ _ _ h => h) (Or.inl ⟨by rfl, ?_⟩) hHeld ?_
  rotate_left
  · (intro w hSw; (try dsimp only at hSw); go_simp; (try with_reducible rfl))
  try simp only [Act.put, List.setIfInBounds_toArray, List.set_cons_zero, List.set_cons_succ, List.getElem_toArray, List.getElem_cons_succ, List.getElem_cons_zero]
  refine wpAnyH_done (by kernel_rfl) ?_ _
  go_wp2
  refine bodyPost_ret (results_rc2 rfl _ _ rfl P8.rc) rfl ?_
  rw [← hq9.out, ← hs9.out]
  refine ⟨⟨_, rfl, ?_⟩, H.bel.trans (P8.below H.l2 H.bel.size)⟩
  exact ⟨_, _, rfl, Fr.nil _ _, Fr.nil _ _⟩
set_option maxHeartbeats 2000000 in
theorem read_1 (ht : t.size ≤ 140737488351232) (hK : nN (t, 0) 1 = K) (hq : sN (t, 0) 1 = q) (hk : K = 1) : Calls Tryz.prog 95 #[.string t] w fun e w' => (∃ v, e = .returned (.tuple #[v, .int .i64 (Pk.rdEnd (rdImS (sN q 1) (nN q 1).toNat).1 (rdImS (sN q 1) (nN q 1).toNat).2).2]) ∧ RecF w' v ⟨kR K, rdImL (sN q 1) (nN q 1).toNat, []⟩ w.heap.size) ∧ Below w.heap.size w w' := by
  have e1 : (K == 1) = true := by rw [hk]; rfl
  clear hk
  go_enter Tryz.func95, Tryz.ntmps95
  go_wp2_with (first
    | (have := N1; refine wpList_new_rc _ rfl rfl ?_; intro w2 b4 N2)
    | (refine wpList_new_rc _ rfl rfl ?_; intro w1 b2 N1)
    | (go_at_call 69; refine (Sm.Read_any _ _).mono ?_; rintro e w3 ⟨rfl, hr, hb⟩; have H0 := RaS.start N1 N2 ht hb hr rfl; clear N1 N2 hr hb this; generalize w2.heap.size = b5 at *)
    | (go_at_call 70; refine (H0.num0 _ hK hq).mono ?_; clear H0; rintro e w4 ⟨rfl, H⟩)
    | (refine wpList_at (Op.store 3 (.tmp 10) (.tmp 9)) rfl ?_; refine wpList_fput (s' := kR K) (I' := nilV) (T' := nilV) _ rfl 3 (.tmp 10) (.tmp 9) rfl rfl rfl H.c (by omega) rfl (by kernel_rfl) rfl ?_; intro w5 P5; have H1 := H.put P5; clear H P5; have H := H1; clear H1; have k0 := H.c.c0; dsimp only [kR] at k0)
    | (have hzz := H.bel.size; have hl4 := H.c.lt; have hl2 := H.r.lt; have hl5 := H.rd.lt; go_at_call 113; refine (readImages_any H.rd).mono ?_; rintro e w6 ⟨⟨v9, rfl, F⟩, h6, o6⟩; have H1 := H.step h6 o6; clear H h6 o6; have H := H1; clear H1; have hv9 := F.slI.one)
    | (refine wpList_at (Op.store 48 (.tmp 18) (.tmp 17)) rfl ?_; refine wpList_fput (s' := kR K) (I' := v9) (T' := nilV) _ rfl 48 (.tmp 18) (.tmp 17) rfl rfl rfl H.c (by omega) hv9 (by kernel_rfl) rfl ?_; intro w5 P5; have F1 := F.off P5.off hl4; clear F; have F := F1; clear F1; have H1 := H.put P5; clear H P5; have H := H1; clear H1))
  obtain ⟨wz, s9, q9, hwz, hs9, hq9, H9⟩ : ∃ wz s9 q9, wz = _ ∧ Hid (s9 = _) ∧ Hid (q9 = _) ∧ RaS w wz b2 b4 b5 s9 v9 nilV q9 := ⟨_, _, _, rfl, rfl, rfl, H⟩
  subst hwz
  clear H
  have HD := H9.below ((Below.refl _ _).drew)
  clear H9
  have H := HD
  clear HD
  refine wp_region_held_drew (S := fun W : World => W.cell? ⟨b4, 0, none⟩ = some (.int .i64 s9.kd) ∧ W.cell? ⟨b4, 1, none⟩ = some (.int .i64 s9.tx) ∧ W.cell? ⟨b4, 2, none⟩ = some (.int .i64 s9.pv) ∧ W.cell? ⟨b4, 3, none⟩ = some (.int .i64 s9.pg) ∧ W.cell? ⟨b4, 4, none⟩ = some (.int .i64 s9.ac) ∧ W.cell? ⟨b4, 5, none⟩ = some (.string s9.ky) ∧ W.cell? ⟨b4, 6, none⟩ = some (.string s9.ol) ∧ W.cell? ⟨b4, 7, none⟩ = some (.string s9.nw) ∧ W.cell? ⟨b4, 8, none⟩ = some (.int .i64 s9.nx) ∧ W.cell? ⟨b4, 9, none⟩ = some v9 ∧ W.cell? ⟨b4, 10, none⟩ = some nilV ∧ W.cell? ⟨b4, 11, none⟩ = some (.int .i64 s9.ep) ∧ W.cell? ⟨b4, 12, none⟩ = some (.int .i64 s9.nd)) (by kernel_rfl) H.c.row (fun hHeld => ?_)
  refine wpAnyH_take (i := 0) (oi := _) (v := ?_) rfl (by kernel_rfl) (by kernel_rfl) (by kernel_rfl) (fun _ _ _ h => h) (Or.inl ⟨by rfl, ?_⟩) hHeld ?_
  rotate_left
  · (intro w hSw; (try dsimp only at hSw); go_simp; (try with_reducible rfl))
  try simp only [Act.put, List.setIfInBounds_toArray, List.set_cons_zero, List.set_cons_succ, List.getElem_toArray, List.getElem_cons_succ, List.getElem_cons_zero]
  refine wpAnyH_take (i := 1) (oi := _) (v := ?_) rfl (by kernel_rfl) (by kernel_rfl) (by kernel_rfl) (fun _ _ _ h => h) (Or.inl ⟨by rfl, ?_⟩) hHeld ?_
  rotate_left
  · (intro w hSw; (try dsimp only at hSw); go_simp; (try with_reducible rfl))
  try simp only [Act.put, List.setIfInBounds_toArray, List.set_cons_zero, List.set_cons_succ, List.getElem_toArray, List.getElem_cons_succ, List.getElem_cons_zero]
  refine wpAnyH_ready (rs := [2]) (by kernel_rfl) (by simp) ?_
  refine AllReadyH.cons (o := _) rfl (fun K hK => ?_) AllReadyH.nil
  go_simp
  refine H.fin'.mono ?_
  clear H
  rintro e w7 ⟨rfl, H, o7⟩
  have F8 := (F.below ((Below.refl _ _).drew)).off o7 hl5
  go_wp2_with fail
  refine hK.out _ _ H.c.row (fun hHeld => ?_)
  clear hK K
  try simp only [Act.put, List.setIfInBounds_toArray, List.set_cons_zero, List.set_cons_succ, List.getElem_toArray, List.getElem_cons_succ, List.getElem_cons_zero]
  refine wpAnyH_ready (rs := [3]) (by kernel_rfl) (by simp) ?_
  refine AllReadyH.cons (o := _) rfl (fun K hK => ?_) AllReadyH.nil
  rw [if_pos (by rfl)]
  refine wp_put_rc (s' := s9) (I' := v9) (T' := nilV) _ (.tmp 2) (.tmp 64) rfl rfl rfl H.r hv9 rfl ?_
  intro w8 P8
  have F9 := F8.off P8.off hl2
  refine hK.out _ _ (H.c.off P8.off (fun e => H.n1 e.symm)).row (fun hHeld => ?_)
  clear hK K
  try simp only [Act.put, List.setIfInBounds_toArray, List.set_cons_zero, List.set_cons_succ, List.getElem_toArray, List.getElem_cons_succ, List.getElem_cons_zero]
  refine wpAnyH_take (i := 4) (oi := _) (v := ?_) rfl (by kernel_rfl) (by kernel_rfl) (by kernel_rfl) (fun _ _ _ h => h) (Or.inl ⟨by rfl, ?_⟩) hHeld ?_
  rotate_left
  · (intro w hSw; (try dsimp only at hSw); go_simp; (try with_reducible rfl))
  try simp only [Act.put, List.setIfInBounds_toArray, List.set_cons_zero, List.set_cons_succ, List.getElem_toArray, List.getElem_cons_succ, List.getElem_cons_zero]
  refine wpAnyH_done (by kernel_rfl) ?_ _
  go_wp2
  refine bodyPost_ret (results_rc2 rfl _ _ rfl P8.rc) rfl ?_
  rw [← hq9.out, ← hs9.out]
  refine ⟨⟨_, rfl, ?_⟩, H.bel.trans (P8.below H.l2 H.bel.size)⟩
  exact ⟨_, _, rfl, F9.mono hzz, Fr.nil _ _⟩
set_option maxHeartbeats 2000000 in
theorem read_2 (ht : t.size ≤ 140737488351232) (hK : nN (t, 0) 1 = K) (hq : sN (t, 0) 1 = q) (hk : K = 2) : Calls Tryz.prog 95 #[.string t] w fun e w' => (∃ v, e = .returned (.tuple #[v, .int .i64 (Pk.rdEnd (rdImS (sN q 1) (nN q 1).toNat).1 (rdImS (sN q 1) (nN q 1).toNat).2).2]) ∧ RecF w' v ⟨kR K, rdImL (sN q 1) (nN q 1).toNat, []⟩ w.heap.size) ∧ Below w.heap.size w w' := by
  have e1 : (K == 1) = false := by rw [hk]; rfl
  have e2 : (K == 2) = true := by rw [hk]; rfl
  clear hk
  go_enter Tryz.func95, Tryz.ntmps95
  go_wp2_with (first
    | (have := N1; refine wpList_new_rc _ rfl rfl ?_; intro w2 b4 N2)
    | (refine wpList_new_rc _ rfl rfl ?_; intro w1 b2 N1)
    | (go_at_call 69; refine (Sm.Read_any _ _).mono ?_; rintro e w3 ⟨rfl, hr, hb⟩; have H0 := RaS.start N1 N2 ht hb hr rfl; clear N1 N2 hr hb this; generalize w2.heap.size = b5 at *)
    | (go_at_call 70; refine (H0.num0 _ hK hq).mono ?_; clear H0; rintro e w4 ⟨rfl, H⟩)
    | (refine wpList_at (Op.store 3 (.tmp 10) (.tmp 9)) rfl ?_; refine wpList_fput (s' := kR K) (I' := nilV) (T' := nilV) _ rfl 3 (.tmp 10) (.tmp 9) rfl rfl rfl H.c (by omega) rfl (by kernel_rfl) rfl ?_; intro w5 P5; have H1 := H.put P5; clear H P5; have H := H1; clear H1; have k0 := H.c.c0; dsimp only [kR] at k0)
    | (have hzz := H.bel.size; have hl4 := H.c.lt; have hl2 := H.r.lt; have hl5 := H.rd.lt; go_at_call 113; refine (readImages_any H.rd).mono ?_; rintro e w6 ⟨⟨v9, rfl, F⟩, h6, o6⟩; have H1 := H.step h6 o6; clear H h6 o6; have H := H1; clear H1; have hv9 := F.slI.one)
    | (refine wpList_at (Op.store 48 (.tmp 18) (.tmp 17)) rfl ?_; refine wpList_fput (s' := kR K) (I' := v9) (T' := nilV) _ rfl 48 (.tmp 18) (.tmp 17) rfl rfl rfl H.c (by omega) hv9 (by kernel_rfl) rfl ?_; intro w5 P5; have F1 := F.off P5.off hl4; clear F; have F := F1; clear F1; have H1 := H.put P5; clear H P5; have H := H1; clear H1))
  obtain ⟨wz, s9, q9, hwz, hs9, hq9, H9⟩ : ∃ wz s9 q9, wz = _ ∧ Hid (s9 = _) ∧ Hid (q9 = _) ∧ RaS w wz b2 b4 b5 s9 v9 nilV q9 := ⟨_, _, _, rfl, rfl, rfl, H⟩
  subst hwz
  clear H
  have HD := H9.below ((Below.refl _ _).drew)
  clear H9
  have H := HD
  clear HD
  refine wp_region_held_drew (S := fun W : World => W.cell? ⟨b4, 0, none⟩ = some (.int .i64 s9.kd) ∧ W.cell? ⟨b4, 1, none⟩ = some (.int .i64 s9.tx) ∧ W.cell? ⟨b4, 2, none⟩ = some (.int .i64 s9.pv) ∧ W.cell? ⟨b4, 3, none⟩ = some (.int .i64 s9.pg) ∧ W.cell? ⟨b4, 4, none⟩ = some (.int .i64 s9.ac) ∧ W.cell? ⟨b4, 5, none⟩ = some (.string s9.ky) ∧ W.cell? ⟨b4, 6, none⟩ = some (.string s9.ol) ∧ W.cell? ⟨b4, 7, none⟩ = some (.string s9.nw) ∧ W.cell? ⟨b4, 8, none⟩ = some (.int .i64 s9.nx) ∧ W.cell? ⟨b4, 9, none⟩ = some v9 ∧ W.cell? ⟨b4, 10, none⟩ = some nilV ∧ W.cell? ⟨b4, 11, none⟩ = some (.int .i64 s9.ep) ∧ W.cell? ⟨b4, 12, none⟩ = some (.int .i64 s9.nd)) (by kernel_rfl) H.c.row (fun hHeld => ?_)
  refine wpAnyH_take (i := 0) (oi := _) (v := ?_) rfl (by kernel_rfl) (by kernel_rfl) (by kernel_rfl) (fun _ _ _ h => h) (Or.inl ⟨by rfl, ?_⟩) hHeld ?_
  rotate_left
  · (intro w hSw; (try dsimp only at hSw); go_simp; (try with_reducible rfl))
  try simp only [Act.put, List.setIfInBounds_toArray, List.set_cons_zero, List.set_cons_succ, List.getElem_toArray, List.getElem_cons_succ, List.getElem_cons_zero]
  refine wpAnyH_take (i := 1) (oi := _) (v := ?_) rfl (by kernel_rfl) (by kernel_rfl) (by kernel_rfl) (fun _ _ _ h => h) (Or.inl ⟨by rfl, ?_⟩) hHeld ?_
  rotate_left
  · (intro w hSw; (try dsimp only at hSw); go_simp; (try with_reducible rfl))
  try simp only [Act.put, List.setIfInBounds_toArray, List.set_cons_zero, List.set_cons_succ, List.getElem_toArray, List.getElem_cons_succ, List.getElem_cons_zero]
  refine wpAnyH_ready (rs := [2]) (by kernel_rfl) (by simp) ?_
  refine AllReadyH.cons (o := _) rfl (fun K hK => ?_) AllReadyH.nil
  go_simp
  refine H.fin'.mono ?_
  clear H
  rintro e w7 ⟨rfl, H, o7⟩
  have F8 := (F.below ((Below.refl _ _).drew)).off o7 hl5
  go_wp2_with fail
  refine hK.out _ _ H.c.row (fun hHeld => ?_)
  clear hK K
  try simp only [Act.put, List.setIfInBounds_toArray, List.set_cons_zero, List.set_cons_succ, List.getElem_toArray, List.getElem_cons_succ, List.getElem_cons_zero]
  refine wpAnyH_ready (rs := [3]) (by kernel_rfl) (by simp) ?_
  refine AllReadyH.cons (o := _) rfl (fun K hK => ?_) AllReadyH.nil
  rw [if_pos (by rfl)]
  refine wp_put_rc (s' := s9) (I' := v9) (T' := nilV) _ (.tmp 2) (.tmp 64) rfl rfl rfl H.r hv9 rfl ?_
  intro w8 P8
  have F9 := F8.off P8.off hl2
  refine hK.out _ _ (H.c.off P8.off (fun e => H.n1 e.symm)).row (fun hHeld => ?_)
  clear hK K
  try simp only [Act.put, List.setIfInBounds_toArray, List.set_cons_zero, List.set_cons_succ, List.getElem_toArray, List.getElem_cons_succ, List.getElem_cons_zero]
  refine wpAnyH_take (i := 4) (oi := _) (v := ?_) rfl (by kernel_rfl) (by kernel_rfl) (by kernel_rfl) (fun _ _ _ h => h) (Or.inl ⟨by rfl, ?_⟩) hHeld ?_
  rotate_left
  · (intro w hSw; (try dsimp only at hSw); go_simp; (try with_reducible rfl))
  try simp only [Act.put, List.setIfInBounds_toArray, List.set_cons_zero, List.set_cons_succ, List.getElem_toArray, List.getElem_cons_succ, List.getElem_cons_zero]
  refine wpAnyH_done (by kernel_rfl) ?_ _
  go_wp2
  refine bodyPost_ret (results_rc2 rfl _ _ rfl P8.rc) rfl ?_
  rw [← hq9.out, ← hs9.out]
  refine ⟨⟨_, rfl, ?_⟩, H.bel.trans (P8.below H.l2 H.bel.size)⟩
  exact ⟨_, _, rfl, F9.mono hzz, Fr.nil _ _⟩
set_option maxHeartbeats 2000000 in
theorem read_9 (ht : t.size ≤ 140737488351232) (hK : nN (t, 0) 1 = K) (hq : sN (t, 0) 1 = q) (hk : K = 9) : Calls Tryz.prog 95 #[.string t] w fun e w' => (∃ v, e = .returned (.tuple #[v, .int .i64 (Pk.rdEnd (rdTbS (sN q 1) (nN q 1).toNat).1 (rdTbS (sN q 1) (nN q 1).toNat).2).2]) ∧ RecF w' v ⟨kR K, [], rdTbL (sN q 1) (nN q 1).toNat⟩ w.heap.size) ∧ Below w.heap.size w w' := by
  have e1 : (K == 1) = false := by rw [hk]; rfl
  have e2 : (K == 2) = false := by rw [hk]; rfl
  have e3 : (K == 3) = false := by rw [hk]; rfl
  have e4 : (K == 4) = false := by rw [hk]; rfl
  have e5 : (K == 5) = false := by rw [hk]; rfl
  have e6 : (K == 6) = false := by rw [hk]; rfl
  have e7 : (K == 7) = false := by rw [hk]; rfl
  have e8 : (K == 8) = false := by rw [hk]; rfl
  have e9 : (K == 9) = true := by rw [hk]; rfl
  clear hk
  go_enter Tryz.func95, Tryz.ntmps95
  go_wp2_with (first
    | (have := N1; refine wpList_new_rc _ rfl rfl ?_; intro w2 b4 N2)
    | (refine wpList_new_rc _ rfl rfl ?_; intro w1 b2 N1)
    | (go_at_call 69; refine (Sm.Read_any _ _).mono ?_; rintro e w3 ⟨rfl, hr, hb⟩; have H0 := RaS.start N1 N2 ht hb hr rfl; clear N1 N2 hr hb this; generalize w2.heap.size = b5 at *)
    | (go_at_call 70; refine (H0.num0 _ hK hq).mono ?_; clear H0; rintro e w4 ⟨rfl, H⟩)
    | (refine wpList_at (Op.store 3 (.tmp 10) (.tmp 9)) rfl ?_; refine wpList_fput (s' := kR K) (I' := nilV) (T' := nilV) _ rfl 3 (.tmp 10) (.tmp 9) rfl rfl rfl H.c (by omega) rfl (by kernel_rfl) rfl ?_; intro w5 P5; have H1 := H.put P5; clear H P5; have H := H1; clear H1; have k0 := H.c.c0; dsimp only [kR] at k0)
    | (have hzz := H.bel.size; have hl4 := H.c.lt; have hl2 := H.r.lt; have hl5 := H.rd.lt; go_at_call 116; refine (readTable_any H.rd).mono ?_; rintro e w6 ⟨⟨v9, rfl, F⟩, h6, o6⟩; have H1 := H.step h6 o6; clear H h6 o6; have H := H1; clear H1; have hv9 := F.slT.one)
    | (refine wpList_at (Op.store 49 (.tmp 55) (.tmp 54)) rfl ?_; refine wpList_fput (s' := kR K) (I' := nilV) (T' := v9) _ rfl 49 (.tmp 55) (.tmp 54) rfl rfl rfl H.c (by omega) hv9 (by kernel_rfl) rfl ?_; intro w5 P5; have F1 := F.off P5.off hl4; clear F; have F := F1; clear F1; have H1 := H.put P5; clear H P5; have H := H1; clear H1))
  obtain ⟨wz, s9, q9, hwz, hs9, hq9, H9⟩ : ∃ wz s9 q9, wz = _ ∧ Hid (s9 = _) ∧ Hid (q9 = _) ∧ RaS w wz b2 b4 b5 s9 nilV v9 q9 := ⟨_, _, _, rfl, rfl, rfl, H⟩
  subst hwz
  clear H
  have HD := H9.below ((Below.refl _ _).drew)
  clear H9
  have H := HD
  clear HD
  refine wp_region_held_drew (S := fun W : World => W.cell? ⟨b4, 0, none⟩ = some (.int .i64 s9.kd) ∧ W.cell? ⟨b4, 1, none⟩ = some (.int .i64 s9.tx) ∧ W.cell? ⟨b4, 2, none⟩ = some (.int .i64 s9.pv) ∧ W.cell? ⟨b4, 3, none⟩ = some (.int .i64 s9.pg) ∧ W.cell? ⟨b4, 4, none⟩ = some (.int .i64 s9.ac) ∧ W.cell? ⟨b4, 5, none⟩ = some (.string s9.ky) ∧ W.cell? ⟨b4, 6, none⟩ = some (.string s9.ol) ∧ W.cell? ⟨b4, 7, none⟩ = some (.string s9.nw) ∧ W.cell? ⟨b4, 8, none⟩ = some (.int .i64 s9.nx) ∧ W.cell? ⟨b4, 9, none⟩ = some nilV ∧ W.cell? ⟨b4, 10, none⟩ = some v9 ∧ W.cell? ⟨b4, 11, none⟩ = some (.int .i64 s9.ep) ∧ W.cell? ⟨b4, 12, none⟩ = some (.int .i64 s9.nd)) (by kernel_rfl) H.c.row (fun hHeld => ?_)
  refine wpAnyH_take (i := 0) (oi := _) (v := ?_) rfl (by kernel_rfl) (by kernel_rfl) (by kernel_rfl) (fun _ _ _ h => h) (Or.inl ⟨by rfl, ?_⟩) hHeld ?_
  rotate_left
  · (intro w hSw; (try dsimp only at hSw); go_simp; (try with_reducible rfl))
  try simp only [Act.put, List.setIfInBounds_toArray, List.set_cons_zero, List.set_cons_succ, List.getElem_toArray, List.getElem_cons_succ, List.getElem_cons_zero]
  refine wpAnyH_take (i := 1) (oi := _) (v := ?_) rfl (by kernel_rfl) (by kernel_rfl) (by kernel_rfl) (fun _ _ _ h => h) (Or.inl ⟨by rfl, ?_⟩) hHeld ?_
  rotate_left
  · (intro w hSw; (try dsimp only at hSw); go_simp; (try with_reducible rfl))
  try simp only [Act.put, List.setIfInBounds_toArray, List.set_cons_zero, List.set_cons_succ, List.getElem_toArray, List.getElem_cons_succ, List.getElem_cons_zero]
  refine wpAnyH_ready (rs := [2]) (by kernel_rfl) (by simp) ?_
  refine AllReadyH.cons (o := _) rfl (fun K hK => ?_) AllReadyH.nil
  go_simp
  refine H.fin'.mono ?_
  clear H
  rintro e w7 ⟨rfl, H, o7⟩
  have F8 := (F.below ((Below.refl _ _).drew)).off o7 hl5
  go_wp2_with fail
  refine hK.out _ _ H.c.row (fun hHeld => ?_)
  clear hK K
  try simp only [Act.put, List.setIfInBounds_toArray, List.set_cons_zero, List.set_cons_succ, List.getElem_toArray, List.getElem_cons_succ, List.getElem_cons_zero]
  refine wpAnyH_ready (rs := [3]) (by kernel_rfl) (by simp) ?_
  refine AllReadyH.cons (o := _) rfl (fun K hK => ?_) AllReadyH.nil
  rw [if_pos (by rfl)]
  refine wp_put_rc (s' := s9) (I' := nilV) (T' := v9) _ (.tmp 2) (.tmp 64) rfl rfl rfl H.r rfl hv9 ?_
  intro w8 P8
  have F9 := F8.off P8.off hl2
  refine hK.out _ _ (H.c.off P8.off (fun e => H.n1 e.symm)).row (fun hHeld => ?_)
  clear hK K
  try simp only [Act.put, List.setIfInBounds_toArray, List.set_cons_zero, List.set_cons_succ, List.getElem_toArray, List.getElem_cons_succ, List.getElem_cons_zero]
  refine wpAnyH_take (i := 4) (oi := _) (v := ?_) rfl (by kernel_rfl) (by kernel_rfl) (by kernel_rfl) (fun _ _ _ h => h) (Or.inl ⟨by rfl, ?_⟩) hHeld ?_
  rotate_left
  · (intro w hSw; (try dsimp only at hSw); go_simp; (try with_reducible rfl))
  try simp only [Act.put, List.setIfInBounds_toArray, List.set_cons_zero, List.set_cons_succ, List.getElem_toArray, List.getElem_cons_succ, List.getElem_cons_zero]
  refine wpAnyH_done (by kernel_rfl) ?_ _
  go_wp2
  refine bodyPost_ret (results_rc2 rfl _ _ rfl P8.rc) rfl ?_
  rw [← hq9.out, ← hs9.out]
  refine ⟨⟨_, rfl, ?_⟩, H.bel.trans (P8.below H.l2 H.bel.size)⟩
  exact ⟨_, _, rfl, Fr.nil _ _, F9.mono hzz⟩
end
end Go.Proofs.YtgodjnbbocnckaaGreat
