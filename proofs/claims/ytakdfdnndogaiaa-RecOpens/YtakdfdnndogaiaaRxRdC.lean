/- The program's read: readChange, readImages, readTable. -/
import Derived.Test.YtakdfdnndogaiaaRxRd
namespace Go.Proofs.Ytakdfdnndogaiaa
open Go.RowKit
set_option linter.unusedVariables false
set_option linter.unusedSimpArgs false
set_option maxRecDepth 100000

/-- A reader in block b beside a record in block b0. -/
structure RcS (w wx : World) (b b0 : Nat) (s : Sc) (I T : Value) (q : Lf) : Prop where
  rd : RdS wx b q
  rc : RcAt wx b0 s I T
  off : Off2 b b0 w wx
  ne : b ≠ b0
section
variable {w wx wq : World} {b b0 : Nat} {s s' : Sc} {I T I' T' : Value} {q : Lf}
theorem RcS.num (h : RcS w wx b b0 s I T q) (k : Int) : Calls Try.prog 43 #[.pointer (some ⟨b, 0, none⟩), .int .i64 k] wx fun r w' => r = .returned (.int .i64 (nN q k)) ∧ RcS w w' b b0 s I T (sN q k) :=
  (h.rd.num k).mono fun e w' ⟨he, h1, o1⟩ => ⟨he, ⟨h1, h.rc.off o1 (fun e => h.ne e.symm), h.off.left o1, h.ne⟩⟩
theorem RcS.text (h : RcS w wx b b0 s I T q) (m : Int) : Calls Try.prog 65 #[.pointer (some ⟨b, 0, none⟩), .int .i64 m] wx fun r w' => r = .returned (.string (tT q m)) ∧ RcS w w' b b0 s I T (sT q m) :=
  (h.rd.text m).mono fun e w' ⟨he, h1, o1⟩ => ⟨he, ⟨h1, h.rc.off o1 (fun e => h.ne e.symm), h.off.left o1, h.ne⟩⟩
theorem RcS.put (h : RcS w wx b b0 s I T q) (P : PutR wx wq b0 s' I' T') : RcS w wq b b0 s' I' T' q := ⟨h.rd.off P.off h.ne, P.rc, h.off.right P.off, h.ne⟩
theorem RcS.below (h : RcS w wx b b0 s I T q) (hb : Below wx.heap.size wx wq) : RcS w wq b b0 s I T q := ⟨h.rd.below hb, h.rc.below hb, h.off.below hb, h.ne⟩
/-- The same, and the pointers to the values. -/
structure RvS (w wx : World) (b b0 g : Nat) (s : Sc) (I T : Value) (q : Lf) (P : Array Value) : Prop where
  r : RcS w wx b b0 s I T q
  pg : Blk wx g P 73
  n1 : g ≠ b
  n2 : g ≠ b0
theorem RvS.text {g : Nat} {P : Array Value} (h : RvS w wx b b0 g s I T q P) (m : Int) : Calls Try.prog 65 #[.pointer (some ⟨b, 0, none⟩), .int .i64 m] wx fun r w' => r = .returned (.string (tT q m)) ∧ RvS w w' b b0 g s I T (sT q m) P :=
  (h.r.rd.text m).mono fun e w' ⟨he, h1, o1⟩ => ⟨he, ⟨⟨h1, h.r.rc.off o1 (fun e => h.r.ne e.symm), h.r.off.left o1, h.r.ne⟩, h.pg.off o1 h.n1, h.n1, h.n2⟩⟩
theorem RvS.put {g : Nat} {P : Array Value} (h : RvS w wx b b0 g s I T q P) (Q : PutR wx wq b0 s' I' T') : RvS w wq b b0 g s' I' T' q P := ⟨h.r.put Q, h.pg.off Q.off h.n2, h.n1, h.n2⟩
end
section
variable {w : World} {b b0 : Nat} {s : Sc} {I T : Value} {q : Lf}
set_option maxHeartbeats 1000000 in
theorem readChange_3 (H : RcS w w b b0 s I T q) (ha : actOf s = 3) : Calls Try.prog 49 #[.pointer (some ⟨b, 0, none⟩), .pointer (some ⟨b0, 0, none⟩)] w fun e w' => e = .returned (.tuple #[]) ∧ RcS w w' b b0 (rcN s q) I T (sT (rq1 q) 32) := by
  have CV : Hid (∀ wr q', RcS w wr b b0 (rc1 s q) I T q' → Calls Try.prog 41 #[.pointer (some ⟨b0, 0, none⟩)] wr fun e w' => ∃ g, e = .returned (.slice (some ⟨g, 0, none⟩) 1 1) ∧ RvS w w' b b0 g (rc1 s q) I T q' #[.pointer (some ⟨b0, 7, none⟩)]) := fun wr q' R => by
    refine (values_3 R.rc ha).mono ?_
    rintro e w' ⟨he, hw'⟩
    refine ⟨wr.heap.size, he, ?_⟩
    subst hw'
    refine ⟨R.below ((Below.refl _ _).alloc (Nat.le_refl _) _), ⟨(MapKept.heap_alloc wr _).1⟩, by have := R.rd.lt; omega, by have := R.rc.lt; omega⟩
  go_enter Try.func49, Try.ntmps49
  go_wp2_with (first
    | (go_at_call 43; refine (H.num _).mono ?_; clear H; rintro e w1 ⟨rfl, H⟩)
    | (refine wpList_at (Op.store 3 (.tmp 10) (.tmp 8)) rfl ?_; refine wpList_fput (s' := {s with pg := nN q 2}) (I' := I) (T' := T) _ rfl 3 (.tmp 10) (.tmp 8) rfl rfl rfl H.rc (by omega) rfl (by kernel_rfl) rfl ?_; intro w2 P2; have H1 := H.put P2; clear H P2; have H := H1; clear H1)
    | (go_at_call 65; refine (H.text _).mono ?_; clear H; rintro e w3 ⟨rfl, H⟩; rw [show sT (sN q 2) 16 = rq1 q from rfl] at H)
    | (refine wpList_at (Op.store 9 (.tmp 15) (.tmp 13)) rfl ?_; refine wpList_fput (s' := (rc1 s q)) (I' := I) (T' := T) _ rfl 9 (.tmp 15) (.tmp 13) rfl rfl rfl H.rc (by omega) rfl (by kernel_rfl) ?_ ?_; exact rc1_set s q I T; intro w2 P2; have H1 := H.put P2; clear H P2; have H := H1; clear H1)
    | (go_at_call 41; refine (CV.out _ _ H).mono ?_; clear H; rintro e w4 ⟨g, rfl, LV⟩; have g0 := LV.pg.cell 0; simp only [List.getElem?_toArray, List.getElem?_cons_zero, List.getElem?_cons_succ] at g0))
  refine wp_loop_rounds 2 ?_
  rw [rounds_succ]
  go_wp2_with (first
    | (go_at_call 65; refine (LV.text _).mono ?_; clear LV; rintro e w4 ⟨rfl, LV⟩)
    | (refine wpList_at (Op.store 9 (.tmp 26) (.tmp 25)) rfl ?_; refine wpList_fput (s' := (rcN s q)) (I' := I) (T' := T) _ rfl 9 (.tmp 26) (.tmp 25) rfl rfl rfl LV.r.rc (by omega) rfl (by kernel_rfl) ?_ ?_; exact rcN_set s q I T; intro w5 P5; have L1 := LV.put P5; clear LV P5; have LV := L1; clear L1; have g0 := LV.pg.cell 0; simp only [List.getElem?_toArray, List.getElem?_cons_zero, List.getElem?_cons_succ] at g0))
  rw [rounds_succ]
  go_wp2
  go_end0
  exact ⟨rfl, LV.r⟩
set_option maxHeartbeats 1000000 in
theorem readChange_4 (H : RcS w w b b0 s I T q) (ha : actOf s = 4) : Calls Try.prog 49 #[.pointer (some ⟨b, 0, none⟩), .pointer (some ⟨b0, 0, none⟩)] w fun e w' => e = .returned (.tuple #[]) ∧ RcS w w' b b0 (rcO s q) I T (sT (rq1 q) 32) := by
  have CV : Hid (∀ wr q', RcS w wr b b0 (rc1 s q) I T q' → Calls Try.prog 41 #[.pointer (some ⟨b0, 0, none⟩)] wr fun e w' => ∃ g, e = .returned (.slice (some ⟨g, 0, none⟩) 1 1) ∧ RvS w w' b b0 g (rc1 s q) I T q' #[.pointer (some ⟨b0, 6, none⟩)]) := fun wr q' R => by
    refine (values_4 R.rc ha).mono ?_
    rintro e w' ⟨he, hw'⟩
    refine ⟨wr.heap.size, he, ?_⟩
    subst hw'
    refine ⟨R.below ((Below.refl _ _).alloc (Nat.le_refl _) _), ⟨(MapKept.heap_alloc wr _).1⟩, by have := R.rd.lt; omega, by have := R.rc.lt; omega⟩
  go_enter Try.func49, Try.ntmps49
  go_wp2_with (first
    | (go_at_call 43; refine (H.num _).mono ?_; clear H; rintro e w1 ⟨rfl, H⟩)
    | (refine wpList_at (Op.store 3 (.tmp 10) (.tmp 8)) rfl ?_; refine wpList_fput (s' := {s with pg := nN q 2}) (I' := I) (T' := T) _ rfl 3 (.tmp 10) (.tmp 8) rfl rfl rfl H.rc (by omega) rfl (by kernel_rfl) rfl ?_; intro w2 P2; have H1 := H.put P2; clear H P2; have H := H1; clear H1)
    | (go_at_call 65; refine (H.text _).mono ?_; clear H; rintro e w3 ⟨rfl, H⟩; rw [show sT (sN q 2) 16 = rq1 q from rfl] at H)
    | (refine wpList_at (Op.store 9 (.tmp 15) (.tmp 13)) rfl ?_; refine wpList_fput (s' := (rc1 s q)) (I' := I) (T' := T) _ rfl 9 (.tmp 15) (.tmp 13) rfl rfl rfl H.rc (by omega) rfl (by kernel_rfl) ?_ ?_; exact rc1_set s q I T; intro w2 P2; have H1 := H.put P2; clear H P2; have H := H1; clear H1)
    | (go_at_call 41; refine (CV.out _ _ H).mono ?_; clear H; rintro e w4 ⟨g, rfl, LV⟩; have g0 := LV.pg.cell 0; simp only [List.getElem?_toArray, List.getElem?_cons_zero, List.getElem?_cons_succ] at g0))
  refine wp_loop_rounds 2 ?_
  rw [rounds_succ]
  go_wp2_with (first
    | (go_at_call 65; refine (LV.text _).mono ?_; clear LV; rintro e w4 ⟨rfl, LV⟩)
    | (refine wpList_at (Op.store 9 (.tmp 26) (.tmp 25)) rfl ?_; refine wpList_fput (s' := (rcO s q)) (I' := I) (T' := T) _ rfl 9 (.tmp 26) (.tmp 25) rfl rfl rfl LV.r.rc (by omega) rfl (by kernel_rfl) ?_ ?_; exact rcO_set s q I T; intro w5 P5; have L1 := LV.put P5; clear LV P5; have LV := L1; clear L1; have g0 := LV.pg.cell 0; simp only [List.getElem?_toArray, List.getElem?_cons_zero, List.getElem?_cons_succ] at g0))
  rw [rounds_succ]
  go_wp2
  go_end0
  exact ⟨rfl, LV.r⟩
set_option maxHeartbeats 1000000 in
theorem readChange_o (H : RcS w w b b0 s I T q) (h3 : actOf s ≠ 3) (h4 : actOf s ≠ 4) : Calls Try.prog 49 #[.pointer (some ⟨b, 0, none⟩), .pointer (some ⟨b0, 0, none⟩)] w fun e w' => e = .returned (.tuple #[]) ∧ RcS w w' b b0 (rcB s q) I T (sT (sT (rq1 q) 32) 32) := by
  have CV : Hid (∀ wr q', RcS w wr b b0 (rc1 s q) I T q' → Calls Try.prog 41 #[.pointer (some ⟨b0, 0, none⟩)] wr fun e w' => ∃ g, e = .returned (.slice (some ⟨g, 0, none⟩) 2 2) ∧ RvS w w' b b0 g (rc1 s q) I T q' #[.pointer (some ⟨b0, 6, none⟩), .pointer (some ⟨b0, 7, none⟩)]) := fun wr q' R => by
    refine (values_o R.rc h3 h4).mono ?_
    rintro e w' ⟨he, hw'⟩
    refine ⟨wr.heap.size, he, ?_⟩
    subst hw'
    refine ⟨R.below (((Below.refl _ _).drew).alloc (Nat.le_refl _) _), ⟨(MapKept.heap_alloc wr.drew _).1⟩, by have := R.rd.lt; omega, by have := R.rc.lt; omega⟩
  go_enter Try.func49, Try.ntmps49
  go_wp2_with (first
    | (go_at_call 43; refine (H.num _).mono ?_; clear H; rintro e w1 ⟨rfl, H⟩)
    | (refine wpList_at (Op.store 3 (.tmp 10) (.tmp 8)) rfl ?_; refine wpList_fput (s' := {s with pg := nN q 2}) (I' := I) (T' := T) _ rfl 3 (.tmp 10) (.tmp 8) rfl rfl rfl H.rc (by omega) rfl (by kernel_rfl) rfl ?_; intro w2 P2; have H1 := H.put P2; clear H P2; have H := H1; clear H1)
    | (go_at_call 65; refine (H.text _).mono ?_; clear H; rintro e w3 ⟨rfl, H⟩; rw [show sT (sN q 2) 16 = rq1 q from rfl] at H)
    | (refine wpList_at (Op.store 9 (.tmp 15) (.tmp 13)) rfl ?_; refine wpList_fput (s' := (rc1 s q)) (I' := I) (T' := T) _ rfl 9 (.tmp 15) (.tmp 13) rfl rfl rfl H.rc (by omega) rfl (by kernel_rfl) ?_ ?_; exact rc1_set s q I T; intro w2 P2; have H1 := H.put P2; clear H P2; have H := H1; clear H1)
    | (go_at_call 41; refine (CV.out _ _ H).mono ?_; clear H; rintro e w4 ⟨g, rfl, LV⟩; have g0 := LV.pg.cell 0; simp only [List.getElem?_toArray, List.getElem?_cons_zero, List.getElem?_cons_succ] at g0; have g1 := LV.pg.cell 1; simp only [List.getElem?_toArray, List.getElem?_cons_zero, List.getElem?_cons_succ] at g1))
  refine wp_loop_rounds 3 ?_
  rw [rounds_succ]
  go_wp2_with (first
    | (go_at_call 65; refine (LV.text _).mono ?_; clear LV; rintro e w4 ⟨rfl, LV⟩)
    | (refine wpList_at (Op.store 9 (.tmp 26) (.tmp 25)) rfl ?_; refine wpList_fput (s' := (rcO s q)) (I' := I) (T' := T) _ rfl 9 (.tmp 26) (.tmp 25) rfl rfl rfl LV.r.rc (by omega) rfl (by kernel_rfl) ?_ ?_; exact rcO_set s q I T; intro w5 P5; have L1 := LV.put P5; clear LV P5; have LV := L1; clear L1; have g0 := LV.pg.cell 0; simp only [List.getElem?_toArray, List.getElem?_cons_zero, List.getElem?_cons_succ] at g0; have g1 := LV.pg.cell 1; simp only [List.getElem?_toArray, List.getElem?_cons_zero, List.getElem?_cons_succ] at g1))
  rw [rounds_succ]
  go_wp2_with (first
    | (go_at_call 65; refine (LV.text _).mono ?_; clear LV; rintro e w4 ⟨rfl, LV⟩)
    | (refine wpList_at (Op.store 9 (.tmp 26) (.tmp 25)) rfl ?_; refine wpList_fput (s' := (rcB s q)) (I' := I) (T' := T) _ rfl 9 (.tmp 26) (.tmp 25) rfl rfl rfl LV.r.rc (by omega) rfl (by kernel_rfl) ?_ ?_; exact rcB_set s q I T; intro w5 P5; have L1 := LV.put P5; clear LV P5; have LV := L1; clear L1; have g0 := LV.pg.cell 0; simp only [List.getElem?_toArray, List.getElem?_cons_zero, List.getElem?_cons_succ] at g0; have g1 := LV.pg.cell 1; simp only [List.getElem?_toArray, List.getElem?_cons_zero, List.getElem?_cons_succ] at g1))
  rw [rounds_succ]
  go_wp2
  go_end0
  exact ⟨rfl, LV.r⟩
theorem readChange_any (H : RcS w w b b0 s I T q) (act : Int) (ha : act = actOf s) : Calls Try.prog 49 #[.pointer (some ⟨b, 0, none⟩), .pointer (some ⟨b0, 0, none⟩)] w fun e w' => e = .returned (.tuple #[]) ∧ RcS w w' b b0 (rdChg act s q).1 I T (rdChg act s q).2 := by
  unfold rdChg
  rw [ha]
  by_cases h3 : actOf s = 3
  · rw [if_pos h3]
    exact readChange_3 H h3
  · by_cases h4 : actOf s = 4
    · rw [if_neg h3, if_pos h4]
      exact readChange_4 H h4
    · rw [if_neg h3, if_neg h4]
      exact readChange_o H h3 h4
end
theorem Own.off {el : TypeId} {B b : Nat} {w w' : World} {a : Option Addr} {cap : Nat} {xs : List P2} (h : Own el B w a cap xs) (o : Pk.Off b w w') (hb : b < B) : Own el B w' a cap xs :=
  ⟨h.row.kept (fun k hk => o.block k (h.row.lt k hk) (fun e => by have := h.fresh k hk; omega)), h.fresh⟩
theorem Pk.Off.bel {b : Nat} {w w1 w2 : World} (h : Pk.Off b w w1) (hb : Below w.heap.size w1 w2) : Pk.Off b w w2 := ⟨hb.os.trans h.os, hb.tape.trans h.tape, hb.output.trans h.output, Nat.le_trans h.size hb.size, fun k hk hkb => (hb.block k hk).trans (h.block k hk hkb)⟩
theorem RdS.bel {w w' : World} {b B : Nat} {q : Lf} (h : RdS w b q) (hb : Below B w w') (hB : b < B) : RdS w' b q := ⟨(hb.block b hB).trans h.rd, h.sz⟩
theorem cs_one (w : World) (p : P2) (t : TypeId) : Cs (w.alloc (.cells #[p.1, p.2] t)) (some ⟨w.heap.size, 0, none⟩) [p] := ⟨fun i hi => by
  have h0 : i = 0 := by simpa using hi
  subst h0
  exact ⟨w.heap.size, 0, rfl, by simp, Joins.cell_of_block (MapKept.heap_alloc w _).1 0, Joins.cell_of_block (MapKept.heap_alloc w _).1 1⟩⟩
set_option maxHeartbeats 1000000 in
theorem readImages_any {w : World} {b : Nat} {q : Lf} (h : RdS w b q) : Calls Try.prog 47 #[.pointer (some ⟨b, 0, none⟩)] w fun e w' => (∃ v, e = .returned v ∧ Fr w' v (encI (rdImL (sN q 1) (nN q 1).toNat)) w.heap.size) ∧ RdS w' b (rdImS (sN q 1) (nN q 1).toNat) ∧ Pk.Off b w w' := by
  obtain ⟨n, hn⟩ : ∃ n : Nat, nN q 1 = n := ⟨(nN q 1).toNat, by have := nN_nonneg q 1; omega⟩
  have hn2 : n ≤ 255 := by have := nN_one q; omega
  have hbl := h.lt
  have C0 : Hid (Calls Try.prog 43 #[.pointer (some ⟨b, 0, none⟩), .int .i64 1] w fun r w' => r = .returned (.int .i64 (n : Int)) ∧ RdS w' b (sN q 1) ∧ Pk.Off b w w') := by rw [← hn]; exact h.num 1
  have HN : Hid ((nN q 1).toNat = n) := (by rw [hn]; rfl : (nN q 1).toNat = n)
  rw [HN.out]
  generalize sN q 1 = q1 at *
  clear hn h HN
  go_enter Try.func47, Try.ntmps47
  go_wp2_with (go_at_call 43; refine C0.out.mono ?_; clear C0; rintro e w1 ⟨rfl, h1, o1⟩)
  go_loopw [3, 8] (fun pv ix wr => ∃ (j : Nat) (a : Option Addr) (c : Nat), j ≤ n ∧ ix = .int .i64 (j : Int) ∧ pv = .slice a j c ∧ Own 44 w.heap.size wr a c (encI (rdImL q1 j)) ∧ RdS wr b (rdImS q1 j) ∧ Pk.Off b w wr) (fun _ ix _ => n - (intOf ix).toNat)
  case atStart => exact ⟨0, none, 0, Nat.zero_le _, rfl, rfl, Own.nil _ _ _, h1, o1⟩
  case round =>
    clear h1 o1
    obtain ⟨j, a, c, hj, rfl, rfl, hO, hR, ho⟩ := hrel
    by_cases hlt : j < n
    · have hi2 : (j : Int) < (n : Int) := by omega
      have hln : j = (encI (rdImL q1 j)).length := by rw [encI_length, rdImL_length]
      have HS : Hid (encI (rdImL q1 (j + 1)) = encI (rdImL q1 j) ++ [(.int .i64 (rdImF q1 j).1, .string (rdImF q1 j).2)]) := (by rw [rdImL_succ, encI_append]; rfl : encI (rdImL q1 (j + 1)) = encI (rdImL q1 j) ++ [(.int .i64 (rdImF q1 j).1, .string (rdImF q1 j).2)])
      have HQ : Hid (rdImS q1 (j + 1) = sT (sN (rdImS q1 j) 2) 224) := (rfl : rdImS q1 (j + 1) = sT (sN (rdImS q1 j) 2) 224)
      have HF : Hid (rdImF q1 j = (nN (rdImS q1 j) 2, tT (sN (rdImS q1 j) 2) 224)) := (rfl : rdImF q1 j = (nN (rdImS q1 j) 2, tT (sN (rdImS q1 j) 2) 224))
      have HL : Hid (j = (encI (rdImL q1 j)).length) := hln
      clear hln
      generalize encI (rdImL q1 j) = xs at *
      generalize rdImS q1 j = qj at *
      have hzz := ho.size
      have hBz : w.heap.size ≤ wr.heap.size := hzz
      go_wp2_with (first
        | (go_at_call 43; refine (hR.num _).mono ?_; clear hR; rintro e w2 ⟨rfl, hR2, o2⟩; have hO2 := hO.off o2 hbl; have ho2 := ho.trans o2; clear hO ho o2)
        | (go_at_call 65; refine (hR2.text _).mono ?_; clear hR2; rintro e w3 ⟨rfl, hR3, o3⟩; have hO3 := hO2.off o3 hbl; have ho3 := ho2.trans o3; clear hO2 ho2 o3; have BA : Below w3.heap.size w3 (w3.alloc (.cells #[.int .i64 (nN qj 2), .string (tT (sN qj 2) 224)] 44)) := (Below.refl _ _).alloc (Nat.le_refl _) _; have hO4 := hO3.below BA; have hz4 : w.heap.size ≤ (w3.alloc (.cells #[.int .i64 (nN qj 2), .string (tT (sN qj 2) 224)] 44)).heap.size := Nat.le_trans ho3.size BA.size)
        | (refine wpList_append_own' two_im (B := w.heap.size) rfl (.tmp 14) (.tmp 18) rfl rfl HL.out hO4 hz4 rfl (m := 1) (news := [(.int .i64 (nN qj 2), .string (tT (sN qj 2) 224))]) rfl (fun e => by cases e) (cs_one w3 (.int .i64 (nN qj 2), .string (tT (sN qj 2) 224)) 44) (fun p hp => by simp at hp; subst hp; exact ⟨rfl, rfl⟩) (by omega) ?_; intro a5 c5 w5 hO5 B5))
      go_roundw
      case rel =>
        refine ⟨j + 1, a5, c5, by omega, by go_num, rfl, ?_, ?_, ?_⟩
        · rw [HS.out, HF.out]; exact hO5
        · rw [HQ.out]; exact (hR3.below BA).bel B5 hbl
        · exact (ho3.trans (Pk.Off.of_below BA)).bel B5
      case measure => simp [intOf]; omega
    · have hjn : j = n := by omega
      subst hjn
      have hi2 : ¬ (j : Int) < (j : Int) := by omega
      go_wp2
      go_ret
      refine ⟨⟨_, rfl, ?_⟩, hR, ho⟩
      have := hO.fr
      rw [encI_length, rdImL_length] at this
      exact this
set_option maxHeartbeats 1000000 in
theorem readTable_any {w : World} {b : Nat} {q : Lf} (h : RdS w b q) : Calls Try.prog 50 #[.pointer (some ⟨b, 0, none⟩)] w fun e w' => (∃ v, e = .returned v ∧ Fr w' v (encT (rdTbL (sN q 1) (nN q 1).toNat)) w.heap.size) ∧ RdS w' b (rdTbS (sN q 1) (nN q 1).toNat) ∧ Pk.Off b w w' := by
  obtain ⟨n, hn⟩ : ∃ n : Nat, nN q 1 = n := ⟨(nN q 1).toNat, by have := nN_nonneg q 1; omega⟩
  have hn2 : n ≤ 255 := by have := nN_one q; omega
  have hbl := h.lt
  have C0 : Hid (Calls Try.prog 43 #[.pointer (some ⟨b, 0, none⟩), .int .i64 1] w fun r w' => r = .returned (.int .i64 (n : Int)) ∧ RdS w' b (sN q 1) ∧ Pk.Off b w w') := by rw [← hn]; exact h.num 1
  have HN : Hid ((nN q 1).toNat = n) := (by rw [hn]; rfl : (nN q 1).toNat = n)
  rw [HN.out]
  generalize sN q 1 = q1 at *
  clear hn h HN
  go_enter Try.func50, Try.ntmps50
  go_wp2_with (go_at_call 43; refine C0.out.mono ?_; clear C0; rintro e w1 ⟨rfl, h1, o1⟩)
  go_loopw [3, 7] (fun pv ix wr => ∃ (j : Nat) (a : Option Addr) (c : Nat), j ≤ n ∧ ix = .int .i64 (j : Int) ∧ pv = .slice a j c ∧ Own 55 w.heap.size wr a c (encT (rdTbL q1 j)) ∧ RdS wr b (rdTbS q1 j) ∧ Pk.Off b w wr) (fun _ ix _ => n - (intOf ix).toNat)
  case atStart => exact ⟨0, none, 0, Nat.zero_le _, rfl, rfl, Own.nil _ _ _, h1, o1⟩
  case round =>
    clear h1 o1
    obtain ⟨j, a, c, hj, rfl, rfl, hO, hR, ho⟩ := hrel
    by_cases hlt : j < n
    · have hi2 : (j : Int) < (n : Int) := by omega
      have hln : j = (encT (rdTbL q1 j)).length := by rw [encT_length, rdTbL_length]
      have HS : Hid (encT (rdTbL q1 (j + 1)) = encT (rdTbL q1 j) ++ [(.int .i64 (rdTbF q1 j).1, .int .i64 (rdTbF q1 j).2)]) := (by rw [rdTbL_succ, encT_append]; rfl : encT (rdTbL q1 (j + 1)) = encT (rdTbL q1 j) ++ [(.int .i64 (rdTbF q1 j).1, .int .i64 (rdTbF q1 j).2)])
      have HQ : Hid (rdTbS q1 (j + 1) = sN (sN (rdTbS q1 j) 6) 6) := (rfl : rdTbS q1 (j + 1) = sN (sN (rdTbS q1 j) 6) 6)
      have HF : Hid (rdTbF q1 j = (nN (rdTbS q1 j) 6, nN (sN (rdTbS q1 j) 6) 6)) := (rfl : rdTbF q1 j = (nN (rdTbS q1 j) 6, nN (sN (rdTbS q1 j) 6) 6))
      have HL : Hid (j = (encT (rdTbL q1 j)).length) := hln
      clear hln
      generalize encT (rdTbL q1 j) = xs at *
      generalize rdTbS q1 j = qj at *
      have hBz := ho.size
      have hbr := hR.lt
      have CP : Hid (∀ w2, w2 = (wr.alloc (.cells #[.int .i64 0, .int .i64 0] 55)).alloc (.cells #[.pointer (some ⟨wr.heap.size, 0, none⟩), .pointer (some ⟨wr.heap.size, 1, none⟩)] 79) → Calls Try.prog 48 #[.pointer (some ⟨b, 0, none⟩), .slice (some ⟨wr.heap.size + 1, 0, none⟩) 2 2] w2 fun e w' => e = .returned (.tuple #[]) ∧ RdS w' b (sN (sN qj 6) 6) ∧ Blk w' wr.heap.size #[.int .i64 (nN qj 6), .int .i64 (nN (sN qj 6) 6)] 55 ∧ Pk.Off b wr w') := fun w2 h2 => by
        have b1 : Below wr.heap.size wr (wr.alloc (.cells #[.int .i64 0, .int .i64 0] 55)) := (Below.refl _ _).alloc (Nat.le_refl _) _
        have b2 : Below (wr.alloc (.cells #[.int .i64 0, .int .i64 0] 55)).heap.size (wr.alloc (.cells #[.int .i64 0, .int .i64 0] 55)) w2 := by subst h2; exact (Below.refl _ _).alloc (Nat.le_refl _) _
        have hz : (wr.alloc (.cells #[.int .i64 0, .int .i64 0] 55)).heap.size = wr.heap.size + 1 := by simp
        have bl : Blk w2 wr.heap.size #[.int .i64 0, .int .i64 0] 55 := (Blk.mk (MapKept.heap_alloc wr _).1).below b2
        have gp : Blk w2 (wr.heap.size + 1) #[.pointer (some ⟨wr.heap.size, 0, none⟩), .pointer (some ⟨wr.heap.size, 1, none⟩)] 79 := by
          have := (MapKept.heap_alloc (wr.alloc (.cells #[.int .i64 0, .int .i64 0] 55)) (.cells #[.pointer (some ⟨wr.heap.size, 0, none⟩), .pointer (some ⟨wr.heap.size, 1, none⟩)] 79)).1
          rw [hz] at this
          subst h2
          exact ⟨this⟩
        refine (readPlaces_2 (k0 := 0) (k1 := 1) (C := #[.int .i64 0, .int .i64 0]) ⟨(hR.below b1).below b2, gp, bl, Off2.refl _ _ _, by omega, by omega, by omega⟩ (by simp) (by simp)).mono ?_
        rintro e w3 ⟨he, h3, g3, o3⟩
        have bb := thn b1 b2
        have z2 := bb.size
        refine ⟨he, h3, g3, ⟨o3.os.trans bb.os, o3.tape.trans bb.tape, o3.output.trans bb.output, Nat.le_trans z2 o3.size, fun k hk hkb => (o3.block k (by omega) hkb (by omega)).trans (bb.block k hk)⟩⟩
      go_wp2_with (first
        | (go_at_call 48; refine (CP.out _ rfl).mono ?_; clear CP; rintro e w3 ⟨rfl, hR3, bl3, o3⟩; have hO3 := hO.off o3 hbl; have ho3 := ho.trans o3; clear hO; have BA : Below w3.heap.size w3 (w3.alloc (.cells #[.int .i64 (nN qj 6), .int .i64 (nN (sN qj 6) 6)] 55)) := (Below.refl _ _).alloc (Nat.le_refl _) _; have hO4 := hO3.below BA; have hz4 : w.heap.size ≤ (w3.alloc (.cells #[.int .i64 (nN qj 6), .int .i64 (nN (sN qj 6) 6)] 55)).heap.size := Nat.le_trans ho3.size BA.size; have m0 := bl3.cell 0; have m1 := bl3.cell 1; simp only [List.getElem?_toArray, List.getElem?_cons_zero, List.getElem?_cons_succ] at m0 m1)
        | (refine wpList_append_own' two_tb (B := w.heap.size) rfl (.tmp 14) (.tmp 16) rfl rfl HL.out hO4 hz4 rfl (m := 1) (news := [(.int .i64 (nN qj 6), .int .i64 (nN (sN qj 6) 6))]) rfl (fun e => by cases e) (cs_one w3 (.int .i64 (nN qj 6), .int .i64 (nN (sN qj 6) 6)) 55) (fun p hp => by simp at hp; subst hp; exact ⟨rfl, rfl⟩) (by omega) ?_; intro a5 c5 w5 hO5 B5))
      go_roundw
      case rel =>
        refine ⟨j + 1, a5, c5, by omega, by go_num, rfl, ?_, ?_, ?_⟩
        · rw [HS.out, HF.out]; exact hO5
        · rw [HQ.out]; exact (hR3.below BA).bel B5 hbl
        · exact (ho3.trans (Pk.Off.of_below BA)).bel B5
      case measure => simp [intOf]; omega
    · have hjn : j = n := by omega
      subst hjn
      have hi2 : ¬ (j : Int) < (j : Int) := by omega
      go_wp2
      go_ret
      refine ⟨⟨_, rfl, ?_⟩, hR, ho⟩
      have := hO.fr
      rw [encT_length, rdTbL_length] at this
      exact this
end Go.Proofs.Ytakdfdnndogaiaa
