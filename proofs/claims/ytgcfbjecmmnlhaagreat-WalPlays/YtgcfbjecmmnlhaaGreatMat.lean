/- WalPlays: add, of two records that have no room. -/
import Derived.Test.YtgcfbjecmmnlhaaGreatMas
namespace Go.Proofs.YtgcfbjecmmnlhaaGreat
open Go.RowKit Go.Maps Go.ChangeMaps
set_option linter.unusedVariables false
set_option linter.unusedSimpArgs false
set_option maxRecDepth 100000

section
variable {B l k db run r r' sure lo p n b : Nat} {w w' w0 wx : World} {S S' : Dk} {fs gs ss : List ByteArray} {v av u : Value} {a a1 a2 : Option Addr} {c c1 c2 : Nat} {kd m kp : Int} {s s' : Sc} {I T I' T' : Value} {cs : Array Value} {R Q : Rm} {F : ByteArray}
set_option maxHeartbeats 8000000 in
theorem add1_full_yy (h : Py B w l k S db p a c run fs sure) (hR : RecV w (.agg (R.s.A I T)) R) (hhR : Held R) (hQ : RecV w (.agg (Q.s.A I' T')) Q) (hhQ : Held Q) (he1 : (frameM (few8M R)).2 = 0) (he2 : (frameM (few8M Q)).2 = 0) (hn : ¬ (cat fs).size + ((frameM (few8M R)).1 ++ (frameM (few8M Q)).1).size ≤ 1740) : Calls Tryz.prog 11 #[.pointer (some ⟨l, 0, none⟩), .pointer (some ⟨p, 0, none⟩), .agg (opA 1 m R.s I T Q.s I' T' kp)] w fun e w' => e = .returned (.bool true) ∧ ∃ a' c' fs', Py B w' l k S db p a' c' run fs' sure ∧ Below B w w' := by
  have hsz := h.size
  have hle := h.le
  have hfl3 := h.len
  have CW1 : Hid (∀ wx, Calls Tryz.prog 19 #[.agg (R.s.A I T)] wx fun e w' => (∃ v', e = .returned v' ∧ RecV w v' (few8M R)) ∧ Below wx.heap.size wx w') := fun wx => few8_any hR hhR.im hhR.tb
  have CW2 : Hid (∀ wx, Calls Tryz.prog 19 #[.agg (Q.s.A I' T')] wx fun e w' => (∃ v', e = .returned v' ∧ RecV w v' (few8M Q)) ∧ Below wx.heap.size wx w') := fun wx => few8_any hQ hhQ.im hhQ.tb
  have CF1 : Hid (∀ wx v', Below w.heap.size w wx → RecV w v' (few8M R) → Calls Tryz.prog 18 #[v'] wx fun r w' => r = .returned (.tuple #[.string (frameM (few8M R)).1, .int .i64 (frameM (few8M R)).2]) ∧ Below wx.heap.size wx w') := fun wx v' q1 q2 => Frame_any (q2.below q1) hhR.few8
  have CF2 : Hid (∀ wx v', Below w.heap.size w wx → RecV w v' (few8M Q) → Calls Tryz.prog 18 #[v'] wx fun r w' => r = .returned (.tuple #[.string (frameM (few8M Q)).1, .int .i64 (frameM (few8M Q)).2]) ∧ Below wx.heap.size wx w') := fun wx v' q1 q2 => Frame_any (q2.below q1) hhQ.few8
  have hz1 : ((frameM (few8M R)).1 ++ (frameM (few8M Q)).1).size ≤ 400000 := by
    rw [bsz]
    have q1 : (frameM (few8M R)).1.size ≤ 4102 := (frm_good he1).le
    have q2 : (frameM (few8M Q)).1.size ≤ 4102 := (frm_good he2).le
    omega
  have CAp : Hid (∀ wx b cs, Pa B w wx l k S db p a c run fs sure b cs → Calls Tryz.prog 42 #[.pointer (some ⟨l, 0, none⟩), .string ((frameM (few8M R)).1 ++ (frameM (few8M Q)).1)] wx fun e w' => e = .returned (.tuple #[.int .i64 0, .int .i64 7]) ∧ Pq B w w' l k S db p a c run (fs) sure fs b cs) := fun wx b cs q1 => q1.put_full (gs := [(frameM (few8M R)).1, (frameM (few8M Q)).1]) (by intro g hg; rcases List.mem_cons.1 hg with rfl | hg; exact frm_good he1; rcases List.mem_cons.1 hg with rfl | hg; exact frm_good he2; cases hg) (by rw [cat, cat, cat, app_nil]) hz1 hn
  have hN : ¬ 9223372036854775807 < (frameM (few8M R)).1.size + (frameM (few8M Q)).1.size := by rw [bsz] at hz1; omega
  clear hz1
  have CZ : Hid (∀ wx fs' b cs, Pq B w wx l k S db p a c run fs' sure fs b cs → Calls Tryz.prog 33 #[.pointer (some ⟨p, 0, none⟩), .int .i64 (fs.length : Int)] wx fun e w' => e = .returned (.int .i64 ((cat fs).size : Int)) ∧ w' = wx) := fun wx fs' b cs q => q.z hsz hfl3
  have H0 : Hid (∀ wx b cs, NewO w wx b cs → Pa B w wx l k S db p a c run fs sure b cs) := fun wx b cs q => ⟨h.below q.below, q.ob, q.below, hle⟩
  have hfl : fs.length ≤ 100000 := by omega
  have hfl2 : fs.length ≤ 300 := hfl3
  have d0 : (0 : Int) ≤ ((cat fs).size : Int) := by omega
  have d1 : ((cat fs).size : Int) ≤ 1740 := by omega
  have t1 : 1740 - ((cat fs).size : Int) < (((frameM (few8M R)).1 ++ (frameM (few8M Q)).1).size : Int) := by omega
  have t2 : 1740 - ((cat fs).size : Int) < ((frameM (few8M R)).1.size : Int) + ((frameM (few8M Q)).1.size : Int) := by rw [bsz] at t1; omega
  have tz : (0 : Int) ≤ ((frameM (few8M R)).1.size : Int) := by omega
  clear hsz h hR hhR hQ hhQ hn hle
  generalize few8M R = m1 at *
  generalize few8M Q = m2 at *
  generalize R.s = s1 at *
  generalize Q.s = s2 at *
  generalize (frameM m1).1 = F1 at *
  generalize (frameM m2).1 = F2 at *
  generalize (frameM m1).2 = E1 at *
  generalize (frameM m2).2 = E2 at *
  subst he1
  subst he2
  generalize ((cat fs).size : Int) = D at *
  have x1 : IntKind.i64.wrap (1740 - D) = 1740 - D := by rw [IntKind.wrap_i64]; omega
  have y1 : RowKit.wrap64 (1740 - D) = 1740 - D := (IntWalk.i64_left _).symm.trans x1
  have x2 : IntKind.i64.wrap (1 + D) = 1 + D := by rw [IntKind.wrap_i64]; omega
  have y2 : RowKit.wrap64 (1 + D) = 1 + D := (IntWalk.i64_left _).symm.trans x2
  go_enter Tryz.func11, Tryz.ntmps11
  go_wp2_with (first
    | (refine wpList_box_op (cs := opA 1 m s1 I T s2 I' T' kp) _ rfl _ rfl rfl ?_; intro w1 b1 N1; have hp := H0.out _ _ _ N1; clear N1 H0; have o0 := hp.ob.c0; have r1 := hp.ob.r1; have r2 := hp.ob.r2)
    | (refine wpList_load_rcs (s := s1) (I := I) (T := T) _ rfl (.tmp 15) rfl rfl r1 ?_)
    | (refine wpList_load_rcs (s := s2) (I := I') (T := T') _ rfl (.tmp 22) rfl rfl r2 ?_)
    | (refine wpList_load_rcs (s := s1) (I := I) (T := T) _ rfl (.tmp 40) rfl rfl r1 ?_)
    | (go_at_call_of 19 s1; refine (CW1.out _).mono ?_; rintro e w2 ⟨⟨v1, rfl, hv1⟩, b2⟩; have hn := hp.below b2; clear hp b2; have hp := hn; clear hn; have o0 := hp.ob.c0; have r1 := hp.ob.r1; have r2 := hp.ob.r2)
    | (go_at_call_of 19 s2; refine (CW2.out _).mono ?_; rintro e w2 ⟨⟨v2, rfl, hv2⟩, b2⟩; have hn := hp.below b2; clear hp b2; have hp := hn; clear hn; have o0 := hp.ob.c0; have r1 := hp.ob.r1; have r2 := hp.ob.r2)
    | (go_at_call_of 18 v1; refine (CF1.out _ _ hp.bel hv1).mono ?_; rintro e w2 ⟨rfl, b2⟩; have hn := hp.below b2; clear hp b2; have hp := hn; clear hn; have o0 := hp.ob.c0; have r1 := hp.ob.r1; have r2 := hp.ob.r2)
    | (go_at_call_of 18 v2; refine (CF2.out _ _ hp.bel hv2).mono ?_; rintro e w2 ⟨rfl, b2⟩; have hn := hp.below b2; clear hp b2; have hp := hn; clear hn; have o0 := hp.ob.c0; have r1 := hp.ob.r1; have r2 := hp.ob.r2)
    | (go_at_call 42; refine (CAp.out _ _ _ hp).mono ?_; clear hp; rintro e w3 ⟨rfl, hq⟩; have o0 := hq.ob.c0))
  have hq2 := hq.below ((Below.refl _ _).drew)
  clear hq r1 r2 o0
  have hq := hq2
  clear hq2
  have keep0 := hq.cc
  have o0 := hq.ob.c0
  go_region_held3 (fun W => W.cell? ⟨p, 0, none⟩ = some (.slice a fs.length c) ∧ W.cell? ⟨p, 3, none⟩ = some (.int .i64 1740)) (first | exact keep0 | go_keep) ((go_at_call 33; refine (CZ.out _ _ _ _ hq).mono ?_; rintro e wq ⟨rfl, rfl⟩))
  have p0 := keep0.1
  go_wp2_with (first
    | (go_at_call 33; refine (CZ.out _ _ _ _ hq).mono ?_; rintro e wq ⟨rfl, rfl⟩))
  go_ret
  exact ⟨rfl, _, _, _, hq.py rfl, hq.bel⟩
set_option maxHeartbeats 8000000 in
theorem add1_full_yn (h : Py B w l k S db p a c run fs sure) (hR : RecV w (.agg (R.s.A I T)) R) (hhR : Held R) (hQ : RecV w (.agg (Q.s.A I' T')) Q) (hhQ : Held Q) (he1 : (frameM (few8M R)).2 = 0) (he2 : (frameM (few8M Q)).2 ≠ 0) (hn : ¬ (cat fs).size + ((frameM (few8M R)).1 ++ (frameM (few8M Q)).1).size ≤ 1740) : Calls Tryz.prog 11 #[.pointer (some ⟨l, 0, none⟩), .pointer (some ⟨p, 0, none⟩), .agg (opA 1 m R.s I T Q.s I' T' kp)] w fun e w' => e = .returned (.bool true) ∧ ∃ a' c' fs', Py B w' l k S db p a' c' run fs' sure ∧ Below B w w' := by
  have hsz := h.size
  have hle := h.le
  have hfl3 := h.len
  have CW1 : Hid (∀ wx, Calls Tryz.prog 19 #[.agg (R.s.A I T)] wx fun e w' => (∃ v', e = .returned v' ∧ RecV w v' (few8M R)) ∧ Below wx.heap.size wx w') := fun wx => few8_any hR hhR.im hhR.tb
  have CW2 : Hid (∀ wx, Calls Tryz.prog 19 #[.agg (Q.s.A I' T')] wx fun e w' => (∃ v', e = .returned v' ∧ RecV w v' (few8M Q)) ∧ Below wx.heap.size wx w') := fun wx => few8_any hQ hhQ.im hhQ.tb
  have CF1 : Hid (∀ wx v', Below w.heap.size w wx → RecV w v' (few8M R) → Calls Tryz.prog 18 #[v'] wx fun r w' => r = .returned (.tuple #[.string (frameM (few8M R)).1, .int .i64 (frameM (few8M R)).2]) ∧ Below wx.heap.size wx w') := fun wx v' q1 q2 => Frame_any (q2.below q1) hhR.few8
  have CF2 : Hid (∀ wx v', Below w.heap.size w wx → RecV w v' (few8M Q) → Calls Tryz.prog 18 #[v'] wx fun r w' => r = .returned (.tuple #[.string (frameM (few8M Q)).1, .int .i64 (frameM (few8M Q)).2]) ∧ Below wx.heap.size wx w') := fun wx v' q1 q2 => Frame_any (q2.below q1) hhQ.few8
  have hz1 : ((frameM (few8M R)).1 ++ (frameM (few8M Q)).1).size ≤ 400000 := by
    rw [bsz]
    have q1 : (frameM (few8M R)).1.size ≤ 4102 := (frm_good he1).le
    have q2 : (frameM (few8M Q)).1.size ≤ 4102 := (by rw [frm_err he2]; decide)
    omega
  have CAp : Hid (∀ wx b cs, Pa B w wx l k S db p a c run fs sure b cs → Calls Tryz.prog 42 #[.pointer (some ⟨l, 0, none⟩), .string ((frameM (few8M R)).1 ++ (frameM (few8M Q)).1)] wx fun e w' => e = .returned (.tuple #[.int .i64 0, .int .i64 7]) ∧ Pq B w w' l k S db p a c run (fs) sure fs b cs) := fun wx b cs q1 => q1.put_full (gs := [(frameM (few8M R)).1]) (by intro g hg; rcases List.mem_cons.1 hg with rfl | hg; exact frm_good he1; cases hg) (by rw [frm_err he2, cat, cat]) hz1 hn
  have hN : ¬ 9223372036854775807 < (frameM (few8M R)).1.size + (frameM (few8M Q)).1.size := by rw [bsz] at hz1; omega
  clear hz1
  have CZ : Hid (∀ wx fs' b cs, Pq B w wx l k S db p a c run fs' sure fs b cs → Calls Tryz.prog 33 #[.pointer (some ⟨p, 0, none⟩), .int .i64 (fs.length : Int)] wx fun e w' => e = .returned (.int .i64 ((cat fs).size : Int)) ∧ w' = wx) := fun wx fs' b cs q => q.z hsz hfl3
  have H0 : Hid (∀ wx b cs, NewO w wx b cs → Pa B w wx l k S db p a c run fs sure b cs) := fun wx b cs q => ⟨h.below q.below, q.ob, q.below, hle⟩
  have hfl : fs.length ≤ 100000 := by omega
  have hfl2 : fs.length ≤ 300 := hfl3
  have d0 : (0 : Int) ≤ ((cat fs).size : Int) := by omega
  have d1 : ((cat fs).size : Int) ≤ 1740 := by omega
  have t1 : 1740 - ((cat fs).size : Int) < (((frameM (few8M R)).1 ++ (frameM (few8M Q)).1).size : Int) := by omega
  have t2 : 1740 - ((cat fs).size : Int) < ((frameM (few8M R)).1.size : Int) + ((frameM (few8M Q)).1.size : Int) := by rw [bsz] at t1; omega
  have tz : (0 : Int) ≤ ((frameM (few8M R)).1.size : Int) := by omega
  clear hsz h hR hhR hQ hhQ hn hle
  generalize few8M R = m1 at *
  generalize few8M Q = m2 at *
  generalize R.s = s1 at *
  generalize Q.s = s2 at *
  generalize (frameM m1).1 = F1 at *
  generalize (frameM m2).1 = F2 at *
  generalize (frameM m1).2 = E1 at *
  generalize (frameM m2).2 = E2 at *
  subst he1
  have g2a : (E2 == 0) = false := by simpa using he2
  have g2b : (E2 != 0) = true := by simpa using he2
  clear he2
  generalize ((cat fs).size : Int) = D at *
  have x1 : IntKind.i64.wrap (1740 - D) = 1740 - D := by rw [IntKind.wrap_i64]; omega
  have y1 : RowKit.wrap64 (1740 - D) = 1740 - D := (IntWalk.i64_left _).symm.trans x1
  have x2 : IntKind.i64.wrap (1 + D) = 1 + D := by rw [IntKind.wrap_i64]; omega
  have y2 : RowKit.wrap64 (1 + D) = 1 + D := (IntWalk.i64_left _).symm.trans x2
  go_enter Tryz.func11, Tryz.ntmps11
  go_wp2_with (first
    | (refine wpList_box_op (cs := opA 1 m s1 I T s2 I' T' kp) _ rfl _ rfl rfl ?_; intro w1 b1 N1; have hp := H0.out _ _ _ N1; clear N1 H0; have o0 := hp.ob.c0; have r1 := hp.ob.r1; have r2 := hp.ob.r2)
    | (refine wpList_load_rcs (s := s1) (I := I) (T := T) _ rfl (.tmp 15) rfl rfl r1 ?_)
    | (refine wpList_load_rcs (s := s2) (I := I') (T := T') _ rfl (.tmp 22) rfl rfl r2 ?_)
    | (refine wpList_load_rcs (s := s1) (I := I) (T := T) _ rfl (.tmp 40) rfl rfl r1 ?_)
    | (go_at_call_of 19 s1; refine (CW1.out _).mono ?_; rintro e w2 ⟨⟨v1, rfl, hv1⟩, b2⟩; have hn := hp.below b2; clear hp b2; have hp := hn; clear hn; have o0 := hp.ob.c0; have r1 := hp.ob.r1; have r2 := hp.ob.r2)
    | (go_at_call_of 19 s2; refine (CW2.out _).mono ?_; rintro e w2 ⟨⟨v2, rfl, hv2⟩, b2⟩; have hn := hp.below b2; clear hp b2; have hp := hn; clear hn; have o0 := hp.ob.c0; have r1 := hp.ob.r1; have r2 := hp.ob.r2)
    | (go_at_call_of 18 v1; refine (CF1.out _ _ hp.bel hv1).mono ?_; rintro e w2 ⟨rfl, b2⟩; have hn := hp.below b2; clear hp b2; have hp := hn; clear hn; have o0 := hp.ob.c0; have r1 := hp.ob.r1; have r2 := hp.ob.r2)
    | (go_at_call_of 18 v2; refine (CF2.out _ _ hp.bel hv2).mono ?_; rintro e w2 ⟨rfl, b2⟩; have hn := hp.below b2; clear hp b2; have hp := hn; clear hn; have o0 := hp.ob.c0; have r1 := hp.ob.r1; have r2 := hp.ob.r2)
    | (go_at_call 42; refine (CAp.out _ _ _ hp).mono ?_; clear hp; rintro e w3 ⟨rfl, hq⟩; have o0 := hq.ob.c0))
  have hq2 := hq.below ((Below.refl _ _).drew)
  clear hq r1 r2 o0
  have hq := hq2
  clear hq2
  have keep0 := hq.cc
  have o0 := hq.ob.c0
  go_region_held3 (fun W => W.cell? ⟨p, 0, none⟩ = some (.slice a fs.length c) ∧ W.cell? ⟨p, 3, none⟩ = some (.int .i64 1740)) (first | exact keep0 | go_keep) ((go_at_call 33; refine (CZ.out _ _ _ _ hq).mono ?_; rintro e wq ⟨rfl, rfl⟩))
  have p0 := keep0.1
  go_wp2_with (first
    | (go_at_call 33; refine (CZ.out _ _ _ _ hq).mono ?_; rintro e wq ⟨rfl, rfl⟩))
  go_ret
  exact ⟨rfl, _, _, _, hq.py rfl, hq.bel⟩
set_option maxHeartbeats 8000000 in
theorem add1_full_ny (h : Py B w l k S db p a c run fs sure) (hR : RecV w (.agg (R.s.A I T)) R) (hhR : Held R) (hQ : RecV w (.agg (Q.s.A I' T')) Q) (hhQ : Held Q) (he1 : (frameM (few8M R)).2 ≠ 0) (he2 : (frameM (few8M Q)).2 = 0) (hn : ¬ (cat fs).size + ((frameM (few8M R)).1 ++ (frameM (few8M Q)).1).size ≤ 1740) : Calls Tryz.prog 11 #[.pointer (some ⟨l, 0, none⟩), .pointer (some ⟨p, 0, none⟩), .agg (opA 1 m R.s I T Q.s I' T' kp)] w fun e w' => e = .returned (.bool true) ∧ ∃ a' c' fs', Py B w' l k S db p a' c' run fs' sure ∧ Below B w w' := by
  have hsz := h.size
  have hle := h.le
  have hfl3 := h.len
  have CW1 : Hid (∀ wx, Calls Tryz.prog 19 #[.agg (R.s.A I T)] wx fun e w' => (∃ v', e = .returned v' ∧ RecV w v' (few8M R)) ∧ Below wx.heap.size wx w') := fun wx => few8_any hR hhR.im hhR.tb
  have CW2 : Hid (∀ wx, Calls Tryz.prog 19 #[.agg (Q.s.A I' T')] wx fun e w' => (∃ v', e = .returned v' ∧ RecV w v' (few8M Q)) ∧ Below wx.heap.size wx w') := fun wx => few8_any hQ hhQ.im hhQ.tb
  have CF1 : Hid (∀ wx v', Below w.heap.size w wx → RecV w v' (few8M R) → Calls Tryz.prog 18 #[v'] wx fun r w' => r = .returned (.tuple #[.string (frameM (few8M R)).1, .int .i64 (frameM (few8M R)).2]) ∧ Below wx.heap.size wx w') := fun wx v' q1 q2 => Frame_any (q2.below q1) hhR.few8
  have CF2 : Hid (∀ wx v', Below w.heap.size w wx → RecV w v' (few8M Q) → Calls Tryz.prog 18 #[v'] wx fun r w' => r = .returned (.tuple #[.string (frameM (few8M Q)).1, .int .i64 (frameM (few8M Q)).2]) ∧ Below wx.heap.size wx w') := fun wx v' q1 q2 => Frame_any (q2.below q1) hhQ.few8
  have hz1 : ((frameM (few8M R)).1 ++ (frameM (few8M Q)).1).size ≤ 400000 := by
    rw [bsz]
    have q1 : (frameM (few8M R)).1.size ≤ 4102 := (by rw [frm_err he1]; decide)
    have q2 : (frameM (few8M Q)).1.size ≤ 4102 := (frm_good he2).le
    omega
  have CAp : Hid (∀ wx b cs, Pa B w wx l k S db p a c run fs sure b cs → Calls Tryz.prog 42 #[.pointer (some ⟨l, 0, none⟩), .string ((frameM (few8M R)).1 ++ (frameM (few8M Q)).1)] wx fun e w' => e = .returned (.tuple #[.int .i64 0, .int .i64 7]) ∧ Pq B w w' l k S db p a c run (fs) sure fs b cs) := fun wx b cs q1 => q1.put_full (gs := [(frameM (few8M Q)).1]) (by intro g hg; rcases List.mem_cons.1 hg with rfl | hg; exact frm_good he2; cases hg) (by rw [frm_err he1, nil_app, cat, cat, app_nil]) hz1 hn
  have hN : ¬ 9223372036854775807 < (frameM (few8M R)).1.size + (frameM (few8M Q)).1.size := by rw [bsz] at hz1; omega
  clear hz1
  have CZ : Hid (∀ wx fs' b cs, Pq B w wx l k S db p a c run fs' sure fs b cs → Calls Tryz.prog 33 #[.pointer (some ⟨p, 0, none⟩), .int .i64 (fs.length : Int)] wx fun e w' => e = .returned (.int .i64 ((cat fs).size : Int)) ∧ w' = wx) := fun wx fs' b cs q => q.z hsz hfl3
  have H0 : Hid (∀ wx b cs, NewO w wx b cs → Pa B w wx l k S db p a c run fs sure b cs) := fun wx b cs q => ⟨h.below q.below, q.ob, q.below, hle⟩
  have hfl : fs.length ≤ 100000 := by omega
  have hfl2 : fs.length ≤ 300 := hfl3
  have d0 : (0 : Int) ≤ ((cat fs).size : Int) := by omega
  have d1 : ((cat fs).size : Int) ≤ 1740 := by omega
  have t1 : 1740 - ((cat fs).size : Int) < (((frameM (few8M R)).1 ++ (frameM (few8M Q)).1).size : Int) := by omega
  have t2 : 1740 - ((cat fs).size : Int) < ((frameM (few8M R)).1.size : Int) + ((frameM (few8M Q)).1.size : Int) := by rw [bsz] at t1; omega
  have tz : (0 : Int) ≤ ((frameM (few8M R)).1.size : Int) := by omega
  clear hsz h hR hhR hQ hhQ hn hle
  generalize few8M R = m1 at *
  generalize few8M Q = m2 at *
  generalize R.s = s1 at *
  generalize Q.s = s2 at *
  generalize (frameM m1).1 = F1 at *
  generalize (frameM m2).1 = F2 at *
  generalize (frameM m1).2 = E1 at *
  generalize (frameM m2).2 = E2 at *
  have g1a : (E1 == 0) = false := by simpa using he1
  have g1b : (E1 != 0) = true := by simpa using he1
  clear he1
  subst he2
  generalize ((cat fs).size : Int) = D at *
  have x1 : IntKind.i64.wrap (1740 - D) = 1740 - D := by rw [IntKind.wrap_i64]; omega
  have y1 : RowKit.wrap64 (1740 - D) = 1740 - D := (IntWalk.i64_left _).symm.trans x1
  have x2 : IntKind.i64.wrap (1 + D) = 1 + D := by rw [IntKind.wrap_i64]; omega
  have y2 : RowKit.wrap64 (1 + D) = 1 + D := (IntWalk.i64_left _).symm.trans x2
  go_enter Tryz.func11, Tryz.ntmps11
  go_wp2_with (first
    | (refine wpList_box_op (cs := opA 1 m s1 I T s2 I' T' kp) _ rfl _ rfl rfl ?_; intro w1 b1 N1; have hp := H0.out _ _ _ N1; clear N1 H0; have o0 := hp.ob.c0; have r1 := hp.ob.r1; have r2 := hp.ob.r2)
    | (refine wpList_load_rcs (s := s1) (I := I) (T := T) _ rfl (.tmp 15) rfl rfl r1 ?_)
    | (refine wpList_load_rcs (s := s2) (I := I') (T := T') _ rfl (.tmp 22) rfl rfl r2 ?_)
    | (refine wpList_load_rcs (s := s1) (I := I) (T := T) _ rfl (.tmp 40) rfl rfl r1 ?_)
    | (go_at_call_of 19 s1; refine (CW1.out _).mono ?_; rintro e w2 ⟨⟨v1, rfl, hv1⟩, b2⟩; have hn := hp.below b2; clear hp b2; have hp := hn; clear hn; have o0 := hp.ob.c0; have r1 := hp.ob.r1; have r2 := hp.ob.r2)
    | (go_at_call_of 19 s2; refine (CW2.out _).mono ?_; rintro e w2 ⟨⟨v2, rfl, hv2⟩, b2⟩; have hn := hp.below b2; clear hp b2; have hp := hn; clear hn; have o0 := hp.ob.c0; have r1 := hp.ob.r1; have r2 := hp.ob.r2)
    | (go_at_call_of 18 v1; refine (CF1.out _ _ hp.bel hv1).mono ?_; rintro e w2 ⟨rfl, b2⟩; have hn := hp.below b2; clear hp b2; have hp := hn; clear hn; have o0 := hp.ob.c0; have r1 := hp.ob.r1; have r2 := hp.ob.r2)
    | (go_at_call_of 18 v2; refine (CF2.out _ _ hp.bel hv2).mono ?_; rintro e w2 ⟨rfl, b2⟩; have hn := hp.below b2; clear hp b2; have hp := hn; clear hn; have o0 := hp.ob.c0; have r1 := hp.ob.r1; have r2 := hp.ob.r2)
    | (go_at_call 42; refine (CAp.out _ _ _ hp).mono ?_; clear hp; rintro e w3 ⟨rfl, hq⟩; have o0 := hq.ob.c0))
  have hq2 := hq.below ((Below.refl _ _).drew)
  clear hq r1 r2 o0
  have hq := hq2
  clear hq2
  have keep0 := hq.cc
  have o0 := hq.ob.c0
  go_region_held3 (fun W => W.cell? ⟨p, 0, none⟩ = some (.slice a fs.length c) ∧ W.cell? ⟨p, 3, none⟩ = some (.int .i64 1740)) (first | exact keep0 | go_keep) ((go_at_call 33; refine (CZ.out _ _ _ _ hq).mono ?_; rintro e wq ⟨rfl, rfl⟩))
  have p0 := keep0.1
  go_wp2_with (first
    | (go_at_call 33; refine (CZ.out _ _ _ _ hq).mono ?_; rintro e wq ⟨rfl, rfl⟩))
  go_ret
  exact ⟨rfl, _, _, _, hq.py rfl, hq.bel⟩
set_option maxHeartbeats 8000000 in
theorem add1_full_nn (h : Py B w l k S db p a c run fs sure) (hR : RecV w (.agg (R.s.A I T)) R) (hhR : Held R) (hQ : RecV w (.agg (Q.s.A I' T')) Q) (hhQ : Held Q) (he1 : (frameM (few8M R)).2 ≠ 0) (he2 : (frameM (few8M Q)).2 ≠ 0) (hn : ¬ (cat fs).size + ((frameM (few8M R)).1 ++ (frameM (few8M Q)).1).size ≤ 1740) : Calls Tryz.prog 11 #[.pointer (some ⟨l, 0, none⟩), .pointer (some ⟨p, 0, none⟩), .agg (opA 1 m R.s I T Q.s I' T' kp)] w fun e w' => e = .returned (.bool true) ∧ ∃ a' c' fs', Py B w' l k S db p a' c' run fs' sure ∧ Below B w w' := by
  have hsz := h.size
  have hle := h.le
  have hfl3 := h.len
  have CW1 : Hid (∀ wx, Calls Tryz.prog 19 #[.agg (R.s.A I T)] wx fun e w' => (∃ v', e = .returned v' ∧ RecV w v' (few8M R)) ∧ Below wx.heap.size wx w') := fun wx => few8_any hR hhR.im hhR.tb
  have CW2 : Hid (∀ wx, Calls Tryz.prog 19 #[.agg (Q.s.A I' T')] wx fun e w' => (∃ v', e = .returned v' ∧ RecV w v' (few8M Q)) ∧ Below wx.heap.size wx w') := fun wx => few8_any hQ hhQ.im hhQ.tb
  have CF1 : Hid (∀ wx v', Below w.heap.size w wx → RecV w v' (few8M R) → Calls Tryz.prog 18 #[v'] wx fun r w' => r = .returned (.tuple #[.string (frameM (few8M R)).1, .int .i64 (frameM (few8M R)).2]) ∧ Below wx.heap.size wx w') := fun wx v' q1 q2 => Frame_any (q2.below q1) hhR.few8
  have CF2 : Hid (∀ wx v', Below w.heap.size w wx → RecV w v' (few8M Q) → Calls Tryz.prog 18 #[v'] wx fun r w' => r = .returned (.tuple #[.string (frameM (few8M Q)).1, .int .i64 (frameM (few8M Q)).2]) ∧ Below wx.heap.size wx w') := fun wx v' q1 q2 => Frame_any (q2.below q1) hhQ.few8
  have hz1 : ((frameM (few8M R)).1 ++ (frameM (few8M Q)).1).size ≤ 400000 := by
    rw [bsz]
    have q1 : (frameM (few8M R)).1.size ≤ 4102 := (by rw [frm_err he1]; decide)
    have q2 : (frameM (few8M Q)).1.size ≤ 4102 := (by rw [frm_err he2]; decide)
    omega
  have CAp : Hid (∀ wx b cs, Pa B w wx l k S db p a c run fs sure b cs → Calls Tryz.prog 42 #[.pointer (some ⟨l, 0, none⟩), .string ((frameM (few8M R)).1 ++ (frameM (few8M Q)).1)] wx fun e w' => e = .returned (.tuple #[.int .i64 0, .int .i64 7]) ∧ Pq B w w' l k S db p a c run (fs) sure fs b cs) := fun wx b cs q1 => q1.put_full (gs := ([] : List ByteArray)) (by intro g hg; cases hg) (by rw [frm_err he1, frm_err he2, nil_app]; rfl) hz1 hn
  have hN : ¬ 9223372036854775807 < (frameM (few8M R)).1.size + (frameM (few8M Q)).1.size := by rw [bsz] at hz1; omega
  clear hz1
  have CZ : Hid (∀ wx fs' b cs, Pq B w wx l k S db p a c run fs' sure fs b cs → Calls Tryz.prog 33 #[.pointer (some ⟨p, 0, none⟩), .int .i64 (fs.length : Int)] wx fun e w' => e = .returned (.int .i64 ((cat fs).size : Int)) ∧ w' = wx) := fun wx fs' b cs q => q.z hsz hfl3
  have H0 : Hid (∀ wx b cs, NewO w wx b cs → Pa B w wx l k S db p a c run fs sure b cs) := fun wx b cs q => ⟨h.below q.below, q.ob, q.below, hle⟩
  have hfl : fs.length ≤ 100000 := by omega
  have hfl2 : fs.length ≤ 300 := hfl3
  have d0 : (0 : Int) ≤ ((cat fs).size : Int) := by omega
  have d1 : ((cat fs).size : Int) ≤ 1740 := by omega
  have t1 : 1740 - ((cat fs).size : Int) < (((frameM (few8M R)).1 ++ (frameM (few8M Q)).1).size : Int) := by omega
  have t2 : 1740 - ((cat fs).size : Int) < ((frameM (few8M R)).1.size : Int) + ((frameM (few8M Q)).1.size : Int) := by rw [bsz] at t1; omega
  have tz : (0 : Int) ≤ ((frameM (few8M R)).1.size : Int) := by omega
  clear hsz h hR hhR hQ hhQ hn hle
  generalize few8M R = m1 at *
  generalize few8M Q = m2 at *
  generalize R.s = s1 at *
  generalize Q.s = s2 at *
  generalize (frameM m1).1 = F1 at *
  generalize (frameM m2).1 = F2 at *
  generalize (frameM m1).2 = E1 at *
  generalize (frameM m2).2 = E2 at *
  have g1a : (E1 == 0) = false := by simpa using he1
  have g1b : (E1 != 0) = true := by simpa using he1
  clear he1
  have g2a : (E2 == 0) = false := by simpa using he2
  have g2b : (E2 != 0) = true := by simpa using he2
  clear he2
  generalize ((cat fs).size : Int) = D at *
  have x1 : IntKind.i64.wrap (1740 - D) = 1740 - D := by rw [IntKind.wrap_i64]; omega
  have y1 : RowKit.wrap64 (1740 - D) = 1740 - D := (IntWalk.i64_left _).symm.trans x1
  have x2 : IntKind.i64.wrap (1 + D) = 1 + D := by rw [IntKind.wrap_i64]; omega
  have y2 : RowKit.wrap64 (1 + D) = 1 + D := (IntWalk.i64_left _).symm.trans x2
  go_enter Tryz.func11, Tryz.ntmps11
  go_wp2_with (first
    | (refine wpList_box_op (cs := opA 1 m s1 I T s2 I' T' kp) _ rfl _ rfl rfl ?_; intro w1 b1 N1; have hp := H0.out _ _ _ N1; clear N1 H0; have o0 := hp.ob.c0; have r1 := hp.ob.r1; have r2 := hp.ob.r2)
    | (refine wpList_load_rcs (s := s1) (I := I) (T := T) _ rfl (.tmp 15) rfl rfl r1 ?_)
    | (refine wpList_load_rcs (s := s2) (I := I') (T := T') _ rfl (.tmp 22) rfl rfl r2 ?_)
    | (refine wpList_load_rcs (s := s1) (I := I) (T := T) _ rfl (.tmp 40) rfl rfl r1 ?_)
    | (go_at_call_of 19 s1; refine (CW1.out _).mono ?_; rintro e w2 ⟨⟨v1, rfl, hv1⟩, b2⟩; have hn := hp.below b2; clear hp b2; have hp := hn; clear hn; have o0 := hp.ob.c0; have r1 := hp.ob.r1; have r2 := hp.ob.r2)
    | (go_at_call_of 19 s2; refine (CW2.out _).mono ?_; rintro e w2 ⟨⟨v2, rfl, hv2⟩, b2⟩; have hn := hp.below b2; clear hp b2; have hp := hn; clear hn; have o0 := hp.ob.c0; have r1 := hp.ob.r1; have r2 := hp.ob.r2)
    | (go_at_call_of 18 v1; refine (CF1.out _ _ hp.bel hv1).mono ?_; rintro e w2 ⟨rfl, b2⟩; have hn := hp.below b2; clear hp b2; have hp := hn; clear hn; have o0 := hp.ob.c0; have r1 := hp.ob.r1; have r2 := hp.ob.r2)
    | (go_at_call_of 18 v2; refine (CF2.out _ _ hp.bel hv2).mono ?_; rintro e w2 ⟨rfl, b2⟩; have hn := hp.below b2; clear hp b2; have hp := hn; clear hn; have o0 := hp.ob.c0; have r1 := hp.ob.r1; have r2 := hp.ob.r2)
    | (go_at_call 42; refine (CAp.out _ _ _ hp).mono ?_; clear hp; rintro e w3 ⟨rfl, hq⟩; have o0 := hq.ob.c0))
  have hq2 := hq.below ((Below.refl _ _).drew)
  clear hq r1 r2 o0
  have hq := hq2
  clear hq2
  have keep0 := hq.cc
  have o0 := hq.ob.c0
  go_region_held3 (fun W => W.cell? ⟨p, 0, none⟩ = some (.slice a fs.length c) ∧ W.cell? ⟨p, 3, none⟩ = some (.int .i64 1740)) (first | exact keep0 | go_keep) ((go_at_call 33; refine (CZ.out _ _ _ _ hq).mono ?_; rintro e wq ⟨rfl, rfl⟩))
  have p0 := keep0.1
  go_wp2_with (first
    | (go_at_call 33; refine (CZ.out _ _ _ _ hq).mono ?_; rintro e wq ⟨rfl, rfl⟩))
  go_ret
  exact ⟨rfl, _, _, _, hq.py rfl, hq.bel⟩
end
end Go.Proofs.YtgcfbjecmmnlhaaGreat
