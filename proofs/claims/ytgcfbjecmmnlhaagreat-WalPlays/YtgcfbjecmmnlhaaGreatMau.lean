/- WalPlays: add, of two records that have room. WalPlays: add. WalPlays: a call in a block of the law's own; what each call of the script comes to. -/
import Derived.Test.YtgcfbjecmmnlhaaGreatMas
import Derived.Test.YtgcfbjecmmnlhaaGreatMat
namespace Go.Proofs.YtgcfbjecmmnlhaaGreat
open Go.RowKit Go.Maps Go.ChangeMaps
set_option linter.unusedVariables false
set_option linter.unusedSimpArgs false
set_option maxRecDepth 100000

section
variable {B l k db run r r' sure lo p n b : Nat} {w w' w0 wx : World} {S S' : Dk} {fs gs ss : List ByteArray} {v av u : Value} {a a1 a2 : Option Addr} {c c1 c2 : Nat} {kd m kp : Int} {s s' : Sc} {I T I' T' : Value} {cs : Array Value} {R Q : Rm} {F : ByteArray}
set_option maxHeartbeats 8000000 in
theorem add1_ok_yy (h : Py B w l k S db p a c run fs sure) (hR : RecV w (.agg (R.s.A I T)) R) (hhR : Held R) (hQ : RecV w (.agg (Q.s.A I' T')) Q) (hhQ : Held Q) (he1 : (frameM (few8M R)).2 = 0) (he2 : (frameM (few8M Q)).2 = 0) (hn : (cat fs).size + ((frameM (few8M R)).1 ++ (frameM (few8M Q)).1).size ≤ 1740) : Calls Tryz.prog 11 #[.pointer (some ⟨l, 0, none⟩), .pointer (some ⟨p, 0, none⟩), .agg (opA 1 m R.s I T Q.s I' T' kp)] w fun e w' => e = .returned (.bool true) ∧ ∃ a' c' fs', Py B w' l k S db p a' c' run fs' sure ∧ Below B w w' := by
  have hsz := h.size
  have hle := h.le
  have hfl3 := h.len
  have CW1 : Hid (∀ wx, Calls Tryz.prog 19 #[.agg (R.s.A I T)] wx fun e w' => (∃ v', e = .returned v' ∧ RecV w v' (few8M R)) ∧ Below wx.heap.size wx w') := fun wx => few8_any hR hhR.im hhR.tb
  have CW2 : Hid (∀ wx, Calls Tryz.prog 19 #[.agg (Q.s.A I' T')] wx fun e w' => (∃ v', e = .returned v' ∧ RecV w v' (few8M Q)) ∧ Below wx.heap.size wx w') := fun wx => few8_any hQ hhQ.im hhQ.tb
  have CF1 : Hid (∀ wx v', Below w.heap.size w wx → RecV w v' (few8M R) → Calls Tryz.prog 18 #[v'] wx fun r w' => r = .returned (.tuple #[.string (frameM (few8M R)).1, .int .i64 (frameM (few8M R)).2]) ∧ Below wx.heap.size wx w') := fun wx v' q1 q2 => Frame_any (q2.below q1) hhR.few8
  have CF2 : Hid (∀ wx v', Below w.heap.size w wx → RecV w v' (few8M Q) → Calls Tryz.prog 18 #[v'] wx fun r w' => r = .returned (.tuple #[.string (frameM (few8M Q)).1, .int .i64 (frameM (few8M Q)).2]) ∧ Below wx.heap.size wx w') := fun wx v' q1 q2 => Frame_any (q2.below q1) hhQ.few8
  have hz1 : ((frameM (few8M R)).1 ++ (frameM (few8M Q)).1).size ≤ 400000 := by
    rw [bsz]
    have q1 : (frameM (few8M R)).1.size ≤ 4102 := (frm_good he1).le
    have q2 : (frameM (few8M Q)).1.size ≤ 4102 := (frm_good he2).le
    omega
  have CAp : Hid (∀ wx b cs, Pa B w wx l k S db p a c run fs sure b cs → Calls Tryz.prog 42 #[.pointer (some ⟨l, 0, none⟩), .string ((frameM (few8M R)).1 ++ (frameM (few8M Q)).1)] wx fun e w' => e = .returned (.tuple #[.int .i64 (1 + ((cat fs).size : Int)), .int .i64 0]) ∧ Pq B w w' l k S db p a c run (fs ++ [(frameM (few8M R)).1, (frameM (few8M Q)).1]) sure fs b cs) := fun wx b cs q1 => q1.put_ok (gs := [(frameM (few8M R)).1, (frameM (few8M Q)).1]) (by intro g hg; rcases List.mem_cons.1 hg with rfl | hg; exact frm_good he1; rcases List.mem_cons.1 hg with rfl | hg; exact frm_good he2; cases hg) (by rw [cat, cat, cat, app_nil]) hz1 hn
  have hN : ¬ 9223372036854775807 < (frameM (few8M R)).1.size + (frameM (few8M Q)).1.size := by rw [bsz] at hz1; omega
  clear hz1
  have CZ : Hid (∀ wx fs' b cs, Pq B w wx l k S db p a c run fs' sure fs b cs → Calls Tryz.prog 33 #[.pointer (some ⟨p, 0, none⟩), .int .i64 (fs.length : Int)] wx fun e w' => e = .returned (.int .i64 ((cat fs).size : Int)) ∧ w' = wx) := fun wx fs' b cs q => q.z hsz hfl3
  have H0 : Hid (∀ wx b cs, NewO w wx b cs → Pa B w wx l k S db p a c run fs sure b cs) := fun wx b cs q => ⟨h.below q.below, q.ob, q.below, hle⟩
  have hfl : fs.length ≤ 100000 := by omega
  have hfl2 : fs.length ≤ 300 := hfl3
  have d0 : (0 : Int) ≤ ((cat fs).size : Int) := by omega
  have d1 : ((cat fs).size : Int) ≤ 1740 := by omega
  have t1 : ¬ 1740 - ((cat fs).size : Int) < (((frameM (few8M R)).1 ++ (frameM (few8M Q)).1).size : Int) := by omega
  have t2 : ¬ 1740 - ((cat fs).size : Int) < ((frameM (few8M R)).1.size : Int) + ((frameM (few8M Q)).1.size : Int) := by rw [bsz] at t1; omega
  have tz : (0 : Int) ≤ ((frameM (few8M R)).1.size : Int) := by omega
  clear hsz h hR hhR hQ hhQ hn hle
  generalize few8M R = m1 at *
  generalize few8M Q = m2 at *
  generalize R.s = s1 at *
  generalize Q.s = s2 at *
  generalize (frameM m1).1 = F1 at *
  generalize (frameM m2).1 = F2 at *
  generalize (frameM m1).2 = E1 at *
  generalize (frameM m2).2 = E2 at *
  subst he1
  subst he2
  generalize ((cat fs).size : Int) = D at *
  have x1 : IntKind.i64.wrap (1740 - D) = 1740 - D := by rw [IntKind.wrap_i64]; omega
  have y1 : RowKit.wrap64 (1740 - D) = 1740 - D := (IntWalk.i64_left _).symm.trans x1
  have x2 : IntKind.i64.wrap (1 + D) = 1 + D := by rw [IntKind.wrap_i64]; omega
  have y2 : RowKit.wrap64 (1 + D) = 1 + D := (IntWalk.i64_left _).symm.trans x2
  go_enter Tryz.func11, Tryz.ntmps11
  go_wp2_with (first
    | (refine wpList_box_op (cs := opA 1 m s1 I T s2 I' T' kp) _ rfl _ rfl rfl ?_; intro w1 b1 N1; have hp := H0.out _ _ _ N1; clear N1 H0; have o0 := hp.ob.c0; have r1 := hp.ob.r1; have r2 := hp.ob.r2)
    | (refine wpList_load_rcs (s := s1) (I := I) (T := T) _ rfl (.tmp 15) rfl rfl r1 ?_)
    | (refine wpList_load_rcs (s := s2) (I := I') (T := T') _ rfl (.tmp 22) rfl rfl r2 ?_)
    | (refine wpList_load_rcs (s := s1) (I := I) (T := T) _ rfl (.tmp 40) rfl rfl r1 ?_)
    | (go_at_call_of 19 s1; refine (CW1.out _).mono ?_; rintro e w2 ⟨⟨v1, rfl, hv1⟩, b2⟩; have hn := hp.below b2; clear hp b2; have hp := hn; clear hn; have o0 := hp.ob.c0; have r1 := hp.ob.r1; have r2 := hp.ob.r2)
    | (go_at_call_of 19 s2; refine (CW2.out _).mono ?_; rintro e w2 ⟨⟨v2, rfl, hv2⟩, b2⟩; have hn := hp.below b2; clear hp b2; have hp := hn; clear hn; have o0 := hp.ob.c0; have r1 := hp.ob.r1; have r2 := hp.ob.r2)
    | (go_at_call_of 18 v1; refine (CF1.out _ _ hp.bel hv1).mono ?_; rintro e w2 ⟨rfl, b2⟩; have hn := hp.below b2; clear hp b2; have hp := hn; clear hn; have o0 := hp.ob.c0; have r1 := hp.ob.r1; have r2 := hp.ob.r2)
    | (go_at_call_of 18 v2; refine (CF2.out _ _ hp.bel hv2).mono ?_; rintro e w2 ⟨rfl, b2⟩; have hn := hp.below b2; clear hp b2; have hp := hn; clear hn; have o0 := hp.ob.c0; have r1 := hp.ob.r1; have r2 := hp.ob.r2)
    | (go_at_call 42; refine (CAp.out _ _ _ hp).mono ?_; clear hp; rintro e w3 ⟨rfl, hq⟩; have o0 := hq.ob.c0))
  have hq2 := hq.below ((Below.refl _ _).drew)
  clear hq r1 r2 o0
  have hq := hq2
  clear hq2
  have keep0 := hq.cc
  have o0 := hq.ob.c0
  go_region_held3 (fun W => W.cell? ⟨p, 0, none⟩ = some (.slice a fs.length c) ∧ W.cell? ⟨p, 3, none⟩ = some (.int .i64 1740)) (first | exact keep0 | go_keep) ((go_at_call 33; refine (CZ.out _ _ _ _ hq).mono ?_; rintro e wq ⟨rfl, rfl⟩))
  have p0 := keep0.1
  go_wp2_with (first
    | (go_at_call 33; refine (CZ.out _ _ _ _ hq).mono ?_; rintro e wq ⟨rfl, rfl⟩)
    | (refine wpList_build_str1 (F := F1) _ rfl (.tmp 108) rfl rfl ?_; intro w8 g8 N8; have hn := hq.below N8.below; clear hq; have hq := hn; clear hn)
    | (at_builtin; refine wpList_append_str (B := B) rfl (.tmp 107) (.tmp 109) rfl rfl hq.px.pf.own rfl N8.c hq.le hfl ?_; clear N8; intro v9 w9 O9 k9; obtain ⟨N1, HN1⟩ : ∃ N1, Hid (N1 = fs ++ [F1]) := ⟨_, rfl⟩; rw [← HN1.out] at O9; obtain ⟨a9, c9, rfl⟩ := O9.ex; have hfl9 : N1.length ≤ 100000 := (by rw [HN1.out, List.length_append]; simp; omega); obtain ⟨hq1, c9', f9'⟩ := hq.app O9 k9; clear hq O9 k9; have hq := hq1; clear hq1; have q0 := hq.px.pf.pp.c0; have o0 := hq.ob.c0)
    | (refine wpList_build_str1 (F := F2) _ rfl (.tmp 125) rfl rfl ?_; intro w8 g8 N8; have hn := hq.below N8.below; clear hq; have hq := hn; clear hn)
    | (at_builtin; refine wpList_append_str (B := B) rfl (.tmp 124) (.tmp 126) rfl rfl hq.px.pf.own rfl N8.c hq.le hfl9 ?_; clear N8; intro v9 w9 O9 k9; obtain ⟨N2, HN2⟩ : ∃ N2, Hid (N2 = N1 ++ [F2]) := ⟨_, rfl⟩; rw [← HN2.out] at O9; obtain ⟨a9, c9, rfl⟩ := O9.ex; obtain ⟨hq1, c9', f9'⟩ := hq.app O9 k9; clear hq O9 k9; have hq := hq1; clear hq1; have q0 := hq.px.pf.pp.c0; have o0 := hq.ob.c0))
  go_ret
  exact ⟨rfl, _, _, _, hq.py (by rw [HN2.out, HN1.out]; simp), hq.bel⟩
set_option maxHeartbeats 8000000 in
theorem add1_ok_yn (h : Py B w l k S db p a c run fs sure) (hR : RecV w (.agg (R.s.A I T)) R) (hhR : Held R) (hQ : RecV w (.agg (Q.s.A I' T')) Q) (hhQ : Held Q) (he1 : (frameM (few8M R)).2 = 0) (he2 : (frameM (few8M Q)).2 ≠ 0) (hn : (cat fs).size + ((frameM (few8M R)).1 ++ (frameM (few8M Q)).1).size ≤ 1740) : Calls Tryz.prog 11 #[.pointer (some ⟨l, 0, none⟩), .pointer (some ⟨p, 0, none⟩), .agg (opA 1 m R.s I T Q.s I' T' kp)] w fun e w' => e = .returned (.bool true) ∧ ∃ a' c' fs', Py B w' l k S db p a' c' run fs' sure ∧ Below B w w' := by
  have hsz := h.size
  have hle := h.le
  have hfl3 := h.len
  have CW1 : Hid (∀ wx, Calls Tryz.prog 19 #[.agg (R.s.A I T)] wx fun e w' => (∃ v', e = .returned v' ∧ RecV w v' (few8M R)) ∧ Below wx.heap.size wx w') := fun wx => few8_any hR hhR.im hhR.tb
  have CW2 : Hid (∀ wx, Calls Tryz.prog 19 #[.agg (Q.s.A I' T')] wx fun e w' => (∃ v', e = .returned v' ∧ RecV w v' (few8M Q)) ∧ Below wx.heap.size wx w') := fun wx => few8_any hQ hhQ.im hhQ.tb
  have CF1 : Hid (∀ wx v', Below w.heap.size w wx → RecV w v' (few8M R) → Calls Tryz.prog 18 #[v'] wx fun r w' => r = .returned (.tuple #[.string (frameM (few8M R)).1, .int .i64 (frameM (few8M R)).2]) ∧ Below wx.heap.size wx w') := fun wx v' q1 q2 => Frame_any (q2.below q1) hhR.few8
  have CF2 : Hid (∀ wx v', Below w.heap.size w wx → RecV w v' (few8M Q) → Calls Tryz.prog 18 #[v'] wx fun r w' => r = .returned (.tuple #[.string (frameM (few8M Q)).1, .int .i64 (frameM (few8M Q)).2]) ∧ Below wx.heap.size wx w') := fun wx v' q1 q2 => Frame_any (q2.below q1) hhQ.few8
  have hz1 : ((frameM (few8M R)).1 ++ (frameM (few8M Q)).1).size ≤ 400000 := by
    rw [bsz]
    have q1 : (frameM (few8M R)).1.size ≤ 4102 := (frm_good he1).le
    have q2 : (frameM (few8M Q)).1.size ≤ 4102 := (by rw [frm_err he2]; decide)
    omega
  have CAp : Hid (∀ wx b cs, Pa B w wx l k S db p a c run fs sure b cs → Calls Tryz.prog 42 #[.pointer (some ⟨l, 0, none⟩), .string ((frameM (few8M R)).1 ++ (frameM (few8M Q)).1)] wx fun e w' => e = .returned (.tuple #[.int .i64 (1 + ((cat fs).size : Int)), .int .i64 0]) ∧ Pq B w w' l k S db p a c run (fs ++ [(frameM (few8M R)).1]) sure fs b cs) := fun wx b cs q1 => q1.put_ok (gs := [(frameM (few8M R)).1]) (by intro g hg; rcases List.mem_cons.1 hg with rfl | hg; exact frm_good he1; cases hg) (by rw [frm_err he2, cat, cat]) hz1 hn
  have hN : ¬ 9223372036854775807 < (frameM (few8M R)).1.size + (frameM (few8M Q)).1.size := by rw [bsz] at hz1; omega
  clear hz1
  have CZ : Hid (∀ wx fs' b cs, Pq B w wx l k S db p a c run fs' sure fs b cs → Calls Tryz.prog 33 #[.pointer (some ⟨p, 0, none⟩), .int .i64 (fs.length : Int)] wx fun e w' => e = .returned (.int .i64 ((cat fs).size : Int)) ∧ w' = wx) := fun wx fs' b cs q => q.z hsz hfl3
  have H0 : Hid (∀ wx b cs, NewO w wx b cs → Pa B w wx l k S db p a c run fs sure b cs) := fun wx b cs q => ⟨h.below q.below, q.ob, q.below, hle⟩
  have hfl : fs.length ≤ 100000 := by omega
  have hfl2 : fs.length ≤ 300 := hfl3
  have d0 : (0 : Int) ≤ ((cat fs).size : Int) := by omega
  have d1 : ((cat fs).size : Int) ≤ 1740 := by omega
  have t1 : ¬ 1740 - ((cat fs).size : Int) < (((frameM (few8M R)).1 ++ (frameM (few8M Q)).1).size : Int) := by omega
  have t2 : ¬ 1740 - ((cat fs).size : Int) < ((frameM (few8M R)).1.size : Int) + ((frameM (few8M Q)).1.size : Int) := by rw [bsz] at t1; omega
  have tz : (0 : Int) ≤ ((frameM (few8M R)).1.size : Int) := by omega
  clear hsz h hR hhR hQ hhQ hn hle
  generalize few8M R = m1 at *
  generalize few8M Q = m2 at *
  generalize R.s = s1 at *
  generalize Q.s = s2 at *
  generalize (frameM m1).1 = F1 at *
  generalize (frameM m2).1 = F2 at *
  generalize (frameM m1).2 = E1 at *
  generalize (frameM m2).2 = E2 at *
  subst he1
  have g2a : (E2 == 0) = false := by simpa using he2
  have g2b : (E2 != 0) = true := by simpa using he2
  clear he2
  generalize ((cat fs).size : Int) = D at *
  have x1 : IntKind.i64.wrap (1740 - D) = 1740 - D := by rw [IntKind.wrap_i64]; omega
  have y1 : RowKit.wrap64 (1740 - D) = 1740 - D := (IntWalk.i64_left _).symm.trans x1
  have x2 : IntKind.i64.wrap (1 + D) = 1 + D := by rw [IntKind.wrap_i64]; omega
  have y2 : RowKit.wrap64 (1 + D) = 1 + D := (IntWalk.i64_left _).symm.trans x2
  go_enter Tryz.func11, Tryz.ntmps11
  go_wp2_with (first
    | (refine wpList_box_op (cs := opA 1 m s1 I T s2 I' T' kp) _ rfl _ rfl rfl ?_; intro w1 b1 N1; have hp := H0.out _ _ _ N1; clear N1 H0; have o0 := hp.ob.c0; have r1 := hp.ob.r1; have r2 := hp.ob.r2)
    | (refine wpList_load_rcs (s := s1) (I := I) (T := T) _ rfl (.tmp 15) rfl rfl r1 ?_)
    | (refine wpList_load_rcs (s := s2) (I := I') (T := T') _ rfl (.tmp 22) rfl rfl r2 ?_)
    | (refine wpList_load_rcs (s := s1) (I := I) (T := T) _ rfl (.tmp 40) rfl rfl r1 ?_)
    | (go_at_call_of 19 s1; refine (CW1.out _).mono ?_; rintro e w2 ⟨⟨v1, rfl, hv1⟩, b2⟩; have hn := hp.below b2; clear hp b2; have hp := hn; clear hn; have o0 := hp.ob.c0; have r1 := hp.ob.r1; have r2 := hp.ob.r2)
    | (go_at_call_of 19 s2; refine (CW2.out _).mono ?_; rintro e w2 ⟨⟨v2, rfl, hv2⟩, b2⟩; have hn := hp.below b2; clear hp b2; have hp := hn; clear hn; have o0 := hp.ob.c0; have r1 := hp.ob.r1; have r2 := hp.ob.r2)
    | (go_at_call_of 18 v1; refine (CF1.out _ _ hp.bel hv1).mono ?_; rintro e w2 ⟨rfl, b2⟩; have hn := hp.below b2; clear hp b2; have hp := hn; clear hn; have o0 := hp.ob.c0; have r1 := hp.ob.r1; have r2 := hp.ob.r2)
    | (go_at_call_of 18 v2; refine (CF2.out _ _ hp.bel hv2).mono ?_; rintro e w2 ⟨rfl, b2⟩; have hn := hp.below b2; clear hp b2; have hp := hn; clear hn; have o0 := hp.ob.c0; have r1 := hp.ob.r1; have r2 := hp.ob.r2)
    | (go_at_call 42; refine (CAp.out _ _ _ hp).mono ?_; clear hp; rintro e w3 ⟨rfl, hq⟩; have o0 := hq.ob.c0))
  have hq2 := hq.below ((Below.refl _ _).drew)
  clear hq r1 r2 o0
  have hq := hq2
  clear hq2
  have keep0 := hq.cc
  have o0 := hq.ob.c0
  go_region_held3 (fun W => W.cell? ⟨p, 0, none⟩ = some (.slice a fs.length c) ∧ W.cell? ⟨p, 3, none⟩ = some (.int .i64 1740)) (first | exact keep0 | go_keep) ((go_at_call 33; refine (CZ.out _ _ _ _ hq).mono ?_; rintro e wq ⟨rfl, rfl⟩))
  have p0 := keep0.1
  go_wp2_with (first
    | (go_at_call 33; refine (CZ.out _ _ _ _ hq).mono ?_; rintro e wq ⟨rfl, rfl⟩)
    | (refine wpList_build_str1 (F := F1) _ rfl (.tmp 108) rfl rfl ?_; intro w8 g8 N8; have hn := hq.below N8.below; clear hq; have hq := hn; clear hn)
    | (at_builtin; refine wpList_append_str (B := B) rfl (.tmp 107) (.tmp 109) rfl rfl hq.px.pf.own rfl N8.c hq.le hfl ?_; clear N8; intro v9 w9 O9 k9; obtain ⟨N1, HN1⟩ : ∃ N1, Hid (N1 = fs ++ [F1]) := ⟨_, rfl⟩; rw [← HN1.out] at O9; obtain ⟨a9, c9, rfl⟩ := O9.ex; have hfl9 : N1.length ≤ 100000 := (by rw [HN1.out, List.length_append]; simp; omega); obtain ⟨hq1, c9', f9'⟩ := hq.app O9 k9; clear hq O9 k9; have hq := hq1; clear hq1; have q0 := hq.px.pf.pp.c0; have o0 := hq.ob.c0))
  go_ret
  exact ⟨rfl, _, _, _, hq.py HN1.out, hq.bel⟩
set_option maxHeartbeats 8000000 in
theorem add1_ok_ny (h : Py B w l k S db p a c run fs sure) (hR : RecV w (.agg (R.s.A I T)) R) (hhR : Held R) (hQ : RecV w (.agg (Q.s.A I' T')) Q) (hhQ : Held Q) (he1 : (frameM (few8M R)).2 ≠ 0) (he2 : (frameM (few8M Q)).2 = 0) (hn : (cat fs).size + ((frameM (few8M R)).1 ++ (frameM (few8M Q)).1).size ≤ 1740) : Calls Tryz.prog 11 #[.pointer (some ⟨l, 0, none⟩), .pointer (some ⟨p, 0, none⟩), .agg (opA 1 m R.s I T Q.s I' T' kp)] w fun e w' => e = .returned (.bool true) ∧ ∃ a' c' fs', Py B w' l k S db p a' c' run fs' sure ∧ Below B w w' := by
  have hsz := h.size
  have hle := h.le
  have hfl3 := h.len
  have CW1 : Hid (∀ wx, Calls Tryz.prog 19 #[.agg (R.s.A I T)] wx fun e w' => (∃ v', e = .returned v' ∧ RecV w v' (few8M R)) ∧ Below wx.heap.size wx w') := fun wx => few8_any hR hhR.im hhR.tb
  have CW2 : Hid (∀ wx, Calls Tryz.prog 19 #[.agg (Q.s.A I' T')] wx fun e w' => (∃ v', e = .returned v' ∧ RecV w v' (few8M Q)) ∧ Below wx.heap.size wx w') := fun wx => few8_any hQ hhQ.im hhQ.tb
  have CF1 : Hid (∀ wx v', Below w.heap.size w wx → RecV w v' (few8M R) → Calls Tryz.prog 18 #[v'] wx fun r w' => r = .returned (.tuple #[.string (frameM (few8M R)).1, .int .i64 (frameM (few8M R)).2]) ∧ Below wx.heap.size wx w') := fun wx v' q1 q2 => Frame_any (q2.below q1) hhR.few8
  have CF2 : Hid (∀ wx v', Below w.heap.size w wx → RecV w v' (few8M Q) → Calls Tryz.prog 18 #[v'] wx fun r w' => r = .returned (.tuple #[.string (frameM (few8M Q)).1, .int .i64 (frameM (few8M Q)).2]) ∧ Below wx.heap.size wx w') := fun wx v' q1 q2 => Frame_any (q2.below q1) hhQ.few8
  have hz1 : ((frameM (few8M R)).1 ++ (frameM (few8M Q)).1).size ≤ 400000 := by
    rw [bsz]
    have q1 : (frameM (few8M R)).1.size ≤ 4102 := (by rw [frm_err he1]; decide)
    have q2 : (frameM (few8M Q)).1.size ≤ 4102 := (frm_good he2).le
    omega
  have CAp : Hid (∀ wx b cs, Pa B w wx l k S db p a c run fs sure b cs → Calls Tryz.prog 42 #[.pointer (some ⟨l, 0, none⟩), .string ((frameM (few8M R)).1 ++ (frameM (few8M Q)).1)] wx fun e w' => e = .returned (.tuple #[.int .i64 (1 + ((cat fs).size : Int)), .int .i64 0]) ∧ Pq B w w' l k S db p a c run (fs ++ [(frameM (few8M Q)).1]) sure fs b cs) := fun wx b cs q1 => q1.put_ok (gs := [(frameM (few8M Q)).1]) (by intro g hg; rcases List.mem_cons.1 hg with rfl | hg; exact frm_good he2; cases hg) (by rw [frm_err he1, nil_app, cat, cat, app_nil]) hz1 hn
  have hN : ¬ 9223372036854775807 < (frameM (few8M R)).1.size + (frameM (few8M Q)).1.size := by rw [bsz] at hz1; omega
  clear hz1
  have CZ : Hid (∀ wx fs' b cs, Pq B w wx l k S db p a c run fs' sure fs b cs → Calls Tryz.prog 33 #[.pointer (some ⟨p, 0, none⟩), .int .i64 (fs.length : Int)] wx fun e w' => e = .returned (.int .i64 ((cat fs).size : Int)) ∧ w' = wx) := fun wx fs' b cs q => q.z hsz hfl3
  have H0 : Hid (∀ wx b cs, NewO w wx b cs → Pa B w wx l k S db p a c run fs sure b cs) := fun wx b cs q => ⟨h.below q.below, q.ob, q.below, hle⟩
  have hfl : fs.length ≤ 100000 := by omega
  have hfl2 : fs.length ≤ 300 := hfl3
  have d0 : (0 : Int) ≤ ((cat fs).size : Int) := by omega
  have d1 : ((cat fs).size : Int) ≤ 1740 := by omega
  have t1 : ¬ 1740 - ((cat fs).size : Int) < (((frameM (few8M R)).1 ++ (frameM (few8M Q)).1).size : Int) := by omega
  have t2 : ¬ 1740 - ((cat fs).size : Int) < ((frameM (few8M R)).1.size : Int) + ((frameM (few8M Q)).1.size : Int) := by rw [bsz] at t1; omega
  have tz : (0 : Int) ≤ ((frameM (few8M R)).1.size : Int) := by omega
  clear hsz h hR hhR hQ hhQ hn hle
  generalize few8M R = m1 at *
  generalize few8M Q = m2 at *
  generalize R.s = s1 at *
  generalize Q.s = s2 at *
  generalize (frameM m1).1 = F1 at *
  generalize (frameM m2).1 = F2 at *
  generalize (frameM m1).2 = E1 at *
  generalize (frameM m2).2 = E2 at *
  have g1a : (E1 == 0) = false := by simpa using he1
  have g1b : (E1 != 0) = true := by simpa using he1
  clear he1
  subst he2
  generalize ((cat fs).size : Int) = D at *
  have x1 : IntKind.i64.wrap (1740 - D) = 1740 - D := by rw [IntKind.wrap_i64]; omega
  have y1 : RowKit.wrap64 (1740 - D) = 1740 - D := (IntWalk.i64_left _).symm.trans x1
  have x2 : IntKind.i64.wrap (1 + D) = 1 + D := by rw [IntKind.wrap_i64]; omega
  have y2 : RowKit.wrap64 (1 + D) = 1 + D := (IntWalk.i64_left _).symm.trans x2
  go_enter Tryz.func11, Tryz.ntmps11
  go_wp2_with (first
    | (refine wpList_box_op (cs := opA 1 m s1 I T s2 I' T' kp) _ rfl _ rfl rfl ?_; intro w1 b1 N1; have hp := H0.out _ _ _ N1; clear N1 H0; have o0 := hp.ob.c0; have r1 := hp.ob.r1; have r2 := hp.ob.r2)
    | (refine wpList_load_rcs (s := s1) (I := I) (T := T) _ rfl (.tmp 15) rfl rfl r1 ?_)
    | (refine wpList_load_rcs (s := s2) (I := I') (T := T') _ rfl (.tmp 22) rfl rfl r2 ?_)
    | (refine wpList_load_rcs (s := s1) (I := I) (T := T) _ rfl (.tmp 40) rfl rfl r1 ?_)
    | (go_at_call_of 19 s1; refine (CW1.out _).mono ?_; rintro e w2 ⟨⟨v1, rfl, hv1⟩, b2⟩; have hn := hp.below b2; clear hp b2; have hp := hn; clear hn; have o0 := hp.ob.c0; have r1 := hp.ob.r1; have r2 := hp.ob.r2)
    | (go_at_call_of 19 s2; refine (CW2.out _).mono ?_; rintro e w2 ⟨⟨v2, rfl, hv2⟩, b2⟩; have hn := hp.below b2; clear hp b2; have hp := hn; clear hn; have o0 := hp.ob.c0; have r1 := hp.ob.r1; have r2 := hp.ob.r2)
    | (go_at_call_of 18 v1; refine (CF1.out _ _ hp.bel hv1).mono ?_; rintro e w2 ⟨rfl, b2⟩; have hn := hp.below b2; clear hp b2; have hp := hn; clear hn; have o0 := hp.ob.c0; have r1 := hp.ob.r1; have r2 := hp.ob.r2)
    | (go_at_call_of 18 v2; refine (CF2.out _ _ hp.bel hv2).mono ?_; rintro e w2 ⟨rfl, b2⟩; have hn := hp.below b2; clear hp b2; have hp := hn; clear hn; have o0 := hp.ob.c0; have r1 := hp.ob.r1; have r2 := hp.ob.r2)
    | (go_at_call 42; refine (CAp.out _ _ _ hp).mono ?_; clear hp; rintro e w3 ⟨rfl, hq⟩; have o0 := hq.ob.c0))
  have hq2 := hq.below ((Below.refl _ _).drew)
  clear hq r1 r2 o0
  have hq := hq2
  clear hq2
  have keep0 := hq.cc
  have o0 := hq.ob.c0
  go_region_held3 (fun W => W.cell? ⟨p, 0, none⟩ = some (.slice a fs.length c) ∧ W.cell? ⟨p, 3, none⟩ = some (.int .i64 1740)) (first | exact keep0 | go_keep) ((go_at_call 33; refine (CZ.out _ _ _ _ hq).mono ?_; rintro e wq ⟨rfl, rfl⟩))
  have p0 := keep0.1
  go_wp2_with (first
    | (go_at_call 33; refine (CZ.out _ _ _ _ hq).mono ?_; rintro e wq ⟨rfl, rfl⟩)
    | (refine wpList_build_str1 (F := F2) _ rfl (.tmp 125) rfl rfl ?_; intro w8 g8 N8; have hn := hq.below N8.below; clear hq; have hq := hn; clear hn)
    | (at_builtin; refine wpList_append_str (B := B) rfl (.tmp 124) (.tmp 126) rfl rfl hq.px.pf.own rfl N8.c hq.le hfl ?_; clear N8; intro v9 w9 O9 k9; obtain ⟨N2, HN2⟩ : ∃ N2, Hid (N2 = fs ++ [F2]) := ⟨_, rfl⟩; rw [← HN2.out] at O9; obtain ⟨a9, c9, rfl⟩ := O9.ex; have hfl9 : N2.length ≤ 100000 := (by rw [HN2.out, List.length_append]; simp; omega); obtain ⟨hq1, c9', f9'⟩ := hq.app O9 k9; clear hq O9 k9; have hq := hq1; clear hq1; have q0 := hq.px.pf.pp.c0; have o0 := hq.ob.c0))
  go_ret
  exact ⟨rfl, _, _, _, hq.py HN2.out, hq.bel⟩
set_option maxHeartbeats 8000000 in
theorem add1_ok_nn (h : Py B w l k S db p a c run fs sure) (hR : RecV w (.agg (R.s.A I T)) R) (hhR : Held R) (hQ : RecV w (.agg (Q.s.A I' T')) Q) (hhQ : Held Q) (he1 : (frameM (few8M R)).2 ≠ 0) (he2 : (frameM (few8M Q)).2 ≠ 0) (hn : (cat fs).size + ((frameM (few8M R)).1 ++ (frameM (few8M Q)).1).size ≤ 1740) : Calls Tryz.prog 11 #[.pointer (some ⟨l, 0, none⟩), .pointer (some ⟨p, 0, none⟩), .agg (opA 1 m R.s I T Q.s I' T' kp)] w fun e w' => e = .returned (.bool true) ∧ ∃ a' c' fs', Py B w' l k S db p a' c' run fs' sure ∧ Below B w w' := by
  have hsz := h.size
  have hle := h.le
  have hfl3 := h.len
  have CW1 : Hid (∀ wx, Calls Tryz.prog 19 #[.agg (R.s.A I T)] wx fun e w' => (∃ v', e = .returned v' ∧ RecV w v' (few8M R)) ∧ Below wx.heap.size wx w') := fun wx => few8_any hR hhR.im hhR.tb
  have CW2 : Hid (∀ wx, Calls Tryz.prog 19 #[.agg (Q.s.A I' T')] wx fun e w' => (∃ v', e = .returned v' ∧ RecV w v' (few8M Q)) ∧ Below wx.heap.size wx w') := fun wx => few8_any hQ hhQ.im hhQ.tb
  have CF1 : Hid (∀ wx v', Below w.heap.size w wx → RecV w v' (few8M R) → Calls Tryz.prog 18 #[v'] wx fun r w' => r = .returned (.tuple #[.string (frameM (few8M R)).1, .int .i64 (frameM (few8M R)).2]) ∧ Below wx.heap.size wx w') := fun wx v' q1 q2 => Frame_any (q2.below q1) hhR.few8
  have CF2 : Hid (∀ wx v', Below w.heap.size w wx → RecV w v' (few8M Q) → Calls Tryz.prog 18 #[v'] wx fun r w' => r = .returned (.tuple #[.string (frameM (few8M Q)).1, .int .i64 (frameM (few8M Q)).2]) ∧ Below wx.heap.size wx w') := fun wx v' q1 q2 => Frame_any (q2.below q1) hhQ.few8
  have hz1 : ((frameM (few8M R)).1 ++ (frameM (few8M Q)).1).size ≤ 400000 := by
    rw [bsz]
    have q1 : (frameM (few8M R)).1.size ≤ 4102 := (by rw [frm_err he1]; decide)
    have q2 : (frameM (few8M Q)).1.size ≤ 4102 := (by rw [frm_err he2]; decide)
    omega
  have CAp : Hid (∀ wx b cs, Pa B w wx l k S db p a c run fs sure b cs → Calls Tryz.prog 42 #[.pointer (some ⟨l, 0, none⟩), .string ((frameM (few8M R)).1 ++ (frameM (few8M Q)).1)] wx fun e w' => e = .returned (.tuple #[.int .i64 (1 + ((cat fs).size : Int)), .int .i64 0]) ∧ Pq B w w' l k S db p a c run (fs ++ ([] : List ByteArray)) sure fs b cs) := fun wx b cs q1 => q1.put_ok (gs := ([] : List ByteArray)) (by intro g hg; cases hg) (by rw [frm_err he1, frm_err he2, nil_app]; rfl) hz1 hn
  have hN : ¬ 9223372036854775807 < (frameM (few8M R)).1.size + (frameM (few8M Q)).1.size := by rw [bsz] at hz1; omega
  clear hz1
  have CZ : Hid (∀ wx fs' b cs, Pq B w wx l k S db p a c run fs' sure fs b cs → Calls Tryz.prog 33 #[.pointer (some ⟨p, 0, none⟩), .int .i64 (fs.length : Int)] wx fun e w' => e = .returned (.int .i64 ((cat fs).size : Int)) ∧ w' = wx) := fun wx fs' b cs q => q.z hsz hfl3
  have H0 : Hid (∀ wx b cs, NewO w wx b cs → Pa B w wx l k S db p a c run fs sure b cs) := fun wx b cs q => ⟨h.below q.below, q.ob, q.below, hle⟩
  have hfl : fs.length ≤ 100000 := by omega
  have hfl2 : fs.length ≤ 300 := hfl3
  have d0 : (0 : Int) ≤ ((cat fs).size : Int) := by omega
  have d1 : ((cat fs).size : Int) ≤ 1740 := by omega
  have t1 : ¬ 1740 - ((cat fs).size : Int) < (((frameM (few8M R)).1 ++ (frameM (few8M Q)).1).size : Int) := by omega
  have t2 : ¬ 1740 - ((cat fs).size : Int) < ((frameM (few8M R)).1.size : Int) + ((frameM (few8M Q)).1.size : Int) := by rw [bsz] at t1; omega
  have tz : (0 : Int) ≤ ((frameM (few8M R)).1.size : Int) := by omega
  clear hsz h hR hhR hQ hhQ hn hle
  generalize few8M R = m1 at *
  generalize few8M Q = m2 at *
  generalize R.s = s1 at *
  generalize Q.s = s2 at *
  generalize (frameM m1).1 = F1 at *
  generalize (frameM m2).1 = F2 at *
  generalize (frameM m1).2 = E1 at *
  generalize (frameM m2).2 = E2 at *
  have g1a : (E1 == 0) = false := by simpa using he1
  have g1b : (E1 != 0) = true := by simpa using he1
  clear he1
  have g2a : (E2 == 0) = false := by simpa using he2
  have g2b : (E2 != 0) = true := by simpa using he2
  clear he2
  generalize ((cat fs).size : Int) = D at *
  have x1 : IntKind.i64.wrap (1740 - D) = 1740 - D := by rw [IntKind.wrap_i64]; omega
  have y1 : RowKit.wrap64 (1740 - D) = 1740 - D := (IntWalk.i64_left _).symm.trans x1
  have x2 : IntKind.i64.wrap (1 + D) = 1 + D := by rw [IntKind.wrap_i64]; omega
  have y2 : RowKit.wrap64 (1 + D) = 1 + D := (IntWalk.i64_left _).symm.trans x2
  go_enter Tryz.func11, Tryz.ntmps11
  go_wp2_with (first
    | (refine wpList_box_op (cs := opA 1 m s1 I T s2 I' T' kp) _ rfl _ rfl rfl ?_; intro w1 b1 N1; have hp := H0.out _ _ _ N1; clear N1 H0; have o0 := hp.ob.c0; have r1 := hp.ob.r1; have r2 := hp.ob.r2)
    | (refine wpList_load_rcs (s := s1) (I := I) (T := T) _ rfl (.tmp 15) rfl rfl r1 ?_)
    | (refine wpList_load_rcs (s := s2) (I := I') (T := T') _ rfl (.tmp 22) rfl rfl r2 ?_)
    | (refine wpList_load_rcs (s := s1) (I := I) (T := T) _ rfl (.tmp 40) rfl rfl r1 ?_)
    | (go_at_call_of 19 s1; refine (CW1.out _).mono ?_; rintro e w2 ⟨⟨v1, rfl, hv1⟩, b2⟩; have hn := hp.below b2; clear hp b2; have hp := hn; clear hn; have o0 := hp.ob.c0; have r1 := hp.ob.r1; have r2 := hp.ob.r2)
    | (go_at_call_of 19 s2; refine (CW2.out _).mono ?_; rintro e w2 ⟨⟨v2, rfl, hv2⟩, b2⟩; have hn := hp.below b2; clear hp b2; have hp := hn; clear hn; have o0 := hp.ob.c0; have r1 := hp.ob.r1; have r2 := hp.ob.r2)
    | (go_at_call_of 18 v1; refine (CF1.out _ _ hp.bel hv1).mono ?_; rintro e w2 ⟨rfl, b2⟩; have hn := hp.below b2; clear hp b2; have hp := hn; clear hn; have o0 := hp.ob.c0; have r1 := hp.ob.r1; have r2 := hp.ob.r2)
    | (go_at_call_of 18 v2; refine (CF2.out _ _ hp.bel hv2).mono ?_; rintro e w2 ⟨rfl, b2⟩; have hn := hp.below b2; clear hp b2; have hp := hn; clear hn; have o0 := hp.ob.c0; have r1 := hp.ob.r1; have r2 := hp.ob.r2)
    | (go_at_call 42; refine (CAp.out _ _ _ hp).mono ?_; clear hp; rintro e w3 ⟨rfl, hq⟩; have o0 := hq.ob.c0))
  have hq2 := hq.below ((Below.refl _ _).drew)
  clear hq r1 r2 o0
  have hq := hq2
  clear hq2
  have keep0 := hq.cc
  have o0 := hq.ob.c0
  go_region_held3 (fun W => W.cell? ⟨p, 0, none⟩ = some (.slice a fs.length c) ∧ W.cell? ⟨p, 3, none⟩ = some (.int .i64 1740)) (first | exact keep0 | go_keep) ((go_at_call 33; refine (CZ.out _ _ _ _ hq).mono ?_; rintro e wq ⟨rfl, rfl⟩))
  have p0 := keep0.1
  go_wp2_with (first
    | (go_at_call 33; refine (CZ.out _ _ _ _ hq).mono ?_; rintro e wq ⟨rfl, rfl⟩))
  go_ret
  exact ⟨rfl, _, _, _, hq.py (by simp), hq.bel⟩
end
end Go.Proofs.YtgcfbjecmmnlhaaGreat

namespace Go.Proofs.YtgcfbjecmmnlhaaGreat
open Go.RowKit Go.Maps Go.ChangeMaps
set_option linter.unusedVariables false
set_option linter.unusedSimpArgs false
set_option maxRecDepth 100000

section
variable {B l k db run r r' sure lo p n b : Nat} {w w' w0 wx : World} {S S' : Dk} {fs gs ss : List ByteArray} {v av u : Value} {a a1 a2 : Option Addr} {c c1 c2 : Nat} {kd m kp : Int} {s s' : Sc} {I T I' T' : Value} {cs : Array Value} {R Q : Rm} {F : ByteArray}
theorem add_any (h : Py B w l k S db p a c run fs sure) (hR : RecV w (.agg (R.s.A I T)) R) (hhR : Held R) (hQ : RecV w (.agg (Q.s.A I' T')) Q) (hhQ : Held Q) (hk : kd = 0 ∨ kd = 1) : Calls Tryz.prog 11 #[.pointer (some ⟨l, 0, none⟩), .pointer (some ⟨p, 0, none⟩), .agg (opA kd m R.s I T Q.s I' T' kp)] w fun e w' => e = .returned (.bool true) ∧ ∃ a' c' fs', Py B w' l k S db p a' c' run fs' sure ∧ Below B w w' := by
  rcases hk with rfl | rfl
  · by_cases he : (frameM (few8M R)).2 = 0
    · by_cases hn : (cat fs).size + (frameM (few8M R)).1.size ≤ 1740
      · exact add0_ok h hR hhR hQ hhQ he hn
      · exact add0_full h hR hhR hQ hhQ he hn
    · exact add0_err h hR hhR hQ hhQ he
  · by_cases hn : (cat fs).size + ((frameM (few8M R)).1 ++ (frameM (few8M Q)).1).size ≤ 1740
    · by_cases he : (frameM (few8M R)).2 = 0
      · by_cases hf : (frameM (few8M Q)).2 = 0
        · exact add1_ok_yy h hR hhR hQ hhQ he hf hn
        · exact add1_ok_yn h hR hhR hQ hhQ he hf hn
      · by_cases hf : (frameM (few8M Q)).2 = 0
        · exact add1_ok_ny h hR hhR hQ hhQ he hf hn
        · exact add1_ok_nn h hR hhR hQ hhQ he hf hn
    · by_cases he : (frameM (few8M R)).2 = 0
      · by_cases hf : (frameM (few8M Q)).2 = 0
        · exact add1_full_yy h hR hhR hQ hhQ he hf hn
        · exact add1_full_yn h hR hhR hQ hhQ he hf hn
      · by_cases hf : (frameM (few8M Q)).2 = 0
        · exact add1_full_ny h hR hhR hQ hhQ he hf hn
        · exact add1_full_nn h hR hhR hQ hhQ he hf hn
end
end Go.Proofs.YtgcfbjecmmnlhaaGreat

namespace Go.Proofs.YtgcfbjecmmnlhaaGreat
open Go.RowKit Go.Maps Go.ChangeMaps
set_option linter.unusedVariables false
set_option linter.unusedSimpArgs false
set_option maxRecDepth 100000

def zOp : Array Value := opA 0 0 zS nilV nilV zS nilV nilV 0
structure PutO (w w' : World) (b : Nat) (cs : Array Value) : Prop where
  ob : Ob w' b cs
  off : Pk.Off b w w'
section
variable {ops : Array Oper} {rest : List Oper} {o : Oper} {a : Act} {K : Exit → Act → World → Prop}
theorem zero_op (w : World) : (zeroValue 40).run Tryz.prog w = .ok (.agg zOp) w := by kernel_rfl
theorem wpList_new_op (w : World) (hg : o.guard = none) (hop : o.op = Op.alloc 40)
    (h : ∀ w' b, NewO w w' b zOp → wpList Tryz.prog ops K rest (a.put o.dst (.pointer (some ⟨b, 0, none⟩))) w') : wpList Tryz.prog ops K (o :: rest) a w := by
  refine wpList_plain hg fun K' hK' => ?_
  unfold Oper.wp
  simp [execOp, hop, Instr.alloc, zero_op, Result.andThen, Value.cells]
  exact hK' _ _ (h _ _ ⟨⟨(MapKept.heap_alloc w _).1⟩, (Below.refl _ _).alloc (Nat.le_refl _) _, rfl⟩)
theorem Ob.f {w : World} {b : Nat} {cs : Array Value} (h : Ob w b cs) (i : Nat) : w.frozen? ⟨b, i, none⟩ = false := Lib.frozen_of_heap h.blk i
theorem Ob.rg {w : World} {b : Nat} {cs : Array Value} (h : Ob w b cs) : w.rangeAt b 0 cs.toList := fun j u hu => by
  rw [Lib.cell_of_heap h.blk, Nat.zero_add, ← hu]
  simp
theorem setCells_op {w : World} {b : Nat} {cs cs' : Array Value} (h : Ob w b cs) (hz : cs.size = 29) (hz' : cs'.size = 29) (h1 : ∀ v ∈ cs'.toList, v.oneCell' = true) : w.setCells b 0 cs'.toList = w.setRow b cs' := by
  have hth : ∀ j, j < 29 → ((w.cell? ⟨b, 0 + j, none⟩).isSome = true) := fun j hj => by
    rw [cell_of_row w b _ _ 40 (0, 0) h.blk]
    simp [hz, hj]
  have e1 := run_storeCells_at Tryz.prog b 0 40 cs'.toList 0 cs w h.blk (by simp [hz, hz']) h1
  have e2 := run_storeCells_cells (P := Tryz.prog) b 0 cs'.toList 0 w (fun j hj => by have := hth j (by simpa [hz'] using hj); simpa using this) (fun j hj => by have := h.f (0 + 0 + j); simpa using this) h1
  have e : (List.take (0 + 0) cs.toList ++ cs'.toList ++ List.drop (0 + 0 + cs'.toList.length) cs.toList).toArray = cs' := by
    have : List.drop (0 + 0 + cs'.toList.length) cs.toList = [] := List.drop_eq_nil_of_le (by simp [hz, hz'])
    rw [this]
    simp
  rw [e, e2] at e1
  simpa using e1
theorem wpList_put_op {b : Nat} {cs : Array Value} {kd n : Int} {s s' : Sc} {I T I' T' : Value} {kp : Int} (w : World) (hg : o.guard = none) (x y : Operand) (hop : o.op = Op.store 40 x y)
    (hx : a.eval x = .pointer (some ⟨b, 0, none⟩)) (hy : a.eval y = .agg (opA kd n s I T s' I' T' kp)) (hs : Ob w b cs) (hz : cs.size = 29) (hI : I.oneCell' = true) (hT : T.oneCell' = true) (hI' : I'.oneCell' = true) (hT' : T'.oneCell' = true)
    (h : ∀ w', PutO w w' b (opA kd n s I T s' I' T' kp) → wpList Tryz.prog ops K rest (a.put o.dst undef) w') : wpList Tryz.prog ops K (o :: rest) a w := by
  have h1 : ∀ v ∈ (opA kd n s I T s' I' T' kp).toList, v.oneCell' = true := by
    intro v hv
    simp [opA] at hv
    rcases hv with rfl | rfl | rfl | rfl | rfl | rfl | rfl | rfl | rfl | rfl | rfl | rfl | rfl | rfl | rfl | rfl | rfl | rfl | rfl | rfl | rfl | rfl | rfl | rfl | rfl | rfl | rfl | rfl | rfl
    all_goals first | rfl | assumption
  refine wpList_store_mid hg 40 x y hop b 0 (opA kd n s I T s' I' T' kp) hx hy ?_ (info_op kd n s I T s' I' T' kp) (Array.all_eq_true_iff_forall_mem.2 (fun v hv => h1 v (by simpa using hv))) ?_
  · intro j hj
    refine ⟨?_, hs.f _⟩
    rw [cell_of_row w b _ _ 40 (0, 0) hs.blk]
    have : j < 29 := hj
    simp [hz, this]
  · rw [setCells_op hs hz rfl h1]
    exact h _ ⟨⟨setRow_heap w b _ _ 40 _ hs.blk⟩, ⟨rfl, rfl, rfl, by simp, fun k _ hk => setRow_other w b k _ hk⟩⟩
end
section
variable {B l k db run r r' sure lo p n b : Nat} {w w' w0 wx : World} {S S' : Dk} {fs gs ss : List ByteArray} {v av u : Value} {a a1 a2 : Option Addr} {c c1 c2 : Nat} {kd m kp : Int} {s s' : Sc} {I T I' T' : Value} {cs : Array Value} {R Q : Rm}
/-- The law's log and its plain record, since the law began. -/
structure Pw (w0 w : World) (l k : Nat) (S : Dk) (db p : Nat) (a : Option Addr) (c : Nat) (run : Nat) (fs : List ByteArray) (sure : Nat) : Prop where
  py : Py w0.heap.size w l k S db p a c run fs sure
  bel : Below w0.heap.size w0 w
theorem Pw.below (h : Pw w0 w l k S db p a c run fs sure) (hb : Below w.heap.size w w') : Pw w0 w' l k S db p a c run fs sure := ⟨h.py.below hb, thn h.bel hb⟩
theorem Pw.mono {k' : Nat} (h : Pw w0 w l k S db p a c run fs sure) (hk : k ≤ k') : Pw w0 w l k' S db p a c run fs sure := ⟨h.py.mono hk, h.bel⟩
theorem Py.arm (h : Py B w l k S db p a c run fs sure) (i x : Int) (i1 : i ≤ 9223372036854775807) (x0 : 0 ≤ x) (x1 : x ≤ 18446744073709551615) : Calls Tryz.prog 15 #[.pointer (some ⟨db, 0, none⟩), .int .i64 i, .int .u64 x] w fun e w' => (∃ y S', e = .returned (.int .i64 y) ∧ Py B w' l k S' db p a c run fs sure) ∧ Below B w w' := by
  refine (h.lv.lx.d.arm i x i1 x0 x1).mono ?_
  rintro e w' ⟨he, hd, hK⟩
  have e1 : (armDk S i x).sure = S.sure ∧ (armDk S i x).wait = S.wait ∧ (armDk S i x).up = S.up ∧ (armDk S i x).n = S.n := by
    unfold armDk
    split <;> exact ⟨rfl, rfl, rfl, rfl⟩
  refine ⟨⟨_, _, he, ⟨⟨hd, h.lv.lx.g.keptD hK⟩, by rw [e1.2.2.1]; exact h.lv.up, h.lv.fit, h.lv.hs, by rw [e1.2.2.2]; exact h.lv.n, h.lv.r2, ?_⟩, by rw [e1.2.2.2]; exact h.n, h.pf.kept hK.d⟩, hK.bel⟩
  obtain ⟨Q, hQ, hs⟩ := h.lv.q
  exact ⟨Q, ⟨fun i hi => by have := hQ.now i hi; unfold Dk.now at this ⊢; rw [e1.1, e1.2.1]; exact this, hQ.run, hQ.sz, fun i => by rw [e1.2.1]; exact hQ.wait i⟩, hs⟩
/-- What is left by a call of the script, whichever it is. -/
structure Pn (w0 w : World) (k : Nat) (db p : Nat) (run : Nat) (e : Ending) : Prop where
  ex : ∃ l S a c run' fs sure, e = .returned (.tuple #[.pointer (some ⟨l, 0, none⟩), .bool true]) ∧ Pw w0 w l k S db p a c run' fs sure ∧ run' ≤ run
theorem Pz.pn {e : Ending} {k' run' : Nat} (h : Pz w0.heap.size wx w' k db p run e) (hb : Below w0.heap.size w0 wx) (hk : k ≤ k') (hr : run ≤ run') : Pn w0 w' k' db p run' e := by
  obtain ⟨l, S, a, c, r, fs, sure, h1, h2, h3, h4⟩ := h.ex
  exact ⟨l, S, a, c, r, fs, sure, h1, ⟨h2.mono hk, hb.trans h4⟩, Nat.le_trans h3 hr⟩
theorem Pw.flush2 (h : Pw w0 w l k S db p a c run fs sure) (hk : k ≤ 28000) (hr : run + 2 ≤ 4294967295) (x0 : 0 ≤ kp) (x1 : kp ≤ 18446744073709551615) : Calls Tryz.prog 12 #[.pointer (some ⟨db, 0, none⟩), .pointer (some ⟨l, 0, none⟩), .pointer (some ⟨p, 0, none⟩), .agg (opA 2 m s I T s' I' T' kp)] w fun e w' => Pn w0 w' (k + 64) db p (run + 2) e :=
  (flush_all h.py hk (by omega) x0 x1).mono fun e w' q => q.pn h.bel (by omega) (by omega)
theorem Pw.flush3 (h : Pw w0 w l k S db p a c run fs sure) (hk : k ≤ 28000) (hr : run + 2 ≤ 4294967295) (x0 : 0 ≤ kp) (x1 : kp ≤ 18446744073709551615) : Calls Tryz.prog 12 #[.pointer (some ⟨db, 0, none⟩), .pointer (some ⟨l, 0, none⟩), .pointer (some ⟨p, 0, none⟩), .agg (opA 3 m s I T s' I' T' kp)] w fun e w' => Pn w0 w' (k + 64) db p (run + 2) e := by
  by_cases hm : m < (off fs sure : Int) + 1
  · exact (flush_near h.py hm).mono fun e w' q => q.pn h.bel (by omega) (by omega)
  · exact (flush_far h.py hk (by omega) x0 x1 hm).mono fun e w' q => q.pn h.bel (by omega) (by omega)
theorem Pw.again4 (h : Pw w0 w l k S db p a c run fs sure) (hk : k ≤ 28000) (hr : run + 2 ≤ 4294967295) (x0 : 0 ≤ kp) (x1 : kp ≤ 18446744073709551615) : Calls Tryz.prog 13 #[.pointer (some ⟨db, 0, none⟩), .pointer (some ⟨p, 0, none⟩), .int .u64 kp] w fun e w' => Pn w0 w' (k + 64) db p (run + 2) e := by
  refine (again_any h.py.pd (by omega) (by omega) kp x0 x1).mono ?_
  rintro e w' ⟨l', S', j, he, h1, h2⟩
  exact ⟨l', S', _, _, _, _, _, he, ⟨h1.mono (by omega), h.bel.trans h2⟩, by omega⟩
theorem Pw.cut5 (h : Pw w0 w l k S db p a c run fs sure) (hk : k ≤ 28000) (hr : run + 2 ≤ 4294967295) (x0 : 0 ≤ kp) (x1 : kp ≤ 18446744073709551615) : Calls Tryz.prog 14 #[.pointer (some ⟨db, 0, none⟩), .pointer (some ⟨l, 0, none⟩), .pointer (some ⟨p, 0, none⟩), .agg (opA kd m s I T s' I' T' kp)] w fun e w' => Pn w0 w' (k + 64) db p (run + 2) e := by
  by_cases hm : m < 0 ∨ (fs.length : Int) < m
  · exact (cutl_out h.py (by omega) hm).mono fun e w' q => q.pn h.bel (by omega) (by omega)
  · obtain ⟨i, rfl⟩ : ∃ i : Nat, m = (i : Int) := ⟨m.toNat, by omega⟩
    exact (cutl_in h.py hk hr x0 x1 i (by omega)).mono fun e w' q => q.pn h.bel (by omega) (by omega)
theorem Pw.add01 (h : Pw w0 w l k S db p a c run fs sure) (hR : RecV w0 (.agg (R.s.A I T)) R) (hhR : Held R) (hQ : RecV w0 (.agg (Q.s.A I' T')) Q) (hhQ : Held Q) (hk : kd = 0 ∨ kd = 1) : Calls Tryz.prog 11 #[.pointer (some ⟨l, 0, none⟩), .pointer (some ⟨p, 0, none⟩), .agg (opA kd m R.s I T Q.s I' T' kp)] w fun e w' => e = .returned (.bool true) ∧ ∃ a' c' fs', Pw w0 w' l (k + 64) S db p a' c' run fs' sure := by
  refine (add_any h.py (hR.below h.bel) hhR (hQ.below h.bel) hhQ hk).mono ?_
  rintro e w' ⟨he, a', c', fs', h1, h2⟩
  exact ⟨he, a', c', fs', h1.mono (by omega), h.bel.trans h2⟩
theorem Pw.arm6 (h : Pw w0 w l k S db p a c run fs sure) (x0 : 0 ≤ kp) (x1 : kp ≤ 18446744073709551615) (m1 : m ≤ 9223372036854775807) : Calls Tryz.prog 15 #[.pointer (some ⟨db, 0, none⟩), .int .i64 m, .int .u64 kp] w fun e w' => ∃ y S', e = .returned (.int .i64 y) ∧ Pw w0 w' l (k + 64) S' db p a c run fs sure := by
  refine (h.py.arm m kp m1 x0 x1).mono ?_
  rintro e w' ⟨⟨y, S', he, h1⟩, h2⟩
  exact ⟨y, S', he, h1.mono (by omega), h.bel.trans h2⟩
theorem Pw.holds (h : Pw w0 w l k S db p a c run fs sure) : Calls Tryz.prog 16 #[.pointer (some ⟨l, 0, none⟩), .pointer (some ⟨p, 0, none⟩)] w fun e w' => e = .returned (.bool true) ∧ Pw w0 w' l k S db p a c run fs sure := by
  refine (holds_any h.py).mono ?_
  rintro e w' ⟨he, h1, h2⟩
  exact ⟨he, h1, h.bel.trans h2⟩
end
end Go.Proofs.YtgcfbjecmmnlhaaGreat
