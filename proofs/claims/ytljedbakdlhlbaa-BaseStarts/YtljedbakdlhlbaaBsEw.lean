/- BaseEither: behind a loss of power within a save there is the base of before, or the new one. -/
import Derived.Test.YtljedbakdlhlbaaBsSw
namespace Go.Proofs.Ytljedbakdlhlbaa
open Go.RowKit
set_option linter.unusedVariables false
set_option linter.unusedSimpArgs false
set_option maxRecDepth 100000

def roomB (n : Int) (k : Nat) : Bool := decide (0 ≤ n) && decide (n < Pk.limI k)
def fitB (s : Bs) : Bool := roomB s.nd 1 && (roomB s.bt 4 && (roomB s.gn 2 && (roomB s.ck 6 && (roomB s.rd 6 && (roomB s.sn 4 && roomB s.jn 4)))))
theorem roomB_iff (n : Int) (k : Nat) : roomB n k = true ↔ Room n k := by simp [roomB, Room]
theorem fitB_iff (s : Bs) : fitB s = true ↔ Fit s := by simp [fitB, fit_iff, roomB_iff]
theorem fitB_no {s : Bs} (h : ¬ Fit s) : fitB s = false := by
  cases e : fitB s
  · rfl
  · exact absurd ((fitB_iff s).1 e) h
theorem bytes_b {s : Bs} (hi : I64 s) (w : World) : Calls Try.prog 10 #[.agg s.A] w fun e w' => ∃ t, e = .returned (.tuple #[.string t, .bool (fitB s)]) ∧ Below w.heap.size w w' := by
  by_cases h : Fit s
  · rw [(fitB_iff s).2 h]
    refine (bytes_fit h w).mono ?_
    rintro e w' ⟨rfl, hb⟩
    exact ⟨_, rfl, hb⟩
  · rw [fitB_no h]
    exact bytes_bad h hi w
/-- Two bases of the law's own. -/
structure Ow (w : World) (b0 b1 : Nat) (a b : Bs) : Prop where
  a : BsAt w b0 a
  b : BsAt w b1 b
section
variable {w w' : World} {b0 b1 B : Nat} {a b : Bs}
theorem Ow.below (h : Ow w b0 b1 a b) (hb : Below w.heap.size w w') : Ow w' b0 b1 a b := ⟨h.a.below hb, h.b.below hb⟩
theorem Ow.kp (h : Ow w b0 b1 a b) (hb : Kp isD B w w') : Ow w' b0 b1 a b := ⟨h.a.kp hb, h.b.kp hb⟩
theorem Ow.new {w0 w1 : World} (N0 : NewB w w0 b0 a) (N1 : NewB w0 w1 b1 b) : Ow w1 b0 b1 a b := ⟨N0.rc.below N1.below, N1.rc⟩
set_option maxHeartbeats 4000000 in
theorem either_out (ha : I64 a) (hb : I64 b) (i x : Int) (h : fitB a = false ∨ (fitB a = true ∧ fitB b = false) ∨ (fitB a = true ∧ fitB b = true ∧ i < 0) ∨ (fitB a = true ∧ fitB b = true ∧ ¬ i < 0 ∧ 1 < i)) : Calls Try.prog 5 #[.agg a.A, .agg b.A, .int .i64 i, .int .u64 x] w fun e w' => e = .returned (.bool true) ∧ Below w.heap.size w w' := by
  have CBa : Hid (∀ wx, Calls Try.prog 10 #[.agg a.A] wx fun e w' => ∃ t, e = .returned (.tuple #[.string t, .bool (fitB a)]) ∧ Below wx.heap.size wx w') := fun wx => bytes_b ha wx
  have CBb : Hid (∀ wx, Calls Try.prog 10 #[.agg b.A] wx fun e w' => ∃ t, e = .returned (.tuple #[.string t, .bool (fitB b)]) ∧ Below wx.heap.size wx w') := fun wx => bytes_b hb wx
  have CN : Hid (∀ wx, Calls Try.prog 8 #[.int .i64 1] wx fun e w' => e = .returned (.tuple #[.pointer (some ⟨wx.heap.size + 2, 0, none⟩), .int .i64 0]) ∧ Ds wx.heap.size w' (wx.heap.size + 2) 0 (newDk 1) ∧ Below wx.heap.size wx w') := fun wx => Ds.new 1 (by decide) (by decide) wx
  have CA : Hid (∀ wx, Calls Try.prog 13 #[] wx fun e w' => e = .returned (.bool true) ∧ w' = wx) := awake9
  clear ha hb
  generalize fitB a = fa at *
  generalize fitB b = fb at *
  rcases h with rfl | ⟨rfl, rfl⟩ | ⟨rfl, rfl, h⟩ | ⟨rfl, rfl, h, h2⟩
  all_goals
    go_enter Try.func5, Try.ntmps5
    go_wp2_with (first
      | (refine wpList_box_bs (s := a) _ rfl _ rfl rfl ?_; intro w0 b0 N0)
      | (refine wpList_box_bs (s := b) _ rfl _ rfl rfl ?_; intro w1 b1 N1; have O := Ow.new N0 N1)
      | (refine wpList_load_bs _ rfl (.tmp 4) rfl rfl O.a ?_)
      | (refine wpList_load_bs _ rfl (.tmp 5) rfl rfl (O.below q2).b ?_)
      | (have := q2; go_at_call 10; refine (CBb.out _).mono ?_; rintro e w3 ⟨t3, rfl, q3⟩)
      | (go_at_call 10; refine (CBa.out _).mono ?_; rintro e w2 ⟨t2, rfl, q2⟩)
      | (go_at_call 8; refine (CN.out _).mono ?_; rintro e w4 ⟨rfl, d4, q4⟩)
      | (go_at_call 13; refine (CA.out _).mono ?_; rintro e w9 ⟨rfl, rfl⟩))
    go_ret
    exact ⟨rfl, thn N0.below (thn N1.below (thn q2 (thn q3 q4)))⟩
set_option maxHeartbeats 4000000 in
theorem either_old (ha : I64 a) (hb : I64 b) (fa : Fit a) (fb : Fit b) (i x : Int) (hi : i = 0 ∨ i = 1) (x0 : 0 ≤ x) (x1 : x ≤ 18446744073709551615) (S1 : Dk) (hS : S1 = saveDk (newDk 1) a) (sv : Sv { saveDk (armDk S1 i x) b with up := true } a) : Calls Try.prog 5 #[.agg a.A, .agg b.A, .int .i64 i, .int .u64 x] w fun e w' => e = .returned (.bool true) ∧ Below w.heap.size w w' := by
  have CB : Hid (∀ wx s, s = a ∨ s = b → Calls Try.prog 10 #[.agg s.A] wx fun e w' => ∃ t, e = .returned (.tuple #[.string t, .bool true]) ∧ Below wx.heap.size wx w') := by
    rintro wx s (rfl | rfl)
    · have := bytes_b ha wx; rw [(fitB_iff _).2 fa] at this; exact this
    · have := bytes_b hb wx; rw [(fitB_iff _).2 fb] at this; exact this
  have CN : Hid (∀ wx, Calls Try.prog 8 #[.int .i64 1] wx fun e w' => e = .returned (.tuple #[.pointer (some ⟨wx.heap.size + 2, 0, none⟩), .int .i64 0]) ∧ Ds wx.heap.size w' (wx.heap.size + 2) 0 (newDk 1) ∧ Below wx.heap.size wx w') := fun wx => Ds.new 1 (by decide) (by decide) wx
  have CA : Hid (∀ wx, Calls Try.prog 13 #[] wx fun e w' => e = .returned (.bool true) ∧ w' = wx) := awake9
  obtain ⟨s1, s2, s3⟩ := (qt_new 1 (by decide)).save (s := a) (fun _ => rfl)
  rw [← hS] at s2 s3
  obtain ⟨t1, t2, t3, t4⟩ := s2.armed (b := b) (x := x) hi
  have CS : Hid (∀ B wx db, Ds B wx db 0 (newDk 1) → Calls Try.prog 9 #[.pointer (some ⟨db, 0, none⟩), .agg a.A] wx fun e w' => e = .returned (.int .i64 0) ∧ Ds B w' db 2 S1 ∧ Kp isD B wx w') := by
    intro B wx db d
    have := Save_fit d (by decide) fa
    rw [s1, ← hS] at this
    exact this
  have CR : Hid (∀ B wx db, Ds B wx db 2 S1 → Calls Try.prog 16 #[.pointer (some ⟨db, 0, none⟩), .int .i64 i, .int .u64 x] wx fun e w' => e = .returned (.int .i64 0) ∧ Ds B w' db 2 (armDk S1 i x) ∧ Kp isD B wx w') := by
    intro B wx db d
    have := d.arm i x (by omega) x0 x1
    rw [arm_ok s2.qt hi] at this
    exact this
  have CT : Hid (∀ B wx db, Ds B wx db 2 (armDk S1 i x) → Calls Try.prog 9 #[.pointer (some ⟨db, 0, none⟩), .agg b.A] wx fun e w' => e = .returned (.int .i64 9) ∧ Ds B w' db 4 (saveDk (armDk S1 i x) b) ∧ Kp isD B wx w') := by
    intro B wx db d
    have := Save_fit d (by decide) fb
    rw [t1] at this
    exact this
  have CU : Hid (∀ B wx db, Ds B wx db 4 (saveDk (armDk S1 i x) b) → Calls Try.prog 17 #[.pointer (some ⟨db, 0, none⟩)] wx fun e w' => e = .returned (.int .i64 0) ∧ Ds B w' db 4 { saveDk (armDk S1 i x) b with up := true } ∧ Kp isD B wx w') := by
    intro B wx db d
    have := d.start
    rw [t2] at this
    exact this
  have CL : Hid (∀ B wx db, Ds B wx db 4 { saveDk (armDk S1 i x) b with up := true } → Calls Try.prog 11 #[.pointer (some ⟨db, 0, none⟩)] wx fun e w' => e = .returned (.tuple #[.agg a.A, .int .i64 0]) ∧ Below wx.heap.size wx w') := fun B wx db d => Load_has d rfl (sv.has fa)
  have he1 := eql_self a
  generalize { saveDk (armDk S1 i x) b with up := true } = S4 at *
  generalize saveDk (armDk S1 i x) b = S3 at *
  generalize armDk S1 i x = S2 at *
  have i0 : ¬ i < 0 := by omega
  have i1 : ¬ 1 < i := by omega
  clear ha hb fa fb hS sv s1 s2 s3 t1 t2 t3 t4 hi x0 x1
  go_enter Try.func5, Try.ntmps5
  go_wp2_with (first
    | (refine wpList_box_bs (s := a) _ rfl _ rfl rfl ?_; intro w0 b0 N0)
    | (refine wpList_box_bs (s := b) _ rfl _ rfl rfl ?_; intro w1 b1 N1; have O := Ow.new N0 N1)
    | (refine wpList_load_bs _ rfl (.tmp 4) rfl rfl O.a ?_)
    | (refine wpList_load_bs _ rfl (.tmp 5) rfl rfl O.b ?_)
    | (have := q2; go_at_call 10; refine (CB.out _ b (Or.inr rfl)).mono ?_; rintro e w3 ⟨t3, rfl, q3⟩; replace O := O.below q3)
    | (go_at_call 10; refine (CB.out _ a (Or.inl rfl)).mono ?_; rintro e w2 ⟨t2, rfl, q2⟩; replace O := O.below q2)
    | (go_at_call 8; refine (CN.out _).mono ?_; rintro e w4 ⟨rfl, d4, q4⟩; replace O := O.below q4)
    | (have := d6; go_at_call 9; refine (CT.out _ _ _ d6).mono ?_; rintro e w7 ⟨rfl, d7, k7⟩; replace O := O.kp k7)
    | (go_at_call 9; refine (CS.out _ _ _ d4).mono ?_; rintro e w5 ⟨rfl, d5, k5⟩; replace O := O.kp k5)
    | (go_at_call 16; refine (CR.out _ _ _ d5).mono ?_; rintro e w6 ⟨rfl, d6, k6⟩; replace O := O.kp k6; have y0 := O.b.c0; have y1 := O.b.c1; have y2 := O.b.c2; have y3 := O.b.c3; have y4 := O.b.c4; have y5 := O.b.c5; have y6 := O.b.c6)
    | (go_at_call 17; refine (CU.out _ _ _ d7).mono ?_; rintro e w8 ⟨rfl, d8, k8⟩; replace O := O.kp k8)
    | (go_at_call 11; refine (CL.out _ _ _ d8).mono ?_; rintro e w9 ⟨rfl, q9⟩; replace O := O.below q9)
    | (refine wpList_new_bs _ rfl rfl ?_; intro w10 b10 N10; replace O := O.below N10.below)
    | (refine wpList_at (Op.store 23 (.tmp 15) (.tmp 77)) rfl ?_; refine wpList_put_bs (s' := a) _ rfl (.tmp 15) (.tmp 77) rfl rfl rfl N10.rc ?_; intro w11 P11; have Oa := O.a.off P11.off (by have := O.a.lt; have := N10.eq; have := N0.rc.lt; have := N1.below.size; have := q2.size; have := q3.size; have := q4.size; have := k5.size; have := k6.size; have := k7.size; have := k8.size; have := q9.size; omega); have Ob := O.b.off P11.off (by have := N10.eq; have := N1.rc.lt; have := q2.size; have := q3.size; have := q4.size; have := k5.size; have := k6.size; have := k7.size; have := k8.size; have := q9.size; omega); have x0 := P11.rc.c0; have x1 := P11.rc.c1; have x2 := P11.rc.c2; have x3 := P11.rc.c3; have x4 := P11.rc.c4; have x5 := P11.rc.c5; have x6 := P11.rc.c6; have u0 := Oa.c0; have u1 := Oa.c1; have u2 := Oa.c2; have u3 := Oa.c3; have u4 := Oa.c4; have u5 := Oa.c5; have u6 := Oa.c6; have v0 := Ob.c0; have v1 := Ob.c1; have v2 := Ob.c2; have v3 := Ob.c3; have v4 := Ob.c4; have v5 := Ob.c5; have v6 := Ob.c6)
    | (go_at_call 13; refine (CA.out _).mono ?_; rintro e w12 ⟨rfl, rfl⟩))
  go_ret
  have a0 := thn N0.below (thn N1.below (thn q2 q3))
  have a1 := a0.size
  have a2 := q4.size
  have a3 : Below w3.heap.size w4 w8 := ((k5.bel.trans k6.bel).trans k7.bel).trans k8.bel
  have a4 := a3.size
  have a5 := q9.size
  have a6 := N10.eq
  have a7 := N10.below.size
  exact ⟨rfl, (a0.trans (q4.mono a1)).trans ((a3.mono a1).trans (((thn q9 N10.below).mono (by omega)).trans (P11.below (by omega) (by omega))))⟩
set_option maxHeartbeats 4000000 in
theorem either_new (ha : I64 a) (hb : I64 b) (fa : Fit a) (fb : Fit b) (i x : Int) (hi : i = 0 ∨ i = 1) (x0 : 0 ≤ x) (x1 : x ≤ 18446744073709551615) (S1 : Dk) (hS : S1 = saveDk (newDk 1) a) (sv : Sv { saveDk (armDk S1 i x) b with up := true } b) (ne : b.eq a = false) : Calls Try.prog 5 #[.agg a.A, .agg b.A, .int .i64 i, .int .u64 x] w fun e w' => e = .returned (.bool true) ∧ Below w.heap.size w w' := by
  have CB : Hid (∀ wx s, s = a ∨ s = b → Calls Try.prog 10 #[.agg s.A] wx fun e w' => ∃ t, e = .returned (.tuple #[.string t, .bool true]) ∧ Below wx.heap.size wx w') := by
    rintro wx s (rfl | rfl)
    · have := bytes_b ha wx; rw [(fitB_iff _).2 fa] at this; exact this
    · have := bytes_b hb wx; rw [(fitB_iff _).2 fb] at this; exact this
  have CN : Hid (∀ wx, Calls Try.prog 8 #[.int .i64 1] wx fun e w' => e = .returned (.tuple #[.pointer (some ⟨wx.heap.size + 2, 0, none⟩), .int .i64 0]) ∧ Ds wx.heap.size w' (wx.heap.size + 2) 0 (newDk 1) ∧ Below wx.heap.size wx w') := fun wx => Ds.new 1 (by decide) (by decide) wx
  have CA : Hid (∀ wx, Calls Try.prog 13 #[] wx fun e w' => e = .returned (.bool true) ∧ w' = wx) := awake9
  obtain ⟨s1, s2, s3⟩ := (qt_new 1 (by decide)).save (s := a) (fun _ => rfl)
  rw [← hS] at s2 s3
  obtain ⟨t1, t2, t3, t4⟩ := s2.armed (b := b) (x := x) hi
  have CS : Hid (∀ B wx db, Ds B wx db 0 (newDk 1) → Calls Try.prog 9 #[.pointer (some ⟨db, 0, none⟩), .agg a.A] wx fun e w' => e = .returned (.int .i64 0) ∧ Ds B w' db 2 S1 ∧ Kp isD B wx w') := by
    intro B wx db d
    have := Save_fit d (by decide) fa
    rw [s1, ← hS] at this
    exact this
  have CR : Hid (∀ B wx db, Ds B wx db 2 S1 → Calls Try.prog 16 #[.pointer (some ⟨db, 0, none⟩), .int .i64 i, .int .u64 x] wx fun e w' => e = .returned (.int .i64 0) ∧ Ds B w' db 2 (armDk S1 i x) ∧ Kp isD B wx w') := by
    intro B wx db d
    have := d.arm i x (by omega) x0 x1
    rw [arm_ok s2.qt hi] at this
    exact this
  have CT : Hid (∀ B wx db, Ds B wx db 2 (armDk S1 i x) → Calls Try.prog 9 #[.pointer (some ⟨db, 0, none⟩), .agg b.A] wx fun e w' => e = .returned (.int .i64 9) ∧ Ds B w' db 4 (saveDk (armDk S1 i x) b) ∧ Kp isD B wx w') := by
    intro B wx db d
    have := Save_fit d (by decide) fb
    rw [t1] at this
    exact this
  have CU : Hid (∀ B wx db, Ds B wx db 4 (saveDk (armDk S1 i x) b) → Calls Try.prog 17 #[.pointer (some ⟨db, 0, none⟩)] wx fun e w' => e = .returned (.int .i64 0) ∧ Ds B w' db 4 { saveDk (armDk S1 i x) b with up := true } ∧ Kp isD B wx w') := by
    intro B wx db d
    have := d.start
    rw [t2] at this
    exact this
  have CL : Hid (∀ B wx db, Ds B wx db 4 { saveDk (armDk S1 i x) b with up := true } → Calls Try.prog 11 #[.pointer (some ⟨db, 0, none⟩)] wx fun e w' => e = .returned (.tuple #[.agg b.A, .int .i64 0]) ∧ Below wx.heap.size wx w') := fun B wx db d => Load_has d rfl (sv.has fb)
  have he1 : ∀ wx, (binOp .eql 23 (.agg #[.int .i64 b.nd, .int .i64 b.bt, .int .i64 b.gn, .int .i64 b.ck, .int .i64 b.rd, .int .i64 b.sn, .int .i64 b.jn]) (.agg #[.int .i64 a.nd, .int .i64 a.bt, .int .i64 a.gn, .int .i64 a.ck, .int .i64 a.rd, .int .i64 a.sn, .int .i64 a.jn])).run Try.prog wx = .ok (.bool false) wx := fun wx => by
    have := eql_bs wx b a
    rw [ne] at this
    exact this
  have he2 := eql_self b
  clear ne
  generalize { saveDk (armDk S1 i x) b with up := true } = S4 at *
  generalize saveDk (armDk S1 i x) b = S3 at *
  generalize armDk S1 i x = S2 at *
  have i0 : ¬ i < 0 := by omega
  have i1 : ¬ 1 < i := by omega
  clear ha hb fa fb hS sv s1 s2 s3 t1 t2 t3 t4 hi x0 x1
  go_enter Try.func5, Try.ntmps5
  go_wp2_with (first
    | (refine wpList_box_bs (s := a) _ rfl _ rfl rfl ?_; intro w0 b0 N0)
    | (refine wpList_box_bs (s := b) _ rfl _ rfl rfl ?_; intro w1 b1 N1; have O := Ow.new N0 N1)
    | (refine wpList_load_bs _ rfl (.tmp 4) rfl rfl O.a ?_)
    | (refine wpList_load_bs _ rfl (.tmp 5) rfl rfl O.b ?_)
    | (have := q2; go_at_call 10; refine (CB.out _ b (Or.inr rfl)).mono ?_; rintro e w3 ⟨t3, rfl, q3⟩; replace O := O.below q3)
    | (go_at_call 10; refine (CB.out _ a (Or.inl rfl)).mono ?_; rintro e w2 ⟨t2, rfl, q2⟩; replace O := O.below q2)
    | (go_at_call 8; refine (CN.out _).mono ?_; rintro e w4 ⟨rfl, d4, q4⟩; replace O := O.below q4)
    | (have := d6; go_at_call 9; refine (CT.out _ _ _ d6).mono ?_; rintro e w7 ⟨rfl, d7, k7⟩; replace O := O.kp k7)
    | (go_at_call 9; refine (CS.out _ _ _ d4).mono ?_; rintro e w5 ⟨rfl, d5, k5⟩; replace O := O.kp k5)
    | (go_at_call 16; refine (CR.out _ _ _ d5).mono ?_; rintro e w6 ⟨rfl, d6, k6⟩; replace O := O.kp k6; have y0 := O.b.c0; have y1 := O.b.c1; have y2 := O.b.c2; have y3 := O.b.c3; have y4 := O.b.c4; have y5 := O.b.c5; have y6 := O.b.c6)
    | (go_at_call 17; refine (CU.out _ _ _ d7).mono ?_; rintro e w8 ⟨rfl, d8, k8⟩; replace O := O.kp k8)
    | (go_at_call 11; refine (CL.out _ _ _ d8).mono ?_; rintro e w9 ⟨rfl, q9⟩; replace O := O.below q9)
    | (refine wpList_new_bs _ rfl rfl ?_; intro w10 b10 N10; replace O := O.below N10.below)
    | (refine wpList_at (Op.store 23 (.tmp 15) (.tmp 77)) rfl ?_; refine wpList_put_bs (s' := b) _ rfl (.tmp 15) (.tmp 77) rfl rfl rfl N10.rc ?_; intro w11 P11; have Oa := O.a.off P11.off (by have := O.a.lt; have := N10.eq; have := N0.rc.lt; have := N1.below.size; have := q2.size; have := q3.size; have := q4.size; have := k5.size; have := k6.size; have := k7.size; have := k8.size; have := q9.size; omega); have Ob := O.b.off P11.off (by have := N10.eq; have := N1.rc.lt; have := q2.size; have := q3.size; have := q4.size; have := k5.size; have := k6.size; have := k7.size; have := k8.size; have := q9.size; omega); have x0 := P11.rc.c0; have x1 := P11.rc.c1; have x2 := P11.rc.c2; have x3 := P11.rc.c3; have x4 := P11.rc.c4; have x5 := P11.rc.c5; have x6 := P11.rc.c6; have u0 := Oa.c0; have u1 := Oa.c1; have u2 := Oa.c2; have u3 := Oa.c3; have u4 := Oa.c4; have u5 := Oa.c5; have u6 := Oa.c6; have v0 := Ob.c0; have v1 := Ob.c1; have v2 := Ob.c2; have v3 := Ob.c3; have v4 := Ob.c4; have v5 := Ob.c5; have v6 := Ob.c6)
    | (go_at_call 13; refine (CA.out _).mono ?_; rintro e w12 ⟨rfl, rfl⟩))
  go_ret
  have a0 := thn N0.below (thn N1.below (thn q2 q3))
  have a1 := a0.size
  have a2 := q4.size
  have a3 : Below w3.heap.size w4 w8 := ((k5.bel.trans k6.bel).trans k7.bel).trans k8.bel
  have a4 := a3.size
  have a5 := q9.size
  have a6 := N10.eq
  have a7 := N10.below.size
  exact ⟨rfl, (a0.trans (q4.mono a1)).trans ((a3.mono a1).trans (((thn q9 N10.below).mono (by omega)).trans (P11.below (by omega) (by omega))))⟩
theorem either9_walk (a : Bs) (ha : I64 a) (b : Bs) (hb : I64 b) (i x : Int) (i1 : i ≤ 9223372036854775807) (x0 : 0 ≤ x) (x1 : x ≤ 18446744073709551615) : Calls Try.prog 5 #[.agg a.A, .agg b.A, .int .i64 i, .int .u64 x] w fun e w' => e = .returned (.bool true) ∧ Below w.heap.size w w' := by
  by_cases fa : Fit a
  · have fa' := (fitB_iff a).2 fa
    by_cases fb : Fit b
    · have fb' := (fitB_iff b).2 fb
      by_cases h0 : i < 0
      · exact either_out ha hb i x (Or.inr (Or.inr (Or.inl ⟨fa', fb', h0⟩)))
      · by_cases h1 : 1 < i
        · exact either_out ha hb i x (Or.inr (Or.inr (Or.inr ⟨fa', fb', h0, h1⟩)))
        · have hi : i = 0 ∨ i = 1 := by omega
          obtain ⟨s1, s2, s3⟩ := (qt_new 1 (by decide)).save (s := a) (fun _ => rfl)
          obtain ⟨t1, t2, t3, t4⟩ := s2.armed (b := b) (x := x) hi
          rcases t3 with t3 | t3
          · exact either_old ha hb fa fb i x hi x0 x1 _ rfl t3
          · cases e : b.eq a with
            | false => exact either_new ha hb fa fb i x hi x0 x1 _ rfl t3 e
            | true =>
              have := (Bs.eq_iff b a).1 e
              subst this
              exact either_old ha hb fa fb i x hi x0 x1 _ rfl t3
    · exact either_out ha hb i x (Or.inr (Or.inl ⟨fa', fitB_no fb⟩))
  · exact either_out ha hb i x (Or.inl (fitB_no fa))
end
end Go.Proofs.Ytljedbakdlhlbaa
