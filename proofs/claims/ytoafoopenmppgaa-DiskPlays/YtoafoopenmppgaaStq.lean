/- The law's step: Arm, Calm and Start of both disks. -/
import Derived.Test.YtoafoopenmppgaaPw
import Derived.Test.YtoafoopenmppgaaStp
namespace Go.Proofs.Ytoafoopenmppgaa
open Go.RowKit Go.Maps Go.ChangeMaps Go.Sort
set_option linter.unusedVariables false
set_option linter.unusedSimpArgs false
set_option maxRecDepth 100000
variable {w w' : World} {db lb mb m pb rb cap : Nat} {pl pk : Int} {S : Dk}

set_option maxHeartbeats 4000000 in
theorem step4_arm (w : World) (hD : DkIs w db lb mb m S) (hP : PlIs w pb rb cap pl pk S) (hS : S.Ok) (hm : m < 1000) (hA : Apart db lb mb pb rb)  (i k : Int) (k0 : 0 ≤ k) (k1 : k ≤ 18446744073709551615) (s : ByteArray) (hs : s.size ≤ 9223372036854775807) (hu : S.up = true) (hi : 0 ≤ i) :
    Calls Try.prog 10 #[.pointer (some ⟨db, 0, none⟩), .pointer (some ⟨pb, 0, none⟩), .agg #[.int .i64 4, .int .i64 i, .string s, .int .u64 k]] w fun e w' => e = .returned (.bool true) ∧ Both w' db lb mb (m + 1) pb rb cap ({ S with set := true, left := i, keep := k }) ∧ Off (five db lb mb pb rb) w w' := by
  have hDw : Hid (DkIs w db lb mb m S) := hD
  have hPw : Hid (PlIs w pb rb cap pl pk S) := hP
  have p0 := hP.pw.d0
  have p1 := hP.pw.d1
  have p2 := hP.pw.d2
  have p3 := hP.pw.d3
  have p4 := hP.pw.d4
  have pf := hP.pw.df
  have hpl := hP.lt
  have hn1 := hS.n1
  have hal : ∀ (v : World) (o : Obj) (j : Nat), v.heap.size = w.heap.size → (v.alloc o).cell? ⟨pb, j, none⟩ = v.cell? ⟨pb, j, none⟩ := fun v o j hv => World.cell?_alloc_lt _ _ _ (by rw [hv]; exact hpl)
  have hfl : ∀ (v : World) (o : Obj) (j : Nat), v.heap.size = w.heap.size → (v.alloc o).frozen? ⟨pb, j, none⟩ = v.frozen? ⟨pb, j, none⟩ := fun v o j hv => World.frozen?_alloc_past _ _ _ (by rw [hv]; exact hpl)
  clear hD hP
  rw [hu] at p1
  simp only [Bool.not_true] at p1
  have hi' : ¬ i < 0 := by omega
  have CD : Hid (∀ w, DkIs w db lb mb m S → Calls Try.prog 22 #[.pointer (some ⟨db, 0, none⟩), .int .i64 i, .int .u64 k] w fun e w' => e = .returned (.int .i64 0) ∧ DkIs w' db lb mb m { S with set := true, left := i, keep := k } ∧ Off (disk3 db lb mb) w w') := fun w h => by
    have := Arm_any w h hn1 i k
    have e : armDk S i k = { S with set := true, left := i, keep := k } := by simp [armDk, hi', hu]
    have e2 : armE S.up i = 0 := by simp [armE, hi', hu]
    rwa [e, e2] at this
  have o1 : Hid (Off (two pb rb) w (((w.setCell ⟨pb, 2, none⟩ (.bool true)).setCell ⟨pb, 3, none⟩ (.int .i64 i)).setCell ⟨pb, 4, none⟩ (.int .u64 k))) := (((Off.refl _ _).setCell (two_a _ _) _ _).setCell (two_a _ _) _ _).setCell (two_a _ _) _ _
  have x1 : Hid (PlIs (((w.setCell ⟨pb, 2, none⟩ (.bool true)).setCell ⟨pb, 3, none⟩ (.int .i64 i)).setCell ⟨pb, 4, none⟩ (.int .u64 k)) pb rb cap i k { S with set := true, left := i, keep := k }) := by
    have hF := ((hPw.out.pw.setP 2 (.bool true) (down' := !S.up) (armed' := true) (pl' := pl) (pk' := pk) (acts' := S.acts) (downs' := S.downs) rfl).setP 3 (.int .i64 i) (down' := !S.up) (armed' := true) (pl' := i) (pk' := pk) (acts' := S.acts) (downs' := S.downs) rfl).setP 4 (.int .u64 k) (down' := !S.up) (armed' := true) (pl' := i) (pk' := k) (acts' := S.acts) (downs' := S.downs) rfl
    exact ⟨hF.blk, fun _ => ⟨rfl, rfl⟩, hF.row, hF.ne⟩
  have y1 := hDw.out.off o1.out hA.d hA.l hA.mm
  have Y1 : Hid _ := y1
  clear y1
  go_enter Try.func10, Try.ntmps10
  go_wp2_with (go_at_call 22; refine (CD.out _ (Y1.out.below (below_alloc _ _))).mono ?_; rintro e w2 ⟨rfl, hD, ho⟩)
  go_ret
  exact ⟨rfl, ⟨hD.mono (Nat.le_succ _), i, k, (x1.out.below (below_alloc _ _)).off ho hA.p hA.r⟩, (o1.out.f2).trans ((off_alloc ho).f1)⟩

set_option maxHeartbeats 4000000 in
theorem step5_all (w : World) (hD : DkIs w db lb mb m S) (hP : PlIs w pb rb cap pl pk S) (hS : S.Ok) (hm : m < 1000) (hA : Apart db lb mb pb rb)  (i k : Int) (k0 : 0 ≤ k) (k1 : k ≤ 18446744073709551615) (s : ByteArray) (hs : s.size ≤ 9223372036854775807)  :
    Calls Try.prog 10 #[.pointer (some ⟨db, 0, none⟩), .pointer (some ⟨pb, 0, none⟩), .agg #[.int .i64 5, .int .i64 i, .string s, .int .u64 k]] w fun e w' => e = .returned (.bool true) ∧ Both w' db lb mb (m + 1) pb rb cap (calmDk S) ∧ Off (five db lb mb pb rb) w w' := by
  have hDw : Hid (DkIs w db lb mb m S) := hD
  have hPw : Hid (PlIs w pb rb cap pl pk S) := hP
  have p0 := hP.pw.d0
  have p1 := hP.pw.d1
  have p2 := hP.pw.d2
  have p3 := hP.pw.d3
  have p4 := hP.pw.d4
  have pf := hP.pw.df
  have hpl := hP.lt
  have hn1 := hS.n1
  have hal : ∀ (v : World) (o : Obj) (j : Nat), v.heap.size = w.heap.size → (v.alloc o).cell? ⟨pb, j, none⟩ = v.cell? ⟨pb, j, none⟩ := fun v o j hv => World.cell?_alloc_lt _ _ _ (by rw [hv]; exact hpl)
  have hfl : ∀ (v : World) (o : Obj) (j : Nat), v.heap.size = w.heap.size → (v.alloc o).frozen? ⟨pb, j, none⟩ = v.frozen? ⟨pb, j, none⟩ := fun v o j hv => World.frozen?_alloc_past _ _ _ (by rw [hv]; exact hpl)
  clear hD hP
  have CD : Hid (∀ w, DkIs w db lb mb m S → Calls Try.prog 21 #[.pointer (some ⟨db, 0, none⟩)] w fun e w' => e = .returned (.tuple #[]) ∧ DkIs w' db lb mb m (calmDk S) ∧ Off (disk3 db lb mb) w w') := fun w h => Calm_any w h hn1
  have o1 : Hid (Off (two pb rb) w (w.setCell ⟨pb, 2, none⟩ (.bool false))) := (Off.refl _ _).setCell (two_a _ _) _ _
  have x1 : Hid (PlIs (w.setCell ⟨pb, 2, none⟩ (.bool false)) pb rb cap pl pk (calmDk S)) := by
    have hF := hPw.out.pw.setP 2 (.bool false) (down' := !S.up) (armed' := false) (pl' := pl) (pk' := pk) (acts' := S.acts) (downs' := S.downs) rfl
    exact ⟨hF.blk, fun h => by simp [calmDk] at h, hF.row, hF.ne⟩
  have y1 := hDw.out.off o1.out hA.d hA.l hA.mm
  have Y1 : Hid _ := y1
  clear y1
  go_enter Try.func10, Try.ntmps10
  go_wp2_with (go_at_call 21; refine (CD.out _ (Y1.out.below (below_alloc _ _))).mono ?_; rintro e w2 ⟨rfl, hD, ho⟩)
  go_ret
  exact ⟨rfl, ⟨hD.mono (Nat.le_succ _), pl, pk, (x1.out.below (below_alloc _ _)).off ho hA.p hA.r⟩, (o1.out.f2).trans ((off_alloc ho).f1)⟩

set_option maxHeartbeats 4000000 in
theorem step6_up (w : World) (hD : DkIs w db lb mb m S) (hP : PlIs w pb rb cap pl pk S) (hS : S.Ok) (hm : m < 1000) (hA : Apart db lb mb pb rb) (kind : Int) (i k : Int) (k0 : 0 ≤ k) (k1 : k ≤ 18446744073709551615) (s : ByteArray) (hs : s.size ≤ 9223372036854775807) (hu : S.up = true) (h0 : (kind == 0) = false) (h1 : (kind == 1) = false) (h2 : (kind == 2) = false) (h3 : (kind == 3) = false) (h4 : (kind == 4) = false) (h5 : (kind == 5) = false) :
    Calls Try.prog 10 #[.pointer (some ⟨db, 0, none⟩), .pointer (some ⟨pb, 0, none⟩), .agg #[.int .i64 kind, .int .i64 i, .string s, .int .u64 k]] w fun e w' => e = .returned (.bool true) ∧ Both w' db lb mb (m + 1) pb rb cap (S) ∧ Off (five db lb mb pb rb) w w' := by
  have hDw : Hid (DkIs w db lb mb m S) := hD
  have hPw : Hid (PlIs w pb rb cap pl pk S) := hP
  have p0 := hP.pw.d0
  have p1 := hP.pw.d1
  have p2 := hP.pw.d2
  have p3 := hP.pw.d3
  have p4 := hP.pw.d4
  have pf := hP.pw.df
  have hpl := hP.lt
  have hn1 := hS.n1
  have hal : ∀ (v : World) (o : Obj) (j : Nat), v.heap.size = w.heap.size → (v.alloc o).cell? ⟨pb, j, none⟩ = v.cell? ⟨pb, j, none⟩ := fun v o j hv => World.cell?_alloc_lt _ _ _ (by rw [hv]; exact hpl)
  have hfl : ∀ (v : World) (o : Obj) (j : Nat), v.heap.size = w.heap.size → (v.alloc o).frozen? ⟨pb, j, none⟩ = v.frozen? ⟨pb, j, none⟩ := fun v o j hv => World.frozen?_alloc_past _ _ _ (by rw [hv]; exact hpl)
  clear hD hP
  rw [hu] at p1
  simp only [Bool.not_true] at p1
  have CD : Hid (∀ w, DkIs w db lb mb m S → Calls Try.prog 19 #[.pointer (some ⟨db, 0, none⟩)] w fun e w' => e = .returned (.int .i64 19) ∧ DkIs w' db lb mb m S ∧ Off (disk3 db lb mb) w w') := fun w h => by
    have := Start_any w h hn1
    have e : ({ S with up := true } : Dk) = S := by rw [← hu]
    rw [e, hu] at this
    exact this
  go_enter Try.func10, Try.ntmps10
  go_wp2_with (go_at_call 19; refine (CD.out _ (hDw.out.below (below_alloc _ _))).mono ?_; rintro e w2 ⟨rfl, hD, ho⟩)
  go_ret
  exact ⟨rfl, ⟨hD.mono (Nat.le_succ _), pl, pk, (hPw.out.below (below_alloc _ _)).off ho hA.p hA.r⟩, (off_alloc ho).f1⟩

set_option maxHeartbeats 4000000 in
theorem step6_down (w : World) (hD : DkIs w db lb mb m S) (hP : PlIs w pb rb cap pl pk S) (hS : S.Ok) (hm : m < 1000) (hA : Apart db lb mb pb rb) (kind : Int) (i k : Int) (k0 : 0 ≤ k) (k1 : k ≤ 18446744073709551615) (s : ByteArray) (hs : s.size ≤ 9223372036854775807) (hu : S.up = false) (h0 : (kind == 0) = false) (h1 : (kind == 1) = false) (h2 : (kind == 2) = false) (h3 : (kind == 3) = false) (h4 : (kind == 4) = false) (h5 : (kind == 5) = false) :
    Calls Try.prog 10 #[.pointer (some ⟨db, 0, none⟩), .pointer (some ⟨pb, 0, none⟩), .agg #[.int .i64 kind, .int .i64 i, .string s, .int .u64 k]] w fun e w' => e = .returned (.bool true) ∧ Both w' db lb mb (m + 1) pb rb cap ({ S with up := true }) ∧ Off (five db lb mb pb rb) w w' := by
  have hDw : Hid (DkIs w db lb mb m S) := hD
  have hPw : Hid (PlIs w pb rb cap pl pk S) := hP
  have p0 := hP.pw.d0
  have p1 := hP.pw.d1
  have p2 := hP.pw.d2
  have p3 := hP.pw.d3
  have p4 := hP.pw.d4
  have pf := hP.pw.df
  have hpl := hP.lt
  have hn1 := hS.n1
  have hal : ∀ (v : World) (o : Obj) (j : Nat), v.heap.size = w.heap.size → (v.alloc o).cell? ⟨pb, j, none⟩ = v.cell? ⟨pb, j, none⟩ := fun v o j hv => World.cell?_alloc_lt _ _ _ (by rw [hv]; exact hpl)
  have hfl : ∀ (v : World) (o : Obj) (j : Nat), v.heap.size = w.heap.size → (v.alloc o).frozen? ⟨pb, j, none⟩ = v.frozen? ⟨pb, j, none⟩ := fun v o j hv => World.frozen?_alloc_past _ _ _ (by rw [hv]; exact hpl)
  clear hD hP
  rw [hu] at p1
  simp only [Bool.not_false] at p1
  have CD : Hid (∀ w, DkIs w db lb mb m S → Calls Try.prog 19 #[.pointer (some ⟨db, 0, none⟩)] w fun e w' => e = .returned (.int .i64 0) ∧ DkIs w' db lb mb m { S with up := true } ∧ Off (disk3 db lb mb) w w') := fun w h => Start_down w h hn1 hu
  have o1 : Hid (Off (two pb rb) w (w.setCell ⟨pb, 1, none⟩ (.bool false))) := (Off.refl _ _).setCell (two_a _ _) _ _
  have x1 : Hid (PlIs (w.setCell ⟨pb, 1, none⟩ (.bool false)) pb rb cap pl pk { S with up := true }) := by
    have hF := hPw.out.pw.setP 1 (.bool false) (down' := false) (armed' := S.set) (pl' := pl) (pk' := pk) (acts' := S.acts) (downs' := S.downs) rfl
    exact ⟨hF.blk, hPw.out.arm, hF.row, hF.ne⟩
  have y1 := hDw.out.off o1.out hA.d hA.l hA.mm
  have Y1 : Hid _ := y1
  clear y1
  go_enter Try.func10, Try.ntmps10
  go_wp2_with (go_at_call 19; refine (CD.out _ (Y1.out.below (below_alloc _ _))).mono ?_; rintro e w2 ⟨rfl, hD, ho⟩)
  go_ret
  exact ⟨rfl, ⟨hD.mono (Nat.le_succ _), pl, pk, (x1.out.below (below_alloc _ _)).off ho hA.p hA.r⟩, (o1.out.f2).trans ((off_alloc ho).f1)⟩
end Go.Proofs.Ytoafoopenmppgaa
