/- The law's step: a call of both disks, and they do not part. -/
import Derived.Test.YtoafoopenmppgaaPw
import Derived.Deep.RegionHeld3
namespace Go.Proofs.Ytoafoopenmppgaa
open Go.RowKit Go.Maps Go.ChangeMaps Go.Sort
set_option linter.unusedVariables false
set_option linter.unusedSimpArgs false
set_option maxRecDepth 100000
variable {w w' : World} {db lb mb m pb rb cap : Nat} {pl pk : Int} {S : Dk}

def five (db lb mb pb rb : Nat) : Nat → Prop := fun k => disk3 db lb mb k ∨ two pb rb k
theorem Off.f1 {w w' : World} (h : Off (disk3 db lb mb) w w') : Off (five db lb mb pb rb) w w' := h.mono (fun _ h => Or.inl h)
theorem Off.f2 {w w' : World} (h : Off (two pb rb) w w') : Off (five db lb mb pb rb) w w' := h.mono (fun _ h => Or.inr h)
/-- The two disks lie apart. -/
structure Apart (db lb mb pb rb : Nat) : Prop where
  p : ¬ disk3 db lb mb pb
  r : ¬ disk3 db lb mb rb
theorem Apart.d (h : Apart db lb mb pb rb) : ¬ two pb rb db := by
  rintro (e | e)
  · exact h.p (Or.inl e.symm)
  · exact h.r (Or.inl e.symm)
theorem Apart.l (h : Apart db lb mb pb rb) : ¬ two pb rb lb := by
  rintro (e | e)
  · exact h.p (Or.inr (Or.inl e.symm))
  · exact h.r (Or.inr (Or.inl e.symm))
theorem Apart.mm (h : Apart db lb mb pb rb) : ¬ two pb rb mb := by
  rintro (e | e)
  · exact h.p (Or.inr (Or.inr e.symm))
  · exact h.r (Or.inr (Or.inr e.symm))
/-- Both disks in memory, as one. -/
structure Both (w : World) (db lb mb m pb rb cap : Nat) (S : Dk) : Prop where
  d : DkIs w db lb mb m S
  p : ∃ pl pk, PlIs w pb rb cap pl pk S
theorem Both.of1 {S' : Dk} (hA : Apart db lb mb pb rb) (hP : PlIs w pb rb cap pl pk S) (ho : Off (disk3 db lb mb) w w') : PlIs w' pb rb cap pl pk S := hP.off ho hA.p hA.r
theorem Both.ofE (hA : Apart db lb mb pb rb) (hP : ∃ pl pk, PlIs w pb rb cap pl pk S) (ho : Off (disk3 db lb mb) w w') : ∃ pl pk, PlIs w' pb rb cap pl pk S := by
  obtain ⟨pl, pk, h⟩ := hP
  exact ⟨pl, pk, h.off ho hA.p hA.r⟩
theorem d3_lt {B k : Nat} (h1 : db < B) (h2 : lb < B) (h3 : mb < B) (hk : k = B) : ¬ disk3 db lb mb k := by rintro (e | e | e) <;> omega
theorem two_lt {B k : Nat} (h1 : pb < B) (h2 : rb < B) (hk : k = B) : ¬ two pb rb k := by rintro (e | e) <;> omega
theorem Both.of2 (hA : Apart db lb mb pb rb) (hD : DkIs w db lb mb m S) (ho : Off (two pb rb) w w') : DkIs w' db lb mb m S := hD.off ho hA.d hA.l hA.mm
theorem opOff {w w' : World} {Bk : Nat → Prop} {B : Nat} {u v : Value} (h : w.cell? ⟨B, 1, none⟩ = some u ∧ w.cell? ⟨B, 2, none⟩ = some v ∧ B < w.heap.size) (ho : Off Bk w w') (hn : ¬ Bk B) : w'.cell? ⟨B, 1, none⟩ = some u ∧ w'.cell? ⟨B, 2, none⟩ = some v ∧ B < w'.heap.size :=
  ⟨(ho.cell h.2.2 hn).trans h.1, (ho.cell h.2.2 hn).trans h.2.1, Nat.lt_of_lt_of_le h.2.2 ho.size⟩
theorem below_drewN (w : World) (n : Nat) : Below w.heap.size w (w.drewN n) := ⟨rfl, rfl, rfl, Nat.le_refl _, fun _ _ => rfl⟩
def opV (kind i : Int) (s : ByteArray) (k : Int) : Array Value := #[.int .i64 kind, .int .i64 i, .string s, .int .u64 k]
def calmDk (S : Dk) : Dk := { S with set := false, left := 0, keep := 0 }
theorem below_alloc (w : World) (o : Obj) : Below w.heap.size w (w.alloc o) := (Below.refl _ _).alloc (Nat.le_refl _) o
theorem off_alloc {B : Nat → Prop} {w w' : World} {o : Obj} (h : Off B (w.alloc o) w') : Off B w w' := ((Off.refl B w).alloc o).trans h

set_option maxHeartbeats 4000000 in
theorem step0_down (w : World) (hD : DkIs w db lb mb m S) (hP : PlIs w pb rb cap pl pk S) (hS : S.Ok) (hm : m < 1000) (hA : Apart db lb mb pb rb)  (i k : Int) (k0 : 0 ≤ k) (k1 : k ≤ 18446744073709551615) (s : ByteArray) (hs : s.size ≤ 9223372036854775807) (hu : S.up = false) :
    Calls Try.prog 10 #[.pointer (some ⟨db, 0, none⟩), .pointer (some ⟨pb, 0, none⟩), .agg #[.int .i64 0, .int .i64 i, .string s, .int .u64 k]] w fun e w' => e = .returned (.bool true) ∧ Both w' db lb mb (m + 1) pb rb cap (S) ∧ Off (five db lb mb pb rb) w w' := by
  have hD0 : Hid (DkIs (w.alloc (.cells #[.int .i64 0, .int .i64 i, .string s, .int .u64 k] 38)) db lb mb m S) := hD.below (below_alloc _ _)
  have hP0 : Hid (PlIs (w.alloc (.cells #[.int .i64 0, .int .i64 i, .string s, .int .u64 k] 38)) pb rb cap pl pk S) := hP.below (below_alloc _ _)
  have p0 := hP0.out.pw.d0
  have p1 := hP0.out.pw.d1
  have p2 := hP0.out.pw.d2
  have p3 := hP0.out.pw.d3
  have p4 := hP0.out.pw.d4
  have pf := hP0.out.pw.df
  have hdl := hD.lt
  have hll := hD.row.lt
  have hml := hD.map.lt
  have hpl := hP.lt
  have hrl := hP.row.lt
  have hn1 := hS.n1
  have hn2 := hS.n2
  clear hD hP
  rw [hu] at p1
  simp only [Bool.not_false] at p1
  have CR : Hid (∀ w, DkIs w db lb mb m S → Calls Try.prog 20 #[.pointer (some ⟨db, 0, none⟩), .int .i64 i] w fun e w' => e = .returned (.tuple #[.string ⟨#[]⟩, .int .i64 9]) ∧ w' = w) := fun w h => Read_ref w h hn1 i 9 (by simp [refAt, hu]) (by decide)
  go_enter Try.func10, Try.ntmps10
  go_wp2_with (go_at_call 20; refine (CR.out _ hD0.out).mono ?_; rintro e w2 ⟨rfl, hw2⟩; subst hw2)
  go_ret
  exact ⟨rfl, ⟨hD0.out.mono (Nat.le_succ _), _, _, hP0.out⟩, off_alloc (Off.refl _ _)⟩

set_option maxHeartbeats 4000000 in
theorem step0_range (w : World) (hD : DkIs w db lb mb m S) (hP : PlIs w pb rb cap pl pk S) (hS : S.Ok) (hm : m < 1000) (hA : Apart db lb mb pb rb)  (i k : Int) (k0 : 0 ≤ k) (k1 : k ≤ 18446744073709551615) (s : ByteArray) (hs : s.size ≤ 9223372036854775807) (hu : S.up = true) (hi : i < 0 ∨ (S.n : Int) ≤ i) :
    Calls Try.prog 10 #[.pointer (some ⟨db, 0, none⟩), .pointer (some ⟨pb, 0, none⟩), .agg #[.int .i64 0, .int .i64 i, .string s, .int .u64 k]] w fun e w' => e = .returned (.bool true) ∧ Both w' db lb mb (m + 1) pb rb cap (S) ∧ Off (five db lb mb pb rb) w w' := by
  have hD0 : Hid (DkIs (w.alloc (.cells #[.int .i64 0, .int .i64 i, .string s, .int .u64 k] 38)) db lb mb m S) := hD.below (below_alloc _ _)
  have hP0 : Hid (PlIs (w.alloc (.cells #[.int .i64 0, .int .i64 i, .string s, .int .u64 k] 38)) pb rb cap pl pk S) := hP.below (below_alloc _ _)
  have p0 := hP0.out.pw.d0
  have p1 := hP0.out.pw.d1
  have p2 := hP0.out.pw.d2
  have p3 := hP0.out.pw.d3
  have p4 := hP0.out.pw.d4
  have pf := hP0.out.pw.df
  have hdl := hD.lt
  have hll := hD.row.lt
  have hml := hD.map.lt
  have hpl := hP.lt
  have hrl := hP.row.lt
  have hn1 := hS.n1
  have hn2 := hS.n2
  clear hD hP
  rw [hu] at p1
  simp only [Bool.not_true] at p1
  have CR : Hid (∀ w, DkIs w db lb mb m S → Calls Try.prog 20 #[.pointer (some ⟨db, 0, none⟩), .int .i64 i] w fun e w' => e = .returned (.tuple #[.string ⟨#[]⟩, .int .i64 6]) ∧ w' = w) := fun w h => Read_ref w h hn1 i 6 (by simp [refAt, hu, hi]) (by decide)
  have hi2 : i < 0 ∨ (¬ i < 0 ∧ (S.n : Int) ≤ i) := by omega
  clear hi
  rcases hi2 with h1 | ⟨h1, h2⟩
  all_goals (
    go_enter Try.func10, Try.ntmps10
    go_wp2_with (go_at_call 20; refine (CR.out _ hD0.out).mono ?_; rintro e w2 ⟨rfl, hw2⟩; subst hw2)
    go_quiet (fail)
    go_wp2
    go_ret
    exact ⟨rfl, ⟨((hD0.out.mono (Nat.le_succ _)).below (below_drewN _ _)), _, _, hP0.out.below (below_drewN _ _)⟩, off_alloc (Off.of_below (below_drewN _ _))⟩)

set_option maxHeartbeats 4000000 in
theorem step0_in (w : World) (hD : DkIs w db lb mb m S) (hP : PlIs w pb rb cap pl pk S) (hS : S.Ok) (hm : m < 1000) (hA : Apart db lb mb pb rb)  (i k : Int) (k0 : 0 ≤ k) (k1 : k ≤ 18446744073709551615) (s : ByteArray) (hs : s.size ≤ 9223372036854775807) (hu : S.up = true) (hi : 0 ≤ i ∧ i < (S.n : Int)) :
    Calls Try.prog 10 #[.pointer (some ⟨db, 0, none⟩), .pointer (some ⟨pb, 0, none⟩), .agg #[.int .i64 0, .int .i64 i, .string s, .int .u64 k]] w fun e w' => e = .returned (.bool true) ∧ Both w' db lb mb (m + 1) pb rb cap (S) ∧ Off (five db lb mb pb rb) w w' := by
  have hD0 : Hid (DkIs (w.alloc (.cells #[.int .i64 0, .int .i64 i, .string s, .int .u64 k] 38)) db lb mb m S) := hD.below (below_alloc _ _)
  have hP0 : Hid (PlIs (w.alloc (.cells #[.int .i64 0, .int .i64 i, .string s, .int .u64 k] 38)) pb rb cap pl pk S) := hP.below (below_alloc _ _)
  have p0 := hP0.out.pw.d0
  have p1 := hP0.out.pw.d1
  have p2 := hP0.out.pw.d2
  have p3 := hP0.out.pw.d3
  have p4 := hP0.out.pw.d4
  have pf := hP0.out.pw.df
  have hdl := hD.lt
  have hll := hD.row.lt
  have hml := hD.map.lt
  have hpl := hP.lt
  have hrl := hP.row.lt
  have hn1 := hS.n1
  have hn2 := hS.n2
  clear hD hP
  rw [hu] at p1
  simp only [Bool.not_true] at p1
  obtain ⟨j, hj, hjn⟩ : ∃ j : Nat, i = (j : Int) ∧ j < S.n := ⟨i.toNat, by omega, by omega⟩
  subst hj
  obtain ⟨nw, hnw⟩ : ∃ nw, nw = S.now j := ⟨_, rfl⟩
  have CR : Hid (∀ w, DkIs w db lb mb m S → Calls Try.prog 20 #[.pointer (some ⟨db, 0, none⟩), .int .i64 (j : Int)] w fun e w' => e = .returned (.tuple #[.string nw, .int .i64 0]) ∧ Below w.heap.size w w') := fun w h => by
    rw [hnw]; exact Read_any w h hS j hjn hu
  have HNW : Hid _ := hnw
  have jI : (j : Int) < (S.n : Int) := by omega
  clear hnw hi
  go_enter Try.func10, Try.ntmps10
  go_wp2_with (go_at_call 20; refine (CR.out _ hD0.out).mono ?_; rintro e w2 ⟨rfl, hb⟩; have hD2 := hD0.out.below hb; have hP2 := hP0.out.below hb; have q0 := hP2.pw.d0; have q1 := hP2.pw.d1; rw [hu] at q1; simp only [Bool.not_true] at q1; have r1 := hP2.row.c1 j hjn; rw [← HNW.out] at r1; have o1 : w2.cell? ⟨w.heap.size, 1, none⟩ = some (.int .i64 (j : Int)) := (hb.cell (by simp)).trans (by simp))
  go_quiet (fail)
  go_wp2
  go_quiet (fail)
  go_wp2
  go_ret
  first
    | exact ⟨rfl, ⟨(hD2.mono (Nat.le_succ _)).below (below_drewN _ _), _, _, hP2.below (below_drewN _ _)⟩, off_alloc (Off.of_below (hb.trans ((below_drewN _ _).mono hb.size)))⟩
    | exact ⟨rfl, ⟨((hD2.mono (Nat.le_succ _)).below (below_drewN _ _)).below (below_drewN _ _), _, _, (hP2.below (below_drewN _ _)).below (below_drewN _ _)⟩, off_alloc (Off.of_below ((hb.trans ((below_drewN _ _).mono hb.size)).trans ((below_drewN _ _).mono hb.size)))⟩

set_option maxHeartbeats 4000000 in
theorem step1_all (w : World) (hD : DkIs w db lb mb m S) (hP : PlIs w pb rb cap pl pk S) (hS : S.Ok) (hm : m < 1000) (hA : Apart db lb mb pb rb)  (i k : Int) (k0 : 0 ≤ k) (k1 : k ≤ 18446744073709551615) (s : ByteArray) (hs : s.size ≤ 9223372036854775807)  :
    Calls Try.prog 10 #[.pointer (some ⟨db, 0, none⟩), .pointer (some ⟨pb, 0, none⟩), .agg #[.int .i64 1, .int .i64 i, .string s, .int .u64 k]] w fun e w' => e = .returned (.bool true) ∧ Both w' db lb mb (m + 1) pb rb cap (writeDk S i s) ∧ Off (five db lb mb pb rb) w w' := by
  have hD0 : Hid (DkIs (w.alloc (.cells #[.int .i64 1, .int .i64 i, .string s, .int .u64 k] 38)) db lb mb m S) := hD.below (below_alloc _ _)
  have hP0 : Hid (PlIs (w.alloc (.cells #[.int .i64 1, .int .i64 i, .string s, .int .u64 k] 38)) pb rb cap pl pk S) := hP.below (below_alloc _ _)
  have p0 := hP0.out.pw.d0
  have p1 := hP0.out.pw.d1
  have p2 := hP0.out.pw.d2
  have p3 := hP0.out.pw.d3
  have p4 := hP0.out.pw.d4
  have pf := hP0.out.pw.df
  have hdl := hD.lt
  have hll := hD.row.lt
  have hml := hD.map.lt
  have hpl := hP.lt
  have hrl := hP.row.lt
  have hn1 := hS.n1
  have hn2 := hS.n2
  clear hD hP
  obtain ⟨E, hE⟩ : ∃ E, E = writeE S i s := ⟨_, rfl⟩
  have CD : Hid (∀ w, DkIs w db lb mb m S → Calls Try.prog 16 #[.pointer (some ⟨db, 0, none⟩), .int .i64 i, .string s] w fun e w' => e = .returned (.int .i64 E) ∧ DkIs w' db lb mb (m + 1) (writeDk S i s) ∧ Off (disk3 db lb mb) w w') := fun w h => by
    rw [hE]; exact Write_any w h hS (by omega) i s hs
  have CP : Hid (∀ w, (∃ pl pk, PlIs w pb rb cap pl pk S) → Calls Try.prog 25 #[.pointer (some ⟨pb, 0, none⟩), .int .i64 i, .string s] w fun e w' => e = .returned (.int .i64 E) ∧ (∃ pl' pk', PlIs w' pb rb cap pl' pk' (writeDk S i s)) ∧ Off (two pb rb) w w') := fun w h => by
    obtain ⟨pl, pk, h⟩ := h
    rw [hE]; exact pwrite_any w h hS i s hs
  obtain ⟨T, hT⟩ : ∃ T, T = writeDk S i s := ⟨_, rfl⟩
  rw [← hT] at CD CP ⊢
  have NB1 : Hid (¬ disk3 db lb mb w.heap.size) := d3_lt hdl hll hml rfl
  have NB2 : Hid (¬ two pb rb w.heap.size) := two_lt hpl hrl rfl
  clear p0 p1 p2 p3 p4 pf hE hT
  go_enter Try.func10, Try.ntmps10
  go_wp2
  have hD := hD0.out.drew
  have hP : ∃ pl pk, PlIs (w.alloc (.cells #[.int .i64 1, .int .i64 i, .string s, .int .u64 k] 38)).drew pb rb cap pl pk S := ⟨_, _, hP0.out.drew⟩
  have hO : (w.alloc (.cells #[.int .i64 1, .int .i64 i, .string s, .int .u64 k] 38)).drew.cell? ⟨w.heap.size, 1, none⟩ = some (.int .i64 i) ∧ (w.alloc (.cells #[.int .i64 1, .int .i64 i, .string s, .int .u64 k] 38)).drew.cell? ⟨w.heap.size, 2, none⟩ = some (.string s) ∧ w.heap.size < (w.alloc (.cells #[.int .i64 1, .int .i64 i, .string s, .int .u64 k] 38)).drew.heap.size := by
    exact ⟨by simp, by simp, by simp⟩
  have hf : Off (five db lb mb pb rb) (w.alloc (.cells #[.int .i64 1, .int .i64 i, .string s, .int .u64 k] 38)) (w.alloc (.cells #[.int .i64 1, .int .i64 i, .string s, .int .u64 k] 38)).drew := (Off.refl _ _).drew
  go_region_held3 (fun w' => w'.cell? ⟨w.heap.size, 1, none⟩ = some (.int .i64 i) ∧ w'.cell? ⟨w.heap.size, 2, none⟩ = some (.string s)) (exact ⟨hO.1, hO.2.1⟩) (first | (go_at_call 16; refine (CD.out _ hD).mono ?_; rintro e w2 ⟨rfl, hD, ho⟩; have hP := Both.ofE hA hP ho; have hf := hf.trans ho.f1; have hO := opOff hO ho NB1.out) | (go_at_call 25; refine (CP.out _ hP).mono ?_; rintro e w2 ⟨rfl, hP, ho⟩; have hD := Both.of2 hA hD ho; have hf := hf.trans ho.f2; have hO := opOff hO ho NB2.out))
  go_wp2
  go_ret
  exact ⟨rfl, ⟨hD, hP⟩, off_alloc hf⟩

set_option maxHeartbeats 4000000 in
theorem step2_all (w : World) (hD : DkIs w db lb mb m S) (hP : PlIs w pb rb cap pl pk S) (hS : S.Ok) (hm : m < 1000) (hA : Apart db lb mb pb rb)  (i k : Int) (k0 : 0 ≤ k) (k1 : k ≤ 18446744073709551615) (s : ByteArray) (hs : s.size ≤ 9223372036854775807)  :
    Calls Try.prog 10 #[.pointer (some ⟨db, 0, none⟩), .pointer (some ⟨pb, 0, none⟩), .agg #[.int .i64 2, .int .i64 i, .string s, .int .u64 k]] w fun e w' => e = .returned (.bool true) ∧ Both w' db lb mb (m + 1) pb rb cap (syncDk S) ∧ Off (five db lb mb pb rb) w w' := by
  have hD0 : Hid (DkIs (w.alloc (.cells #[.int .i64 2, .int .i64 i, .string s, .int .u64 k] 38)) db lb mb m S) := hD.below (below_alloc _ _)
  have hP0 : Hid (PlIs (w.alloc (.cells #[.int .i64 2, .int .i64 i, .string s, .int .u64 k] 38)) pb rb cap pl pk S) := hP.below (below_alloc _ _)
  have p0 := hP0.out.pw.d0
  have p1 := hP0.out.pw.d1
  have p2 := hP0.out.pw.d2
  have p3 := hP0.out.pw.d3
  have p4 := hP0.out.pw.d4
  have pf := hP0.out.pw.df
  have hdl := hD.lt
  have hll := hD.row.lt
  have hml := hD.map.lt
  have hpl := hP.lt
  have hrl := hP.row.lt
  have hn1 := hS.n1
  have hn2 := hS.n2
  clear hD hP
  obtain ⟨E, hE⟩ : ∃ E, E = syncE S := ⟨_, rfl⟩
  have CD : Hid (∀ w, DkIs w db lb mb m S → Calls Try.prog 17 #[.pointer (some ⟨db, 0, none⟩)] w fun e w' => e = .returned (.int .i64 E) ∧ DkIs w' db lb mb m (syncDk S) ∧ Off (disk3 db lb mb) w w') := fun w h => by
    rw [hE]; exact Sync_any w h hS (by omega)
  have CP : Hid (∀ w, PlIs w pb rb cap pl pk S → Calls Try.prog 26 #[.pointer (some ⟨pb, 0, none⟩)] w fun e w' => e = .returned (.int .i64 E) ∧ (∃ pl' pk', PlIs w' pb rb cap pl' pk' (syncDk S)) ∧ Off (two pb rb) w w') := fun w h => by
    rw [hE]; exact psync_any w h hS
  obtain ⟨T, hT⟩ : ∃ T, T = syncDk S := ⟨_, rfl⟩
  rw [← hT] at CD CP ⊢
  clear p0 p1 p2 p3 p4 pf hE hT
  go_enter Try.func10, Try.ntmps10
  go_wp2_with (first | (go_at_call 17; refine (CD.out _ hD0.out).mono ?_; rintro e w2 ⟨rfl, hD, ho⟩; have hP1 := hP0.out.off ho hA.p hA.r; have hf := (off_alloc ho).f1 (pb := pb) (rb := rb)) | (go_at_call 26; refine (CP.out _ hP1).mono ?_; rintro e w3 ⟨rfl, hP, ho2⟩; have hD := Both.of2 hA hD ho2; have hf := hf.trans ho2.f2))
  go_ret
  exact ⟨rfl, ⟨hD.mono (Nat.le_succ _), hP⟩, hf⟩

set_option maxHeartbeats 4000000 in
theorem step3_down (w : World) (hD : DkIs w db lb mb m S) (hP : PlIs w pb rb cap pl pk S) (hS : S.Ok) (hm : m < 1000) (hA : Apart db lb mb pb rb)  (i k : Int) (k0 : 0 ≤ k) (k1 : k ≤ 18446744073709551615) (s : ByteArray) (hs : s.size ≤ 9223372036854775807) (hu : S.up = false) :
    Calls Try.prog 10 #[.pointer (some ⟨db, 0, none⟩), .pointer (some ⟨pb, 0, none⟩), .agg #[.int .i64 3, .int .i64 i, .string s, .int .u64 k]] w fun e w' => e = .returned (.bool true) ∧ Both w' db lb mb (m + 1) pb rb cap (S) ∧ Off (five db lb mb pb rb) w w' := by
  have hD0 : Hid (DkIs (w.alloc (.cells #[.int .i64 3, .int .i64 i, .string s, .int .u64 k] 38)) db lb mb m S) := hD.below (below_alloc _ _)
  have hP0 : Hid (PlIs (w.alloc (.cells #[.int .i64 3, .int .i64 i, .string s, .int .u64 k] 38)) pb rb cap pl pk S) := hP.below (below_alloc _ _)
  have p0 := hP0.out.pw.d0
  have p1 := hP0.out.pw.d1
  have p2 := hP0.out.pw.d2
  have p3 := hP0.out.pw.d3
  have p4 := hP0.out.pw.d4
  have pf := hP0.out.pw.df
  have hdl := hD.lt
  have hll := hD.row.lt
  have hml := hD.map.lt
  have hpl := hP.lt
  have hrl := hP.row.lt
  have hn1 := hS.n1
  have hn2 := hS.n2
  clear hD hP
  rw [hu] at p1
  simp only [Bool.not_false] at p1
  have CR : Hid (∀ w, DkIs w db lb mb m S → Calls Try.prog 18 #[.pointer (some ⟨db, 0, none⟩), .int .u64 k] w fun e w' => e = .returned (.int .i64 9) ∧ w' = w) := fun w h => Crash_ref w h hn1 hu k
  go_enter Try.func10, Try.ntmps10
  go_wp2_with (go_at_call 18; refine (CR.out _ hD0.out).mono ?_; rintro e w2 ⟨rfl, hw2⟩; subst hw2)
  go_ret
  exact ⟨rfl, ⟨hD0.out.mono (Nat.le_succ _), _, _, hP0.out⟩, off_alloc (Off.refl _ _)⟩

set_option maxHeartbeats 4000000 in
theorem step3_up (w : World) (hD : DkIs w db lb mb m S) (hP : PlIs w pb rb cap pl pk S) (hS : S.Ok) (hm : m < 1000) (hA : Apart db lb mb pb rb)  (i k : Int) (k0 : 0 ≤ k) (k1 : k ≤ 18446744073709551615) (s : ByteArray) (hs : s.size ≤ 9223372036854775807) (hu : S.up = true) :
    Calls Try.prog 10 #[.pointer (some ⟨db, 0, none⟩), .pointer (some ⟨pb, 0, none⟩), .agg #[.int .i64 3, .int .i64 i, .string s, .int .u64 k]] w fun e w' => e = .returned (.bool true) ∧ Both w' db lb mb (m + 1) pb rb cap (offDk S k) ∧ Off (five db lb mb pb rb) w w' := by
  have hD0 : Hid (DkIs (w.alloc (.cells #[.int .i64 3, .int .i64 i, .string s, .int .u64 k] 38)) db lb mb m S) := hD.below (below_alloc _ _)
  have hP0 : Hid (PlIs (w.alloc (.cells #[.int .i64 3, .int .i64 i, .string s, .int .u64 k] 38)) pb rb cap pl pk S) := hP.below (below_alloc _ _)
  have p0 := hP0.out.pw.d0
  have p1 := hP0.out.pw.d1
  have p2 := hP0.out.pw.d2
  have p3 := hP0.out.pw.d3
  have p4 := hP0.out.pw.d4
  have pf := hP0.out.pw.df
  have hdl := hD.lt
  have hll := hD.row.lt
  have hml := hD.map.lt
  have hpl := hP.lt
  have hrl := hP.row.lt
  have hn1 := hS.n1
  have hn2 := hS.n2
  clear hD hP
  rw [hu] at p1
  simp only [Bool.not_true] at p1
  have CD : Hid (∀ w, DkIs w db lb mb m S → Calls Try.prog 18 #[.pointer (some ⟨db, 0, none⟩), .int .u64 k] w fun e w' => e = .returned (.int .i64 0) ∧ DkIs w' db lb mb 0 (offDk S k) ∧ Off (disk3 db lb mb) w w') := fun w h => Crash_any w h hS (by omega) hu k k0 k1
  have CP : Hid (∀ w, PlIs w pb rb cap pl pk S → Calls Try.prog 27 #[.pointer (some ⟨pb, 0, none⟩), .int .u64 k] w fun e w' => e = .returned (.tuple #[]) ∧ PlIs w' pb rb cap pl pk (offDk S k) ∧ Off (two pb rb) w w') := fun w h => off_any w h hS k k0 k1
  have NB2 : Hid (¬ two pb rb w.heap.size) := two_lt hpl hrl rfl
  obtain ⟨T, hT⟩ : ∃ T, T = offDk S k := ⟨_, rfl⟩
  rw [← hT] at CD CP ⊢
  clear hT
  go_enter Try.func10, Try.ntmps10
  go_wp2_with (first | (go_at_call 27; refine (CP.out _ hP0.out).mono ?_; rintro e w2 ⟨rfl, hP, ho⟩; have hD1 := Both.of2 hA hD0.out ho; have hf := (off_alloc ho).f2 (db := db) (lb := lb) (mb := mb); have o3 : w2.cell? ⟨w.heap.size, 3, none⟩ = some (.int .u64 k) := (ho.cell (by simp) NB2.out).trans (by simp)) | (go_at_call 18; refine (CD.out _ hD1).mono ?_; rintro e w3 ⟨rfl, hD, ho2⟩; have hP := hP.off ho2 hA.p hA.r; have hf := hf.trans ho2.f1))
  go_ret
  exact ⟨rfl, ⟨hD.mono (Nat.zero_le _), _, _, hP⟩, hf⟩

set_option maxHeartbeats 4000000 in
theorem step4_ref (w : World) (hD : DkIs w db lb mb m S) (hP : PlIs w pb rb cap pl pk S) (hS : S.Ok) (hm : m < 1000) (hA : Apart db lb mb pb rb)  (i k : Int) (k0 : 0 ≤ k) (k1 : k ≤ 18446744073709551615) (s : ByteArray) (hs : s.size ≤ 9223372036854775807) (hr : S.up = false ∨ i < 0) :
    Calls Try.prog 10 #[.pointer (some ⟨db, 0, none⟩), .pointer (some ⟨pb, 0, none⟩), .agg #[.int .i64 4, .int .i64 i, .string s, .int .u64 k]] w fun e w' => e = .returned (.bool true) ∧ Both w' db lb mb (m + 1) pb rb cap (S) ∧ Off (five db lb mb pb rb) w w' := by
  have hD0 : Hid (DkIs (w.alloc (.cells #[.int .i64 4, .int .i64 i, .string s, .int .u64 k] 38)) db lb mb m S) := hD.below (below_alloc _ _)
  have hP0 : Hid (PlIs (w.alloc (.cells #[.int .i64 4, .int .i64 i, .string s, .int .u64 k] 38)) pb rb cap pl pk S) := hP.below (below_alloc _ _)
  have p0 := hP0.out.pw.d0
  have p1 := hP0.out.pw.d1
  have p2 := hP0.out.pw.d2
  have p3 := hP0.out.pw.d3
  have p4 := hP0.out.pw.d4
  have pf := hP0.out.pw.df
  have hdl := hD.lt
  have hll := hD.row.lt
  have hml := hD.map.lt
  have hpl := hP.lt
  have hrl := hP.row.lt
  have hn1 := hS.n1
  have hn2 := hS.n2
  clear hD hP
  have CD : Hid (∀ w, DkIs w db lb mb m S → Calls Try.prog 22 #[.pointer (some ⟨db, 0, none⟩), .int .i64 i, .int .u64 k] w fun e w' => e = .returned (.int .i64 (armE S.up i)) ∧ DkIs w' db lb mb m S ∧ Off (disk3 db lb mb) w w') := fun w h => by
    have := Arm_any w h hn1 i k
    have e : armDk S i k = S := by
      rcases hr with hr | hr
      · simp [armDk, hr]
      · simp [armDk, hr]
    rwa [e] at this
  cases hu : S.up
  · rw [hu] at p1
    simp only [Bool.not_false] at p1
    have ea : armE S.up i = 9 := by simp [armE, hu]
    rw [ea] at CD
    clear hr ea
    go_enter Try.func10, Try.ntmps10
    go_wp2_with (go_at_call 22; refine (CD.out _ hD0.out).mono ?_; rintro e w2 ⟨rfl, hD, ho⟩; have hP1 := hP0.out.off ho hA.p hA.r; have hf := (off_alloc ho).f1 (pb := pb) (rb := rb))
    go_ret
    exact ⟨rfl, ⟨hD.mono (Nat.le_succ _), _, _, hP1⟩, hf⟩
  · rw [hu] at p1
    simp only [Bool.not_true] at p1
    have hi : i < 0 := by
      rcases hr with hr | hr
      · rw [hu] at hr; cases hr
      · exact hr
    have ea : armE S.up i = 1 := by simp [armE, hu, hi]
    rw [ea] at CD
    clear hr ea
    go_enter Try.func10, Try.ntmps10
    go_wp2_with (go_at_call 22; refine (CD.out _ hD0.out).mono ?_; rintro e w2 ⟨rfl, hD, ho⟩; have hP1 := hP0.out.off ho hA.p hA.r; have hf := (off_alloc ho).f1 (pb := pb) (rb := rb))
    go_ret
    exact ⟨rfl, ⟨hD.mono (Nat.le_succ _), _, _, hP1⟩, hf⟩
end Go.Proofs.Ytoafoopenmppgaa
