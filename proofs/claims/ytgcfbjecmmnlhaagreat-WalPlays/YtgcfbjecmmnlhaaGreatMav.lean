/- WalPlays: the walk, at most 40 calls. WalPlays: the walk, more than 40 calls. WalPlays: the walk. -/
import Derived.Test.YtgcfbjecmmnlhaaGreatMau
namespace Go.Proofs.YtgcfbjecmmnlhaaGreat
open Go.RowKit Go.Maps Go.ChangeMaps
set_option linter.unusedVariables false
set_option linter.unusedSimpArgs false
set_option maxRecDepth 100000

section
variable {w : World}
set_option maxHeartbeats 16000000 in
theorem plays_f {ao : Option Addr} {n co : Nat} (hS : OpsV w ao n) (hn : n ≤ 9223372036854775807) (hc : n ≤ 40) : Calls Tryz.prog 3 #[.slice ao n co] w fun e w' => e = .returned (.bool true) ∧ Below w.heap.size w w' := by
  have CA : Hid (∀ wx, Calls Tryz.prog 17 #[] wx fun e w' => e = .returned (.bool true) ∧ Below wx.heap.size wx w') := awake8
  have CN : Hid (Calls Tryz.prog 9 #[.int .i64 31] w fun e w' => ∃ db, e = .returned (.tuple #[.pointer (some ⟨db, 0, none⟩), .int .i64 0]) ∧ Ds w.heap.size w' db 0 (newDk 31) ∧ Below w.heap.size w w') := sl_new w
  have CO : Hid (∀ wx db, Ds w.heap.size wx db 0 (newDk 31) → Below w.heap.size w wx → Calls Tryz.prog 10 #[.pointer (some ⟨db, 0, none⟩), .int .i64 1, .int .i64 30, .int .i64 1] wx fun e w' => ∃ S' l, e = .returned (.tuple #[.pointer (some ⟨l, 0, none⟩), .int .i64 0]) ∧ SlS w w' l 31 S' db 1 [] 0) := fun wx db q1 q2 => sl_open q1 q2
  have HSc : Hid (OpsV w ao n) := hS
  clear hS
  go_enter Tryz.func3, Tryz.ntmps3
  go_wp2_with (first
    | (go_at_call 9; refine CN.out.mono ?_; rintro e w1 ⟨db, rfl, D1, b1⟩)
    | (go_at_call 10; refine (CO.out _ _ D1 b1).mono ?_; rintro e w2 ⟨S2, l, rfl, A2⟩))
  have hz2 := A2.bel.size
  have bP : Below w2.heap.size w2 (w2.alloc (.cells #[.slice none 0 0, .int .i64 0, .int .i64 1, .int .i64 1740] 33)) := (Below.refl _ _).alloc (Nat.le_refl _) _
  have HA : Hid (Pw w (w2.alloc (.cells #[.slice none 0 0, .int .i64 0, .int .i64 1, .int .i64 1740] 33)) l 31 S2 db w2.heap.size none 0 1 [] 0) := by
    have A3 := A2.below bP
    exact ⟨⟨A3.lv, A3.n, ⟨⟨(MapKept.heap_alloc w2 _).1, hz2⟩, OwnS.nil _ _⟩⟩, A3.bel⟩
  clear A2 CN CO D1 bP
  go_loopw [5, 8] (fun lv iv wr => ∃ (j l : Nat) (S : Dk) (a : Option Addr) (c run : Nat) (fs : List ByteArray) (sure : Nat), j ≤ n ∧ run ≤ 1 + 2 * j ∧ lv = .pointer (some ⟨l, 0, none⟩) ∧ iv = .int .i64 (j : Int) ∧ Pw w wr l (31 + 64 * j) S db w2.heap.size a c run fs sure) (fun _ iv _ => n - (intOf iv).toNat)
  case atStart => exact ⟨0, l, S2, none, 0, 1, [], 0, Nat.zero_le _, by omega, rfl, rfl, HA.out⟩
  case round =>
    clear HA
    obtain ⟨j, l, S, a, c, run, fs, sure, hj, hrun, rfl, rfl, hP⟩ := hrel
    by_cases hlt : j < n
    case neg =>
      obtain rfl : j = n := by omega
      have i1 : ¬ (j : Int) < (j : Int) := by omega
      clear hlt HSc
      go_wp2_with (go_at_call 17; refine (CA.out _).mono ?_; rintro e w9 ⟨rfl, b9⟩)
      go_ret
      exact ⟨rfl, thn hP.bel b9⟩
    obtain ⟨g, of, cs, kd, m, R, Q, kp, ea, hg, hrg0, hov⟩ := HSc.out.at_ j (by omega)
    subst ea
    obtain ⟨I, T, I', T', ecs, hvR, hvQ⟩ := hov.ex
    subst ecs
    have hhR := hov.hR
    have hhQ := hov.hQ
    have k0 := hov.k0
    have k1 := hov.k1
    have m0 := hov.m0
    have m1 := hov.m1
    have oI : I.oneCell' = true := by obtain ⟨I1, T1, e1, hI, hT⟩ := hvR.ex; injection e1 with e1; simp [Sc.A] at e1; rw [e1.1]; exact hI.one
    have oT : T.oneCell' = true := by obtain ⟨I1, T1, e1, hI, hT⟩ := hvR.ex; injection e1 with e1; simp [Sc.A] at e1; rw [e1.2]; exact hT.one
    have oI' : I'.oneCell' = true := by obtain ⟨I1, T1, e1, hI, hT⟩ := hvQ.ex; injection e1 with e1; simp [Sc.A] at e1; rw [e1.1]; exact hI.one
    have oT' : T'.oneCell' = true := by obtain ⟨I1, T1, e1, hI, hT⟩ := hvQ.ex; injection e1 with e1; simp [Sc.A] at e1; rw [e1.2]; exact hT.one
    have hrg := rangeAt_below hrg0 hg hP.bel
    have CH : Hid (∀ wx l k S a c run fs sure, Pw w wx l k S db w2.heap.size a c run fs sure → Calls Tryz.prog 16 #[.pointer (some ⟨l, 0, none⟩), .pointer (some ⟨w2.heap.size, 0, none⟩)] wx fun e w' => e = .returned (.bool true) ∧ Pw w w' l k S db w2.heap.size a c run fs sure) := fun wx l k S a c run fs sure q => q.holds
    have i1 : (j : Int) < (n : Int) := by omega
    have i2 : (j : Int) < 40 := by omega
    have i3 : j < n := by omega
    have i4 : j < 40 := by omega
    clear hrg0 hov hg
    by_cases hk0 : kd = 0
    · subst hk0
      have CAd : Hid (∀ wx, Pw w wx l (31 + 64 * j) S db w2.heap.size a c run fs sure → Calls Tryz.prog 11 #[.pointer (some ⟨l, 0, none⟩), .pointer (some ⟨w2.heap.size, 0, none⟩), .agg (opA 0 m R.s I T Q.s I' T' kp)] wx fun e w' => e = .returned (.bool true) ∧ ∃ a' c' fs', Pw w w' l (31 + 64 * j + 64) S db w2.heap.size a' c' run fs' sure) := fun wx q => q.add01 hvR hhR hvQ hhQ (by omega)
      clear hvR hhR hvQ hhQ k0 k1 m0 m1 HSc
      generalize R.s = s1 at *
      generalize Q.s = s2 at *
      go_wp2_with (first
        | (refine wpList_load_op (kd := 0) (n := m) (s := s1) (I := I) (T := T) (s' := s2) (I' := I') (T' := T') (kp := kp) _ rfl (.tmp 46) rfl rfl hrg ?_; clear hrg)
        | (refine wpList_new_op _ rfl rfl ?_; intro w5 b9 N5)
        | (refine wpList_at (Op.store 40 (.tmp 9) (.tmp 47)) rfl ?_; refine wpList_put_op (kd := 0) (n := m) (s := s1) (I := I) (T := T) (s' := s2) (I' := I') (T' := T') (kp := kp) _ rfl (.tmp 9) (.tmp 47) rfl rfl rfl N5.ob rfl oI oT oI' oT' ?_; intro w6 P6; have hp := hP.below (N5.below.trans (P6.off.below (Nat.le_of_eq N5.eq.symm) N5.below.size)); have ob := P6.ob; have o0 := ob.c0; have o1 := ob.c1; have o28 := ob.c28; have org := ob.rg; clear hP N5 P6 ob)
        | (refine wpList_load_op (kd := 0) (n := m) (s := s1) (I := I) (T := T) (s' := s2) (I' := I') (T' := T') (kp := kp) _ rfl (.tmp 9) rfl rfl org ?_)
        | (go_at_call 11; refine (CAd.out _ hp).mono ?_; clear hp; rintro e w7 ⟨rfl, a7, c7, fs7, hq⟩)
        | (go_at_call 16; refine (CH.out _ _ _ _ _ _ _ _ _ hq).mono ?_; clear hq; rintro e w8 ⟨rfl, hq⟩))
      go_roundw
      case rel => exact ⟨j + 1, l, S, a7, c7, run, fs7, sure, by omega, by omega, rfl, by go_num, hq.mono (by omega)⟩
      case measure => simp [intOf]; omega
    by_cases hk1 : kd = 1
    · subst hk1
      have CAd : Hid (∀ wx, Pw w wx l (31 + 64 * j) S db w2.heap.size a c run fs sure → Calls Tryz.prog 11 #[.pointer (some ⟨l, 0, none⟩), .pointer (some ⟨w2.heap.size, 0, none⟩), .agg (opA 1 m R.s I T Q.s I' T' kp)] wx fun e w' => e = .returned (.bool true) ∧ ∃ a' c' fs', Pw w w' l (31 + 64 * j + 64) S db w2.heap.size a' c' run fs' sure) := fun wx q => q.add01 hvR hhR hvQ hhQ (by omega)
      clear hvR hhR hvQ hhQ k0 k1 m0 m1 HSc
      generalize R.s = s1 at *
      generalize Q.s = s2 at *
      go_wp2_with (first
        | (refine wpList_load_op (kd := 1) (n := m) (s := s1) (I := I) (T := T) (s' := s2) (I' := I') (T' := T') (kp := kp) _ rfl (.tmp 46) rfl rfl hrg ?_; clear hrg)
        | (refine wpList_new_op _ rfl rfl ?_; intro w5 b9 N5)
        | (refine wpList_at (Op.store 40 (.tmp 9) (.tmp 47)) rfl ?_; refine wpList_put_op (kd := 1) (n := m) (s := s1) (I := I) (T := T) (s' := s2) (I' := I') (T' := T') (kp := kp) _ rfl (.tmp 9) (.tmp 47) rfl rfl rfl N5.ob rfl oI oT oI' oT' ?_; intro w6 P6; have hp := hP.below (N5.below.trans (P6.off.below (Nat.le_of_eq N5.eq.symm) N5.below.size)); have ob := P6.ob; have o0 := ob.c0; have o1 := ob.c1; have o28 := ob.c28; have org := ob.rg; clear hP N5 P6 ob)
        | (refine wpList_load_op (kd := 1) (n := m) (s := s1) (I := I) (T := T) (s' := s2) (I' := I') (T' := T') (kp := kp) _ rfl (.tmp 9) rfl rfl org ?_)
        | (go_at_call 11; refine (CAd.out _ hp).mono ?_; clear hp; rintro e w7 ⟨rfl, a7, c7, fs7, hq⟩)
        | (go_at_call 16; refine (CH.out _ _ _ _ _ _ _ _ _ hq).mono ?_; clear hq; rintro e w8 ⟨rfl, hq⟩))
      go_roundw
      case rel => exact ⟨j + 1, l, S, a7, c7, run, fs7, sure, by omega, by omega, rfl, by go_num, hq.mono (by omega)⟩
      case measure => simp [intOf]; omega
    by_cases hk2 : kd = 2
    · subst hk2
      have CFl : Hid (∀ wx, Pw w wx l (31 + 64 * j) S db w2.heap.size a c run fs sure → Calls Tryz.prog 12 #[.pointer (some ⟨db, 0, none⟩), .pointer (some ⟨l, 0, none⟩), .pointer (some ⟨w2.heap.size, 0, none⟩), .agg (opA 2 m R.s I T Q.s I' T' kp)] wx fun e w' => Pn w w' (31 + 64 * j + 64) db w2.heap.size (run + 2) e) := fun wx q => q.flush2 (by omega) (by omega) k0 k1
      clear hvR hhR hvQ hhQ k0 k1 m0 m1 HSc
      generalize R.s = s1 at *
      generalize Q.s = s2 at *
      go_wp2_with (first
        | (refine wpList_load_op (kd := 2) (n := m) (s := s1) (I := I) (T := T) (s' := s2) (I' := I') (T' := T') (kp := kp) _ rfl (.tmp 46) rfl rfl hrg ?_; clear hrg)
        | (refine wpList_new_op _ rfl rfl ?_; intro w5 b9 N5)
        | (refine wpList_at (Op.store 40 (.tmp 9) (.tmp 47)) rfl ?_; refine wpList_put_op (kd := 2) (n := m) (s := s1) (I := I) (T := T) (s' := s2) (I' := I') (T' := T') (kp := kp) _ rfl (.tmp 9) (.tmp 47) rfl rfl rfl N5.ob rfl oI oT oI' oT' ?_; intro w6 P6; have hp := hP.below (N5.below.trans (P6.off.below (Nat.le_of_eq N5.eq.symm) N5.below.size)); have ob := P6.ob; have o0 := ob.c0; have o1 := ob.c1; have o28 := ob.c28; have org := ob.rg; clear hP N5 P6 ob)
        | (refine wpList_load_op (kd := 2) (n := m) (s := s1) (I := I) (T := T) (s' := s2) (I' := I') (T' := T') (kp := kp) _ rfl (.tmp 9) rfl rfl org ?_)
        | (go_at_call 12; refine (CFl.out _ hp).mono ?_; clear hp; intro e w7 q7; obtain ⟨l7, S7, a7, c7, r7, fs7, s7, rfl, hq, hr7⟩ := q7.ex)
        | (go_at_call 16; refine (CH.out _ _ _ _ _ _ _ _ _ hq).mono ?_; clear hq; rintro e w8 ⟨rfl, hq⟩))
      go_roundw
      case rel => exact ⟨j + 1, l7, S7, a7, c7, r7, fs7, s7, by omega, by omega, rfl, by go_num, hq.mono (by omega)⟩
      case measure => simp [intOf]; omega
    by_cases hk3 : kd = 3
    · subst hk3
      have CFl : Hid (∀ wx, Pw w wx l (31 + 64 * j) S db w2.heap.size a c run fs sure → Calls Tryz.prog 12 #[.pointer (some ⟨db, 0, none⟩), .pointer (some ⟨l, 0, none⟩), .pointer (some ⟨w2.heap.size, 0, none⟩), .agg (opA 3 m R.s I T Q.s I' T' kp)] wx fun e w' => Pn w w' (31 + 64 * j + 64) db w2.heap.size (run + 2) e) := fun wx q => q.flush3 (by omega) (by omega) k0 k1
      clear hvR hhR hvQ hhQ k0 k1 m0 m1 HSc
      generalize R.s = s1 at *
      generalize Q.s = s2 at *
      go_wp2_with (first
        | (refine wpList_load_op (kd := 3) (n := m) (s := s1) (I := I) (T := T) (s' := s2) (I' := I') (T' := T') (kp := kp) _ rfl (.tmp 46) rfl rfl hrg ?_; clear hrg)
        | (refine wpList_new_op _ rfl rfl ?_; intro w5 b9 N5)
        | (refine wpList_at (Op.store 40 (.tmp 9) (.tmp 47)) rfl ?_; refine wpList_put_op (kd := 3) (n := m) (s := s1) (I := I) (T := T) (s' := s2) (I' := I') (T' := T') (kp := kp) _ rfl (.tmp 9) (.tmp 47) rfl rfl rfl N5.ob rfl oI oT oI' oT' ?_; intro w6 P6; have hp := hP.below (N5.below.trans (P6.off.below (Nat.le_of_eq N5.eq.symm) N5.below.size)); have ob := P6.ob; have o0 := ob.c0; have o1 := ob.c1; have o28 := ob.c28; have org := ob.rg; clear hP N5 P6 ob)
        | (refine wpList_load_op (kd := 3) (n := m) (s := s1) (I := I) (T := T) (s' := s2) (I' := I') (T' := T') (kp := kp) _ rfl (.tmp 9) rfl rfl org ?_)
        | (go_at_call 12; refine (CFl.out _ hp).mono ?_; clear hp; intro e w7 q7; obtain ⟨l7, S7, a7, c7, r7, fs7, s7, rfl, hq, hr7⟩ := q7.ex)
        | (go_at_call 16; refine (CH.out _ _ _ _ _ _ _ _ _ hq).mono ?_; clear hq; rintro e w8 ⟨rfl, hq⟩))
      go_roundw
      case rel => exact ⟨j + 1, l7, S7, a7, c7, r7, fs7, s7, by omega, by omega, rfl, by go_num, hq.mono (by omega)⟩
      case measure => simp [intOf]; omega
    by_cases hk4 : kd = 4
    · subst hk4
      have CAg : Hid (∀ wx, Pw w wx l (31 + 64 * j) S db w2.heap.size a c run fs sure → Calls Tryz.prog 13 #[.pointer (some ⟨db, 0, none⟩), .pointer (some ⟨w2.heap.size, 0, none⟩), .int .u64 kp] wx fun e w' => Pn w w' (31 + 64 * j + 64) db w2.heap.size (run + 2) e) := fun wx q => q.again4 (by omega) (by omega) k0 k1
      clear hvR hhR hvQ hhQ k0 k1 m0 m1 HSc
      generalize R.s = s1 at *
      generalize Q.s = s2 at *
      go_wp2_with (first
        | (refine wpList_load_op (kd := 4) (n := m) (s := s1) (I := I) (T := T) (s' := s2) (I' := I') (T' := T') (kp := kp) _ rfl (.tmp 46) rfl rfl hrg ?_; clear hrg)
        | (refine wpList_new_op _ rfl rfl ?_; intro w5 b9 N5)
        | (refine wpList_at (Op.store 40 (.tmp 9) (.tmp 47)) rfl ?_; refine wpList_put_op (kd := 4) (n := m) (s := s1) (I := I) (T := T) (s' := s2) (I' := I') (T' := T') (kp := kp) _ rfl (.tmp 9) (.tmp 47) rfl rfl rfl N5.ob rfl oI oT oI' oT' ?_; intro w6 P6; have hp := hP.below (N5.below.trans (P6.off.below (Nat.le_of_eq N5.eq.symm) N5.below.size)); have ob := P6.ob; have o0 := ob.c0; have o1 := ob.c1; have o28 := ob.c28; have org := ob.rg; clear hP N5 P6 ob)
        | (refine wpList_load_op (kd := 4) (n := m) (s := s1) (I := I) (T := T) (s' := s2) (I' := I') (T' := T') (kp := kp) _ rfl (.tmp 9) rfl rfl org ?_)
        | (go_at_call 13; refine (CAg.out _ hp).mono ?_; clear hp; intro e w7 q7; obtain ⟨l7, S7, a7, c7, r7, fs7, s7, rfl, hq, hr7⟩ := q7.ex)
        | (go_at_call 16; refine (CH.out _ _ _ _ _ _ _ _ _ hq).mono ?_; clear hq; rintro e w8 ⟨rfl, hq⟩))
      go_roundw
      case rel => exact ⟨j + 1, l7, S7, a7, c7, r7, fs7, s7, by omega, by omega, rfl, by go_num, hq.mono (by omega)⟩
      case measure => simp [intOf]; omega
    by_cases hk5 : kd = 5
    · subst hk5
      have CCu : Hid (∀ wx, Pw w wx l (31 + 64 * j) S db w2.heap.size a c run fs sure → Calls Tryz.prog 14 #[.pointer (some ⟨db, 0, none⟩), .pointer (some ⟨l, 0, none⟩), .pointer (some ⟨w2.heap.size, 0, none⟩), .agg (opA 5 m R.s I T Q.s I' T' kp)] wx fun e w' => Pn w w' (31 + 64 * j + 64) db w2.heap.size (run + 2) e) := fun wx q => q.cut5 (by omega) (by omega) k0 k1
      clear hvR hhR hvQ hhQ k0 k1 m0 m1 HSc
      generalize R.s = s1 at *
      generalize Q.s = s2 at *
      go_wp2_with (first
        | (refine wpList_load_op (kd := 5) (n := m) (s := s1) (I := I) (T := T) (s' := s2) (I' := I') (T' := T') (kp := kp) _ rfl (.tmp 46) rfl rfl hrg ?_; clear hrg)
        | (refine wpList_new_op _ rfl rfl ?_; intro w5 b9 N5)
        | (refine wpList_at (Op.store 40 (.tmp 9) (.tmp 47)) rfl ?_; refine wpList_put_op (kd := 5) (n := m) (s := s1) (I := I) (T := T) (s' := s2) (I' := I') (T' := T') (kp := kp) _ rfl (.tmp 9) (.tmp 47) rfl rfl rfl N5.ob rfl oI oT oI' oT' ?_; intro w6 P6; have hp := hP.below (N5.below.trans (P6.off.below (Nat.le_of_eq N5.eq.symm) N5.below.size)); have ob := P6.ob; have o0 := ob.c0; have o1 := ob.c1; have o28 := ob.c28; have org := ob.rg; clear hP N5 P6 ob)
        | (refine wpList_load_op (kd := 5) (n := m) (s := s1) (I := I) (T := T) (s' := s2) (I' := I') (T' := T') (kp := kp) _ rfl (.tmp 9) rfl rfl org ?_)
        | (go_at_call 14; refine (CCu.out _ hp).mono ?_; clear hp; intro e w7 q7; obtain ⟨l7, S7, a7, c7, r7, fs7, s7, rfl, hq, hr7⟩ := q7.ex)
        | (go_at_call 16; refine (CH.out _ _ _ _ _ _ _ _ _ hq).mono ?_; clear hq; rintro e w8 ⟨rfl, hq⟩))
      go_roundw
      case rel => exact ⟨j + 1, l7, S7, a7, c7, r7, fs7, s7, by omega, by omega, rfl, by go_num, hq.mono (by omega)⟩
      case measure => simp [intOf]; omega
    have g0 : (kd == 0) = false := by simpa using hk0
    have g1 : (kd == 1) = false := by simpa using hk1
    have g2 : (kd == 2) = false := by simpa using hk2
    have g3 : (kd == 3) = false := by simpa using hk3
    have g4 : (kd == 4) = false := by simpa using hk4
    have g5 : (kd == 5) = false := by simpa using hk5
    clear hk0 hk1 hk2 hk3 hk4 hk5
    by_cases hm : (0 : Int) ≤ m
    · have CAr : Hid (∀ wx, Pw w wx l (31 + 64 * j) S db w2.heap.size a c run fs sure → Calls Tryz.prog 15 #[.pointer (some ⟨db, 0, none⟩), .int .i64 m, .int .u64 kp] wx fun e w' => ∃ y S', e = .returned (.int .i64 y) ∧ Pw w w' l (31 + 64 * j + 64) S' db w2.heap.size a c run fs sure) := fun wx q => q.arm6 k0 k1 m1
      clear hvR hhR hvQ hhQ k0 k1 m0 m1 HSc
      generalize R.s = s1 at *
      generalize Q.s = s2 at *
      go_wp2_with (first
        | (refine wpList_load_op (kd := kd) (n := m) (s := s1) (I := I) (T := T) (s' := s2) (I' := I') (T' := T') (kp := kp) _ rfl (.tmp 46) rfl rfl hrg ?_; clear hrg)
        | (refine wpList_new_op _ rfl rfl ?_; intro w5 b9 N5)
        | (refine wpList_at (Op.store 40 (.tmp 9) (.tmp 47)) rfl ?_; refine wpList_put_op (kd := kd) (n := m) (s := s1) (I := I) (T := T) (s' := s2) (I' := I') (T' := T') (kp := kp) _ rfl (.tmp 9) (.tmp 47) rfl rfl rfl N5.ob rfl oI oT oI' oT' ?_; intro w6 P6; have hp := hP.below (N5.below.trans (P6.off.below (Nat.le_of_eq N5.eq.symm) N5.below.size)); have ob := P6.ob; have o0 := ob.c0; have o1 := ob.c1; have o28 := ob.c28; have org := ob.rg; clear hP N5 P6 ob)
        | (refine wpList_load_op (kd := kd) (n := m) (s := s1) (I := I) (T := T) (s' := s2) (I' := I') (T' := T') (kp := kp) _ rfl (.tmp 9) rfl rfl org ?_)
        | (go_at_call 15; refine (CAr.out _ hp).mono ?_; clear hp; rintro e w7 ⟨y7, S7, rfl, hq⟩)
        | (go_at_call 16; refine (CH.out _ _ _ _ _ _ _ _ _ hq).mono ?_; clear hq; rintro e w8 ⟨rfl, hq⟩))
      go_roundw
      case rel => exact ⟨j + 1, l, S7, a, c, run, fs, sure, by omega, by omega, rfl, by go_num, hq.mono (by omega)⟩
      case measure => simp [intOf]; omega
    · have hm2 : m < 0 := by omega
      clear hvR hhR hvQ hhQ k0 k1 m0 m1 HSc
      generalize R.s = s1 at *
      generalize Q.s = s2 at *
      go_wp2_with (first
        | (refine wpList_load_op (kd := kd) (n := m) (s := s1) (I := I) (T := T) (s' := s2) (I' := I') (T' := T') (kp := kp) _ rfl (.tmp 46) rfl rfl hrg ?_; clear hrg)
        | (refine wpList_new_op _ rfl rfl ?_; intro w5 b9 N5)
        | (refine wpList_at (Op.store 40 (.tmp 9) (.tmp 47)) rfl ?_; refine wpList_put_op (kd := kd) (n := m) (s := s1) (I := I) (T := T) (s' := s2) (I' := I') (T' := T') (kp := kp) _ rfl (.tmp 9) (.tmp 47) rfl rfl rfl N5.ob rfl oI oT oI' oT' ?_; intro w6 P6; have hp := hP.below (N5.below.trans (P6.off.below (Nat.le_of_eq N5.eq.symm) N5.below.size)); have ob := P6.ob; have o0 := ob.c0; have o1 := ob.c1; have o28 := ob.c28; have org := ob.rg; clear hP N5 P6 ob)
        | (refine wpList_load_op (kd := kd) (n := m) (s := s1) (I := I) (T := T) (s' := s2) (I' := I') (T' := T') (kp := kp) _ rfl (.tmp 9) rfl rfl org ?_)
        | (go_at_call 16; refine (CH.out _ _ _ _ _ _ _ _ _ hp).mono ?_; clear hp; rintro e w8 ⟨rfl, hq⟩)
        | (go_at_call 16; refine (CH.out _ _ _ _ _ _ _ _ _ hq).mono ?_; clear hq; rintro e w8 ⟨rfl, hq⟩))
      go_roundw
      case rel => exact ⟨j + 1, l, S, a, c, run, fs, sure, by omega, by omega, rfl, by go_num, hq.mono (by omega)⟩
      case measure => simp [intOf]; omega
end
end Go.Proofs.YtgcfbjecmmnlhaaGreat

namespace Go.Proofs.YtgcfbjecmmnlhaaGreat
open Go.RowKit Go.Maps Go.ChangeMaps
set_option linter.unusedVariables false
set_option linter.unusedSimpArgs false
set_option maxRecDepth 100000

section
variable {w : World}
set_option maxHeartbeats 16000000 in
theorem plays_m {ao : Option Addr} {n co : Nat} (hS : OpsV w ao n) (hn : n ≤ 9223372036854775807) (hc : 40 < n) : Calls Tryz.prog 3 #[.slice ao n co] w fun e w' => e = .returned (.bool true) ∧ Below w.heap.size w w' := by
  have CA : Hid (∀ wx, Calls Tryz.prog 17 #[] wx fun e w' => e = .returned (.bool true) ∧ Below wx.heap.size wx w') := awake8
  have CN : Hid (Calls Tryz.prog 9 #[.int .i64 31] w fun e w' => ∃ db, e = .returned (.tuple #[.pointer (some ⟨db, 0, none⟩), .int .i64 0]) ∧ Ds w.heap.size w' db 0 (newDk 31) ∧ Below w.heap.size w w') := sl_new w
  have CO : Hid (∀ wx db, Ds w.heap.size wx db 0 (newDk 31) → Below w.heap.size w wx → Calls Tryz.prog 10 #[.pointer (some ⟨db, 0, none⟩), .int .i64 1, .int .i64 30, .int .i64 1] wx fun e w' => ∃ S' l, e = .returned (.tuple #[.pointer (some ⟨l, 0, none⟩), .int .i64 0]) ∧ SlS w w' l 31 S' db 1 [] 0) := fun wx db q1 q2 => sl_open q1 q2
  have HSc : Hid (OpsV w ao n) := hS
  clear hS
  go_enter Tryz.func3, Tryz.ntmps3
  go_wp2_with (first
    | (go_at_call 9; refine CN.out.mono ?_; rintro e w1 ⟨db, rfl, D1, b1⟩)
    | (go_at_call 10; refine (CO.out _ _ D1 b1).mono ?_; rintro e w2 ⟨S2, l, rfl, A2⟩))
  have hz2 := A2.bel.size
  have bP : Below w2.heap.size w2 (w2.alloc (.cells #[.slice none 0 0, .int .i64 0, .int .i64 1, .int .i64 1740] 33)) := (Below.refl _ _).alloc (Nat.le_refl _) _
  have HA : Hid (Pw w (w2.alloc (.cells #[.slice none 0 0, .int .i64 0, .int .i64 1, .int .i64 1740] 33)) l 31 S2 db w2.heap.size none 0 1 [] 0) := by
    have A3 := A2.below bP
    exact ⟨⟨A3.lv, A3.n, ⟨⟨(MapKept.heap_alloc w2 _).1, hz2⟩, OwnS.nil _ _⟩⟩, A3.bel⟩
  clear A2 CN CO D1 bP
  go_loopw [5, 8] (fun lv iv wr => ∃ (j l : Nat) (S : Dk) (a : Option Addr) (c run : Nat) (fs : List ByteArray) (sure : Nat), j ≤ 40 ∧ run ≤ 1 + 2 * j ∧ lv = .pointer (some ⟨l, 0, none⟩) ∧ iv = .int .i64 (j : Int) ∧ Pw w wr l (31 + 64 * j) S db w2.heap.size a c run fs sure) (fun _ iv _ => 40 - (intOf iv).toNat)
  case atStart => exact ⟨0, l, S2, none, 0, 1, [], 0, Nat.zero_le _, by omega, rfl, rfl, HA.out⟩
  case round =>
    clear HA
    obtain ⟨j, l, S, a, c, run, fs, sure, hj, hrun, rfl, rfl, hP⟩ := hrel
    by_cases hlt : j < 40
    case neg =>
      obtain rfl : j = 40 := by omega
      have i1 : (40 : Int) < (n : Int) := by omega
      clear hlt HSc
      go_wp2_with (go_at_call 17; refine (CA.out _).mono ?_; rintro e w9 ⟨rfl, b9⟩)
      go_ret
      exact ⟨rfl, thn hP.bel b9⟩
    obtain ⟨g, of, cs, kd, m, R, Q, kp, ea, hg, hrg0, hov⟩ := HSc.out.at_ j (by omega)
    subst ea
    obtain ⟨I, T, I', T', ecs, hvR, hvQ⟩ := hov.ex
    subst ecs
    have hhR := hov.hR
    have hhQ := hov.hQ
    have k0 := hov.k0
    have k1 := hov.k1
    have m0 := hov.m0
    have m1 := hov.m1
    have oI : I.oneCell' = true := by obtain ⟨I1, T1, e1, hI, hT⟩ := hvR.ex; injection e1 with e1; simp [Sc.A] at e1; rw [e1.1]; exact hI.one
    have oT : T.oneCell' = true := by obtain ⟨I1, T1, e1, hI, hT⟩ := hvR.ex; injection e1 with e1; simp [Sc.A] at e1; rw [e1.2]; exact hT.one
    have oI' : I'.oneCell' = true := by obtain ⟨I1, T1, e1, hI, hT⟩ := hvQ.ex; injection e1 with e1; simp [Sc.A] at e1; rw [e1.1]; exact hI.one
    have oT' : T'.oneCell' = true := by obtain ⟨I1, T1, e1, hI, hT⟩ := hvQ.ex; injection e1 with e1; simp [Sc.A] at e1; rw [e1.2]; exact hT.one
    have hrg := rangeAt_below hrg0 hg hP.bel
    have CH : Hid (∀ wx l k S a c run fs sure, Pw w wx l k S db w2.heap.size a c run fs sure → Calls Tryz.prog 16 #[.pointer (some ⟨l, 0, none⟩), .pointer (some ⟨w2.heap.size, 0, none⟩)] wx fun e w' => e = .returned (.bool true) ∧ Pw w w' l k S db w2.heap.size a c run fs sure) := fun wx l k S a c run fs sure q => q.holds
    have i1 : (j : Int) < (n : Int) := by omega
    have i2 : (j : Int) < 40 := by omega
    have i3 : j < n := by omega
    have i4 : j < 40 := by omega
    clear hrg0 hov hg
    by_cases hk0 : kd = 0
    · subst hk0
      have CAd : Hid (∀ wx, Pw w wx l (31 + 64 * j) S db w2.heap.size a c run fs sure → Calls Tryz.prog 11 #[.pointer (some ⟨l, 0, none⟩), .pointer (some ⟨w2.heap.size, 0, none⟩), .agg (opA 0 m R.s I T Q.s I' T' kp)] wx fun e w' => e = .returned (.bool true) ∧ ∃ a' c' fs', Pw w w' l (31 + 64 * j + 64) S db w2.heap.size a' c' run fs' sure) := fun wx q => q.add01 hvR hhR hvQ hhQ (by omega)
      clear hvR hhR hvQ hhQ k0 k1 m0 m1 HSc
      generalize R.s = s1 at *
      generalize Q.s = s2 at *
      go_wp2_with (first
        | (refine wpList_load_op (kd := 0) (n := m) (s := s1) (I := I) (T := T) (s' := s2) (I' := I') (T' := T') (kp := kp) _ rfl (.tmp 46) rfl rfl hrg ?_; clear hrg)
        | (refine wpList_new_op _ rfl rfl ?_; intro w5 b9 N5)
        | (refine wpList_at (Op.store 40 (.tmp 9) (.tmp 47)) rfl ?_; refine wpList_put_op (kd := 0) (n := m) (s := s1) (I := I) (T := T) (s' := s2) (I' := I') (T' := T') (kp := kp) _ rfl (.tmp 9) (.tmp 47) rfl rfl rfl N5.ob rfl oI oT oI' oT' ?_; intro w6 P6; have hp := hP.below (N5.below.trans (P6.off.below (Nat.le_of_eq N5.eq.symm) N5.below.size)); have ob := P6.ob; have o0 := ob.c0; have o1 := ob.c1; have o28 := ob.c28; have org := ob.rg; clear hP N5 P6 ob)
        | (refine wpList_load_op (kd := 0) (n := m) (s := s1) (I := I) (T := T) (s' := s2) (I' := I') (T' := T') (kp := kp) _ rfl (.tmp 9) rfl rfl org ?_)
        | (go_at_call 11; refine (CAd.out _ hp).mono ?_; clear hp; rintro e w7 ⟨rfl, a7, c7, fs7, hq⟩)
        | (go_at_call 16; refine (CH.out _ _ _ _ _ _ _ _ _ hq).mono ?_; clear hq; rintro e w8 ⟨rfl, hq⟩))
      go_roundw
      case rel => exact ⟨j + 1, l, S, a7, c7, run, fs7, sure, by omega, by omega, rfl, by go_num, hq.mono (by omega)⟩
      case measure => simp [intOf]; omega
    by_cases hk1 : kd = 1
    · subst hk1
      have CAd : Hid (∀ wx, Pw w wx l (31 + 64 * j) S db w2.heap.size a c run fs sure → Calls Tryz.prog 11 #[.pointer (some ⟨l, 0, none⟩), .pointer (some ⟨w2.heap.size, 0, none⟩), .agg (opA 1 m R.s I T Q.s I' T' kp)] wx fun e w' => e = .returned (.bool true) ∧ ∃ a' c' fs', Pw w w' l (31 + 64 * j + 64) S db w2.heap.size a' c' run fs' sure) := fun wx q => q.add01 hvR hhR hvQ hhQ (by omega)
      clear hvR hhR hvQ hhQ k0 k1 m0 m1 HSc
      generalize R.s = s1 at *
      generalize Q.s = s2 at *
      go_wp2_with (first
        | (refine wpList_load_op (kd := 1) (n := m) (s := s1) (I := I) (T := T) (s' := s2) (I' := I') (T' := T') (kp := kp) _ rfl (.tmp 46) rfl rfl hrg ?_; clear hrg)
        | (refine wpList_new_op _ rfl rfl ?_; intro w5 b9 N5)
        | (refine wpList_at (Op.store 40 (.tmp 9) (.tmp 47)) rfl ?_; refine wpList_put_op (kd := 1) (n := m) (s := s1) (I := I) (T := T) (s' := s2) (I' := I') (T' := T') (kp := kp) _ rfl (.tmp 9) (.tmp 47) rfl rfl rfl N5.ob rfl oI oT oI' oT' ?_; intro w6 P6; have hp := hP.below (N5.below.trans (P6.off.below (Nat.le_of_eq N5.eq.symm) N5.below.size)); have ob := P6.ob; have o0 := ob.c0; have o1 := ob.c1; have o28 := ob.c28; have org := ob.rg; clear hP N5 P6 ob)
        | (refine wpList_load_op (kd := 1) (n := m) (s := s1) (I := I) (T := T) (s' := s2) (I' := I') (T' := T') (kp := kp) _ rfl (.tmp 9) rfl rfl org ?_)
        | (go_at_call 11; refine (CAd.out _ hp).mono ?_; clear hp; rintro e w7 ⟨rfl, a7, c7, fs7, hq⟩)
        | (go_at_call 16; refine (CH.out _ _ _ _ _ _ _ _ _ hq).mono ?_; clear hq; rintro e w8 ⟨rfl, hq⟩))
      go_roundw
      case rel => exact ⟨j + 1, l, S, a7, c7, run, fs7, sure, by omega, by omega, rfl, by go_num, hq.mono (by omega)⟩
      case measure => simp [intOf]; omega
    by_cases hk2 : kd = 2
    · subst hk2
      have CFl : Hid (∀ wx, Pw w wx l (31 + 64 * j) S db w2.heap.size a c run fs sure → Calls Tryz.prog 12 #[.pointer (some ⟨db, 0, none⟩), .pointer (some ⟨l, 0, none⟩), .pointer (some ⟨w2.heap.size, 0, none⟩), .agg (opA 2 m R.s I T Q.s I' T' kp)] wx fun e w' => Pn w w' (31 + 64 * j + 64) db w2.heap.size (run + 2) e) := fun wx q => q.flush2 (by omega) (by omega) k0 k1
      clear hvR hhR hvQ hhQ k0 k1 m0 m1 HSc
      generalize R.s = s1 at *
      generalize Q.s = s2 at *
      go_wp2_with (first
        | (refine wpList_load_op (kd := 2) (n := m) (s := s1) (I := I) (T := T) (s' := s2) (I' := I') (T' := T') (kp := kp) _ rfl (.tmp 46) rfl rfl hrg ?_; clear hrg)
        | (refine wpList_new_op _ rfl rfl ?_; intro w5 b9 N5)
        | (refine wpList_at (Op.store 40 (.tmp 9) (.tmp 47)) rfl ?_; refine wpList_put_op (kd := 2) (n := m) (s := s1) (I := I) (T := T) (s' := s2) (I' := I') (T' := T') (kp := kp) _ rfl (.tmp 9) (.tmp 47) rfl rfl rfl N5.ob rfl oI oT oI' oT' ?_; intro w6 P6; have hp := hP.below (N5.below.trans (P6.off.below (Nat.le_of_eq N5.eq.symm) N5.below.size)); have ob := P6.ob; have o0 := ob.c0; have o1 := ob.c1; have o28 := ob.c28; have org := ob.rg; clear hP N5 P6 ob)
        | (refine wpList_load_op (kd := 2) (n := m) (s := s1) (I := I) (T := T) (s' := s2) (I' := I') (T' := T') (kp := kp) _ rfl (.tmp 9) rfl rfl org ?_)
        | (go_at_call 12; refine (CFl.out _ hp).mono ?_; clear hp; intro e w7 q7; obtain ⟨l7, S7, a7, c7, r7, fs7, s7, rfl, hq, hr7⟩ := q7.ex)
        | (go_at_call 16; refine (CH.out _ _ _ _ _ _ _ _ _ hq).mono ?_; clear hq; rintro e w8 ⟨rfl, hq⟩))
      go_roundw
      case rel => exact ⟨j + 1, l7, S7, a7, c7, r7, fs7, s7, by omega, by omega, rfl, by go_num, hq.mono (by omega)⟩
      case measure => simp [intOf]; omega
    by_cases hk3 : kd = 3
    · subst hk3
      have CFl : Hid (∀ wx, Pw w wx l (31 + 64 * j) S db w2.heap.size a c run fs sure → Calls Tryz.prog 12 #[.pointer (some ⟨db, 0, none⟩), .pointer (some ⟨l, 0, none⟩), .pointer (some ⟨w2.heap.size, 0, none⟩), .agg (opA 3 m R.s I T Q.s I' T' kp)] wx fun e w' => Pn w w' (31 + 64 * j + 64) db w2.heap.size (run + 2) e) := fun wx q => q.flush3 (by omega) (by omega) k0 k1
      clear hvR hhR hvQ hhQ k0 k1 m0 m1 HSc
      generalize R.s = s1 at *
      generalize Q.s = s2 at *
      go_wp2_with (first
        | (refine wpList_load_op (kd := 3) (n := m) (s := s1) (I := I) (T := T) (s' := s2) (I' := I') (T' := T') (kp := kp) _ rfl (.tmp 46) rfl rfl hrg ?_; clear hrg)
        | (refine wpList_new_op _ rfl rfl ?_; intro w5 b9 N5)
        | (refine wpList_at (Op.store 40 (.tmp 9) (.tmp 47)) rfl ?_; refine wpList_put_op (kd := 3) (n := m) (s := s1) (I := I) (T := T) (s' := s2) (I' := I') (T' := T') (kp := kp) _ rfl (.tmp 9) (.tmp 47) rfl rfl rfl N5.ob rfl oI oT oI' oT' ?_; intro w6 P6; have hp := hP.below (N5.below.trans (P6.off.below (Nat.le_of_eq N5.eq.symm) N5.below.size)); have ob := P6.ob; have o0 := ob.c0; have o1 := ob.c1; have o28 := ob.c28; have org := ob.rg; clear hP N5 P6 ob)
        | (refine wpList_load_op (kd := 3) (n := m) (s := s1) (I := I) (T := T) (s' := s2) (I' := I') (T' := T') (kp := kp) _ rfl (.tmp 9) rfl rfl org ?_)
        | (go_at_call 12; refine (CFl.out _ hp).mono ?_; clear hp; intro e w7 q7; obtain ⟨l7, S7, a7, c7, r7, fs7, s7, rfl, hq, hr7⟩ := q7.ex)
        | (go_at_call 16; refine (CH.out _ _ _ _ _ _ _ _ _ hq).mono ?_; clear hq; rintro e w8 ⟨rfl, hq⟩))
      go_roundw
      case rel => exact ⟨j + 1, l7, S7, a7, c7, r7, fs7, s7, by omega, by omega, rfl, by go_num, hq.mono (by omega)⟩
      case measure => simp [intOf]; omega
    by_cases hk4 : kd = 4
    · subst hk4
      have CAg : Hid (∀ wx, Pw w wx l (31 + 64 * j) S db w2.heap.size a c run fs sure → Calls Tryz.prog 13 #[.pointer (some ⟨db, 0, none⟩), .pointer (some ⟨w2.heap.size, 0, none⟩), .int .u64 kp] wx fun e w' => Pn w w' (31 + 64 * j + 64) db w2.heap.size (run + 2) e) := fun wx q => q.again4 (by omega) (by omega) k0 k1
      clear hvR hhR hvQ hhQ k0 k1 m0 m1 HSc
      generalize R.s = s1 at *
      generalize Q.s = s2 at *
      go_wp2_with (first
        | (refine wpList_load_op (kd := 4) (n := m) (s := s1) (I := I) (T := T) (s' := s2) (I' := I') (T' := T') (kp := kp) _ rfl (.tmp 46) rfl rfl hrg ?_; clear hrg)
        | (refine wpList_new_op _ rfl rfl ?_; intro w5 b9 N5)
        | (refine wpList_at (Op.store 40 (.tmp 9) (.tmp 47)) rfl ?_; refine wpList_put_op (kd := 4) (n := m) (s := s1) (I := I) (T := T) (s' := s2) (I' := I') (T' := T') (kp := kp) _ rfl (.tmp 9) (.tmp 47) rfl rfl rfl N5.ob rfl oI oT oI' oT' ?_; intro w6 P6; have hp := hP.below (N5.below.trans (P6.off.below (Nat.le_of_eq N5.eq.symm) N5.below.size)); have ob := P6.ob; have o0 := ob.c0; have o1 := ob.c1; have o28 := ob.c28; have org := ob.rg; clear hP N5 P6 ob)
        | (refine wpList_load_op (kd := 4) (n := m) (s := s1) (I := I) (T := T) (s' := s2) (I' := I') (T' := T') (kp := kp) _ rfl (.tmp 9) rfl rfl org ?_)
        | (go_at_call 13; refine (CAg.out _ hp).mono ?_; clear hp; intro e w7 q7; obtain ⟨l7, S7, a7, c7, r7, fs7, s7, rfl, hq, hr7⟩ := q7.ex)
        | (go_at_call 16; refine (CH.out _ _ _ _ _ _ _ _ _ hq).mono ?_; clear hq; rintro e w8 ⟨rfl, hq⟩))
      go_roundw
      case rel => exact ⟨j + 1, l7, S7, a7, c7, r7, fs7, s7, by omega, by omega, rfl, by go_num, hq.mono (by omega)⟩
      case measure => simp [intOf]; omega
    by_cases hk5 : kd = 5
    · subst hk5
      have CCu : Hid (∀ wx, Pw w wx l (31 + 64 * j) S db w2.heap.size a c run fs sure → Calls Tryz.prog 14 #[.pointer (some ⟨db, 0, none⟩), .pointer (some ⟨l, 0, none⟩), .pointer (some ⟨w2.heap.size, 0, none⟩), .agg (opA 5 m R.s I T Q.s I' T' kp)] wx fun e w' => Pn w w' (31 + 64 * j + 64) db w2.heap.size (run + 2) e) := fun wx q => q.cut5 (by omega) (by omega) k0 k1
      clear hvR hhR hvQ hhQ k0 k1 m0 m1 HSc
      generalize R.s = s1 at *
      generalize Q.s = s2 at *
      go_wp2_with (first
        | (refine wpList_load_op (kd := 5) (n := m) (s := s1) (I := I) (T := T) (s' := s2) (I' := I') (T' := T') (kp := kp) _ rfl (.tmp 46) rfl rfl hrg ?_; clear hrg)
        | (refine wpList_new_op _ rfl rfl ?_; intro w5 b9 N5)
        | (refine wpList_at (Op.store 40 (.tmp 9) (.tmp 47)) rfl ?_; refine wpList_put_op (kd := 5) (n := m) (s := s1) (I := I) (T := T) (s' := s2) (I' := I') (T' := T') (kp := kp) _ rfl (.tmp 9) (.tmp 47) rfl rfl rfl N5.ob rfl oI oT oI' oT' ?_; intro w6 P6; have hp := hP.below (N5.below.trans (P6.off.below (Nat.le_of_eq N5.eq.symm) N5.below.size)); have ob := P6.ob; have o0 := ob.c0; have o1 := ob.c1; have o28 := ob.c28; have org := ob.rg; clear hP N5 P6 ob)
        | (refine wpList_load_op (kd := 5) (n := m) (s := s1) (I := I) (T := T) (s' := s2) (I' := I') (T' := T') (kp := kp) _ rfl (.tmp 9) rfl rfl org ?_)
        | (go_at_call 14; refine (CCu.out _ hp).mono ?_; clear hp; intro e w7 q7; obtain ⟨l7, S7, a7, c7, r7, fs7, s7, rfl, hq, hr7⟩ := q7.ex)
        | (go_at_call 16; refine (CH.out _ _ _ _ _ _ _ _ _ hq).mono ?_; clear hq; rintro e w8 ⟨rfl, hq⟩))
      go_roundw
      case rel => exact ⟨j + 1, l7, S7, a7, c7, r7, fs7, s7, by omega, by omega, rfl, by go_num, hq.mono (by omega)⟩
      case measure => simp [intOf]; omega
    have g0 : (kd == 0) = false := by simpa using hk0
    have g1 : (kd == 1) = false := by simpa using hk1
    have g2 : (kd == 2) = false := by simpa using hk2
    have g3 : (kd == 3) = false := by simpa using hk3
    have g4 : (kd == 4) = false := by simpa using hk4
    have g5 : (kd == 5) = false := by simpa using hk5
    clear hk0 hk1 hk2 hk3 hk4 hk5
    by_cases hm : (0 : Int) ≤ m
    · have CAr : Hid (∀ wx, Pw w wx l (31 + 64 * j) S db w2.heap.size a c run fs sure → Calls Tryz.prog 15 #[.pointer (some ⟨db, 0, none⟩), .int .i64 m, .int .u64 kp] wx fun e w' => ∃ y S', e = .returned (.int .i64 y) ∧ Pw w w' l (31 + 64 * j + 64) S' db w2.heap.size a c run fs sure) := fun wx q => q.arm6 k0 k1 m1
      clear hvR hhR hvQ hhQ k0 k1 m0 m1 HSc
      generalize R.s = s1 at *
      generalize Q.s = s2 at *
      go_wp2_with (first
        | (refine wpList_load_op (kd := kd) (n := m) (s := s1) (I := I) (T := T) (s' := s2) (I' := I') (T' := T') (kp := kp) _ rfl (.tmp 46) rfl rfl hrg ?_; clear hrg)
        | (refine wpList_new_op _ rfl rfl ?_; intro w5 b9 N5)
        | (refine wpList_at (Op.store 40 (.tmp 9) (.tmp 47)) rfl ?_; refine wpList_put_op (kd := kd) (n := m) (s := s1) (I := I) (T := T) (s' := s2) (I' := I') (T' := T') (kp := kp) _ rfl (.tmp 9) (.tmp 47) rfl rfl rfl N5.ob rfl oI oT oI' oT' ?_; intro w6 P6; have hp := hP.below (N5.below.trans (P6.off.below (Nat.le_of_eq N5.eq.symm) N5.below.size)); have ob := P6.ob; have o0 := ob.c0; have o1 := ob.c1; have o28 := ob.c28; have org := ob.rg; clear hP N5 P6 ob)
        | (refine wpList_load_op (kd := kd) (n := m) (s := s1) (I := I) (T := T) (s' := s2) (I' := I') (T' := T') (kp := kp) _ rfl (.tmp 9) rfl rfl org ?_)
        | (go_at_call 15; refine (CAr.out _ hp).mono ?_; clear hp; rintro e w7 ⟨y7, S7, rfl, hq⟩)
        | (go_at_call 16; refine (CH.out _ _ _ _ _ _ _ _ _ hq).mono ?_; clear hq; rintro e w8 ⟨rfl, hq⟩))
      go_roundw
      case rel => exact ⟨j + 1, l, S7, a, c, run, fs, sure, by omega, by omega, rfl, by go_num, hq.mono (by omega)⟩
      case measure => simp [intOf]; omega
    · have hm2 : m < 0 := by omega
      clear hvR hhR hvQ hhQ k0 k1 m0 m1 HSc
      generalize R.s = s1 at *
      generalize Q.s = s2 at *
      go_wp2_with (first
        | (refine wpList_load_op (kd := kd) (n := m) (s := s1) (I := I) (T := T) (s' := s2) (I' := I') (T' := T') (kp := kp) _ rfl (.tmp 46) rfl rfl hrg ?_; clear hrg)
        | (refine wpList_new_op _ rfl rfl ?_; intro w5 b9 N5)
        | (refine wpList_at (Op.store 40 (.tmp 9) (.tmp 47)) rfl ?_; refine wpList_put_op (kd := kd) (n := m) (s := s1) (I := I) (T := T) (s' := s2) (I' := I') (T' := T') (kp := kp) _ rfl (.tmp 9) (.tmp 47) rfl rfl rfl N5.ob rfl oI oT oI' oT' ?_; intro w6 P6; have hp := hP.below (N5.below.trans (P6.off.below (Nat.le_of_eq N5.eq.symm) N5.below.size)); have ob := P6.ob; have o0 := ob.c0; have o1 := ob.c1; have o28 := ob.c28; have org := ob.rg; clear hP N5 P6 ob)
        | (refine wpList_load_op (kd := kd) (n := m) (s := s1) (I := I) (T := T) (s' := s2) (I' := I') (T' := T') (kp := kp) _ rfl (.tmp 9) rfl rfl org ?_)
        | (go_at_call 16; refine (CH.out _ _ _ _ _ _ _ _ _ hp).mono ?_; clear hp; rintro e w8 ⟨rfl, hq⟩)
        | (go_at_call 16; refine (CH.out _ _ _ _ _ _ _ _ _ hq).mono ?_; clear hq; rintro e w8 ⟨rfl, hq⟩))
      go_roundw
      case rel => exact ⟨j + 1, l, S, a, c, run, fs, sure, by omega, by omega, rfl, by go_num, hq.mono (by omega)⟩
      case measure => simp [intOf]; omega
end
end Go.Proofs.YtgcfbjecmmnlhaaGreat

namespace Go.Proofs.YtgcfbjecmmnlhaaGreat
open Go.RowKit Go.Maps Go.ChangeMaps
set_option linter.unusedVariables false
set_option linter.unusedSimpArgs false
set_option maxRecDepth 100000

theorem plays8_walk {w : World} {ao : Option Addr} {n co : Nat} (hS : OpsV w ao n) (hn : n ≤ 9223372036854775807) : Calls Tryz.prog 3 #[.slice ao n co] w fun e w' => e = .returned (.bool true) ∧ Below w.heap.size w w' := by
  rcases Nat.lt_or_ge 40 n with h | h
  · exact plays_m hS hn h
  · exact plays_f hS hn h
end Go.Proofs.YtgcfbjecmmnlhaaGreat
