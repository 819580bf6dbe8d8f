/- PackReads: the walk: whatever is asked of a reader of any text, the law returns true. -/
import Derived.Test.YtdgdbfodcccmcaaSim
import Derived.Deep.RegionHeld3
namespace Go.Proofs.Ytdgdbfodcccmcaa
open Go.RowKit
set_option linter.unusedVariables false
set_option linter.unusedSimpArgs false
set_option maxRecDepth 100000

theorem keep_off {c : Nat} {w w' : World} {p : Addr} {v : Value} (h : Off c w w') (hp : p.block < w.heap.size) (hn : p.block ≠ c) (hv : w.cell? p = some v) : w'.cell? p = some v := (h.cell hp hn).trans hv
theorem Off.of_drew {b : Nat} {w w' : World} (h : Off b w.drew w') : Off b w w' := ⟨h.os, h.tape, h.output, h.size, h.block⟩
theorem Off.of_drewN {b : Nat} {w w' : World} {n : Nat} (h : Off b (w.drewN n) w') : Off b w w' := ⟨h.os, h.tape, h.output, h.size, h.block⟩
theorem Read_any (s : ByteArray) (w : World) : Calls Try.prog 17 #[.string s] w fun e w' => e = .returned (.pointer (some ⟨w.heap.size, 0, none⟩)) ∧ w' = w.alloc (.cells #[.string s, .int .i64 0] 61) := by
  go_enter Try.func17, Try.ntmps17
  go_wp2
  go_ret
  exact ⟨rfl, rfl⟩

/-- What is known of the script: its first len steps. -/
def IsOps (w : World) (a : Option Addr) (len : Nat) (f : Nat → Int × Int) : Prop :=
  ∀ i, i < len → ∃ b off, a = some ⟨b, off, none⟩ ∧ b < w.heap.size ∧ w.cell? ⟨b, off + i * 2, none⟩ = some (.int .i64 (f i).1) ∧ w.cell? ⟨b, off + i * 2 + 1, none⟩ = some (.int .i64 (f i).2)

theorem reads_start (s : ByteArray) (w : World) :
    isRd ((w.alloc (.cells #[.string s, .int .i64 0] 61)).alloc (.cells #[.string s, .int .i64 0, .int .i64 0] 49)) w.heap.size s 0 ∧ isPl ((w.alloc (.cells #[.string s, .int .i64 0] 61)).alloc (.cells #[.string s, .int .i64 0, .int .i64 0] 49)) (w.heap.size + 1) s 0 0 ∧ Below w.heap.size w ((w.alloc (.cells #[.string s, .int .i64 0] 61)).alloc (.cells #[.string s, .int .i64 0, .int .i64 0] 49)) := by
  refine ⟨?_, ?_, ((Below.refl _ _).alloc (Nat.le_refl _) _).alloc (by simp) _⟩
  · show (((w.heap.push _).push _) : Array Obj)[w.heap.size]? = _
    rw [Array.getElem?_push, if_neg (by simp)]
    simp
  · show (((w.heap.push _).push _) : Array Obj)[w.heap.size + 1]? = _
    rw [Array.getElem?_push, if_pos (by simp)]

set_option maxHeartbeats 8000000 in
theorem reads_walk (s : ByteArray) (ao : Option Addr) (len cap : Nat) (f : Nat → Int × Int) (w : World) (hs : s.size ≤ 140737488351232) (hlen : len ≤ 140737488351232) (ho : IsOps w ao len f) :
    Calls Try.prog 7 #[.string s, .slice ao len cap] w fun e w' => e = .returned (.bool true) ∧ Below w.heap.size w w' := by
  have HO : Hid _ := ho
  have ST : Hid _ := reads_start s w
  clear ho
  go_enter Try.func7, Try.ntmps7
  go_wp2_with (go_at_call 17; refine (Read_any _ _).mono ?_; rintro e w' ⟨rfl, rfl⟩)
  go_loopw [7] (fun i wr => ∃ (k a : Nat) (l : ByteArray) (e : Int), k ≤ len ∧ k ≤ 60 ∧ i = .int .i64 k ∧ isRd wr w.heap.size l e ∧ isPl wr (w.heap.size + 1) s a e ∧ Sim s a l e ∧ Below w.heap.size w wr) (fun i _ => 60 - (intOf i).toNat)
  case atStart => exact ⟨0, 0, s, 0, Nat.zero_le _, Nat.zero_le _, rfl, ST.out.1, ST.out.2.1, sim_start s, ST.out.2.2⟩
  case round =>
    obtain ⟨k, a, l, e, hk, hk2, rfl, hrd, hpl, hsim, hbel⟩ := hrel
    by_cases hlt : k < len
    · by_cases hlt2 : k < 60
      · obtain ⟨b, off, rfl, hb, hc0, hc1⟩ := HO.out k hlt
        have hcK : wr.cell? ⟨b, off + k * 2, none⟩ = some (.int .i64 (f k).1) := (hbel.cell (by exact hb)).trans hc0
        have hcN : wr.cell? ⟨b, off + k * 2 + 1, none⟩ = some (.int .i64 (f k).2) := (hbel.cell (by exact hb)).trans hc1
        clear hc0 hc1 HO ST
        generalize (f k).1 = kd at hcK
        generalize (f k).2 = nn at hcN
        clear f
        have hbl : b < w.heap.size := hb
        have hne : b ≠ w.heap.size := by omega
        have hne2 : b ≠ w.heap.size + 1 := by omega
        have hne3 : w.heap.size + 1 ≠ w.heap.size := by omega
        have hne4 : w.heap.size ≠ w.heap.size + 1 := by omega
        have hsz := sim_size hsim
        have hSz : w.heap.size ≤ wr.heap.size := hbel.size
        have hSz2 : w.heap.size + 1 < wr.heap.size := hpl.lt
        by_cases h0 : kd = 0
        · subst h0
          have C1 : Hid _ := fun w1 h => Raw_any w.heap.size l e nn w1 (by omega) h
          have C2 : Hid _ := fun w1 h => raw_any (w.heap.size + 1) s a e nn w1 hs hsim.1 h
          obtain ⟨E1, E2, E3⟩ := sim_raw hsim
          obtain ⟨sv, l', e', hr⟩ : ∃ sv l' e', rdRaw l e nn = (sv, l', e') := ⟨_, _, _, rfl⟩
          obtain ⟨sv2, a', e2', hp⟩ : ∃ sv l' e', plRaw s a e nn = (sv, l', e') := ⟨_, _, _, rfl⟩
          rw [hr] at C1
          rw [hp] at C2
          rw [hr, hp] at E1 E2 E3
          dsimp only at E1 E2 E3 C1 C2
          subst E1 E2
          clear hr hp
          go_wp2
          go_region_held3 (fun w' => w'.cell? ⟨b, off + k * 2 + 1, none⟩ = some (.int .i64 nn)) (first | exact keep2 | exact keep1 | go_keep) (first | (go_at_call 22; refine (C1.out _ ?_).mono ?_; exact hrd; rintro _ w1 ⟨rfl, hrd1, o0⟩; have o1 := o0.of_drew; clear o0; have hb1 : b < w1.heap.size := Nat.lt_of_lt_of_le (Nat.lt_of_lt_of_le hbl hSz) o1.size; have keep1 := keep_off o1 (Nat.lt_of_lt_of_le hbl hSz) hne hcN) | (go_at_call 23; refine (C2.out _ ?_).mono ?_; exact hpl.off o1 hne3; rintro _ w2 ⟨rfl, hpl1, o2⟩; have keep2 := keep_off o2 hb1 hne2 keep1))
          have hrd2 := hrd1.off o2 hne4
          clear C1 C2 keep1 keep2 hrd1 hsim hrd hcK hcN
          have hsz' := sim_size E3
          have hz := sim_left E3
          have hbb : Below w.heap.size w w2 := (hbel.trans ((o1.below (Nat.le_refl _) hSz))).trans (o2.below (Nat.le_succ _) (Nat.le_trans hSz o1.size))
          have hq0 := hpl1.c0
          have hq1 := hpl1.c1
          have hq2 := hpl1.c2
          have hae := E3.1
          by_cases he' : e' = 0
          · subst he'
            rw [if_pos rfl] at hz
            have HZ : Hid _ := hz
            have hzz : ((l'.size : Int) != (s.size : Int) - (a' : Int)) = false := by rw [HZ.out]; simp
            clear hz
            go_wp2
            go_quiet (fail)
            go_wp2
            go_region_held3 (fun w' => w'.cell? ⟨w.heap.size + 1, 2, none⟩ = some (.int .i64 0)) (first | exact hq2 | go_keep) (first | (go_at_call 26; refine (Err_any w.heap.size l' 0 _ ?_).mono ?_; exact hrd2; rintro _ w3 ⟨rfl, rfl⟩) | (go_at_call 20; refine (Left_any w.heap.size l' 0 _ ?_ ?_).mono ?_; omega; exact hrd2; rintro _ w3 ⟨rfl, rfl⟩))
            go_wp2
            go_roundw
            case rel => exact ⟨k + 1, a', l', 0, by omega, by omega, by go_num, hrd2, hpl1, E3, below_drewN hbb _⟩
            case measure => simp [intOf]; omega
          · skip
            rw [if_neg he'] at hz
            have HZ : Hid _ := hz
            have hzz : ((l'.size : Int) != 0) = false := by rw [HZ.out]; simp
            have hee : ((e' : Int) != 0) = true := bne_iff_ne.2 he'
            clear hz
            go_wp2
            go_quiet (fail)
            go_wp2
            go_region_held3 (fun w' => w'.cell? ⟨w.heap.size + 1, 2, none⟩ = some (.int .i64 e')) (first | exact hq2 | go_keep) (first | (go_at_call 26; refine (Err_any w.heap.size l' e' _ ?_).mono ?_; exact hrd2; rintro _ w3 ⟨rfl, rfl⟩) | (go_at_call 20; refine (Left_any w.heap.size l' e' _ ?_ ?_).mono ?_; omega; exact hrd2; rintro _ w3 ⟨rfl, rfl⟩))
            go_wp2
            go_roundw
            case rel => exact ⟨k + 1, a', l', e', by omega, by omega, by go_num, hrd2, hpl1, E3, below_drewN hbb _⟩
            case measure => simp [intOf]; omega
        · have h0' : (kd == 0) = false := by simpa using h0
          clear h0
          by_cases h1 : kd = 1
          · subst h1
            have C1 : Hid _ := fun w1 h => Num_any w.heap.size l e nn w1 (by omega) h
            have C2 : Hid _ := fun w1 h => num_any_law (w.heap.size + 1) s a e nn w1 hs hsim.1 h
            obtain ⟨E1, E2, E3⟩ := sim_num hsim
            obtain ⟨sv, l', e', hr⟩ : ∃ sv l' e', rdNum l e nn = (sv, l', e') := ⟨_, _, _, rfl⟩
            obtain ⟨sv2, a', e2', hp⟩ : ∃ sv l' e', plNum s a e nn = (sv, l', e') := ⟨_, _, _, rfl⟩
            rw [hr] at C1
            rw [hp] at C2
            rw [hr, hp] at E1 E2 E3
            dsimp only at E1 E2 E3 C1 C2
            subst E1 E2
            clear hr hp
            go_wp2
            go_region_held3 (fun w' => w'.cell? ⟨b, off + k * 2 + 1, none⟩ = some (.int .i64 nn)) (first | exact keep2 | exact keep1 | go_keep) (first | (go_at_call 19; refine (C1.out _ ?_).mono ?_; exact hrd; rintro _ w1 ⟨rfl, hrd1, o0⟩; have o1 := o0.of_drew; clear o0; have hb1 : b < w1.heap.size := Nat.lt_of_lt_of_le (Nat.lt_of_lt_of_le hbl hSz) o1.size; have keep1 := keep_off o1 (Nat.lt_of_lt_of_le hbl hSz) hne hcN) | (go_at_call 24; refine (C2.out _ ?_).mono ?_; exact hpl.off o1 hne3; rintro _ w2 ⟨rfl, hpl1, o2⟩; have keep2 := keep_off o2 hb1 hne2 keep1))
            have hrd2 := hrd1.off o2 hne4
            clear C1 C2 keep1 keep2 hrd1 hsim hrd hcK hcN
            have hsz' := sim_size E3
            have hz := sim_left E3
            have hbb : Below w.heap.size w w2 := (hbel.trans ((o1.below (Nat.le_refl _) hSz))).trans (o2.below (Nat.le_succ _) (Nat.le_trans hSz o1.size))
            have hq0 := hpl1.c0
            have hq1 := hpl1.c1
            have hq2 := hpl1.c2
            have hae := E3.1
            by_cases he' : e' = 0
            · subst he'
              rw [if_pos rfl] at hz
              have HZ : Hid _ := hz
              have hzz : ((l'.size : Int) != (s.size : Int) - (a' : Int)) = false := by rw [HZ.out]; simp
              clear hz
              go_wp2
              go_quiet (fail)
              go_wp2
              go_region_held3 (fun w' => w'.cell? ⟨w.heap.size + 1, 2, none⟩ = some (.int .i64 0)) (first | exact hq2 | go_keep) (first | (go_at_call 26; refine (Err_any w.heap.size l' 0 _ ?_).mono ?_; exact hrd2; rintro _ w3 ⟨rfl, rfl⟩) | (go_at_call 20; refine (Left_any w.heap.size l' 0 _ ?_ ?_).mono ?_; omega; exact hrd2; rintro _ w3 ⟨rfl, rfl⟩))
              go_wp2
              go_roundw
              case rel => exact ⟨k + 1, a', l', 0, by omega, by omega, by go_num, hrd2, hpl1, E3, below_drewN hbb _⟩
              case measure => simp [intOf]; omega
            · skip
              rw [if_neg he'] at hz
              have HZ : Hid _ := hz
              have hzz : ((l'.size : Int) != 0) = false := by rw [HZ.out]; simp
              have hee : ((e' : Int) != 0) = true := bne_iff_ne.2 he'
              clear hz
              go_wp2
              go_quiet (fail)
              go_wp2
              go_region_held3 (fun w' => w'.cell? ⟨w.heap.size + 1, 2, none⟩ = some (.int .i64 e')) (first | exact hq2 | go_keep) (first | (go_at_call 26; refine (Err_any w.heap.size l' e' _ ?_).mono ?_; exact hrd2; rintro _ w3 ⟨rfl, rfl⟩) | (go_at_call 20; refine (Left_any w.heap.size l' e' _ ?_ ?_).mono ?_; omega; exact hrd2; rintro _ w3 ⟨rfl, rfl⟩))
              go_wp2
              go_roundw
              case rel => exact ⟨k + 1, a', l', e', by omega, by omega, by go_num, hrd2, hpl1, E3, below_drewN hbb _⟩
              case measure => simp [intOf]; omega
          · have h1' : (kd == 1) = false := by simpa using h1
            clear h1
            by_cases h2 : kd = 2
            · subst h2
              have C1 : Hid _ := fun w1 h => RText_any w.heap.size l e nn w1 (by omega) h
              have C2 : Hid _ := fun w1 h => text_any_law (w.heap.size + 1) s a e nn w1 hs hsim.1 h
              obtain ⟨E1, E2, E3⟩ := sim_text hsim
              obtain ⟨sv, l', e', hr⟩ : ∃ sv l' e', rdText l e nn = (sv, l', e') := ⟨_, _, _, rfl⟩
              obtain ⟨sv2, a', e2', hp⟩ : ∃ sv l' e', plText s a e nn = (sv, l', e') := ⟨_, _, _, rfl⟩
              rw [hr] at C1
              rw [hp] at C2
              rw [hr, hp] at E1 E2 E3
              dsimp only at E1 E2 E3 C1 C2
              subst E1 E2
              clear hr hp
              go_wp2
              go_region_held3 (fun w' => w'.cell? ⟨b, off + k * 2 + 1, none⟩ = some (.int .i64 nn)) (first | exact keep2 | exact keep1 | go_keep) (first | (go_at_call 18; refine (C1.out _ ?_).mono ?_; exact hrd; rintro _ w1 ⟨rfl, hrd1, o0⟩; have o1 := o0.of_drew; clear o0; have hb1 : b < w1.heap.size := Nat.lt_of_lt_of_le (Nat.lt_of_lt_of_le hbl hSz) o1.size; have keep1 := keep_off o1 (Nat.lt_of_lt_of_le hbl hSz) hne hcN) | (go_at_call 25; refine (C2.out _ ?_).mono ?_; exact hpl.off o1 hne3; rintro _ w2 ⟨rfl, hpl1, o2⟩; have keep2 := keep_off o2 hb1 hne2 keep1))
              have hrd2 := hrd1.off o2 hne4
              clear C1 C2 keep1 keep2 hrd1 hsim hrd hcK hcN
              have hsz' := sim_size E3
              have hz := sim_left E3
              have hbb : Below w.heap.size w w2 := (hbel.trans ((o1.below (Nat.le_refl _) hSz))).trans (o2.below (Nat.le_succ _) (Nat.le_trans hSz o1.size))
              have hq0 := hpl1.c0
              have hq1 := hpl1.c1
              have hq2 := hpl1.c2
              have hae := E3.1
              by_cases he' : e' = 0
              · subst he'
                rw [if_pos rfl] at hz
                have HZ : Hid _ := hz
                have hzz : ((l'.size : Int) != (s.size : Int) - (a' : Int)) = false := by rw [HZ.out]; simp
                clear hz
                go_wp2
                go_quiet (fail)
                go_wp2
                go_region_held3 (fun w' => w'.cell? ⟨w.heap.size + 1, 2, none⟩ = some (.int .i64 0)) (first | exact hq2 | go_keep) (first | (go_at_call 26; refine (Err_any w.heap.size l' 0 _ ?_).mono ?_; exact hrd2; rintro _ w3 ⟨rfl, rfl⟩) | (go_at_call 20; refine (Left_any w.heap.size l' 0 _ ?_ ?_).mono ?_; omega; exact hrd2; rintro _ w3 ⟨rfl, rfl⟩))
                go_wp2
                go_roundw
                case rel => exact ⟨k + 1, a', l', 0, by omega, by omega, by go_num, hrd2, hpl1, E3, below_drewN hbb _⟩
                case measure => simp [intOf]; omega
              · skip
                rw [if_neg he'] at hz
                have HZ : Hid _ := hz
                have hzz : ((l'.size : Int) != 0) = false := by rw [HZ.out]; simp
                have hee : ((e' : Int) != 0) = true := bne_iff_ne.2 he'
                clear hz
                go_wp2
                go_quiet (fail)
                go_wp2
                go_region_held3 (fun w' => w'.cell? ⟨w.heap.size + 1, 2, none⟩ = some (.int .i64 e')) (first | exact hq2 | go_keep) (first | (go_at_call 26; refine (Err_any w.heap.size l' e' _ ?_).mono ?_; exact hrd2; rintro _ w3 ⟨rfl, rfl⟩) | (go_at_call 20; refine (Left_any w.heap.size l' e' _ ?_ ?_).mono ?_; omega; exact hrd2; rintro _ w3 ⟨rfl, rfl⟩))
                go_wp2
                go_roundw
                case rel => exact ⟨k + 1, a', l', e', by omega, by omega, by go_num, hrd2, hpl1, E3, below_drewN hbb _⟩
                case measure => simp [intOf]; omega
            · have h2' : (kd == 2) = false := by simpa using h2
              clear h2
              have C1 : Hid _ := fun w1 h => End_any w.heap.size l e w1 (by omega) h
              obtain ⟨E2, E3⟩ := sim_end hsim
              obtain ⟨l', e', hr⟩ : ∃ l' e', rdEnd l e = (l', e') := ⟨_, _, rfl⟩
              obtain ⟨a', ha'⟩ : ∃ a', a' = a := ⟨_, rfl⟩
              rw [hr] at C1 E2 E3
              dsimp only at C1 E2 E3
              have hq0 := hpl.c0
              have hq1 := hpl.c1
              have hq2 := hpl.c2
              have hqf := hpl.f
              clear hr
              subst ha'
              by_cases he : e = 0
              · subst he
                by_cases hal : a' < s.size
                · rw [if_pos ⟨rfl, hal⟩] at E2
                  subst E2
                  have hal' : (a' : Int) < (s.size : Int) := by omega
                  go_wp2
                  go_quiet (fail)
                  go_wp2
                  have hrdA : isRd ((wr.drewN nq).setCell ⟨w.heap.size + 1, 2, none⟩ (.int .i64 4)) w.heap.size l 0 := hrd.off (((Off.refl (w.heap.size + 1) wr).drewN nq).setCell _ _) hne4
                  have hplA : isPl ((wr.drewN nq).setCell ⟨w.heap.size + 1, 2, none⟩ (.int .i64 4)) (w.heap.size + 1) s a' 4 := (hpl.drewN nq).set2 4
                  have hbA : Below w.heap.size w ((wr.drewN nq).setCell ⟨w.heap.size + 1, 2, none⟩ (.int .i64 4)) := (below_drewN hbel nq).setCell (Nat.le_succ _) _
                  clear hq0 hq1 hq2 hqf
                  go_region_held3 (fun w' => w'.cell? ⟨w.heap.size + 1, 2, none⟩ = some (.int .i64 4)) (first | exact keep1 | exact hplA.c2 | go_keep) (first | (go_at_call 21; refine (C1.out _ ?_).mono ?_; exact hrdA; rintro _ w1 ⟨rfl, hrd1, o0⟩; have o1 := o0.of_drew; clear o0; have keep1 := keep_off o1 hplA.lt hne3 hplA.c2))
                  have hpl1 := hplA.off o1 hne3
                  clear C1 keep1 hsim hcK hcN
                  have hsz' := sim_size E3
                  have hz := sim_left E3
                  have hbb : Below w.heap.size w w1 := hbA.trans (o1.below (Nat.le_refl _) hbA.size)
                  have hq0 := hpl1.c0
                  have hq1 := hpl1.c1
                  have hq2 := hpl1.c2
                  have hae := E3.1
                  have he4 : ¬ ((4 : Int) = 0) := by decide
                  rw [if_neg he4] at hz
                  have HZ : Hid _ := hz
                  have hzz : ((l'.size : Int) != 0) = false := by rw [HZ.out]; simp
                  have hee : ((4 : Int) != 0) = true := bne_iff_ne.2 he4
                  clear hz
                  go_wp2
                  go_quiet (fail)
                  go_wp2
                  go_region_held3 (fun w' => w'.cell? ⟨w.heap.size + 1, 2, none⟩ = some (.int .i64 4)) (first | exact hq2 | go_keep) (first | (go_at_call 26; refine (Err_any w.heap.size l' 4 _ ?_).mono ?_; exact hrd1; rintro _ w3 ⟨rfl, rfl⟩) | (go_at_call 20; refine (Left_any w.heap.size l' 4 _ ?_ ?_).mono ?_; omega; exact hrd1; rintro _ w3 ⟨rfl, rfl⟩))
                  go_wp2
                  go_roundw
                  case rel => exact ⟨k + 1, a', l', 4, by omega, by omega, by go_num, hrd1, hpl1, E3, below_drewN hbb _⟩
                  case measure => simp [intOf]; omega
                · rw [if_neg (fun x => hal x.2)] at E2
                  subst E2
                  have hal' : ¬ (a' : Int) < (s.size : Int) := by omega
                  go_wp2
                  go_quiet (fail)
                  go_wp2
                  clear hq0 hq1 hq2 hqf
                  go_region_held3 (fun w' => w'.cell? ⟨w.heap.size + 1, 2, none⟩ = some (.int .i64 0)) (first | exact keep1 | exact hpl.c2 | go_keep) (first | (go_at_call 21; refine (C1.out _ ?_).mono ?_; exact hrd; rintro _ w1 ⟨rfl, hrd1, o0⟩; have o1 := o0.of_drewN; clear o0; have keep1 := keep_off o1 hpl.lt hne3 hpl.c2))
                  have hpl1 := hpl.off o1 hne3
                  clear C1 keep1 hsim hcK hcN
                  have hsz' := sim_size E3
                  have hz := sim_left E3
                  have hbb : Below w.heap.size w w1 := hbel.trans (o1.below (Nat.le_refl _) hSz)
                  have hq0 := hpl1.c0
                  have hq1 := hpl1.c1
                  have hq2 := hpl1.c2
                  have hae := E3.1
                  rw [if_pos rfl] at hz
                  have HZ : Hid _ := hz
                  have hzz : ((l'.size : Int) != (s.size : Int) - (a' : Int)) = false := by rw [HZ.out]; simp
                  clear hz
                  go_wp2
                  go_quiet (fail)
                  go_wp2
                  go_region_held3 (fun w' => w'.cell? ⟨w.heap.size + 1, 2, none⟩ = some (.int .i64 0)) (first | exact hq2 | go_keep) (first | (go_at_call 26; refine (Err_any w.heap.size l' 0 _ ?_).mono ?_; exact hrd1; rintro _ w3 ⟨rfl, rfl⟩) | (go_at_call 20; refine (Left_any w.heap.size l' 0 _ ?_ ?_).mono ?_; omega; exact hrd1; rintro _ w3 ⟨rfl, rfl⟩))
                  go_wp2
                  go_roundw
                  case rel => exact ⟨k + 1, a', l', 0, by omega, by omega, by go_num, hrd1, hpl1, E3, below_drewN hbb _⟩
                  case measure => simp [intOf]; omega
              · rw [if_neg (fun x => he x.1)] at E2
                subst E2
                have hee0 : (e' == 0) = false := by simpa using he
                go_wp2
                go_quiet (fail)
                go_wp2
                clear hq0 hq1 hq2 hqf
                go_region_held3 (fun w' => w'.cell? ⟨w.heap.size + 1, 2, none⟩ = some (.int .i64 e')) (first | exact keep1 | exact hpl.c2 | go_keep) (first | (go_at_call 21; refine (C1.out _ ?_).mono ?_; exact hrd; rintro _ w1 ⟨rfl, hrd1, o0⟩; have o1 := o0.of_drewN; clear o0; have keep1 := keep_off o1 hpl.lt hne3 hpl.c2))
                have hpl1 := hpl.off o1 hne3
                clear C1 keep1 hsim hcK hcN
                have hsz' := sim_size E3
                have hz := sim_left E3
                have hbb : Below w.heap.size w w1 := hbel.trans (o1.below (Nat.le_refl _) hSz)
                have hq0 := hpl1.c0
                have hq1 := hpl1.c1
                have hq2 := hpl1.c2
                have hae := E3.1
                rw [if_neg he] at hz
                have HZ : Hid _ := hz
                have hzz : ((l'.size : Int) != 0) = false := by rw [HZ.out]; simp
                have hee : ((e' : Int) != 0) = true := bne_iff_ne.2 he
                clear hz
                go_wp2
                go_quiet (fail)
                go_wp2
                go_region_held3 (fun w' => w'.cell? ⟨w.heap.size + 1, 2, none⟩ = some (.int .i64 e')) (first | exact hq2 | go_keep) (first | (go_at_call 26; refine (Err_any w.heap.size l' e' _ ?_).mono ?_; exact hrd1; rintro _ w3 ⟨rfl, rfl⟩) | (go_at_call 20; refine (Left_any w.heap.size l' e' _ ?_ ?_).mono ?_; omega; exact hrd1; rintro _ w3 ⟨rfl, rfl⟩))
                go_wp2
                go_roundw
                case rel => exact ⟨k + 1, a', l', e', by omega, by omega, by go_num, hrd1, hpl1, E3, below_drewN hbb _⟩
                case measure => simp [intOf]; omega
      · go_wp2_with (go_at_call 11; refine (awake_any _).mono ?_; rintro e w3 ⟨rfl, hb3⟩)
        go_ret
        exact ⟨rfl, hbel.trans (hb3.mono hbel.size)⟩
    · go_wp2_with (go_at_call 11; refine (awake_any _).mono ?_; rintro e w3 ⟨rfl, hb3⟩)
      go_ret
      exact ⟨rfl, hbel.trans (hb3.mono hbel.size)⟩
end Go.Proofs.Ytdgdbfodcccmcaa
