/- Why a page can't be made of cells, as the law tells it: why, few. -/
import Derived.Test.YtmoognjegjeegaaWit
namespace Go.Proofs.Ytmoognjegjeegaa
open Go.RowKit
set_option linter.unusedVariables false
set_option linter.unusedSimpArgs false
set_option maxRecDepth 100000

theorem why_arg (w : World) (k l : Int) (v : Value) (h : fit k l = false) : Calls Try.prog 25 #[.int .i64 k, .int .i64 l, v] w fun e w' => e = .returned (.int .i64 1) ∧ Below w.heap.size w w' := by
  have hno : ¬ (0 ≤ k ∧ k ≤ 2 ∧ 0 ≤ l ∧ l ≤ 255 ∧ (k = 2 ∨ l = 0)) := by simpa [fit] using h
  clear h
  by_cases h1 : k < 0
  · clear hno
    go_enter Try.func25, Try.ntmps25
    go_wp2
    go_ret
    exact ⟨rfl, Below.refl _ _⟩
  · by_cases h2 : 2 < k
    · clear hno
      go_enter Try.func25, Try.ntmps25
      go_wp2
      go_ret
      exact ⟨rfl, Below.refl _ _⟩
    · by_cases h3 : l < 0
      · clear hno
        go_enter Try.func25, Try.ntmps25
        go_wp2
        go_ret
        exact ⟨rfl, Below.refl _ _⟩
      · by_cases h4 : 255 < l
        · clear hno
          go_enter Try.func25, Try.ntmps25
          go_wp2
          go_ret
          exact ⟨rfl, Below.refl _ _⟩
        · have h5 : (k != 2) = true := by simp; omega
          have h6 : (l != 0) = true := by simp; omega
          clear hno
          go_enter Try.func25, Try.ntmps25
          go_wp2
          go_ret
          exact ⟨rfl, Below.refl _ _⟩
set_option maxHeartbeats 2000000 in
theorem why_any (w : World) (k l : Nat) {a : Option Addr} {L : List Cl} (cap : Nat) (hC : Cs w a L) (h1 : k ≤ 2) (h2 : l ≤ 255) (h3 : k = 2 ∨ l = 0) (hln : L.length ≤ 1000) :
    Calls Try.prog 25 #[.int .i64 (k : Int), .int .i64 (l : Int), .slice a L.length cap] w fun e w' => e = .returned (.int .i64 (firstBad k L)) ∧ Below w.heap.size w w' := by
  have HCP : Hid (∀ i, i ≤ L.length → (∀ j, j < i → bad k L j = 0) → needs (L.take i) ≤ 220) := (fun i hi h => (canPack_of h1 h2 h3 hi h).fit : ∀ i, i ≤ L.length → (∀ j, j < i → bad k L j = 0) → needs (L.take i) ≤ 220)
  have g1 : ¬ (k : Int) < 0 := by omega
  have g2 : ¬ (2 : Int) < (k : Int) := by omega
  have g3 : ¬ (l : Int) < 0 := by omega
  have g4 : ¬ (255 : Int) < (l : Int) := by omega
  have hcase : (((k : Int) != 2) = false) ∨ (((k : Int) != 2) = true ∧ ((l : Int) != 0) = false) := by
    by_cases e : k = 2
    · exact Or.inl (by simp; omega)
    · exact Or.inr ⟨by simp; omega, by simp; omega⟩
  rcases hcase with g5 | ⟨g5, g6⟩
  all_goals
    go_enter Try.func25, Try.ntmps25
    go_wp2
    go_loopw [7, 8] (fun s7 s8 wr => ∃ i : Nat, s8 = .int .i64 (i : Int) ∧ s7 = .int .i64 (220 - (needs (L.take i) : Int)) ∧ i ≤ L.length ∧ Hid (∀ j, j < i → bad k L j = 0) ∧ Below w.heap.size w wr) (fun _ s8 _ => L.length - (intOf s8).toNat)
    case atStart => exact ⟨0, rfl, rfl, Nat.zero_le _, (fun j hj => absurd hj (Nat.not_lt_zero _) : ∀ j, j < 0 → bad k L j = 0), Below.refl _ _⟩
    case round =>
      obtain ⟨i, rfl, rfl, hi, hbad, hbel⟩ := hrel
      by_cases hlt : i < L.length
      · have hltI : (i : Int) < (L.length : Int) := by omega
        obtain ⟨b, off, rfl, hb, q0, q1⟩ := hC.at_ i hlt
        have c0 := (hbel.cell (by exact hb)).trans q0
        have c1 := (hbel.cell (by exact hb)).trans q1
        have hbg := bad_get (k := k) hlt
        have hm0 := HCP.out i hi hbad.out
        have CL : Hid (∀ w, Calls Try.prog 34 #[.agg #[.string L[i].k, .string L[i].v]] w fun e w' => e = .returned (.int .i64 (long L[i])) ∧ Below w.heap.size w w') := fun w => wrong_any w _
        have HFB : Hid (bad k L i ≠ 0 → firstBad k L = bad k L i) := (fun hb => firstBad_at hlt hbad.out hb : bad k L i ≠ 0 → firstBad k L = bad k L i)
        have hst := needs_take_succ hlt
        obtain ⟨m, hm⟩ : ∃ m, m = needs (L.take i) := ⟨_, rfl⟩
        rw [← hm] at hm0 hst hbg ⊢
        clear hm
        by_cases hlong : long L[i] = 0
        · rw [hlong] at CL
          have hk := long_k hlong
          have hv := long_v hlong
          rw [if_neg (by simpa using hlong)] at hbg
          have CN : Hid (∀ w, Calls Try.prog 28 #[.agg #[.string L[i].k, .string L[i].v]] w fun e w' => e = .returned (.int .i64 (need L[i])) ∧ Below w.heap.size w w') := fun w => lneed_any w _ (by omega) (by omega)
          have hnd : need L[i] ≤ 51 := by simp only [need]; omega
          by_cases hk0 : k = 0
          · have hE : Hid (firstBad k L = 4) := by
              have e1 : bad k L i = 4 := by rw [hbg, if_pos hk0]
              have : firstBad k L = 4 := by rw [HFB.out (by rw [e1]; decide), e1]
              exact this
            have hk0' : ((k : Int) == 0) = true := by simp; omega
            clear hbg hlong hk0
            generalize L[i] = c at *
            go_wp2_with (first | (go_at_call 34; refine (CL.out _).mono ?_; rintro e w7 ⟨rfl, hb7⟩; first | (have := z7; have z8 := thn z7 hb7) | (have z7 := thn hbel hb7; have c0 := (z7.cell (by exact hb)).trans q0; have c1 := (z7.cell (by exact hb)).trans q1)))
            go_quiet (fail)
            go_wp2
            go_ret
            exact ⟨by rw [hE.out]; rfl, below_drewN z7 _⟩
          · rw [if_neg hk0] at hbg
            have hk0' : ((k : Int) == 0) = false := by simp; omega
            clear hk0
            by_cases h0 : i = 0
            · subst h0
              rw [if_neg (by omega)] at hbg
              rw [Nat.zero_mul, Nat.add_zero] at q0 q1 c0 c1
              by_cases hf : 220 < m + need L[0]
              · have hE : Hid (firstBad k L = 7) := by
                  have e1 : bad k L (0) = 7 := by rw [hbg, if_pos hf]
                  have : firstBad k L = 7 := by rw [HFB.out (by rw [e1]; decide), e1]
                  exact this
                have hrI : (220 : Int) - (m : Int) < (need L[0] : Int) := by omega
                clear hbg hlong hf
                generalize need L[0] = nd at *
                generalize L[0] = c at *
                go_wp2_with (first | (go_at_call 34; refine (CL.out _).mono ?_; rintro e w7 ⟨rfl, hb7⟩; first | (have := z7; have z8 := thn z7 hb7) | (have z7 := thn hbel hb7; have c0 := (z7.cell (by exact hb)).trans q0; have c1 := (z7.cell (by exact hb)).trans q1)))
                go_quiet (fail)
                go_wp2_with (first | (go_at_call 28; refine (CN.out _).mono ?_; rintro e w9 ⟨rfl, hb9⟩; first | (have := z9; have z10 := thn z9 hb9) | (have z9 := thn (below_drewN z7 nq) hb9; have c0 := (z9.cell (by exact hb)).trans q0; have c1 := (z9.cell (by exact hb)).trans q1)))
                go_ret
                exact ⟨by rw [hE.out]; rfl, z9⟩
              · have e1 : bad k L (0) = 0 := by rw [hbg, if_neg hf]
                have hbad2 : Hid (∀ j', j' < 0 + 1 → bad k L j' = 0) := (fun j' hj' => by
                  by_cases e : j' = 0
                  · subst e; exact e1
                  · exact hbad.out j' (by omega) : ∀ j', j' < 0 + 1 → bad k L j' = 0)
                have hrI : ¬ (220 : Int) - (m : Int) < (need L[0] : Int) := by omega
                have HST : Hid _ := hst
                clear hbg hlong hf e1 hst
                generalize need L[0] = nd at *
                generalize L[0] = c at *
                go_wp2_with (first | (go_at_call 34; refine (CL.out _).mono ?_; rintro e w7 ⟨rfl, hb7⟩; first | (have := z7; have z8 := thn z7 hb7) | (have z7 := thn hbel hb7; have c0 := (z7.cell (by exact hb)).trans q0; have c1 := (z7.cell (by exact hb)).trans q1)))
                go_quiet (fail)
                go_wp2_with (first | (go_at_call 28; refine (CN.out _).mono ?_; rintro e w9 ⟨rfl, hb9⟩; first | (have := z9; have z10 := thn z9 hb9) | (have z9 := thn (below_drewN z7 nq) hb9; have c0 := (z9.cell (by exact hb)).trans q0; have c1 := (z9.cell (by exact hb)).trans q1)))
                exact ⟨⟨0 + 1, by go_num, by rw [HST.out]; congr 1; omega, by omega, hbad2, z10⟩, by simp [intOf]; omega⟩
            · obtain ⟨j, rfl⟩ : ∃ j, i = j + 1 := ⟨i - 1, by omega⟩
              have hje : (L[j + 1 - 1]?.getD L[j + 1]).k = L[j].k := by rw [Nat.add_sub_cancel, List.getElem?_eq_getElem (by omega)]; rfl
              rw [hje] at hbg
              obtain ⟨bb2, off2, hbb, hb2', p0, p1⟩ := hC.at_ j (by omega)
              simp only [Option.some.injEq, Addr.mk.injEq, and_true] at hbb
              obtain ⟨rfl, rfl⟩ := hbb
              have HP0 : Hid _ := p0
              clear p0 p1 hje
              have hj1 : ((j + 1 : Nat) : Int) = (j : Int) + 1 := by omega
              cases hl : lt L[j].k L[j + 1].k
              · have hE : Hid (firstBad k L = 4) := by
                  have e1 : bad k L (j + 1) = 4 := by rw [hbg, if_pos ⟨by omega, hl⟩]
                  have : firstBad k L = 4 := by rw [HFB.out (by rw [e1]; decide), e1]
                  exact this
                have hl' : Op.bytesLess L[j].k.toList L[j + 1].k.toList = false := hl
                clear hbg hlong hl
                rw [hj1]
                generalize L[j + 1] = c at *
                generalize L[j] = c' at *
                go_wp2_with (first | (go_at_call 34; refine (CL.out _).mono ?_; rintro e w7 ⟨rfl, hb7⟩; first | (have := z7; have z8 := thn z7 hb7) | (have z7 := thn hbel hb7; have c0 := (z7.cell (by exact hb)).trans q0; have c1 := (z7.cell (by exact hb)).trans q1)))
                have p0 := (z7.cell (by exact hb2')).trans HP0.out
                go_quiet (fail)
                go_wp2
                go_ret
                exact ⟨by rw [hE.out]; rfl, below_drewN z7 _⟩
              · have hl' : Op.bytesLess L[j].k.toList L[j + 1].k.toList = true := hl
                rw [if_neg (by rw [hl]; simp)] at hbg
                clear hl
                by_cases hf : 220 < m + need L[j + 1]
                · have hE : Hid (firstBad k L = 7) := by
                    have e1 : bad k L (j + 1) = 7 := by rw [hbg, if_pos hf]
                    have : firstBad k L = 7 := by rw [HFB.out (by rw [e1]; decide), e1]
                    exact this
                  have hrI : (220 : Int) - (m : Int) < (need L[j + 1] : Int) := by omega
                  clear hbg hlong hf
                  rw [hj1]
                  generalize need L[j + 1] = nd at *
                  generalize L[j + 1] = c at *
                  go_wp2_with (first | (go_at_call 34; refine (CL.out _).mono ?_; rintro e w7 ⟨rfl, hb7⟩; first | (have := z7; have z8 := thn z7 hb7) | (have z7 := thn hbel hb7; have c0 := (z7.cell (by exact hb)).trans q0; have c1 := (z7.cell (by exact hb)).trans q1)))
                  have p0 := (z7.cell (by exact hb2')).trans HP0.out
                  go_quiet (fail)
                  go_wp2_with (first | (go_at_call 28; refine (CN.out _).mono ?_; rintro e w9 ⟨rfl, hb9⟩; first | (have := z9; have z10 := thn z9 hb9) | (have z9 := thn (below_drewN z7 nq) hb9; have c0 := (z9.cell (by exact hb)).trans q0; have c1 := (z9.cell (by exact hb)).trans q1)))
                  go_ret
                  exact ⟨by rw [hE.out]; rfl, z9⟩
                · have e1 : bad k L (j + 1) = 0 := by rw [hbg, if_neg hf]
                  have hbad2 : Hid (∀ j', j' < j + 1 + 1 → bad k L j' = 0) := (fun j' hj' => by
                    by_cases e : j' = j + 1
                    · subst e; exact e1
                    · exact hbad.out j' (by omega) : ∀ j', j' < j + 1 + 1 → bad k L j' = 0)
                  have hrI : ¬ (220 : Int) - (m : Int) < (need L[j + 1] : Int) := by omega
                  have HST : Hid _ := hst
                  clear hbg hlong hf e1 hst
                  rw [hj1]
                  generalize need L[j + 1] = nd at *
                  generalize L[j + 1] = c at *
                  go_wp2_with (first | (go_at_call 34; refine (CL.out _).mono ?_; rintro e w7 ⟨rfl, hb7⟩; first | (have := z7; have z8 := thn z7 hb7) | (have z7 := thn hbel hb7; have c0 := (z7.cell (by exact hb)).trans q0; have c1 := (z7.cell (by exact hb)).trans q1)))
                  have p0 := (z7.cell (by exact hb2')).trans HP0.out
                  go_quiet (fail)
                  go_wp2_with (first | (go_at_call 28; refine (CN.out _).mono ?_; rintro e w9 ⟨rfl, hb9⟩; first | (have := z9; have z10 := thn z9 hb9) | (have z9 := thn (below_drewN z7 nq) hb9; have c0 := (z9.cell (by exact hb)).trans q0; have c1 := (z9.cell (by exact hb)).trans q1)))
                  exact ⟨⟨j + 1 + 1, by go_num, by rw [HST.out]; congr 1; omega, by omega, hbad2, z10⟩, by simp [intOf]; omega⟩
        · have hE : Hid (firstBad k L = long L[i]) := by
            have e1 : bad k L i = long L[i] := by rw [hbg, if_pos hlong]
            have : firstBad k L = long L[i] := by rw [HFB.out (by rw [e1]; exact hlong), e1]
            exact this
          have hl' : (long L[i] != 0) = true := by simpa using hlong
          clear hbg hlong
          generalize long L[i] = le at *
          generalize L[i] = c at *
          go_wp2_with (first | (go_at_call 34; refine (CL.out _).mono ?_; rintro e w7 ⟨rfl, hb7⟩; first | (have := z7; have z8 := thn z7 hb7) | (have z7 := thn hbel hb7; have c0 := (z7.cell (by exact hb)).trans q0; have c1 := (z7.cell (by exact hb)).trans q1)))
          go_ret
          exact ⟨by rw [hE.out]; rfl, z8⟩
      · have hie : i = L.length := by omega
        subst hie
        have hlt' : ¬ (L.length : Int) < (L.length : Int) := by omega
        have e0 : Hid (firstBad k L = 0) := (firstBad_ok (k := k) hbad.out : firstBad k L = 0)
        generalize needs (L.take L.length) = m at *
        go_wp2
        go_ret
        exact ⟨by rw [e0.out]; rfl, hbel⟩
theorem few_any (w : World) {a : Option Addr} {cap : Nat} {L : List Cl} (h : 90 < L.length → Sl w a cap L) (L2 : List Cl) (h2 : L2 = L.take 90) : Calls Try.prog 22 #[.slice a L.length cap] w fun e w' => e = .returned (.slice a L2.length cap) ∧ w' = w := by
  by_cases hl : 90 < L.length
  · have hlI : (90 : Int) < (L.length : Int) := by omega
    have s1 : ∀ W, (Instr.slice 22 (.slice a L.length cap) none (some (.int .i64 90)) none).run Try.prog W = .ok (.slice a 90 cap) W := ((h hl).to 90 (by omega)).1
    have hcap : (90 : Int) ≤ (cap : Int) := by have := (h hl).room; omega
    have e : L2.length = 90 := by rw [h2, List.length_take]; omega
    rw [e]
    clear h h2 e
    go_enter Try.func22, Try.ntmps22
    go_wp2
    go_ret
    exact ⟨rfl, rfl⟩
  · have hlI : ¬ (90 : Int) < (L.length : Int) := by omega
    have e : L2 = L := by rw [h2, List.take_of_length_le (by omega)]
    rw [e]
    clear h h2 e
    go_enter Try.func22, Try.ntmps22
    go_wp2
    go_ret
    exact ⟨rfl, rfl⟩
end Go.Proofs.Ytmoognjegjeegaa
