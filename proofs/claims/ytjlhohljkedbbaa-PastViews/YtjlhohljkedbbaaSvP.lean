/- PastViews: the walk. -/
import Derived.Test.YtjlhohljkedbbaaSvN
import Derived.BigRegion
namespace Go.Proofs.Ytjlhohljkedbbaa.Pa
open Go.RowKit Gm Go.Maps Go.Sort
open Go.Proofs.Ytjlhohljkedbbaa.So (CL encC encL encO cfC)
set_option linter.unusedVariables false
set_option linter.unusedSimpArgs false
set_option maxRecDepth 100000
section
variable {w : World} {a a1 : Option Addr} {n cp n1 c1 : Nat} {L : List (List Value)}
set_option maxHeartbeats 8000000 in
theorem views_few (hl : Sv w 13 RecS a n L) {C : List CL} (h : Rv w (.slice a1 n1 c1) C) (hL1 : C.length = n1) (h60 : n1 ≤ 60) (hks : ∀ c ∈ C, c.1.size ≤ 9223372036854775807) (lo hi : ByteArray) (most : Int) : Calls Try.prog 3 #[.slice a n cp, .slice a1 n1 c1, .string lo, .string hi, .int .i64 most] w fun e w' => e = .returned (.bool true) ∧ Below w.heap.size w w' := by
  have HL : Hid (Sv w 13 RecS a n L) := hl
  have hlen : L.length = n := hl.len
  have hn := hl.sz
  have h2 := stW
  have h3 := stRc
  have CK : Hid (∀ wx, Calls Try.prog 9 #[] wx fun e w' => e = .returned (.bool true) ∧ Below wx.heap.size wx w') := fun wx => awake14 wx
  have hnI : ¬ (n1 : Int) > 60 := by omega
  have HCv : Hid (Rv w (.slice a1 n1 c1) C) := h
  have HCn : Hid (C.length = n1) := hL1
  have HKs : Hid (∀ c ∈ C, c.1.size ≤ 9223372036854775807) := hks
  clear hl h hL1 hks
  go_enter Try.func3, Try.ntmps3
  go_wp2_with (go_at_call 5; refine (New_ok _).mono ?_; rintro e w1 ⟨rfl, q1, n1'⟩; obtain ⟨W1, D1, hW1⟩ := n1'.ex)
  obtain ⟨xb, hxb⟩ : ∃ x, x = w.heap.size + 2 := ⟨_, rfl⟩
  rw [← hxb] at D1 ⊢
  have Z0 : Hid (Bv w w1 xb [] 0) := ⟨⟨W1, D1, hW1⟩, q1, ⟨fun g hg => (by cases hg), fun g hg => (by cases hg), Nat.le_refl _, fun g hg => by cases hg⟩, Nat.le_refl _⟩
  clear q1 D1 hW1 n1' hxb
  go_loopw [12] (fun s12 wr => ∃ (i : Nat) (P : List Gn), s12 = .int .i64 (i : Int) ∧ i ≤ n ∧ i ≤ 40 ∧ Bv w wr xb P i) (fun s12 _ => n - (intOf s12).toNat)
  case atStart => exact ⟨0, [], rfl, Nat.zero_le _, Nat.zero_le _, Z0.out⟩
  case round =>
    obtain ⟨i, P, rfl, hin, hi4, hz⟩ := hrel
    rename World => wo
    have ZB : Hid (Bv w wo xb P i) := hz
    clear hz Z0
    by_cases hlt : i < n ∧ i < 40
    · obtain ⟨h1, h40⟩ := hlt
      have hltI : (i : Int) < (n : Int) := by omega
      have h40I : (i : Int) < 40 := by omega
      obtain ⟨g, o, ea, hg, hk, hr, hra⟩ := HL.out.at_ i (by omega)
      obtain ⟨r, i1, i2, i3, t1, t2, t3, er, hw, hks⟩ := hr.ex
      rw [er] at hra
      subst ea
      have HRa : Hid (∀ wx, Below w.heap.size w wx → wx.rangeAt g (o + i * 13) (Rc.A r (.slice i1 i2 i3) (.slice t1 t2 t3)).toList) := fun wx hb => range_bel hra (hb.block g hg)
      have HW : Hid (wfT r.tx ∧ r.ky.size ≤ 9223372036854775807) := ⟨hw, hks⟩
      clear hra hw hks hr hk er hg
      go_wp2_with first
        | (refine wpList_load_in h3 (A := Rc.A r (.slice i1 i2 i3) (.slice t1 t2 t3)) _ rfl (.tmp 33) rfl rfl (HRa.out _ ZB.out.bel) rfl ?_)
        | (refine wpList_new_at (A := Rc.A ⟨0, 0, 0, 0, 0, ⟨#[]⟩, ⟨#[]⟩, ⟨#[]⟩, 0, 0, 0⟩ (.slice none 0 0) (.slice none 0 0)) _ zRcV rfl rfl ?_; intro w2 b2 N2)
        | (refine wpList_put_at (A := Rc.A ⟨0, 0, 0, 0, 0, ⟨#[]⟩, ⟨#[]⟩, ⟨#[]⟩, 0, 0, 0⟩ (.slice none 0 0) (.slice none 0 0)) (A' := Rc.A r (.slice i1 i2 i3) (.slice t1 t2 t3)) h3 _ rfl _ _ rfl rfl rfl N2.is rfl rfl (oneRc r _ _ _ _ _ _) ?_; intro w3 P3; have Z3 : Hid (Bv w w3 xb P i) := ZB.out.below (np_bel N2 P3); have k5 : w3.cell? ⟨b2, 5, none⟩ = some (.string r.ky) := P3.is.c 5)
        | (go_at_call 6; refine (Z3.out.get HW.out.2).mono ?_; rintro e w4 ⟨⟨x, is, rfl, hgt⟩, q4⟩; have Z4 : Hid (Bv w w4 xb P i) := Z3.out.below q4; have A4 : Hid (At w4 b2 29 (Rc.A r (.slice i1 i2 i3) (.slice t1 t2 t3))) := P3.is.bel q4; clear hgt; cases is)
        | (refine wpList_new_at (A := zW.A) _ zKv rfl rfl ?_; intro w5 b5 N5)
        | (refine wpList_put_at (A := zW.A) (A' := x.A) h2 _ rfl _ _ rfl rfl rfl N5.is rfl rfl (oneW _) ?_; intro w6 P6; have Z6 : Hid (Bv w w6 xb P i) := Z4.out.below (np_bel N5 P6); have A6 : Hid (At w6 b2 29 (Rc.A r (.slice i1 i2 i3) (.slice t1 t2 t3))) := A4.out.bel (np_bel N5 P6))
        | (refine wpList_load_at h3 (A := Rc.A r (.slice i1 i2 i3) (.slice t1 t2 t3)) _ rfl (.tmp 13) rfl rfl A6.out rfl ?_)
        | (go_at_call 7; refine (Z6.out.note (I := .slice i1 i2 i3) (T := .slice t1 t2 t3) (by omega) HW.out.1 HW.out.2 _).mono ?_; rintro e w7 ⟨rfl, z7⟩; have Z7 : Hid (Bv w w7 xb (noteM P r ((i : Int) + 1)) (i + 1)) := z7; clear z7)
      · go_roundw
        case rel => exact ⟨i + 1, _, by rfl, by omega, by omega, Z7.out⟩
        case measure => simp [intOf]; omega
      · go_roundw
        case rel => exact ⟨i + 1, P, by rfl, by omega, by omega, Z6.out.up⟩
        case measure => simp [intOf]; omega
    · by_cases hin2 : i < n
      · have hltI : (i : Int) < (n : Int) := by omega
        have h40I : ¬ (i : Int) < 40 := by omega
        clear hlt
        have hi40 : i ≤ 40 := by omega
        have HPi : Hid (Pi P) := ZB.out.pi hi40
        by_cases hadj : adj C
        · have HC : Hid (C.Pairwise ltK) := adj_pw hadj
          have RY : Hid (∀ wx, Below w.heap.size w wx → Calls Try.prog 8 #[.slice a1 n1 c1] wx fun e w' => e = .returned (.bool true) ∧ Below wx.heap.size wx w') := fun wx hb => rising_yes (HCv.out.bel hb) (by have := HCn.out; omega) hadj
          have VW : Hid (∀ wx, Bv w wx xb P i → ∀ m, Calls Try.prog 10 #[.pointer (some ⟨xb, 0, none⟩), .slice a1 n1 c1, .string lo, .string hi, .int .i64 m] wx fun e w' => VvO wx P C lo hi m e w') := fun wx hz m => hz.view hi40 (HCv.out.bel hz.bel) (by have := HCn.out; omega) HKs.out HC.out
          have V2 : Hid (∀ w3 w4 b3 q3 d3 F3 D3, Bv w w3 xb P i → Al P F3 ∧ Vs F3 C lo hi D3 ∧ Rv w3 (.slice b3 q3 d3) (D3.take q3) ∧ q3 = mostN most D3.length ∧ D3.length ≤ 1000 ∧ D3.Pairwise ltK → Below w3.heap.size w3 w4 → ∀ e, VvO w3 P C lo hi 1000 e w4 → V2O w w3 w4 xb P i C a1 n1 c1 b3 q3 d3 D3 lo hi most e) := fun w3 w4 b3 q3 d3 F3 D3 hz h3 hb e hv => v2_of hz HPi.out HC.out HCv.out (by have := HCn.out; omega) HCn.out HKs.out h3 hv
          clear hadj
          go_wp2_with first
            | (have := Y4; go_at_call 8; refine (RY2.out _ (Below.refl _ _)).mono ?_; rintro e w5 ⟨rfl, q5⟩)
            | (go_at_call 8; refine (RY.out _ ZB.out.bel).mono ?_; rintro e w2 ⟨rfl, q2⟩; have Z2 : Hid (Bv w w2 xb P i) := ZB.out.below q2)
            | (have := Z3; go_at_call 10; refine (VW.out _ Z3.out _).mono ?_; rintro e w4 hv4; obtain ⟨b4, q4, d4, rfl, HR4', HR3', HN', HQ', RY2', VD', y4⟩ := (V2.out _ _ _ _ _ _ _ Z3.out X3.out hv4.bel _ hv4).ex; have Z4 : Hid (Bv w w4 xb P i) := Z3.out.below y4; have Y4 : Hid (Below w3.heap.size w3 w4) := y4; have HR4 := HR4'; have HR3 := HR3'; have HN := HN'; have RY2 := RY2'; have VD := VD'; have HQ : Hid (q3 = mostN most q4 ∧ q4 ≤ 1000) := HQ'.out; clear y4 hv4 HR4' HR3' HN' RY2' VD' HQ'; rcases most_3 HQ.out.1 with ⟨hm1, hm2, hz⟩ | ⟨hm1, hm2, hz⟩ | ⟨hm1, hm2, hz⟩)
            | (go_at_call 10; refine (VW.out _ Z2.out _).mono ?_; rintro e w3 ⟨⟨b3, q3, d3, F3, D3, rfl, x3⟩, y3⟩; have Z3 : Hid (Bv w w3 xb P i) := Z2.out.below y3; have X3 : Hid (Al P F3 ∧ Vs F3 C lo hi D3 ∧ Rv w3 (.slice b3 q3 d3) (D3.take q3) ∧ q3 = mostN most D3.length ∧ D3.length ≤ 1000 ∧ D3.Pairwise ltK) := x3; clear x3 y3)
          all_goals have HQ : Hid (q3 ≤ q4 ∧ q4 ≤ 1000) := (by have := HQ.out; have := mostN_le most q4; show q3 ≤ q4 ∧ q4 ≤ 1000; omega)
          all_goals clear hz hm1 hm2
          all_goals
            have B45 : Hid (Below w4.heap.size w4 w5) := q5
            have B05 : Hid (Below w.heap.size w w5) := thn Z4.out.bel q5
            clear q5
            go_loopw [19] (fun s19 wr => ∃ j : Nat, s19 = .int .i64 (j : Int) ∧ j ≤ q3 ∧ Below w5.heap.size w5 wr) (fun s19 _ => q3 - (intOf s19).toNat)
            case atStart => exact ⟨0, rfl, Nat.zero_le _, Below.refl _ _⟩
            case round =>
              obtain ⟨j, rfl, hj, hB⟩ := hrel
              rename World => wr
              have HB5 : Hid (Below w5.heap.size w5 wr) := hB
              have HB4 : Hid (Below w4.heap.size w4 wr) := thn B45.out hB
              have HB0 : Hid (Below w.heap.size w wr) := thn B05.out hB
              clear hB
              by_cases hlt : j < q3
              · have hltI : (j : Int) < (q3 : Int) := by omega
                have hj3 : j < D3.length := by have := HN.out; have := HQ.out; omega
                obtain ⟨g4, o4, rfl, -, a0, a1'⟩ := (HR4.out _ HB4.out).at_ hj3
                obtain ⟨g3, o3, rfl, -, b0, b1'⟩ := (HR3.out _ (thn Y4.out HB4.out)).at_ (i := j) (by rw [List.length_take]; omega)
                rw [List.getElem_take] at b0 b1'
                have heq : ∀ wx, (binOp .neq 39 (.agg #[.string D3[j].1, .string D3[j].2]) (.agg #[.string D3[j].1, .string D3[j].2])).run Try.prog wx = .ok (.bool false) wx := fun wx => by rw [(eqlsC wx D3[j] D3[j]).2, eqC_iff.2 rfl]; rfl
                have d0 : wr.drew.cell? ⟨g4, o4 + j * 2, none⟩ = some (.string D3[j].1) := a0
                have d1 : wr.drew.cell? ⟨g4, o4 + j * 2 + 1, none⟩ = some (.string D3[j].2) := a1'
                have e0 : wr.drew.cell? ⟨g3, o3 + j * 2, none⟩ = some (.string D3[j].1) := b0
                have e1 : wr.drew.cell? ⟨g3, o3 + j * 2 + 1, none⟩ = some (.string D3[j].2) := b1'
                have hj4 : (j : Int) < (q4 : Int) := by have := HQ.out; omega
                have hj5 : j < 1000 := by have := HQ.out; omega
                generalize D3[j].1 = kx at *
                generalize D3[j].2 = vx at *
                clear hj3
                go_wp2_with fail
                go_big_region
                all_goals go_wp2
                go_roundw
                case rel => exact ⟨j + 1, by rfl, by omega, bdr HB5.out 1⟩
                case measure => simp [intOf]; omega
              · have hltI : ¬ (j : Int) < (q3 : Int) := by omega
                go_wp2_with first
                  | (go_at_call 11; refine (VD.out _ (Z4.out.below HB4.out) HB4.out).mono ?_; rintro e w6 ⟨rfl, q6⟩)
                  | (go_at_call 9; refine (CK.out _).mono ?_; rintro e w7 ⟨rfl, q7⟩)
                go_ret
                exact ⟨rfl, thn HB0.out (thn q6 q7)⟩
        · have RN : Hid (∀ wx, Below w.heap.size w wx → Calls Try.prog 8 #[.slice a1 n1 c1] wx fun e w' => e = .returned (.bool false) ∧ Below wx.heap.size wx w') := fun wx hb => rising_no (HCv.out.bel hb) (by have := HCn.out; omega) hadj
          clear hadj
          go_wp2_with first
            | (go_at_call 8; refine (RN.out _ ZB.out.bel).mono ?_; rintro e w2 ⟨rfl, q2⟩)
            | (go_at_call 9; refine (CK.out _).mono ?_; rintro e w7 ⟨rfl, q7⟩)
          go_ret
          exact ⟨rfl, thn ZB.out.bel (thn q2 q7)⟩
      · have hltI : ¬ (i : Int) < (n : Int) := by omega
        clear hlt
        have hi40 : i ≤ 40 := by omega
        have HPi : Hid (Pi P) := ZB.out.pi hi40
        by_cases hadj : adj C
        · have HC : Hid (C.Pairwise ltK) := adj_pw hadj
          have RY : Hid (∀ wx, Below w.heap.size w wx → Calls Try.prog 8 #[.slice a1 n1 c1] wx fun e w' => e = .returned (.bool true) ∧ Below wx.heap.size wx w') := fun wx hb => rising_yes (HCv.out.bel hb) (by have := HCn.out; omega) hadj
          have VW : Hid (∀ wx, Bv w wx xb P i → ∀ m, Calls Try.prog 10 #[.pointer (some ⟨xb, 0, none⟩), .slice a1 n1 c1, .string lo, .string hi, .int .i64 m] wx fun e w' => VvO wx P C lo hi m e w') := fun wx hz m => hz.view hi40 (HCv.out.bel hz.bel) (by have := HCn.out; omega) HKs.out HC.out
          have V2 : Hid (∀ w3 w4 b3 q3 d3 F3 D3, Bv w w3 xb P i → Al P F3 ∧ Vs F3 C lo hi D3 ∧ Rv w3 (.slice b3 q3 d3) (D3.take q3) ∧ q3 = mostN most D3.length ∧ D3.length ≤ 1000 ∧ D3.Pairwise ltK → Below w3.heap.size w3 w4 → ∀ e, VvO w3 P C lo hi 1000 e w4 → V2O w w3 w4 xb P i C a1 n1 c1 b3 q3 d3 D3 lo hi most e) := fun w3 w4 b3 q3 d3 F3 D3 hz h3 hb e hv => v2_of hz HPi.out HC.out HCv.out (by have := HCn.out; omega) HCn.out HKs.out h3 hv
          clear hadj
          go_wp2_with first
            | (have := Y4; go_at_call 8; refine (RY2.out _ (Below.refl _ _)).mono ?_; rintro e w5 ⟨rfl, q5⟩)
            | (go_at_call 8; refine (RY.out _ ZB.out.bel).mono ?_; rintro e w2 ⟨rfl, q2⟩; have Z2 : Hid (Bv w w2 xb P i) := ZB.out.below q2)
            | (have := Z3; go_at_call 10; refine (VW.out _ Z3.out _).mono ?_; rintro e w4 hv4; obtain ⟨b4, q4, d4, rfl, HR4', HR3', HN', HQ', RY2', VD', y4⟩ := (V2.out _ _ _ _ _ _ _ Z3.out X3.out hv4.bel _ hv4).ex; have Z4 : Hid (Bv w w4 xb P i) := Z3.out.below y4; have Y4 : Hid (Below w3.heap.size w3 w4) := y4; have HR4 := HR4'; have HR3 := HR3'; have HN := HN'; have RY2 := RY2'; have VD := VD'; have HQ : Hid (q3 = mostN most q4 ∧ q4 ≤ 1000) := HQ'.out; clear y4 hv4 HR4' HR3' HN' RY2' VD' HQ'; rcases most_3 HQ.out.1 with ⟨hm1, hm2, hz⟩ | ⟨hm1, hm2, hz⟩ | ⟨hm1, hm2, hz⟩)
            | (go_at_call 10; refine (VW.out _ Z2.out _).mono ?_; rintro e w3 ⟨⟨b3, q3, d3, F3, D3, rfl, x3⟩, y3⟩; have Z3 : Hid (Bv w w3 xb P i) := Z2.out.below y3; have X3 : Hid (Al P F3 ∧ Vs F3 C lo hi D3 ∧ Rv w3 (.slice b3 q3 d3) (D3.take q3) ∧ q3 = mostN most D3.length ∧ D3.length ≤ 1000 ∧ D3.Pairwise ltK) := x3; clear x3 y3)
          all_goals have HQ : Hid (q3 ≤ q4 ∧ q4 ≤ 1000) := (by have := HQ.out; have := mostN_le most q4; show q3 ≤ q4 ∧ q4 ≤ 1000; omega)
          all_goals clear hz hm1 hm2
          all_goals
            have B45 : Hid (Below w4.heap.size w4 w5) := q5
            have B05 : Hid (Below w.heap.size w w5) := thn Z4.out.bel q5
            clear q5
            go_loopw [19] (fun s19 wr => ∃ j : Nat, s19 = .int .i64 (j : Int) ∧ j ≤ q3 ∧ Below w5.heap.size w5 wr) (fun s19 _ => q3 - (intOf s19).toNat)
            case atStart => exact ⟨0, rfl, Nat.zero_le _, Below.refl _ _⟩
            case round =>
              obtain ⟨j, rfl, hj, hB⟩ := hrel
              rename World => wr
              have HB5 : Hid (Below w5.heap.size w5 wr) := hB
              have HB4 : Hid (Below w4.heap.size w4 wr) := thn B45.out hB
              have HB0 : Hid (Below w.heap.size w wr) := thn B05.out hB
              clear hB
              by_cases hlt : j < q3
              · have hltI : (j : Int) < (q3 : Int) := by omega
                have hj3 : j < D3.length := by have := HN.out; have := HQ.out; omega
                obtain ⟨g4, o4, rfl, -, a0, a1'⟩ := (HR4.out _ HB4.out).at_ hj3
                obtain ⟨g3, o3, rfl, -, b0, b1'⟩ := (HR3.out _ (thn Y4.out HB4.out)).at_ (i := j) (by rw [List.length_take]; omega)
                rw [List.getElem_take] at b0 b1'
                have heq : ∀ wx, (binOp .neq 39 (.agg #[.string D3[j].1, .string D3[j].2]) (.agg #[.string D3[j].1, .string D3[j].2])).run Try.prog wx = .ok (.bool false) wx := fun wx => by rw [(eqlsC wx D3[j] D3[j]).2, eqC_iff.2 rfl]; rfl
                have d0 : wr.drew.cell? ⟨g4, o4 + j * 2, none⟩ = some (.string D3[j].1) := a0
                have d1 : wr.drew.cell? ⟨g4, o4 + j * 2 + 1, none⟩ = some (.string D3[j].2) := a1'
                have e0 : wr.drew.cell? ⟨g3, o3 + j * 2, none⟩ = some (.string D3[j].1) := b0
                have e1 : wr.drew.cell? ⟨g3, o3 + j * 2 + 1, none⟩ = some (.string D3[j].2) := b1'
                have hj4 : (j : Int) < (q4 : Int) := by have := HQ.out; omega
                have hj5 : j < 1000 := by have := HQ.out; omega
                generalize D3[j].1 = kx at *
                generalize D3[j].2 = vx at *
                clear hj3
                go_wp2_with fail
                go_big_region
                all_goals go_wp2
                go_roundw
                case rel => exact ⟨j + 1, by rfl, by omega, bdr HB5.out 1⟩
                case measure => simp [intOf]; omega
              · have hltI : ¬ (j : Int) < (q3 : Int) := by omega
                go_wp2_with first
                  | (go_at_call 11; refine (VD.out _ (Z4.out.below HB4.out) HB4.out).mono ?_; rintro e w6 ⟨rfl, q6⟩)
                  | (go_at_call 9; refine (CK.out _).mono ?_; rintro e w7 ⟨rfl, q7⟩)
                go_ret
                exact ⟨rfl, thn HB0.out (thn q6 q7)⟩
        · have RN : Hid (∀ wx, Below w.heap.size w wx → Calls Try.prog 8 #[.slice a1 n1 c1] wx fun e w' => e = .returned (.bool false) ∧ Below wx.heap.size wx w') := fun wx hb => rising_no (HCv.out.bel hb) (by have := HCn.out; omega) hadj
          clear hadj
          go_wp2_with first
            | (go_at_call 8; refine (RN.out _ ZB.out.bel).mono ?_; rintro e w2 ⟨rfl, q2⟩)
            | (go_at_call 9; refine (CK.out _).mono ?_; rintro e w7 ⟨rfl, q7⟩)
          go_ret
          exact ⟨rfl, thn ZB.out.bel (thn q2 q7)⟩
end
end Go.Proofs.Ytjlhohljkedbbaa.Pa
