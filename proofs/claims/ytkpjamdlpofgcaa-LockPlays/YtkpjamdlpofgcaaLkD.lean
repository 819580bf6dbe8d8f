/- The law's own: who. -/
import Derived.Test.YtkpjamdlpofgcaaLkZ
import Derived.Deep.RegionHeld3
namespace Go.Proofs.Ytkpjamdlpofgcaa
open Go.RowKit
set_option linter.unusedVariables false
set_option linter.unusedSimpArgs false
set_option maxRecDepth 100000
def stepW (h : Hd) (out : List Int) (g : Hd) : List Int := if g.x ∈ out then out else if barM g h then out ++ [g.x] else out
theorem fold_step (h : Hd) (L : List Hd) : L.foldl (stepW h) [] = whoM L h := by
  unfold whoM
  rw [List.foldl_filter]
  congr 1
  funext out g
  unfold stepW addT
  by_cases h1 : g.x ∈ out
  · simp [h1]
  · simp [h1]
theorem stepW_len (h : Hd) (out : List Int) (g : Hd) : (stepW h out g).length ≤ out.length + 1 := by unfold stepW; split <;> (try split) <;> simp
theorem foldW_len (h : Hd) (F : List Hd) : (F.foldl (stepW h) []).length ≤ F.length := by
  have : ∀ (F : List Hd) (o : List Int), (F.foldl (stepW h) o).length ≤ o.length + F.length := by
    intro F
    induction F with
    | nil => intro o; simp
    | cons g F ih =>
      intro o
      have h1 := ih (stepW h o g)
      have h2 := stepW_len h o g
      simp only [List.foldl_cons, List.length_cons]
      omega
  simpa using this F []
theorem foldW_take (h : Hd) {F : List Hd} {i : Nat} (hi : i < F.length) : (F.take (i + 1)).foldl (stepW h) [] = stepW h ((F.take i).foldl (stepW h) []) F[i] := by
  rw [List.take_succ_eq_append_getElem hi, List.foldl_append]
  rfl
theorem mem_take_succ {O : List Int} {x : Int} {k : Nat} (hk : k < O.length) : decide (x ∈ O.take (k + 1)) = (decide (x ∈ O.take k) || (O[k] == x)) := by
  rw [List.take_succ_eq_append_getElem hk]
  rw [Bool.eq_iff_iff]
  simp only [decide_eq_true_eq, Bool.or_eq_true, List.mem_append, List.mem_singleton, beq_iff_eq]
  exact ⟨fun h => h.imp id Eq.symm, fun h => h.imp id Eq.symm⟩
section
variable {B tb : Nat} {w w' wx : World} {a : Option Addr} {c : Nat} {L : List Hd} {n : Int} {v v' : Value}
set_option maxHeartbeats 4000000 in
theorem who_any (hs : Hs B w (.slice a L.length c) L) (hl : L.length ≤ 80000) (h : Hd) (hL : ∀ g ∈ L, rightM g = true) (hh : rightM h = true) :
    Calls Try.prog 20 #[.slice a L.length c, .agg h.A] w fun e w' => WhO w w' e (whoM L h) := by
  rw [← fold_step]
  have HS : Hid (Hs B w (.slice a L.length c) L) := hs
  have CB : Hid (∀ wx g, g ∈ L → Calls Try.prog 14 #[.agg g.A, .agg h.A] wx fun e w' => e = .returned (.bool (barM g h)) ∧ Below wx.heap.size wx w') := fun wx g hg => lbar_any wx (hL g hg) hh
  clear hs hL hh
  go_enter Try.func20, Try.ntmps20
  go_wp2_with (refine wpList_box_hd (n := h) _ rfl _ rfl rfl ?_; intro w0 b0 N0)
  go_loopw [5, 6, 7, 8] (fun s5 s6 s7 s8 wr => ∃ (i : Nat), s6 = .int .i64 (i : Int) ∧ i ≤ L.length ∧ Below w0.heap.size w0 wr ∧ ∃ a5 c5, s5 = .slice a5 ((L.take i).foldl (stepW h) []).length c5 ∧ Is w0.heap.size wr s5 ((L.take i).foldl (stepW h) [])) (fun s5 s6 s7 s8 _ => L.length - (intOf s6).toNat)
  case atStart => exact ⟨0, rfl, Nat.zero_le _, Below.refl _ _, none, 0, by simp, by simpa using Is.nil _ _⟩
  case round =>
    obtain ⟨i, rfl, hi, hb0, a5, c5, rfl, h5⟩ := hrel
    rename World => wo
    have H5 : Hid (Is w0.heap.size wo (.slice a5 ((L.take i).foldl (stepW h) []).length c5) ((L.take i).foldl (stepW h) [])) := h5
    have HB : Hid (Below w0.heap.size w0 wo) := hb0
    clear h5 hb0
    by_cases hlt : i < L.length
    · have hltI : (i : Int) < (L.length : Int) := by omega
      obtain ⟨g1, e1, hg1, hc1⟩ := HS.out.at_ hlt
      subst e1
      have R1 : Hid (∀ wx : World, Below w0.heap.size w0 wx → wx.rangeAt g1 (i * 5) L[i].A.toList) := fun wx hb => hc1 wx ((hb.block g1 (Nat.lt_of_lt_of_le hg1 N0.below.size)).trans (N0.below.block g1 hg1))
      have HT : Hid ((L.take (i + 1)).foldl (stepW h) [] = stepW h ((L.take i).foldl (stepW h) []) L[i]) := foldW_take h hlt
      have hol : ((L.take i).foldl (stepW h) []).length ≤ 90000 := Nat.le_trans (foldW_len h _) (by rw [List.length_take]; omega)
      have CB1 : Hid (∀ wx, Calls Try.prog 14 #[.agg L[i].A, .agg h.A] wx fun e w' => e = .returned (.bool (barM L[i] h)) ∧ Below wx.heap.size wx w') := fun wx => CB.out wx L[i] (List.getElem_mem hlt)
      clear hc1 hg1 CB
      generalize (L.take i).foldl (stepW h) [] = O at *
      generalize L[i] = y at *
      go_wp2
      go_loopw [7, 8] (fun s7 s8 wr => ∃ (k : Nat), s8 = .int .i64 (k : Int) ∧ k ≤ O.length ∧ Below wo.heap.size wo wr ∧ s7 = .bool (decide (y.x ∈ O.take k))) (fun s7 s8 _ => O.length - (intOf s8).toNat)
      case atStart => exact ⟨0, rfl, Nat.zero_le _, Below.refl _ _, by simp⟩
      case round =>
        obtain ⟨k, rfl, hk, hbq, rfl⟩ := hrel
        have HQ : Hid (Below wo.heap.size wo wr) := hbq
        clear hbq
        have BQ : Hid (Below w0.heap.size w0 wr) := thn HB.out HQ.out
        have r1 := R1.out wr BQ.out
        have q0 : wr.cell? ⟨g1, i * 5, none⟩ = some (.int .i64 y.x) := by have := r1 0 (.int .i64 y.x) rfl; simpa using this
        have hhq := N0.hd.bel BQ.out
        by_cases hkl : k < O.length
        · have hkI : (k : Int) < (O.length : Int) := by omega
          obtain ⟨go, eo, hgo, hco⟩ := (H5.out.bel HQ.out).at_ hkl
          subst eo
          have ko := hco _ rfl
          have HM : Hid (decide (y.x ∈ O.take (k + 1)) = (decide (y.x ∈ O.take k) || (O[k] == y.x))) := mem_take_succ hkl
          clear hco hgo r1 hhq
          generalize O[k] = z at *
          cases hd : decide (y.x ∈ O.take k)
          · rw [hd] at HM
            go_wp2
            go_quiet (fail)
            go_wp2
            go_roundw
            case rel => exact ⟨k + 1, by rfl, by omega, bdr HQ.out _, by rw [HM.out]; simp⟩
            case measure => simp [intOf]; omega
          · rw [hd] at HM
            go_wp2
            go_quiet (fail)
            go_wp2
            go_roundw
            case rel => exact ⟨k + 1, by rfl, by omega, bdr HQ.out _, by rw [HM.out]; simp⟩
            case measure => simp [intOf]; omega
        · have hkI : ¬ (k : Int) < (O.length : Int) := by omega
          have hte : O.take k = O := List.take_of_length_le (by omega)
          rw [hte]
          have q1 : wr.cell? ⟨g1, i * 5 + 1, none⟩ = some (.int .i64 y.m) := r1 1 (.int .i64 y.m) rfl
          have q2 : wr.cell? ⟨g1, i * 5 + 2, none⟩ = some (.string y.lo) := r1 2 (.string y.lo) rfl
          have q3 : wr.cell? ⟨g1, i * 5 + 3, none⟩ = some (.string y.hi) := r1 3 (.string y.hi) rfl
          have q4 : wr.cell? ⟨g1, i * 5 + 4, none⟩ = some (.bool y.op) := r1 4 (.bool y.op) rfl
          have p0 := hhq.c0
          have p1 := hhq.c1
          have p2 := hhq.c2
          have p3 := hhq.c3
          have p4 := hhq.c4
          have HI : Hid (Is w0.heap.size wr (.slice a5 O.length c5) O) := H5.out.bel HQ.out
          clear r1 hhq hte H5
          by_cases hm : y.x ∈ O
          · have e1 : Hid (stepW h O y = O) := (if_pos hm : stepW h O y = O)
            have hd : decide (y.x ∈ O) = true := by simp [hm]
            rw [hd]
            clear hm hd
            go_wp2
            go_quiet (fail)
            go_wp2
            go_roundw
            case rel => exact ⟨i + 1, by rfl, by omega, bdr BQ.out _, a5, c5, by rw [HT.out, e1.out], by rw [HT.out, e1.out]; exact HI.out.bel (bdr (Below.refl _ _) _)⟩
            case measure => simp [intOf]; omega
          · have hd : decide (y.x ∈ O) = false := by simp [hm]
            rw [hd]
            cases hbar : barM y h
            · rw [hbar] at CB1
              have e1 : Hid (stepW h O y = O) := ((if_neg hm).trans (by rw [hbar]; rfl) : stepW h O y = O)
              clear hm hd hbar
              go_wp2
              go_region_with (go_at_call 14; refine (CB1.out _).mono ?_; rintro e w5 ⟨rfl, b5⟩)
              all_goals
                go_wp2
                go_roundw
                case rel =>
                  have B5 : Below wr.heap.size wr w5 := (bdr (Below.refl _ _) 1).trans b5
                  exact ⟨i + 1, by rfl, by omega, thn BQ.out B5, a5, c5, by rw [HT.out, e1.out], by rw [HT.out, e1.out]; exact HI.out.bel B5⟩
                case measure => simp [intOf]; omega
            · rw [hbar] at CB1
              have e1 : Hid (stepW h O y = O ++ [y.x]) := ((if_neg hm).trans (by rw [hbar]; rfl) : stepW h O y = O ++ [y.x])
              clear hm hd hbar
              go_wp2
              go_region_with (go_at_call 14; refine (CB1.out _).mono ?_; rintro e w5 ⟨rfl, b5⟩)
              all_goals
                have B5 : Hid (Below wr.heap.size wr w5) := (bdr (Below.refl _ _) 1).trans b5
                have HI5 : Hid (Is w0.heap.size w5 (.slice a5 O.length c5) O) := HI.out.bel B5.out
                have BB5 : Hid (Below w0.heap.size w0 w5) := thn BQ.out B5.out
                have r5 := R1.out w5 BB5.out
                have s0 : w5.cell? ⟨g1, i * 5, none⟩ = some (.int .i64 y.x) := by have := r5 0 (.int .i64 y.x) rfl; simpa using this
                clear r5
                go_wp2_with (refine wpList_append_is (p := y.x) rfl (.tmp 44) (.tmp 50) rfl rfl (HI5.out.bel (bl1 _)) rfl (by simp) (Nat.le_trans BB5.out.size (by simp)) hol ?_; intro a7 c7 w7 I7 q7)
                go_roundw
                case rel => exact ⟨i + 1, by rfl, by omega, (thn BB5.out (bl1 _)).trans q7, a7, c7, by rw [HT.out, e1.out, List.length_append]; rfl, by rw [HT.out, e1.out]; exact I7⟩
                case measure => simp [intOf]; omega
    · have hltI : ¬ (i : Int) < (L.length : Int) := by omega
      have HE : Hid (L.take i = L) := List.take_of_length_le (by omega)
      have H6 := H5.out
      rw [HE.out] at H6 ⊢
      clear H5
      have H5 : Hid (Is w0.heap.size wo (.slice a5 (L.foldl (stepW h) []).length c5) (L.foldl (stepW h) [])) := H6
      clear H6 HE
      go_wp2
      go_ret
      exact ⟨⟨_, _, rfl, H5.out.less N0.below.size⟩, thn N0.below HB.out⟩
end
end Go.Proofs.Ytkpjamdlpofgcaa
