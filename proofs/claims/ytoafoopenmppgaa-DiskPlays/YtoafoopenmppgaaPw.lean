/- The law's own disk: its act, write and sync. -/
import Derived.Test.YtoafoopenmppgaaPl
namespace Go.Proofs.Ytoafoopenmppgaa
open Go.RowKit Go.Maps Go.ChangeMaps Go.Sort
set_option linter.unusedVariables false
set_option linter.unusedSimpArgs false
set_option maxRecDepth 100000
variable {w w' : World} {pb rb cap : Nat} {pl pk : Int} {S : Dk}

theorem pact_any (w : World) (h : PlIs w pb rb cap pl pk S) (hS : S.Ok) : Calls Try.prog 34 #[.pointer (some ⟨pb, 0, none⟩)] w fun e w' =>
    e = .returned (.bool (decide (actE S = 0))) ∧ (∃ pl' pk', PlIs w' pb rb cap pl' pk' (actDk S)) ∧ Off (two pb rb) w w' := by
  have d2 := h.pw.d2
  have d3 := h.pw.d3
  have d4 := h.pw.d4
  have d5 := h.pw.d5
  have df := h.pw.df
  have a0 := hS.a0
  have a1 := hS.a1
  have l0 := hS.l0
  have l1 := hS.l1
  have harm := h.arm
  have H : Hid (PlIs w pb rb cap pl pk S) := h
  cases hs : S.set
  · rw [hs] at d2
    have e1 : actE S = 0 := by simp [actE, hs]
    have e2 : actDk S = { S with acts := S.acts + 1 } := by simp [actDk, hs]
    have e3 : decide (actE S = 0) = true := by simp [e1]
    rw [e2, e3]
    clear h harm e1 e2 e3
    go_enter Try.func34, Try.ntmps34
    go_wp2
    go_ret
    have hF := H.out.pw.setP 5 (.int .i64 (S.acts + 1)) (down' := !S.up) (armed' := S.set) (pl' := pl) (pk' := pk) (acts' := S.acts + 1) (downs' := S.downs) rfl
    exact ⟨rfl, ⟨pl, pk, hF.blk, H.out.arm, hF.row, hF.ne⟩, (Off.refl _ _).setCell (two_a _ _) _ _⟩
  · rw [hs] at d2
    obtain ⟨rfl, rfl⟩ := harm hs
    by_cases hl : S.left = 0
    · have e1 : actE S = 9 := by simp [actE, hs, hl]
      have e2 : actDk S = offDk S S.keep := by simp [actDk, hs, hl]
      have e3 : decide (actE S = 0) = false := by simp [e1]
      rw [e2, e3]
      have C : Hid (∀ w, PlIs w pb rb cap S.left S.keep S → Calls Try.prog 27 #[.pointer (some ⟨pb, 0, none⟩), .int .u64 S.keep] w fun e w' => e = .returned (.tuple #[]) ∧ PlIs w' pb rb cap S.left S.keep (offDk S S.keep) ∧ Off (two pb rb) w w') := fun w h => off_any w h hS _ hS.k0 hS.k1
      rw [hl] at d3
      clear h harm e1 e2 e3
      go_enter Try.func34, Try.ntmps34
      go_wp2_with (go_at_call 27; refine (C.out _ H.out).mono ?_; rintro e w1 ⟨rfl, hP, ho⟩)
      go_ret
      exact ⟨rfl, ⟨_, _, hP⟩, ho⟩
    · have e1 : actE S = 0 := by simp [actE, hs, hl]
      have e2 : actDk S = { S with left := S.left - 1, acts := S.acts + 1 } := by simp [actDk, hs, hl]
      have e3 : decide (actE S = 0) = true := by simp [e1]
      have hl' : (S.left == 0) = false := by simpa using hl
      rw [e2, e3]
      clear h harm e1 e2 e3
      go_enter Try.func34, Try.ntmps34
      go_wp2
      go_ret
      have hF := (H.out.pw.setP 3 (.int .i64 (S.left - 1)) (down' := !S.up) (armed' := S.set) (pl' := S.left - 1) (pk' := S.keep) (acts' := S.acts) (downs' := S.downs) rfl).setP 5 (.int .i64 (S.acts + 1)) (down' := !S.up) (armed' := S.set) (pl' := S.left - 1) (pk' := S.keep) (acts' := S.acts + 1) (downs' := S.downs) rfl
      exact ⟨rfl, ⟨S.left - 1, S.keep, hF.blk, fun _ => ⟨rfl, rfl⟩, hF.row, hF.ne⟩, ((Off.refl _ _).setCell (two_a _ _) _ _).setCell (two_a _ _) _ _⟩

set_option maxHeartbeats 4000000 in
theorem pwrite_any (w : World) (h : PlIs w pb rb cap pl pk S) (hS : S.Ok) (i : Int) (s : ByteArray) (hs : s.size ≤ 9223372036854775807) : Calls Try.prog 25 #[.pointer (some ⟨pb, 0, none⟩), .int .i64 i, .string s] w fun e w' =>
    e = .returned (.int .i64 (writeE S i s)) ∧ (∃ pl' pk', PlIs w' pb rb cap pl' pk' (writeDk S i s)) ∧ Off (two pb rb) w w' := by
  have d0 := h.pw.d0
  have d1 := h.pw.d1
  have hn2 := hS.n2
  have H : Hid (PlIs w pb rb cap pl pk S) := h
  have CA : Hid (∀ w, PlIs w pb rb cap pl pk S → Calls Try.prog 34 #[.pointer (some ⟨pb, 0, none⟩)] w fun e w' =>
    e = .returned (.bool (decide (actE S = 0))) ∧ (∃ pl' pk', PlIs w' pb rb cap pl' pk' (actDk S)) ∧ Off (two pb rb) w w') := fun w h => pact_any w h hS
  clear h
  cases hu : S.up
  · rw [hu] at d1
    simp only [Bool.not_false] at d1
    have e1 : writeE S i s = 9 := by simp [writeE, refAt, hu]
    have e2 : writeDk S i s = S := by simp [writeDk, refAt, hu]
    rw [e1, e2]
    clear e1 e2
    go_enter Try.func25, Try.ntmps25
    go_wp2
    go_ret
    exact ⟨rfl, ⟨_, _, H.out⟩, Off.refl _ _⟩
  rw [hu] at d1
  simp only [Bool.not_true] at d1
  by_cases h1 : i < 0
  · have e1 : writeE S i s = 6 := by simp [writeE, refAt, hu, h1]
    have e2 : writeDk S i s = S := by simp [writeDk, refAt, hu, h1]
    rw [e1, e2]
    clear e1 e2
    go_enter Try.func25, Try.ntmps25
    go_wp2
    go_ret
    exact ⟨rfl, ⟨_, _, H.out⟩, Off.refl _ _⟩
  by_cases h2 : (S.n : Int) ≤ i
  · have e1 : writeE S i s = 6 := by simp [writeE, refAt, hu, h2]
    have e2 : writeDk S i s = S := by simp [writeDk, refAt, hu, h2]
    rw [e1, e2]
    clear e1 e2
    go_enter Try.func25, Try.ntmps25
    go_wp2
    go_ret
    exact ⟨rfl, ⟨_, _, H.out⟩, Off.refl _ _⟩
  have hr : refAt S.up S.n i = 0 := by simp [refAt, hu, h1, h2]
  by_cases hz : 64 < s.size
  · have hzI : (64 : Int) < (s.size : Int) := by omega
    have e1 : writeE S i s = 3 := by simp [writeE, hr, hz]
    have e2 : writeDk S i s = S := by simp [writeDk, hr, hz]
    rw [e1, e2]
    clear e1 e2 hr
    go_enter Try.func25, Try.ntmps25
    go_wp2
    go_ret
    exact ⟨rfl, ⟨_, _, H.out⟩, Off.refl _ _⟩
  have hzI : ¬ (64 : Int) < (s.size : Int) := by omega
  rcases actE_is S with ha | ha
  · have e1 : writeE S i s = 0 := by simp [writeE, hr, hz, ha]
    have e2 : writeDk S i s = { actDk S with wait := upd S.wait i.toNat (some (pad s)) } := by simp [writeDk, hr, hz, ha]
    have e3 : decide (actE S = 0) = true := by simp [ha]
    rw [e1, e2]
    rw [e3] at CA
    obtain ⟨g1, g2, g3⟩ := actDk_go ha
    have g4 := actDk_n S
    obtain ⟨S1, hS1⟩ : ∃ S1, S1 = actDk S := ⟨_, rfl⟩
    rw [← hS1] at CA g1 g2 g3 g4 ⊢
    obtain ⟨j, hj, hjn⟩ : ∃ j : Nat, i = (j : Int) ∧ j < S.n := ⟨i.toNat, by omega, by omega⟩
    subst hj
    have HG : Hid (S1.wait = S.wait ∧ S1.sure = S.sure ∧ S1.n = S.n) := ⟨g1, g2, g4⟩
    have CW : Hid (∀ w, Calls Try.prog 9 #[.string s] w fun e w' => e = .returned (.string (pad s)) ∧ w' = w) := fun w => whole_any s w (by omega)
    clear e1 e2 e3 g1 g2 g3 g4 hS1 hr
    go_enter Try.func25, Try.ntmps25
    go_wp2_with (go_at_call 34; refine (CA.out _ H.out).mono ?_; rintro e w1 ⟨rfl, ⟨pl', pk', hP⟩, ho⟩)
    obtain ⟨p, hp⟩ : ∃ p, p = pad s := ⟨_, rfl⟩
    rw [← hp] at CW
    have hjn1 : j < S1.n := by rw [HG.out.2.2]; exact hjn
    have q0 := hP.pw.d0
    rw [HG.out.2.2] at q0
    have qf := hP.row.f
    have q1 := hP.row.c1 j hjn1
    have q2 := hP.row.c2 j hjn1
    obtain ⟨nw, hnw⟩ : ∃ nw, nw = S1.now j := ⟨_, rfl⟩
    obtain ⟨wt, hwt⟩ : ∃ wt, wt = (S1.wait j).isSome := ⟨_, rfl⟩
    rw [← hnw] at q1
    simp only [← hwt] at q2
    have hW2 := hP.pw.drew.setR (j * 3 + 1) (.string p) (hP.pw.drew.row.set1 hjn1 p)
    have k2 : (w1.drew.setCell ⟨rb, j * 3 + 1, none⟩ (.string p)).cell? ⟨pb, 0, none⟩ = some (.slice (some ⟨rb, 0, none⟩) S.n cap) := (Joins.cell_of_block hW2.blk 0).trans (by rw [HG.out.2.2]; rfl)
    have k3 : (w1.drew.setCell ⟨rb, j * 3 + 1, none⟩ (.string p)).cell? ⟨rb, j * 3 + 2, none⟩ = some (.bool wt) := (setCell_ne _ (by omega)).trans q2
    have HW : Hid _ := hW2
    have HK2 : Hid _ := k2
    have HK3 : Hid _ := k3
    have HPP : Hid _ := hp
    have HP : Hid (PlIs w1 pb rb cap pl' pk' S1) := hP
    have jI : (j : Int) < (S.n : Int) := by omega
    clear hW2 k2 k3 hp hP hnw hwt
    go_region_held_law (fun w' => w'.cell? ⟨pb, 0, none⟩ = some (.slice (some ⟨rb, 0, none⟩) S.n cap)) (first | exact q0 | exact HK2.out | assumption) (first | (go_at_call 9; refine (CW.out _).mono ?_; rintro e w2 ⟨rfl, hw2⟩; subst hw2))
    have g0 := HK2.out
    have g2 := HK3.out
    have gf := HW.out.row.f
    go_wp2
    go_ret
    have hF := HW.out.setR (j * 3 + 2) (.bool true) (HW.out.row.set2 hjn1 true)
    refine ⟨rfl, ⟨pl', pk', hF.blk, HP.out.arm, ?_, hF.ne⟩, ((ho.drew).setCell (two_b _ _) _ _).setCell (two_b _ _) _ _⟩
    refine hF.row.congr (fun q hq => rfl) (fun q hq => ?_) (fun q hq => ?_)
    · by_cases e : q = j
      · subst e; rw [upd_same, HPP.out]; simp [Dk.now, upd_same]
      · rw [upd_other _ _ e]; simp [Dk.now, upd_other _ _ e, HG.out.1]
    · by_cases e : q = j
      · subst e; rw [upd_same]; simp [upd_same]
      · rw [upd_other _ _ e]; simp [upd_other _ _ e, HG.out.1]
  · have e1 : writeE S i s = 9 := by simp [writeE, hr, hz, ha]
    have e2 : writeDk S i s = actDk S := by simp [writeDk, hr, hz, ha]
    have e3 : decide (actE S = 0) = false := by simp [ha]
    rw [e1, e2]
    rw [e3] at CA
    clear e1 e2 e3 hr
    go_enter Try.func25, Try.ntmps25
    go_wp2_with (go_at_call 34; refine (CA.out _ H.out).mono ?_; rintro e w1 ⟨rfl, hP, ho⟩)
    go_ret
    exact ⟨rfl, hP, ho⟩

set_option maxHeartbeats 4000000 in
theorem psync_any (w : World) (h : PlIs w pb rb cap pl pk S) (hS : S.Ok) : Calls Try.prog 26 #[.pointer (some ⟨pb, 0, none⟩)] w fun e w' =>
    e = .returned (.int .i64 (syncE S)) ∧ (∃ pl' pk', PlIs w' pb rb cap pl' pk' (syncDk S)) ∧ Off (two pb rb) w w' := by
  have d1 := h.pw.d1
  have hn2 := hS.n2
  have H : Hid (PlIs w pb rb cap pl pk S) := h
  have CA : Hid (∀ w, PlIs w pb rb cap pl pk S → Calls Try.prog 34 #[.pointer (some ⟨pb, 0, none⟩)] w fun e w' =>
    e = .returned (.bool (decide (actE S = 0))) ∧ (∃ pl' pk', PlIs w' pb rb cap pl' pk' (actDk S)) ∧ Off (two pb rb) w w') := fun w h => pact_any w h hS
  clear h
  cases hu : S.up
  · rw [hu] at d1
    simp only [Bool.not_false] at d1
    have e1 : syncE S = 9 := by simp [syncE, hu]
    have e2 : syncDk S = S := by simp [syncDk, hu]
    rw [e1, e2]
    clear e1 e2
    go_enter Try.func26, Try.ntmps26
    go_wp2
    go_ret
    exact ⟨rfl, ⟨_, _, H.out⟩, Off.refl _ _⟩
  rw [hu] at d1
  simp only [Bool.not_true] at d1
  rcases actE_is S with ha | ha
  · have e1 : syncE S = 0 := by simp [syncE, hu, ha]
    have e2 : syncDk S = { actDk S with sure := S.now, wait := fun _ => none } := by simp [syncDk, hu, ha]
    have e3 : decide (actE S = 0) = true := by simp [ha]
    rw [e1, e2]
    rw [e3] at CA
    obtain ⟨g1, g2, g3⟩ := actDk_go ha
    have g4 := actDk_n S
    obtain ⟨S1, hS1⟩ : ∃ S1, S1 = actDk S := ⟨_, rfl⟩
    rw [← hS1] at CA g1 g2 g3 g4 ⊢
    have g5 : S1.now = S.now := by funext q; simp [Dk.now, g1, g2]
    have HG : Hid (S1.wait = S.wait ∧ S1.sure = S.sure ∧ S1.n = S.n ∧ S1.now = S.now) := ⟨g1, g2, g4, g5⟩
    clear e1 e2 e3 g1 g2 g3 g4 g5 hS1
    go_enter Try.func26, Try.ntmps26
    go_wp2_with (go_at_call 34; refine (CA.out _ H.out).mono ?_; rintro e w1 ⟨rfl, ⟨pl', pk', hP⟩, ho⟩)
    go_loopw [3] (fun iv wr => ∃ i : Nat, iv = .int .i64 (i : Int) ∧ i ≤ S.n ∧ PW wr pb rb S.n cap (!S1.up) S1.set pl' pk' S1.acts S1.downs (fun q => if q < i then S.now q else S.sure q) S.now (fun q => if q < i then false else (S.wait q).isSome) ∧ Off (two pb rb) w wr) (fun iv _ => S.n - (intOf iv).toNat)
    case atStart =>
      refine ⟨0, rfl, by omega, ?_, ho⟩
      have := hP.pw
      rw [HG.out.2.2.1] at this
      exact this.congr (fun q _ => by simp [HG.out.2.1]) (fun q _ => by rw [HG.out.2.2.2]) (fun q _ => by simp [HG.out.1])
    case round =>
      obtain ⟨i, rfl, hi, hW, hoff⟩ := hrel
      have q0 := hW.d0
      have rf := hW.row.f
      by_cases hin : i < S.n
      · have iI : (i : Int) < (S.n : Int) := by omega
        have r0 := hW.row.c0 i hin
        have r1 := hW.row.c1 i hin
        have r2 := hW.row.c2 i hin
        simp only [Nat.lt_irrefl, if_false] at r0 r2
        obtain ⟨su, hsu⟩ : ∃ su, su = S.sure i := ⟨_, rfl⟩
        obtain ⟨nw, hnw⟩ : ∃ nw, nw = S.now i := ⟨_, rfl⟩
        obtain ⟨wt, hwt⟩ : ∃ wt, wt = (S.wait i).isSome := ⟨_, rfl⟩
        rw [← hsu] at r0
        rw [← hnw] at r1
        rw [← hwt] at r2
        have hW1 := hW.drew.setR (i * 3) (.string nw) (hW.drew.row.set0 hin nw)
        have k1 : (wr.drew.setCell ⟨rb, i * 3, none⟩ (.string nw)).cell? ⟨pb, 0, none⟩ = some (.slice (some ⟨rb, 0, none⟩) S.n cap) ∧ (wr.drew.setCell ⟨rb, i * 3, none⟩ (.string nw)).cell? ⟨rb, i * 3 + 1, none⟩ = some (.string nw) := ⟨hW1.d0, (setCell_ne _ (by omega)).trans r1⟩
        have e2 : (wr.drew.setCell ⟨rb, i * 3, none⟩ (.string nw)).cell? ⟨rb, i * 3 + 2, none⟩ = some (.bool wt) := (setCell_ne _ (by omega)).trans r2
        have HK1 : Hid _ := k1
        have HE2 : Hid _ := e2
        have HW1 : Hid _ := hW1
        have HNW : Hid _ := hnw
        clear k1 e2 hW1 hsu hnw hwt
        go_wp2
        go_region_held_law (fun w' => w'.cell? ⟨pb, 0, none⟩ = some (.slice (some ⟨rb, 0, none⟩) S.n cap) ∧ w'.cell? ⟨rb, i * 3 + 1, none⟩ = some (.string nw)) (first | exact ⟨q0, r1⟩ | exact HK1.out) (fail)
        have gf1 := HW1.out.row.f
        have g01 := HK1.out.1
        have g31 := HE2.out
        go_wp2
        refine ⟨⟨i + 1, by simp, hin, ?_, ((hoff.drew).setCell (two_b _ _) _ _).setCell (two_b _ _) _ _⟩, by simp [intOf]; omega⟩
        refine (HW1.out.setR (i * 3 + 2) (.bool false) (HW1.out.row.set2 hin false)).congr (fun q _ => ?_) (fun q _ => rfl) (fun q _ => ?_)
        · by_cases e : q = i
          · subst e; rw [upd_same, HNW.out]; simp
          · have : q < i + 1 ↔ q < i := by omega
            rw [upd_other _ _ e]; simp [this]
        · by_cases e : q = i
          · subst e; rw [upd_same]; simp
          · have : q < i + 1 ↔ q < i := by omega
            rw [upd_other _ _ e]; simp [this]
      · have hie : i = S.n := by omega
        subst hie
        have iI : ¬ ((S.n : Int) < (S.n : Int)) := by omega
        go_wp2
        go_ret
        have hF := hW.congr (a' := S.now) (b' := S.now) (c' := fun _ => false) (fun q hq => by simp [hq]) (fun q hq => rfl) (fun q hq => by simp [hq])
        refine ⟨rfl, ⟨pl', pk', ?_, hP.arm, ?_, hF.ne⟩, hoff⟩
        · rw [HG.out.2.2.1]; exact hF.blk
        · rw [HG.out.2.2.1]; exact hF.row
  · have e1 : syncE S = 9 := by simp [syncE, hu, ha]
    have e2 : syncDk S = actDk S := by simp [syncDk, hu, ha]
    have e3 : decide (actE S = 0) = false := by simp [ha]
    rw [e1, e2]
    rw [e3] at CA
    clear e1 e2 e3
    go_enter Try.func26, Try.ntmps26
    go_wp2_with (go_at_call 34; refine (CA.out _ H.out).mono ?_; rintro e w1 ⟨rfl, hP, ho⟩)
    go_ret
    exact ⟨rfl, hP, ho⟩
end Go.Proofs.Ytoafoopenmppgaa
