/- The law DiskLasts, walked: lists of 40 < ll, lm ≤ 40. -/
import Derived.Test.YtoafoopenmppgaaLastsP
namespace Go.Proofs.Ytoafoopenmppgaa
open Go.RowKit Go.Maps Go.ChangeMaps Go.Sort
set_option linter.unusedVariables false
set_option linter.unusedSimpArgs false
set_option maxRecDepth 100000
set_option maxHeartbeats 8000000 in
theorem lasts_ba (al am : Option Addr) (ll lm cl cm : Nat) (fl fm : Nat → ByteArray) (x : Int) (x0 : 0 ≤ x) (x1 : x ≤ 18446744073709551615) (w : World) (hl : IsStrs w al ll fl) (hm : IsStrs w am lm fm) (hX : 40 < ll) (hY : lm ≤ 40) :
    Calls Try.prog 4 #[.slice al ll cl, .slice am lm cm, .int .u64 x] w fun e w' => e = .returned (.bool true) ∧ Below w.heap.size w w' := by
  obtain ⟨B, hB⟩ : ∃ B, B = w.heap.size := ⟨_, rfl⟩
  have C0 : Hid (Calls Try.prog 8 #[.int .i64 40] w fun e w' => e = .returned (.tuple #[.pointer (some ⟨B + 2, 0, none⟩), .int .i64 0]) ∧ DkIs w' (B + 2) B (B + 1) 0 (newDk 40) ∧ Below B w w') := by
    rw [hB]; exact New_any 40 (by omega) (by omega) w
  have C1 : Hid (∀ w S g m i s, G g true S → m < 1000 → i < S.n → s.size ≤ 64 → DkIs w (B + 2) B (B + 1) m S → Calls Try.prog 16 #[.pointer (some ⟨B + 2, 0, none⟩), .int .i64 ((i : Nat) : Int), .string s] w fun e w' => e = .returned (.int .i64 0) ∧ DkIs w' (B + 2) B (B + 1) (m + 1) (wrDk S i s) ∧ Off (disk3 (B + 2) B (B + 1)) w w') := fun w S g m i s hg hm hi hs h =>
    Write_calm w h hg.ok (by omega) hg.up hg.set i hi s hs
  have CW : Hid (∀ s w, s.size ≤ 64 → Calls Try.prog 9 #[.string s] w fun e w' => e = .returned (.string (pad s)) ∧ w' = w) := fun s w h => whole_any _ w (by omega)
  have HB : Hid (B ≤ w.heap.size) := Nat.le_of_eq hB
  have cellL : ∀ (wr : World) k, Below B w wr → k < ll → ∃ b off, al = some ⟨b, off, none⟩ ∧ wr.cell? ⟨b, off + k, none⟩ = some (.string (fl k)) := fun wr k hb hk => by
    obtain ⟨b, off, h1, h2, h3⟩ := hl k hk
    exact ⟨b, off, h1, (hb.cell (by rw [hB]; exact h2)).trans h3⟩
  have cellM : ∀ (wr : World) k, Below B w wr → k < lm → ∃ b off, am = some ⟨b, off, none⟩ ∧ wr.cell? ⟨b, off + k, none⟩ = some (.string (fm k)) := fun wr k hb hk => by
    obtain ⟨b, off, h1, h2, h3⟩ := hm k hk
    exact ⟨b, off, h1, (hb.cell (by rw [hB]; exact h2)).trans h3⟩
  have HL : Hid _ := cellL
  have HM : Hid _ := cellM
  have g0 : Hid (G 0 true (newDk 40)) := G.new (by omega) (by omega)
  rw [← hB]
  clear hB cellL cellM hl hm
  go_enter Try.func4, Try.ntmps4
  go_wp2_with (go_at_call 8; refine C0.out.mono ?_; rintro e w1 ⟨rfl, hD0, hb0⟩)
  go_loopw [9] (fun kv wr => ∃ (k : Nat) (S : Dk), kv = .int .i64 (k : Int) ∧ k ≤ 40 ∧ DkIs wr (B + 2) B (B + 1) k S ∧ Hid (G (k : Int) true S ∧ S.n = 40 ∧ ∀ i, S.now i = st1 fl ll k i) ∧ Below B w wr) (fun kv _ => 40 - (intOf kv).toNat)
  case atStart =>
    refine ⟨0, newDk 40, rfl, by omega, hD0, ⟨g0.out, rfl, fun i => ?_⟩, hb0⟩
    simp [st1, Dk.now, newDk]
  case round =>
    obtain ⟨k, S, rfl, hk, hD, hP, hb⟩ := hrel
    by_cases hgo : k < ll ∧ k < 40
    · obtain ⟨hkl, hk4⟩ := hgo
      have i1 : (k : Int) < (ll : Int) := by omega
      have i2 : (k : Int) < 40 := by omega
      obtain ⟨b, off, rfl, hc⟩ := HL.out wr k hb hkl
      obtain ⟨s, hs⟩ : ∃ s, s = fl k := ⟨_, rfl⟩
      rw [← hs] at hc
      have HS : Hid _ := hs
      clear hs
      by_cases hz : s.size ≤ 64
      · have i3 : (s.size : Int) ≤ 64 := by omega
        have hn : k < S.n := by rw [hP.out.2.1]; exact hk4
        have HN : Hid _ := hn
        clear hn
        go_wp2_with (go_at_call 16; refine (C1.out _ _ _ _ _ _ hP.out.1 (by omega) HN.out hz hD).mono ?_; rintro e w2 ⟨rfl, hD2, ho⟩; have hb2 := below_step hb HB.out ho)
        refine ⟨⟨k + 1, _, by simp, by omega, hD2, ⟨by have := hP.out.1.wr (by omega) HN.out hz; simpa using this, hP.out.2.1, fun i => ?_⟩, hb2⟩, by simp [intOf]; omega⟩
        rw [now_wr, hP.out.2.2, st1_write hkl (by rw [← HS.out]; exact hz), HS.out]
      · have i3 : ¬ (s.size : Int) ≤ 64 := by omega
        go_wp2
        refine ⟨⟨k + 1, S, by simp, by omega, hD.mono (by omega), ⟨hP.out.1.mono (by omega), hP.out.2.1, fun i => ?_⟩, hb⟩, by simp [intOf]; omega⟩
        rw [hP.out.2.2, st1_skip (by rw [← HS.out]; exact hz)]
    · have hend : ll ≤ k ∨ 40 ≤ k := by omega
      have P2 : Hid (Sec2 fl fm ll lm (synDk S)) := by
        show Sec2 fl fm ll lm (synDk S)
        exact ⟨hP.out.2.1, fun i hi => by show S.now i = _; rw [hP.out.2.2, st1_end hend i hi], fun i c h => by cases h⟩
      have hG2 : Hid (G ((k : Int) + 1) true (synDk S)) := hP.out.1.syn (by omega)
      have CS : Hid (∀ w, DkIs w (B + 2) B (B + 1) k S → Calls Try.prog 17 #[.pointer (some ⟨B + 2, 0, none⟩)] w fun e w' => e = .returned (.int .i64 0) ∧ DkIs w' (B + 2) B (B + 1) k (synDk S) ∧ Off (disk3 (B + 2) B (B + 1)) w w') := fun w h => Sync_calm w h hP.out.1 (by omega)
      obtain ⟨T, hT⟩ : ∃ T, T = synDk S := ⟨_, rfl⟩
      rw [← hT] at P2 hG2 CS
      obtain ⟨i1, i2⟩ : (k : Int) < (ll : Int) ∧ (40 : Int) ≤ (k : Int) := by omega
      clear hT hgo hend g0 hD0
      all_goals (
        go_wp2_with (go_at_call 17; refine (CS.out _ hD).mono ?_; rintro e w2 ⟨rfl, hD2, ho⟩; have hb2 := below_step hb HB.out ho)
        go_loopw [10] (fun kv wr => ∃ (k : Nat) (S : Dk), kv = .int .i64 (k : Int) ∧ k ≤ 40 ∧ DkIs wr (B + 2) B (B + 1) (40 + k) S ∧ Hid (G ((41 : Int) + (k : Int)) true S ∧ Sec2 fl fm ll lm S) ∧ Below B w wr) (fun kv _ => 40 - (intOf kv).toNat)
        case atStart => exact ⟨0, T, rfl, by omega, hD2.mono (by omega), ⟨hG2.out.mono (by omega), P2.out⟩, hb2⟩
        case round =>
          clear hb hD hP hb2 hD2 ho CS P2 hG2 i1
          obtain ⟨j, U, rfl, hj, hD, hP, hb⟩ := hrel
          by_cases hgo : j < lm ∧ j < 40
          · obtain ⟨hjl, hj4⟩ := hgo
            have j1 : (j : Int) < (lm : Int) := by omega
            have j2 : (j : Int) < 40 := by omega
            obtain ⟨b, off, rfl, hc⟩ := HM.out wr j hb hjl
            obtain ⟨s, hs⟩ : ∃ s, s = fm j := ⟨_, rfl⟩
            rw [← hs] at hc
            have HS : Hid _ := hs
            clear hs
            by_cases hz : s.size ≤ 64
            · have j3 : (s.size : Int) ≤ 64 := by omega
              have HN : Hid (j < U.n) := by
                show j < U.n
                rw [hP.out.2.n]; exact hj4
              go_wp2_with (go_at_call 16; refine (C1.out _ _ _ _ _ _ hP.out.1 (by omega) HN.out hz hD).mono ?_; rintro e w2 ⟨rfl, hD2, ho⟩; have hb2 := below_step hb HB.out ho)
              refine ⟨⟨j + 1, _, by simp, by omega, hD2, ⟨(hP.out.1.wr (by omega) HN.out hz).mono (by omega), ?_⟩, hb2⟩, by simp [intOf]; omega⟩
              have := hP.out.2.wr hjl (by rw [← HS.out]; exact hz)
              rw [← HS.out] at this
              exact this
            · have j3 : ¬ (s.size : Int) ≤ 64 := by omega
              go_wp2
              exact ⟨⟨j + 1, U, by simp, by omega, hD.mono (by omega), ⟨hP.out.1.mono (by omega), hP.out.2⟩, hb⟩, by simp [intOf]; omega⟩
          · have CX : Hid (∀ w, DkIs w (B + 2) B (B + 1) (40 + j) U → Calls Try.prog 18 #[.pointer (some ⟨B + 2, 0, none⟩), .int .u64 x] w fun e w' => e = .returned (.int .i64 0) ∧ DkIs w' (B + 2) B (B + 1) 0 (offDk U x) ∧ Off (disk3 (B + 2) B (B + 1)) w w') := fun w h =>
              Crash_any w h hP.out.1.ok (by omega) hP.out.1.up x x0 x1
            have CY : Hid (∀ w, DkIs w (B + 2) B (B + 1) 0 (offDk U x) → Calls Try.prog 19 #[.pointer (some ⟨B + 2, 0, none⟩)] w fun e w' => e = .returned (.int .i64 0) ∧ DkIs w' (B + 2) B (B + 1) 0 (upOff U x) ∧ Off (disk3 (B + 2) B (B + 1)) w w') := fun w h =>
              Start_down w h hP.out.1.ok.n1 rfl
            obtain ⟨V, hV⟩ : ∃ V, V = upOff U x := ⟨_, rfl⟩
            rw [← hV] at CY
            have P3 : Hid (∀ i, i < 40 → V.now i = baseF fl ll i ∨ (i < lm ∧ (fm i).size ≤ 64 ∧ V.now i = pad (fm i))) := fun i hi => by rw [hV]; exact hP.out.2.loss x i hi
            have G3 : Hid (G ((41 : Int) + (j : Int) + 1) true V) := by
              show G ((41 : Int) + (j : Int) + 1) true V
              rw [hV]; exact hP.out.1.upOff (by omega) x
            have N3 : Hid (V.n = 40) := by
              show V.n = 40
              rw [hV]; exact hP.out.2.n
            have j1 : (lm : Int) ≤ (j : Int) := by omega
            clear hV hgo
            all_goals (
              go_wp2_with (first | (go_at_call 18; refine (CX.out _ hD).mono ?_; rintro e w2 ⟨rfl, hD2, ho⟩; have hb2 := below_step hb HB.out ho) | (go_at_call 19; refine (CY.out _ hD2).mono ?_; rintro e w3 ⟨rfl, hD3, ho3⟩; have hb3 := below_step hb2 HB.out ho3))
              go_loopw [11] (fun kv wr => ∃ (k : Nat), kv = .int .i64 (k : Int) ∧ k ≤ 40 ∧ DkIs wr (B + 2) B (B + 1) 0 V ∧ Below B w wr) (fun kv _ => 40 - (intOf kv).toNat)
              case atStart => exact ⟨0, rfl, by omega, hD3, hb3⟩
              case round =>
                clear hb hD hP hb2 hD2 ho ho3 CX CY j1 hD3 hb3
                obtain ⟨q, rfl, hq, hD, hb⟩ := hrel
                by_cases hgo : q < 40
                · have q1 : (q : Int) < 40 := by omega
                  obtain ⟨s, hs⟩ : ∃ s, s = V.now q := ⟨_, rfl⟩
                  have CR : Hid (∀ w, DkIs w (B + 2) B (B + 1) 0 V → Calls Try.prog 20 #[.pointer (some ⟨B + 2, 0, none⟩), .int .i64 (q : Int)] w fun e w' => e = .returned (.tuple #[.string s, .int .i64 0]) ∧ Below w.heap.size w w') := fun w h => by
                    rw [hs]; exact Read_any w h G3.out.ok q (by rw [N3.out]; exact hgo) G3.out.up
                  have hE := P3.out q hgo
                  rw [← hs] at hE
                  obtain ⟨s1, hs1⟩ : ∃ s1, s1 = fl q := ⟨_, rfl⟩
                  obtain ⟨s2, hs2⟩ : ∃ s2, s2 = fm q := ⟨_, rfl⟩
                  have hbase : baseF fl ll q = if q < ll ∧ s1.size ≤ 64 then pad s1 else pad ⟨#[]⟩ := by rw [hs1]; rfl
                  rw [hbase, ← hs2] at hE
                  have HCL : Hid (q < ll → ∃ b off, al = some ⟨b, off, none⟩ ∧ ∀ wr', Below B w wr' → wr'.cell? ⟨b, off + q, none⟩ = some (.string s1)) := fun hql => by
                    obtain ⟨b, off, h1, _⟩ := HL.out wr q hb hql
                    refine ⟨b, off, h1, fun wr' hb' => ?_⟩
                    obtain ⟨b', off', h1', h2'⟩ := HL.out wr' q hb' hql
                    rw [h1] at h1'
                    cases h1'
                    rw [hs1]; exact h2'
                  have HCM : Hid (q < lm → ∃ b off, am = some ⟨b, off, none⟩ ∧ ∀ wr', Below B w wr' → wr'.cell? ⟨b, off + q, none⟩ = some (.string s2)) := fun hql => by
                    obtain ⟨b, off, h1, _⟩ := HM.out wr q hb hql
                    refine ⟨b, off, h1, fun wr' hb' => ?_⟩
                    obtain ⟨b', off', h1', h2'⟩ := HM.out wr' q hb' hql
                    rw [h1] at h1'
                    cases h1'
                    rw [hs2]; exact h2'
                  clear hs hs1 hs2 hbase hgo
                  have h1 : (¬ q < ll) ∨ (q < ll ∧ ¬ s1.size ≤ 64) ∨ (q < ll ∧ s1.size ≤ 64) := by omega
                  have h2 : (¬ q < lm) ∨ (q < lm ∧ ¬ s2.size ≤ 64) ∨ (q < lm ∧ s2.size ≤ 64) := by omega
                  have hW : ∃ p, p = (if q < ll ∧ s1.size ≤ 64 then pad s1 else pad ⟨#[]⟩) := ⟨_, rfl⟩
                  rcases h1 with h1 | ⟨h1, h1z⟩ | ⟨h1, h1z⟩
                  · rw [if_neg (by omega)] at hE
                    have i1 : ¬ (q : Int) < (ll : Int) := by omega
                    clear HCL hW
                    rcases h2 with h2 | ⟨h2, h2z⟩ | ⟨h2, h2z⟩
                    · obtain rfl : s = pad ⟨#[]⟩ := by rcases hE with h | h; exact h; omega
                      have i2 : ¬ (q : Int) < (lm : Int) := by omega
                      clear HCM hE
                      go_wp2_with (first | (go_at_call 20; refine (CR.out _ hD).mono ?_; rintro e w2 ⟨rfl, hr⟩; have hD2 := hD.below hr; have hb2 := hb.trans (hr.mono (Nat.le_trans HB.out hb.size)); (try have hc1 := HCA.out w2 hb2); (try have hc2 := HCB.out w2 hb2)) | (go_at_call 9; refine (CW.out _ _ (by first | decide | assumption)).mono ?_; rintro e w3 ⟨rfl, hw3⟩; subst hw3))
                      all_goals exact ⟨⟨q + 1, by simp, by omega, hD2, hb2⟩, by simp [intOf]; omega⟩
                    · obtain rfl : s = pad ⟨#[]⟩ := by rcases hE with h | h; exact h; omega
                      have i2 : (q : Int) < (lm : Int) := by omega
                      have i2z : ¬ (s2.size : Int) ≤ 64 := by omega
                      obtain ⟨b2, o2, rfl, hcm⟩ := HCM.out h2
                      have HCB : Hid _ := hcm
                      clear HCM hE hcm
                      go_wp2_with (first | (go_at_call 20; refine (CR.out _ hD).mono ?_; rintro e w2 ⟨rfl, hr⟩; have hD2 := hD.below hr; have hb2 := hb.trans (hr.mono (Nat.le_trans HB.out hb.size)); (try have hc1 := HCA.out w2 hb2); (try have hc2 := HCB.out w2 hb2)) | (go_at_call 9; refine (CW.out _ _ (by first | decide | assumption)).mono ?_; rintro e w3 ⟨rfl, hw3⟩; subst hw3))
                      all_goals exact ⟨⟨q + 1, by simp, by omega, hD2, hb2⟩, by simp [intOf]; omega⟩
                    · have i2 : (q : Int) < (lm : Int) := by omega
                      have i2z : (s2.size : Int) ≤ 64 := by omega
                      obtain ⟨b2, o2, rfl, hcm⟩ := HCM.out h2
                      have HCB : Hid _ := hcm
                      clear HCM hcm
                      rcases hE with rfl | ⟨_, _, rfl⟩
                      · go_wp2_with (first | (go_at_call 20; refine (CR.out _ hD).mono ?_; rintro e w2 ⟨rfl, hr⟩; have hD2 := hD.below hr; have hb2 := hb.trans (hr.mono (Nat.le_trans HB.out hb.size)); (try have hc1 := HCA.out w2 hb2); (try have hc2 := HCB.out w2 hb2)) | (go_at_call 9; refine (CW.out _ _ (by first | decide | assumption)).mono ?_; rintro e w3 ⟨rfl, hw3⟩; subst hw3))
                        all_goals exact ⟨⟨q + 1, by simp, by omega, hD2, hb2⟩, by simp [intOf]; omega⟩
                      · cases hbe : ((pad s2).toList == (pad ⟨#[]⟩).toList)
                        · go_wp2_with (first | (go_at_call 20; refine (CR.out _ hD).mono ?_; rintro e w2 ⟨rfl, hr⟩; have hD2 := hD.below hr; have hb2 := hb.trans (hr.mono (Nat.le_trans HB.out hb.size)); (try have hc1 := HCA.out w2 hb2); (try have hc2 := HCB.out w2 hb2)) | (go_at_call 9; refine (CW.out _ _ (by first | decide | assumption)).mono ?_; rintro e w3 ⟨rfl, hw3⟩; subst hw3))
                          all_goals exact ⟨⟨q + 1, by simp, by omega, hD2, hb2⟩, by simp [intOf]; omega⟩
                        · go_wp2_with (first | (go_at_call 20; refine (CR.out _ hD).mono ?_; rintro e w2 ⟨rfl, hr⟩; have hD2 := hD.below hr; have hb2 := hb.trans (hr.mono (Nat.le_trans HB.out hb.size)); (try have hc1 := HCA.out w2 hb2); (try have hc2 := HCB.out w2 hb2)) | (go_at_call 9; refine (CW.out _ _ (by first | decide | assumption)).mono ?_; rintro e w3 ⟨rfl, hw3⟩; subst hw3))
                          all_goals exact ⟨⟨q + 1, by simp, by omega, hD2, hb2⟩, by simp [intOf]; omega⟩
                  · rw [if_neg (by omega)] at hE
                    have i1 : (q : Int) < (ll : Int) := by omega
                    have i1z : ¬ (s1.size : Int) ≤ 64 := by omega
                    obtain ⟨b1, o1, rfl, hcl⟩ := HCL.out h1
                    have HCA : Hid _ := hcl
                    clear HCL hW hcl
                    rcases h2 with h2 | ⟨h2, h2z⟩ | ⟨h2, h2z⟩
                    · obtain rfl : s = pad ⟨#[]⟩ := by rcases hE with h | h; exact h; omega
                      have i2 : ¬ (q : Int) < (lm : Int) := by omega
                      clear HCM hE
                      go_wp2_with (first | (go_at_call 20; refine (CR.out _ hD).mono ?_; rintro e w2 ⟨rfl, hr⟩; have hD2 := hD.below hr; have hb2 := hb.trans (hr.mono (Nat.le_trans HB.out hb.size)); (try have hc1 := HCA.out w2 hb2); (try have hc2 := HCB.out w2 hb2)) | (go_at_call 9; refine (CW.out _ _ (by first | decide | assumption)).mono ?_; rintro e w3 ⟨rfl, hw3⟩; subst hw3))
                      all_goals exact ⟨⟨q + 1, by simp, by omega, hD2, hb2⟩, by simp [intOf]; omega⟩
                    · obtain rfl : s = pad ⟨#[]⟩ := by rcases hE with h | h; exact h; omega
                      have i2 : (q : Int) < (lm : Int) := by omega
                      have i2z : ¬ (s2.size : Int) ≤ 64 := by omega
                      obtain ⟨b2, o2, rfl, hcm⟩ := HCM.out h2
                      have HCB : Hid _ := hcm
                      clear HCM hE hcm
                      go_wp2_with (first | (go_at_call 20; refine (CR.out _ hD).mono ?_; rintro e w2 ⟨rfl, hr⟩; have hD2 := hD.below hr; have hb2 := hb.trans (hr.mono (Nat.le_trans HB.out hb.size)); (try have hc1 := HCA.out w2 hb2); (try have hc2 := HCB.out w2 hb2)) | (go_at_call 9; refine (CW.out _ _ (by first | decide | assumption)).mono ?_; rintro e w3 ⟨rfl, hw3⟩; subst hw3))
                      all_goals exact ⟨⟨q + 1, by simp, by omega, hD2, hb2⟩, by simp [intOf]; omega⟩
                    · have i2 : (q : Int) < (lm : Int) := by omega
                      have i2z : (s2.size : Int) ≤ 64 := by omega
                      obtain ⟨b2, o2, rfl, hcm⟩ := HCM.out h2
                      have HCB : Hid _ := hcm
                      clear HCM hcm
                      rcases hE with rfl | ⟨_, _, rfl⟩
                      · go_wp2_with (first | (go_at_call 20; refine (CR.out _ hD).mono ?_; rintro e w2 ⟨rfl, hr⟩; have hD2 := hD.below hr; have hb2 := hb.trans (hr.mono (Nat.le_trans HB.out hb.size)); (try have hc1 := HCA.out w2 hb2); (try have hc2 := HCB.out w2 hb2)) | (go_at_call 9; refine (CW.out _ _ (by first | decide | assumption)).mono ?_; rintro e w3 ⟨rfl, hw3⟩; subst hw3))
                        all_goals exact ⟨⟨q + 1, by simp, by omega, hD2, hb2⟩, by simp [intOf]; omega⟩
                      · cases hbe : ((pad s2).toList == (pad ⟨#[]⟩).toList)
                        · go_wp2_with (first | (go_at_call 20; refine (CR.out _ hD).mono ?_; rintro e w2 ⟨rfl, hr⟩; have hD2 := hD.below hr; have hb2 := hb.trans (hr.mono (Nat.le_trans HB.out hb.size)); (try have hc1 := HCA.out w2 hb2); (try have hc2 := HCB.out w2 hb2)) | (go_at_call 9; refine (CW.out _ _ (by first | decide | assumption)).mono ?_; rintro e w3 ⟨rfl, hw3⟩; subst hw3))
                          all_goals exact ⟨⟨q + 1, by simp, by omega, hD2, hb2⟩, by simp [intOf]; omega⟩
                        · go_wp2_with (first | (go_at_call 20; refine (CR.out _ hD).mono ?_; rintro e w2 ⟨rfl, hr⟩; have hD2 := hD.below hr; have hb2 := hb.trans (hr.mono (Nat.le_trans HB.out hb.size)); (try have hc1 := HCA.out w2 hb2); (try have hc2 := HCB.out w2 hb2)) | (go_at_call 9; refine (CW.out _ _ (by first | decide | assumption)).mono ?_; rintro e w3 ⟨rfl, hw3⟩; subst hw3))
                          all_goals exact ⟨⟨q + 1, by simp, by omega, hD2, hb2⟩, by simp [intOf]; omega⟩
                  · rw [if_pos ⟨h1, h1z⟩] at hE
                    have i1 : (q : Int) < (ll : Int) := by omega
                    have i1z : (s1.size : Int) ≤ 64 := by omega
                    obtain ⟨b1, o1, rfl, hcl⟩ := HCL.out h1
                    have HCA : Hid _ := hcl
                    clear HCL hW hcl
                    rcases h2 with h2 | ⟨h2, h2z⟩ | ⟨h2, h2z⟩
                    · obtain rfl : s = pad s1 := by rcases hE with h | h; exact h; omega
                      have i2 : ¬ (q : Int) < (lm : Int) := by omega
                      clear HCM hE
                      go_wp2_with (first | (go_at_call 20; refine (CR.out _ hD).mono ?_; rintro e w2 ⟨rfl, hr⟩; have hD2 := hD.below hr; have hb2 := hb.trans (hr.mono (Nat.le_trans HB.out hb.size)); (try have hc1 := HCA.out w2 hb2); (try have hc2 := HCB.out w2 hb2)) | (go_at_call 9; refine (CW.out _ _ (by first | decide | assumption)).mono ?_; rintro e w3 ⟨rfl, hw3⟩; subst hw3))
                      all_goals exact ⟨⟨q + 1, by simp, by omega, hD2, hb2⟩, by simp [intOf]; omega⟩
                    · obtain rfl : s = pad s1 := by rcases hE with h | h; exact h; omega
                      have i2 : (q : Int) < (lm : Int) := by omega
                      have i2z : ¬ (s2.size : Int) ≤ 64 := by omega
                      obtain ⟨b2, o2, rfl, hcm⟩ := HCM.out h2
                      have HCB : Hid _ := hcm
                      clear HCM hE hcm
                      go_wp2_with (first | (go_at_call 20; refine (CR.out _ hD).mono ?_; rintro e w2 ⟨rfl, hr⟩; have hD2 := hD.below hr; have hb2 := hb.trans (hr.mono (Nat.le_trans HB.out hb.size)); (try have hc1 := HCA.out w2 hb2); (try have hc2 := HCB.out w2 hb2)) | (go_at_call 9; refine (CW.out _ _ (by first | decide | assumption)).mono ?_; rintro e w3 ⟨rfl, hw3⟩; subst hw3))
                      all_goals exact ⟨⟨q + 1, by simp, by omega, hD2, hb2⟩, by simp [intOf]; omega⟩
                    · have i2 : (q : Int) < (lm : Int) := by omega
                      have i2z : (s2.size : Int) ≤ 64 := by omega
                      obtain ⟨b2, o2, rfl, hcm⟩ := HCM.out h2
                      have HCB : Hid _ := hcm
                      clear HCM hcm
                      rcases hE with rfl | ⟨_, _, rfl⟩
                      · go_wp2_with (first | (go_at_call 20; refine (CR.out _ hD).mono ?_; rintro e w2 ⟨rfl, hr⟩; have hD2 := hD.below hr; have hb2 := hb.trans (hr.mono (Nat.le_trans HB.out hb.size)); (try have hc1 := HCA.out w2 hb2); (try have hc2 := HCB.out w2 hb2)) | (go_at_call 9; refine (CW.out _ _ (by first | decide | assumption)).mono ?_; rintro e w3 ⟨rfl, hw3⟩; subst hw3))
                        all_goals exact ⟨⟨q + 1, by simp, by omega, hD2, hb2⟩, by simp [intOf]; omega⟩
                      · cases hbe : ((pad s2).toList == (pad s1).toList)
                        · go_wp2_with (first | (go_at_call 20; refine (CR.out _ hD).mono ?_; rintro e w2 ⟨rfl, hr⟩; have hD2 := hD.below hr; have hb2 := hb.trans (hr.mono (Nat.le_trans HB.out hb.size)); (try have hc1 := HCA.out w2 hb2); (try have hc2 := HCB.out w2 hb2)) | (go_at_call 9; refine (CW.out _ _ (by first | decide | assumption)).mono ?_; rintro e w3 ⟨rfl, hw3⟩; subst hw3))
                          all_goals exact ⟨⟨q + 1, by simp, by omega, hD2, hb2⟩, by simp [intOf]; omega⟩
                        · go_wp2_with (first | (go_at_call 20; refine (CR.out _ hD).mono ?_; rintro e w2 ⟨rfl, hr⟩; have hD2 := hD.below hr; have hb2 := hb.trans (hr.mono (Nat.le_trans HB.out hb.size)); (try have hc1 := HCA.out w2 hb2); (try have hc2 := HCB.out w2 hb2)) | (go_at_call 9; refine (CW.out _ _ (by first | decide | assumption)).mono ?_; rintro e w3 ⟨rfl, hw3⟩; subst hw3))
                          all_goals exact ⟨⟨q + 1, by simp, by omega, hD2, hb2⟩, by simp [intOf]; omega⟩
                · have q1 : ¬ (q : Int) < 40 := by omega
                  go_wp2_with (go_at_call 7; refine (awake_any _).mono ?_; rintro e w3 ⟨rfl, hr⟩; have hb2 := hb.trans (hr.mono (Nat.le_trans HB.out hb.size)))
                  go_ret
                  exact ⟨rfl, hb2⟩))
end Go.Proofs.Ytoafoopenmppgaa
