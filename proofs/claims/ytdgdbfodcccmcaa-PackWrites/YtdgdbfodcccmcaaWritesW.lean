/- PackWrites: the walk: whatever a writer is given, the law returns true. -/
import Derived.Test.YtdgdbfodcccmcaaItems
import Derived.Deep.RegionHeld3
namespace Go.Proofs.Ytdgdbfodcccmcaa
open Go.RowKit
set_option linter.unusedVariables false
set_option linter.unusedSimpArgs false
set_option maxRecDepth 100000

theorem keepw_off {c : Nat} {w w' : World} {p : Addr} {v : Value} (h : Off c w w') (hp : p.block < w.heap.size) (hn : p.block ≠ c) (hv : w.cell? p = some v) : w'.cell? p = some v := (World.cell?_of_block (w := w) (h.block p.block hp hn)).trans hv
theorem keepw_below {w w' : World} {p : Addr} {v : Value} (h : Below w.heap.size w w') (hp : p.block < w.heap.size) (hv : w.cell? p = some v) : w'.cell? p = some v := (h.cell hp).trans hv
theorem Offw.of_drew {b : Nat} {w w' : World} (h : Off b w.drew w') : Off b w w' := ⟨h.os, h.tape, h.output, h.size, h.block⟩
theorem Beloww.of_drew {w w' : World} (h : Below w.drew.heap.size w.drew w') : Below w.heap.size w w' := ⟨h.os, h.tape, h.output, h.size, h.block⟩
theorem writes_start (w : World) : WrIs (w.alloc (.cells #[.pointer none, .int .i64 0, .int .i64 0] 33)) w.heap.size ⟨#[]⟩ 0 :=
  ⟨none, [], (MapKept.heap_alloc w _).1, rfl, rfl⟩

set_option maxHeartbeats 8000000 in
theorem writes_walk (ao : Option Addr) (len cap : Nat) (f : Nat → Int × Int × ByteArray) (w : World) (ho : IsItems w ao len f) :
    Calls Try.prog 5 #[.slice ao len cap] w fun e w' => e = .returned (.bool true) ∧ Below w.heap.size w w' := by
  have HO : Hid _ := ho
  have ST : Hid _ := writes_start w
  clear ho
  go_enter Try.func5, Try.ntmps5
  go_wp2
  go_loopw [4, 5, 6] (fun al fi i wr => ∃ (k : Nat) (A : ByteArray) (F : Int), k ≤ len ∧ k ≤ 60 ∧ i = .int .i64 k ∧ al = .string A ∧ fi = .int .i64 F ∧ WrIs wr w.heap.size A F ∧ A.size ≤ 65537 * k ∧ Below w.heap.size w wr) (fun _ _ i _ => 60 - (intOf i).toNat)
  case atStart => exact ⟨0, ⟨#[]⟩, 0, Nat.zero_le _, Nat.zero_le _, rfl, rfl, rfl, ST.out, Nat.zero_le _, (Below.refl _ _).alloc (Nat.le_refl _) _⟩
  case round =>
    obtain ⟨k, A, F, hk, hk2, rfl, rfl, rfl, hwr, hA, hbel⟩ := hrel
    by_cases hlt : k < len
    · by_cases hlt2 : k < 60
      · obtain ⟨b, off, rfl, hb, hc0, hc1, hc2⟩ := HO.out k hlt
        have hq0 : wr.cell? ⟨b, off + k * 3, none⟩ = some (.int .i64 (f k).1) := (hbel.cell (by exact hb)).trans hc0
        have hq1 : wr.cell? ⟨b, off + k * 3 + 1, none⟩ = some (.int .i64 (f k).2.1) := (hbel.cell (by exact hb)).trans hc1
        have hq2 : wr.cell? ⟨b, off + k * 3 + 2, none⟩ = some (.string (f k).2.2) := (hbel.cell (by exact hb)).trans hc2
        clear hc0 hc1 hc2 HO ST
        generalize (f k).1 = nn at hq0
        generalize (f k).2.1 = kk at hq1
        generalize (f k).2.2 = tt at hq2
        clear f
        have hne : b ≠ w.heap.size := by omega
        have hSz : w.heap.size ≤ wr.heap.size := hbel.size
        have hbl : b < wr.heap.size := by omega
        by_cases h0 : kk = 0
        · subst h0
          have c1 := fun w1 h => WText_all w.heap.size A F tt w1 h (by omega)
          have c2 := fun w1 => text_all A tt w1 (by omega)
          have hle := textV_le A tt
          obtain ⟨A', F', hp⟩ : ∃ A' F', textV A tt = (A', F') := ⟨_, _, rfl⟩
          rw [hp] at c2 hle
          dsimp only at c2 hle
          by_cases hF : F = 0
          · subst hF
            rw [textV_lay A tt, hp] at c1
            dsimp only at c1
            have C1 : Hid _ := c1
            have C2 : Hid _ := c2
            clear c1 c2 hp
            by_cases hF' : F' = 0
            · subst hF'
              go_wp2_with (first | (go_at_call 14; refine (C1.out _ hwr).mono ?_; rintro _ w1 ⟨rfl, hwr1, o1⟩; have hq2' := keepw_off o1 hbl hne hq2; have hq1' := keepw_off o1 hbl hne hq1) | (go_at_call 13; refine (C2.out _).mono ?_; rintro _ w2 ⟨rfl, hb2⟩; have hwr2 := hwr1.below hb2; have hbb := (hbel.trans (o1.below (Nat.le_refl _) hSz)).trans (hb2.mono (Nat.le_trans hSz o1.size)); have hs2 := Nat.le_trans o1.size hb2.size) | (go_at_call 16; refine (All_any w.heap.size A' _ hwr2 (by omega)).mono ?_; rintro _ w3 ⟨rfl, hb3⟩))
              go_roundw
              case rel => exact ⟨k + 1, A', 0, by omega, by omega, by go_num, rfl, rfl, hwr2.below hb3, by omega, hbb.trans (hb3.mono (Nat.le_trans hSz hs2))⟩
              case measure => simp [intOf]; omega
            · have hF1 : (F' == 0) = false := by simpa using hF'
              have hF2 : (F' != 0) = true := by simpa using hF'
              have hA' : A' = ⟨#[]⟩ := hle.2 hF'
              subst hA'
              have hA0 : (⟨#[]⟩ : ByteArray).size ≤ 65537 * (k + 1) := Nat.zero_le _
              go_wp2_with (first | (go_at_call 14; refine (C1.out _ hwr).mono ?_; rintro _ w1 ⟨rfl, hwr1, o1⟩; have hq2' := keepw_off o1 hbl hne hq2; have hq1' := keepw_off o1 hbl hne hq1) | (go_at_call 13; refine (C2.out _).mono ?_; rintro _ w2 ⟨rfl, hb2⟩; have hwr2 := hwr1.below hb2; have hbb := (hbel.trans (o1.below (Nat.le_refl _) hSz)).trans (hb2.mono (Nat.le_trans hSz o1.size)); have hs2 := Nat.le_trans o1.size hb2.size) | (go_at_call 16; refine (All_err w.heap.size ⟨#[]⟩ F' _ hwr2 hF').mono ?_; rintro _ w3 ⟨rfl, hb3⟩))
              go_roundw
              case rel => exact ⟨k + 1, ⟨#[]⟩, F', by omega, by omega, by go_num, rfl, rfl, hwr2.below hb3, hA0, hbb.trans (hb3.mono (Nat.le_trans hSz hs2))⟩
              case measure => simp [intOf]; omega
          · have hF1 : (F == 0) = false := by simpa using hF
            have hF2 : (F != 0) = true := by simpa using hF
            have e1 : wrLay A F (textV ⟨#[]⟩ tt).1 (textV ⟨#[]⟩ tt).2 = (A, F) := wrLay_had hF
            rw [e1] at c1
            dsimp only at c1
            have C1 : Hid _ := c1
            have C2 : Hid _ := c2
            clear c1 c2 hp e1
            go_wp2_with (first | (go_at_call 14; refine (C1.out _ hwr).mono ?_; rintro _ w1 ⟨rfl, hwr1, o1⟩; have hq2' := keepw_off o1 hbl hne hq2; have hq1' := keepw_off o1 hbl hne hq1) | (go_at_call 13; refine (C2.out _).mono ?_; rintro _ w2 ⟨rfl, hb2⟩; have hwr2 := hwr1.below hb2; have hbb := (hbel.trans (o1.below (Nat.le_refl _) hSz)).trans (hb2.mono (Nat.le_trans hSz o1.size)); have hs2 := Nat.le_trans o1.size hb2.size) | (go_at_call 16; refine (All_err w.heap.size A F _ hwr2 hF).mono ?_; rintro _ w3 ⟨rfl, hb3⟩))
            go_roundw
            case rel => exact ⟨k + 1, A, F, by omega, by omega, by go_num, rfl, rfl, hwr2.below hb3, by omega, hbb.trans (hb3.mono (Nat.le_trans hSz hs2))⟩
            case measure => simp [intOf]; omega
        · have h0' : (kk == 0) = false := by simpa using h0
          have c1 := fun w1 h => WNum_any w.heap.size A F nn kk w1 h (by omega)
          have c2 := fun w1 => put_any A nn kk w1 (by omega)
          have hle := putV_le A nn kk
          obtain ⟨A', F', hp⟩ : ∃ A' F', putV A nn kk = (A', F') := ⟨_, _, rfl⟩
          rw [hp] at c2 hle
          dsimp only at c2 hle
          by_cases hF : F = 0
          · subst hF
            rw [putV_lay A nn kk, hp] at c1
            dsimp only at c1
            have C1 : Hid _ := c1
            have C2 : Hid _ := c2
            clear c1 c2 hp
            by_cases hF' : F' = 0
            · subst hF'
              go_wp2
              go_region_held3 (fun w' => w'.cell? ⟨b, off + k * 3, none⟩ = some (.int .i64 nn) ∧ w'.cell? ⟨b, off + k * 3 + 1, none⟩ = some (.int .i64 kk)) (first | exact keep1 | exact ⟨hq0, hq1⟩ | go_keep) (first | (go_at_call 15; refine (C1.out _ ?_).mono ?_; exact hwr.below (Below.refl _ _).drew; rintro _ w1 ⟨rfl, hwr1, o0⟩; have o1 := Offw.of_drew o0; clear o0; have keep1 := And.intro (keepw_off o1 hbl hne hq0) (keepw_off o1 hbl hne hq1)))
              have hb1 : b < w1.heap.size := Nat.lt_of_lt_of_le hbl o1.size
              go_wp2
              go_region_held3 (fun w' => w'.cell? ⟨b, off + k * 3, none⟩ = some (.int .i64 nn) ∧ w'.cell? ⟨b, off + k * 3 + 1, none⟩ = some (.int .i64 kk)) (first | exact keep2 | exact keep1 | go_keep) (first | (go_at_call 10; refine (C2.out _).mono ?_; rintro _ w2 ⟨rfl, hb0⟩; have hb2 := Beloww.of_drew hb0; clear hb0; have keep2 := And.intro (keepw_below hb2 hb1 keep1.1) (keepw_below hb2 hb1 keep1.2)))
              have hwr2 := hwr1.below hb2
              have hbb := (hbel.trans (o1.below (Nat.le_refl _) hSz)).trans (hb2.mono (Nat.le_trans hSz o1.size))
              have hs2 := Nat.le_trans o1.size hb2.size
              clear keep1 keep2 hq0 hq1 hq2
              go_wp2_with (go_at_call 16; refine (All_any w.heap.size A' _ hwr2 (by omega)).mono ?_; rintro _ w3 ⟨rfl, hb3⟩)
              go_roundw
              case rel => exact ⟨k + 1, A', 0, by omega, by omega, by go_num, rfl, rfl, hwr2.below hb3, by omega, hbb.trans (hb3.mono (Nat.le_trans hSz hs2))⟩
              case measure => simp [intOf]; omega
            · have hF1 : (F' == 0) = false := by simpa using hF'
              have hF2 : (F' != 0) = true := by simpa using hF'
              have hA' : A' = ⟨#[]⟩ := hle.2 hF'
              subst hA'
              have hA0 : (⟨#[]⟩ : ByteArray).size ≤ 65537 * (k + 1) := Nat.zero_le _
              go_wp2
              go_region_held3 (fun w' => w'.cell? ⟨b, off + k * 3, none⟩ = some (.int .i64 nn) ∧ w'.cell? ⟨b, off + k * 3 + 1, none⟩ = some (.int .i64 kk)) (first | exact keep1 | exact ⟨hq0, hq1⟩ | go_keep) (first | (go_at_call 15; refine (C1.out _ ?_).mono ?_; exact hwr.below (Below.refl _ _).drew; rintro _ w1 ⟨rfl, hwr1, o0⟩; have o1 := Offw.of_drew o0; clear o0; have keep1 := And.intro (keepw_off o1 hbl hne hq0) (keepw_off o1 hbl hne hq1)))
              have hb1 : b < w1.heap.size := Nat.lt_of_lt_of_le hbl o1.size
              go_wp2
              go_region_held3 (fun w' => w'.cell? ⟨b, off + k * 3, none⟩ = some (.int .i64 nn) ∧ w'.cell? ⟨b, off + k * 3 + 1, none⟩ = some (.int .i64 kk)) (first | exact keep2 | exact keep1 | go_keep) (first | (go_at_call 10; refine (C2.out _).mono ?_; rintro _ w2 ⟨rfl, hb0⟩; have hb2 := Beloww.of_drew hb0; clear hb0; have keep2 := And.intro (keepw_below hb2 hb1 keep1.1) (keepw_below hb2 hb1 keep1.2)))
              have hwr2 := hwr1.below hb2
              have hbb := (hbel.trans (o1.below (Nat.le_refl _) hSz)).trans (hb2.mono (Nat.le_trans hSz o1.size))
              have hs2 := Nat.le_trans o1.size hb2.size
              clear keep1 keep2 hq0 hq1 hq2
              go_wp2_with (go_at_call 16; refine (All_err w.heap.size ⟨#[]⟩ F' _ hwr2 hF').mono ?_; rintro _ w3 ⟨rfl, hb3⟩)
              go_roundw
              case rel => exact ⟨k + 1, ⟨#[]⟩, F', by omega, by omega, by go_num, rfl, rfl, hwr2.below hb3, hA0, hbb.trans (hb3.mono (Nat.le_trans hSz hs2))⟩
              case measure => simp [intOf]; omega
          · have hF1 : (F == 0) = false := by simpa using hF
            have hF2 : (F != 0) = true := by simpa using hF
            have e1 : wrLay A F (putV ⟨#[]⟩ nn kk).1 (putV ⟨#[]⟩ nn kk).2 = (A, F) := wrLay_had hF
            rw [e1] at c1
            dsimp only at c1
            have C1 : Hid _ := c1
            have C2 : Hid _ := c2
            clear c1 c2 hp e1
            go_wp2
            go_region_held3 (fun w' => w'.cell? ⟨b, off + k * 3, none⟩ = some (.int .i64 nn) ∧ w'.cell? ⟨b, off + k * 3 + 1, none⟩ = some (.int .i64 kk)) (first | exact keep1 | exact ⟨hq0, hq1⟩ | go_keep) (first | (go_at_call 15; refine (C1.out _ ?_).mono ?_; exact hwr.below (Below.refl _ _).drew; rintro _ w1 ⟨rfl, hwr1, o0⟩; have o1 := Offw.of_drew o0; clear o0; have keep1 := And.intro (keepw_off o1 hbl hne hq0) (keepw_off o1 hbl hne hq1)))
            have hb1 : b < w1.heap.size := Nat.lt_of_lt_of_le hbl o1.size
            go_wp2
            go_region_held3 (fun w' => w'.cell? ⟨b, off + k * 3, none⟩ = some (.int .i64 nn) ∧ w'.cell? ⟨b, off + k * 3 + 1, none⟩ = some (.int .i64 kk)) (first | exact keep2 | exact keep1 | go_keep) (first | (go_at_call 10; refine (C2.out _).mono ?_; rintro _ w2 ⟨rfl, hb0⟩; have hb2 := Beloww.of_drew hb0; clear hb0; have keep2 := And.intro (keepw_below hb2 hb1 keep1.1) (keepw_below hb2 hb1 keep1.2)))
            have hwr2 := hwr1.below hb2
            have hbb := (hbel.trans (o1.below (Nat.le_refl _) hSz)).trans (hb2.mono (Nat.le_trans hSz o1.size))
            have hs2 := Nat.le_trans o1.size hb2.size
            clear keep1 keep2 hq0 hq1 hq2
            go_wp2_with (go_at_call 16; refine (All_err w.heap.size A F _ hwr2 hF).mono ?_; rintro _ w3 ⟨rfl, hb3⟩)
            go_roundw
            case rel => exact ⟨k + 1, A, F, by omega, by omega, by go_num, rfl, rfl, hwr2.below hb3, by omega, hbb.trans (hb3.mono (Nat.le_trans hSz hs2))⟩
            case measure => simp [intOf]; omega
      · go_wp2_with (go_at_call 11; refine (awake_any _).mono ?_; rintro e w3 ⟨rfl, hb3⟩)
        go_ret
        exact ⟨rfl, hbel.trans (hb3.mono hbel.size)⟩
    · go_wp2_with (go_at_call 11; refine (awake_any _).mono ?_; rintro e w3 ⟨rfl, hb3⟩)
      go_ret
      exact ⟨rfl, hbel.trans (hb3.mono hbel.size)⟩
end Go.Proofs.Ytdgdbfodcccmcaa
