/- RedoMeets: the walk. -/
import Derived.Test.YtjlhohljkedbbabRqE
import Derived.BigQuiet
namespace Go.Proofs.Ytjlhohljkedbbab.Rq
open Go.RowKit Gm
set_option linter.unusedVariables false
set_option linter.unusedSimpArgs false
set_option maxRecDepth 100000
section
variable {w : World}
theorem last_snoc (L : List SpL) (s : SpL) : lastM (L ++ [s]) = s.1 := by unfold lastM; simp
theorem filt_S {Y : List SpL} {i : Nat} (hi : i < Y.length) (f : SpL → Bool) : (Y.take (i + 1)).filter f = (Y.take i).filter f ++ (if f Y[i] then [Y[i]] else []) := by
  rw [List.take_succ_eq_append_getElem hi, List.filter_append, List.filter_cons, List.filter_nil]
/-- What a round of the meeting decides. -/
theorem mt_S {X Y l : List SpL} {other c en p q : Int} {k : Nat} (h : mt X other c (k + 1) Y en = true) (hl : Y.filter (fun s => decide (s.2 < en)) = l) (hp : partM X (lastM l) other = (p, q)) : (p = lastM l ∧ en ≤ q ∧ p ≤ c ∧ en ≤ 1 + 10 * c) ∨ (¬ (p = lastM l ∧ en ≤ q) ∧ mt X other c k l (keepM l p q en) = true) := by
  unfold mt at h
  subst hl
  dsimp only at h
  rw [hp] at h
  dsimp only at h
  split at h
  · rename_i hc
    have := of_decide_eq_true h
    exact Or.inl ⟨hc.1, hc.2, this⟩
  · rename_i hc
    exact Or.inr ⟨hc, h⟩
set_option maxHeartbeats 4000000 in
theorem meets_in {c a b x : Nat} (hc1 : 1 ≤ c) (hc5 : c ≤ 5) (ha : a ≤ 5) (hb : b ≤ 5) (hx : x ≤ 9) : Calls Try.prog 4 #[.int .i64 (c : Int), .int .i64 (a : Int), .int .i64 (b : Int), .int .i64 (x : Int)] w fun e w' => e = .returned (.bool true) ∧ Below w.heap.size w w' := by
  have CK : Hid (∀ wx, Calls Try.prog 7 #[] wx fun e w' => e = .returned (.bool true) ∧ Below wx.heap.size wx w') := fun wx => awake15 wx
  have S1 : Hid (∀ wx, Calls Try.prog 8 #[.int .i64 (c : Int), .int .i64 (a : Int), .int .i64 0] wx fun e w' => SiO wx (sideM c a 0) e w') := fun wx => side_any wx hc5 ha (q := 0) (by omega)
  have S2 : Hid (∀ wx, Calls Try.prog 8 #[.int .i64 (c : Int), .int .i64 (b : Int), .int .i64 1] wx fun e w' => SiO wx (sideM c b 1) e w') := fun wx => side_any wx hc5 hb (q := 1) (by omega)
  obtain ⟨other, hot⟩ : ∃ other : Int, 1 + 10 * ((c : Int) + (a : Int)) = other := ⟨_, rfl⟩
  obtain ⟨en0, hen⟩ : ∃ en0 : Int, 1 + 10 * ((c : Int) + (b : Int)) + (x : Int) = en0 := ⟨_, rfl⟩
  have HMt : Hid (mt (sideM c a 0) other (c : Int) 20 (sideM c b 1) en0 = true) := by
    have := mt_all c (by omega) a (by omega) b (by omega) x (by omega) hc1
    rw [hot, hen] at this
    exact this
  have n1 : ¬ (c : Int) < 1 := by omega
  have n2 : ¬ (c : Int) > 5 := by omega
  have n3 : ¬ (a : Int) < 0 := by omega
  have n4 : ¬ (a : Int) > 5 := by omega
  have n5 : ¬ (b : Int) < 0 := by omega
  have n6 : ¬ (b : Int) > 5 := by omega
  have n7 : ¬ (x : Int) < 0 := by omega
  have n8 : ¬ (x : Int) > 9 := by omega
  have HE : Hid (1 + 10 * ((c : Int) + (a : Int)) = other ∧ 1 + 10 * ((c : Int) + (b : Int)) + (x : Int) = en0) := ⟨hot, hen⟩
  have lx : (sideM c a 0).length ≤ 10 := by unfold sideM; simp; omega
  have ly : (sideM c b 1).length ≤ 10 := by unfold sideM; simp; omega
  have HLx : Hid ((sideM c a 0).length ≤ 10 ∧ (sideM c b 1).length ≤ 10) := ⟨lx, ly⟩
  clear lx ly hot hen
  generalize sideM c a 0 = X at *
  generalize sideM c b 1 = Y0 at *
  go_enter Try.func4, Try.ntmps4
  go_wp2_with first
    | (have := R1; go_at_call 8; refine (S2.out _).mono ?_; rintro e w2 ⟨⟨a2, m2, d2, rfl, l2, r2, o2⟩, q2⟩; have Z0 : Hid (M3 w w2 (.slice a1 m1 d1) (.slice a2 m2 d2) (.slice none 0 0) X Y0 []) := ⟨thn Q1.out q2, R1.out.bel q2, r2, Row.nil _ _ _, fun g e => (by cases e), fun g e => (by cases e), fun g e => by cases e⟩; clear r2 o2 q2)
    | (go_at_call 8; refine (S1.out _).mono ?_; rintro e w1 ⟨⟨a1, m1, d1, rfl, l1, r1, o1⟩, q1⟩; have R1 : Hid (Row w1 24 2 (.slice a1 m1 d1) (X.map encS)) := r1; have Q1 : Hid (Below w.heap.size w w1) := q1; clear r1 o1 q1)
  rw [HE.out.1, HE.out.2]
  clear HE S1 S2 Q1 this
  go_loopw [10, 11, 13] (fun s10 s11 s13 wr => ∃ (i k : Nat) (a2 : Option Addr) (m2 d2 : Nat) (Y : List SpL) (en : Int), s13 = .int .i64 (i : Int) ∧ s10 = .slice a2 m2 d2 ∧ s11 = .int .i64 en ∧ i + k = 20 ∧ Hid (Y.length = m2) ∧ m2 ≤ 10 ∧ Hid (mt X other (c : Int) k Y en = true) ∧ M3 w wr (.slice a1 m1 d1) (.slice a2 m2 d2) (.slice none 0 0) X Y []) (fun s10 s11 s13 _ => 20 - (intOf s13).toNat)
  case atStart => exact ⟨0, 20, a2, m2, d2, Y0, en0, rfl, rfl, rfl, rfl, l2, (by have := HLx.out.2; have := l2.out; omega), HMt, Z0.out⟩
  case round =>
    clear Z0 HMt l2
    obtain ⟨i, k, a2, m2, d2, Y, en, rfl, rfl, rfl, hik, l2, hm2, HMt, hZ⟩ := hrel
    rename World => wo
    have Z : Hid (M3 w wo (.slice a1 m1 d1) (.slice a2 m2 d2) (.slice none 0 0) X Y []) := hZ
    clear hZ
    by_cases hi : i < 20
    · have hiI : (i : Int) < 20 := by omega
      obtain ⟨k', hk'⟩ : ∃ k', k = k' + 1 := ⟨k - 1, by omega⟩
      subst hk'
      go_wp2
      go_loopw [14, 15, 16] (fun s14 s15 s16 wr => ∃ (j : Nat) (av : Option Addr) (nv dv : Nat) (L : List SpL) (z : Int), s16 = .int .i64 (j : Int) ∧ s15 = .slice av nv dv ∧ s14 = .int .i64 z ∧ j ≤ m2 ∧ nv ≤ j ∧ Hid (L.length = nv) ∧ Hid (lastM L = z) ∧ Hid ((Y.take j).filter (fun s => decide (s.2 < en)) = L) ∧ M3 w wr (.slice a1 m1 d1) (.slice a2 m2 d2) (.slice av nv dv) X Y L) (fun s14 s15 s16 _ => m2 - (intOf s16).toNat)
      case atStart => exact ⟨0, none, 0, 0, [], 0, rfl, rfl, rfl, Nat.zero_le _, Nat.le_refl _, rfl, rfl, rfl, Z.out⟩
      case round =>
        clear Z
        obtain ⟨j, av, nv, dv, L, z, rfl, rfl, rfl, hj, hnv, HL, HZ, HF, hM⟩ := hrel
        rename World => wi
        have HM : Hid (M3 w wi (.slice a1 m1 d1) (.slice a2 m2 d2) (.slice av nv dv) X Y L) := hM
        clear hM
        by_cases hlt : j < m2
        · have hltI : (j : Int) < (m2 : Int) := by omega
          have hjY : j < Y.length := by have := l2.out; omega
          obtain ⟨g, o, rfl, -, c0, c1⟩ := (Sp.of_row HM.out.y).at_ hjY
          have HS : Hid ((Y.take (j + 1)).filter (fun s => decide (s.2 < en)) = L ++ (if decide (Y[j].2 < en) then [Y[j]] else [])) := by
            show _ = _
            rw [filt_S hjY, HF.out]
          obtain ⟨⟨x1, y1⟩, hxy⟩ : ∃ p : SpL, Y[j] = p := ⟨_, rfl⟩
          rw [hxy] at c0 c1 HS
          clear hxy hjY
          by_cases hc : y1 < en
          · have HS2 : Hid ((Y.take (j + 1)).filter (fun s => decide (s.2 < en)) = L ++ [(x1, y1)]) := by
              show _ = _
              rw [HS.out, if_pos (decide_eq_true hc)]
            clear HS
            dsimp only at c0 c1
            go_wp2_with (refine wpList_push elS (A := #[.int .i64 x1, .int .i64 y1]) rfl _ _ rfl rfl (HM.out.l.bel (bl1 _)) rfl (At.new _ _ _) rfl (oneI _ _) (by rw [List.length_map, HL.out]; omega) ?_; intro a3 d3 w9 A9; rw [List.length_map, HL.out] at A9 ⊢)
            have V9 := (HM.out.below (bl1 _)).push (s := (x1, y1)) A9
            go_roundw
            case rel => exact ⟨j + 1, a3, nv + 1, d3, L ++ [(x1, y1)], x1, by rfl, rfl, rfl, by omega, by omega, (show _ = _ by rw [List.length_append, HL.out]; rfl), last_snoc L (x1, y1), HS2.out, V9⟩
            case measure => simp [intOf]; omega
          · have HS2 : Hid ((Y.take (j + 1)).filter (fun s => decide (s.2 < en)) = L) := by
              show _ = _
              rw [HS.out, if_neg (by simpa using hc), List.append_nil]
            clear HS
            dsimp only at c0 c1
            go_wp2
            go_roundw
            case rel => exact ⟨j + 1, av, nv, dv, L, z, by rfl, rfl, rfl, by omega, by omega, HL.out, HZ.out, HS2.out, HM.out⟩
            case measure => simp [intOf]; omega
        · have hltI : ¬ (j : Int) < (m2 : Int) := by omega
          obtain ⟨p, q, hpq⟩ : ∃ p q, partM X z other = (p, q) := ⟨_, _, rfl⟩
          have HY : Hid (Y.filter (fun s => decide (s.2 < en)) = L) := by
            show _ = _
            rw [← HF.out, List.take_of_length_le (by have := l2.out; omega)]
          have CP : Hid (∀ wx, M3 w wx (.slice a1 m1 d1) (.slice a2 m2 d2) (.slice av nv dv) X Y L → Calls Try.prog 9 #[.slice a1 m1 d1, .int .i64 z, .int .i64 other] wx fun e w' => e = .returned (.tuple #[.int .i64 p, .int .i64 q]) ∧ Below wx.heap.size wx w') := fun wx hx => by
            have := Part_any (Sp.of_row hx.x) l1.out (by have := HLx.out.1; have := l1.out; omega) z other
            rw [hpq] at this
            exact this
          obtain ⟨kp, hkp⟩ : ∃ kp, keepM L p q en = kp := ⟨_, rfl⟩
          have CQ : Hid (∀ wx, M3 w wx (.slice a1 m1 d1) (.slice a2 m2 d2) (.slice av nv dv) X Y L → Calls Try.prog 6 #[.slice av nv dv, .int .i64 p, .int .i64 q, .int .i64 en] wx fun e w' => e = .returned (.int .i64 kp) ∧ Below wx.heap.size wx w') := fun wx hx => by
            have := Keep_any (Sp.of_row hx.l) HL.out (by omega) p q en
            rw [hkp] at this
            exact this
          rcases mt_S (p := p) (q := q) HMt.out HY.out (by rw [HZ.out]; exact hpq) with ⟨h1, h2, h3, h4⟩ | ⟨h1, h2⟩
          · rw [HZ.out] at h1
            subst h1
            clear hpq hkp HF HY
            go_wp2_with first
              | (go_at_call 9; refine (CP.out _ HM.out).mono ?_; rintro e w5 ⟨rfl, q5⟩)
              | (go_at_call 7; refine (CK.out _).mono ?_; rintro e w6 ⟨rfl, q6⟩)
            go_ret
            exact ⟨rfl, thn HM.out.bel (thn q5 q6)⟩
          · rw [HZ.out] at h1
            have HM2 : Hid (mt X other (c : Int) k' L kp = true) := by
              show _ = _
              rw [← hkp]; exact h2
            clear hpq hkp HF HY h2
            by_cases hpz : p = z
            · have hen2 : ¬ en ≤ q := fun h => h1 ⟨hpz, h⟩
              subst hpz
              clear h1
              go_wp2_with first
                | (go_at_call 9; refine (CP.out _ HM.out).mono ?_; rintro e w5 ⟨rfl, q5⟩; have M5 : Hid (M3 w w5 (.slice a1 m1 d1) (.slice a2 m2 d2) (.slice av nv dv) X Y L) := HM.out.below q5)
                | (go_at_call 6; refine (CQ.out _ M5.out).mono ?_; rintro e w6 ⟨rfl, q6⟩)
              go_roundw
              case rel => exact ⟨i + 1, k', av, nv, dv, L, kp, by rfl, rfl, rfl, by omega, HL, by omega, HM2, (M5.out.below q6).turn⟩
              case measure => simp [intOf]; omega
            · have hpz2 : (p == z) = false := by simpa using hpz
              clear h1
              go_wp2_with first
                | (go_at_call 9; refine (CP.out _ HM.out).mono ?_; rintro e w5 ⟨rfl, q5⟩; have M5 : Hid (M3 w w5 (.slice a1 m1 d1) (.slice a2 m2 d2) (.slice av nv dv) X Y L) := HM.out.below q5)
                | (go_at_call 6; refine (CQ.out _ M5.out).mono ?_; rintro e w6 ⟨rfl, q6⟩)
              go_roundw
              case rel => exact ⟨i + 1, k', av, nv, dv, L, kp, by rfl, rfl, rfl, by omega, HL, by omega, HM2, (M5.out.below q6).turn⟩
              case measure => simp [intOf]; omega
    · exfalso
      obtain rfl : k = 0 := by omega
      have := HMt.out
      unfold mt at this
      cases this
/-- Out of the bounds nothing is asked. -/
theorem meets_out {c a b x : Int} (h : c < 1 ∨ 5 < c ∨ a < 0 ∨ 5 < a ∨ b < 0 ∨ 5 < b ∨ x < 0 ∨ 9 < x) : Calls Try.prog 4 #[.int .i64 c, .int .i64 a, .int .i64 b, .int .i64 x] w fun e w' => e = .returned (.bool true) ∧ Below w.heap.size w w' := by
  have CK : Hid (∀ wx, Calls Try.prog 7 #[] wx fun e w' => e = .returned (.bool true) ∧ Below wx.heap.size wx w') := fun wx => awake15 wx
  by_cases h1 : c < 1
  · clear h
    go_enter Try.func4, Try.ntmps4
    go_wp2_with (go_at_call 7; refine (CK.out _).mono ?_; rintro e w6 ⟨rfl, q6⟩)
    go_ret
    exact ⟨rfl, q6⟩
  by_cases h2 : c > 5
  · clear h
    go_enter Try.func4, Try.ntmps4
    go_wp2_with (go_at_call 7; refine (CK.out _).mono ?_; rintro e w6 ⟨rfl, q6⟩)
    go_ret
    exact ⟨rfl, q6⟩
  by_cases h3 : a < 0
  · clear h
    go_enter Try.func4, Try.ntmps4
    go_wp2_with (go_at_call 7; refine (CK.out _).mono ?_; rintro e w6 ⟨rfl, q6⟩)
    go_ret
    exact ⟨rfl, q6⟩
  by_cases h4 : a > 5
  · clear h
    go_enter Try.func4, Try.ntmps4
    go_wp2_with (go_at_call 7; refine (CK.out _).mono ?_; rintro e w6 ⟨rfl, q6⟩)
    go_ret
    exact ⟨rfl, q6⟩
  by_cases h5 : b < 0
  · clear h
    go_enter Try.func4, Try.ntmps4
    go_wp2_with (go_at_call 7; refine (CK.out _).mono ?_; rintro e w6 ⟨rfl, q6⟩)
    go_ret
    exact ⟨rfl, q6⟩
  by_cases h6 : b > 5
  · clear h
    go_enter Try.func4, Try.ntmps4
    go_wp2_with (go_at_call 7; refine (CK.out _).mono ?_; rintro e w6 ⟨rfl, q6⟩)
    go_ret
    exact ⟨rfl, q6⟩
  by_cases h7 : x < 0
  · clear h
    go_enter Try.func4, Try.ntmps4
    go_wp2_with (go_at_call 7; refine (CK.out _).mono ?_; rintro e w6 ⟨rfl, q6⟩)
    go_ret
    exact ⟨rfl, q6⟩
  have h8 : x > 9 := by omega
  clear h
  go_enter Try.func4, Try.ntmps4
  go_wp2_with (go_at_call 7; refine (CK.out _).mono ?_; rintro e w6 ⟨rfl, q6⟩)
  go_ret
  exact ⟨rfl, q6⟩
theorem meets15_walk (w : World) (c a b x : Int) : Calls Try.prog 4 #[.int .i64 c, .int .i64 a, .int .i64 b, .int .i64 x] w fun e w' => e = .returned (.bool true) ∧ Below w.heap.size w w' := by
  by_cases h : c < 1 ∨ 5 < c ∨ a < 0 ∨ 5 < a ∨ b < 0 ∨ 5 < b ∨ x < 0 ∨ 9 < x
  · exact meets_out h
  · obtain ⟨c', rfl⟩ : ∃ n : Nat, c = n := ⟨c.toNat, by omega⟩
    obtain ⟨a', rfl⟩ : ∃ n : Nat, a = n := ⟨a.toNat, by omega⟩
    obtain ⟨b', rfl⟩ : ∃ n : Nat, b = n := ⟨b.toNat, by omega⟩
    obtain ⟨x', rfl⟩ : ∃ n : Nat, x = n := ⟨x.toNat, by omega⟩
    exact meets_in (by omega) (by omega) (by omega) (by omega) (by omega)
end
end Go.Proofs.Ytjlhohljkedbbab.Rq
