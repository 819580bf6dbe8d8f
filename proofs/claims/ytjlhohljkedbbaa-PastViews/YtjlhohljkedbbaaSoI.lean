/- stable, SortStableFunc. -/
import Derived.Test.YtjlhohljkedbbaaSoH
namespace Go.Proofs.Ytjlhohljkedbbaa.So
open Go.Sort Go.RowKit
set_option linter.unusedVariables false
set_option linter.unusedSimpArgs false
set_option maxRecDepth 1000000
/-- As far as the runs of 20 (k) go: Q of them are sorted. -/
structure Ob (lt : CL → CL → Bool) (k Q n : Nat) (d dk : Array CL) : Prop where
  perm : PermIn 0 n d dk
  sor : SD lt k Q dk
/-- Q pairs of runs of k are merged; from there on the runs of k are sorted. -/
structure Oc (lt : CL → CL → Bool) (k Q n : Nat) (d dk : Array CL) : Prop where
  perm : PermIn 0 n d dk
  sor : SD lt (2 * k) Q dk
  rest : SB lt k (Q * (2 * k)) n dk
section
variable {lt : CL → CL → Bool} {k Q n : Nat} {d dk d2 : Array CL}
theorem Ob.zero (d : Array CL) : Ob lt k 0 n d d := ⟨permIn_refl _ _ _, SD.zero⟩
theorem Ob.add (h : Ob lt k Q n d dk) (hk : 0 < k) (hn : Q * k + k ≤ n) (hd : n ≤ dk.size) (hp : PermIn (Q * k) (Q * k + k) dk d2) (hs : SortedIn lt (Q * k) (Q * k + k) d2) : Ob lt k (Q + 1) n d d2 :=
  ⟨permIn_trans _ _ _ _ _ h.perm (permIn_mono _ _ _ _ _ _ (Nat.zero_le _) hn hd hp), h.sor.add hk hp hs⟩
theorem Ob.all (h : Ob lt k Q n d dk) (hk : 0 < k) (hn : n < Q * k + k) (hd : n ≤ dk.size) (hq : Q * k ≤ n) (hp : PermIn (Q * k) n dk d2) (hs : SortedIn lt (Q * k) n d2) : PermIn 0 n d d2 ∧ SB lt k 0 n d2 :=
  ⟨permIn_trans _ _ _ _ _ h.perm (permIn_mono _ _ _ _ _ _ (Nat.zero_le _) (Nat.le_refl _) hd hp), h.sor.all hk hn hp hs⟩
theorem Oc.zero (hp : PermIn 0 n d dk) (h : SB lt k 0 n dk) : Oc lt k 0 n d dk := ⟨hp, SD.zero, by rw [Nat.zero_mul]; exact h⟩
theorem Oc.add {a : Nat} (h : Oc lt k Q n d dk) (ha : a = Q * (2 * k)) (hk : 0 < k) (hn : a + 2 * k ≤ n) (hd : n ≤ dk.size) (hm : Mg lt a (a + k) (a + 2 * k) dk d2) : Oc lt k (Q + 1) n d d2 := by
  subst ha
  have s1 := h.rest.fst
  have s2 := h.rest.snd
  rw [Nat.min_eq_left (by omega)] at s1 s2
  have s3 := hm.sor s1 (by rw [show Q * (2 * k) + 2 * k = Q * (2 * k) + k + k by omega]; exact s2)
  refine ⟨permIn_trans _ _ _ _ _ h.perm (permIn_mono _ _ _ _ _ _ (Nat.zero_le _) hn hd hm.perm), h.sor.add (by omega) hm.perm s3, ?_⟩
  rw [Nat.add_mul, Nat.one_mul]
  exact h.rest.tail fun x hx => hm.perm.2.1 x (Or.inr hx)
/-- The last, shorter, pair. -/
theorem Oc.last {a : Nat} (h : Oc lt k Q n d dk) (ha : a = Q * (2 * k)) (hk : 0 < k) (hn : n < a + 2 * k) (hm' : a + k < n) (hd : n ≤ dk.size) (hm : Mg lt a (a + k) n dk d2) : PermIn 0 n d d2 ∧ SB lt (2 * k) 0 n d2 := by
  subst ha
  have s1 := h.rest.fst
  have s2 := h.rest.snd
  rw [Nat.min_eq_left (by omega)] at s1
  rw [Nat.min_eq_right (by omega)] at s2
  exact ⟨permIn_trans _ _ _ _ _ h.perm (permIn_mono _ _ _ _ _ _ (Nat.zero_le _) (Nat.le_refl _) hd hm.perm), h.sor.all (by omega) (by omega) hm.perm (hm.sor s1 s2)⟩
/-- .. or a run alone. -/
theorem Oc.lone {a : Nat} (h : Oc lt k Q n d dk) (ha : a = Q * (2 * k)) (hk : 0 < k) (hm' : n ≤ a + k) : PermIn 0 n d dk ∧ SB lt (2 * k) 0 n dk := by
  subst ha
  have s1 := h.rest.fst
  rw [Nat.min_eq_right (by omega)] at s1
  exact ⟨h.perm, h.sor.all (by omega) (by omega) (permIn_refl _ _ _) s1⟩
end
section
variable {blk cap g n : Nat} {cb : Array Value} {cf : CL → CL → Int} {w : World} {d : Array CL}
set_option maxHeartbeats 8000000 in
theorem stableR (hS : SWO (ltOf cf)) (eg : ∀ args w, (callFunc g args).run Try.prog w = .ok (.enter g args) w) (hR : Rw w blk d) (hC : CmpLays Try.prog g cb encC 2 cf blk 0 d.size w) (hn : d.size = n) :
    Calls Try.prog 29 #[.slice (some ⟨blk, 0, none⟩) n cap, .int .i64 n, .func (.func g) #[] cb] w fun e w' => e = .returned (.tuple #[]) ∧ ∃ d', Wd w w' blk d' ∧ PermIn 0 n d d' ∧ SortedIn (ltOf cf) 0 n d' := by
  have few : n ≤ 100000 := by have := hR.few; omega
  have HR : Hid (Rw w blk d) := hR
  have IN : Hid (∀ w1 dk (a b : Nat), Wd w w1 blk dk → dk.size = n → a ≤ b → b ≤ n → Calls Try.prog 36 #[.slice (some ⟨blk, 0, none⟩) n cap, .int .i64 a, .int .i64 b, .func (.func g) #[] cb] w1 fun e w' => e = .returned (.tuple #[]) ∧ ∃ d', Wd w w' blk d' ∧ PermIn a b dk d' ∧ SortedIn (ltOf cf) a b d') := fun w1 dk a b k1 k2 k3 k4 => by
    rw [← hn]; exact insR hS eg hR hC k1 (by omega) k3 (by omega)
  have SY : Hid (∀ w1 dk (x y z : Nat), Wd w w1 blk dk → dk.size = n → x < y → y < z → z ≤ n → Calls Try.prog 37 #[.slice (some ⟨blk, 0, none⟩) n cap, .int .i64 x, .int .i64 y, .int .i64 z, .func (.func g) #[] cb] w1 fun e w' => e = .returned (.tuple #[]) ∧ ∃ d', Wd w w' blk d' ∧ Mg (ltOf cf) x y z dk d') := fun w1 dk x y z k1 k2 k3 k4 k5 => by
    rw [← hn]; exact symA hS eg hR hC k1 (by omega) k3 k4 (by omega)
  have HN : Hid (d.size = n) := hn
  clear hR hC hn hS eg
  go_enter Try.func29, Try.ntmps29
  go_wp2
  go_loopg [7, 8] (n + 20) (fun gh va vb wr => ∃ (Q a b : Nat) (dk : Array CL), va = .int .i64 a ∧ vb = .int .i64 b ∧ a = Q * 20 ∧ b = a + 20 ∧ a ≤ n ∧ n + 20 - a ≤ gh ∧ Wd w wr blk dk ∧ Ob (ltOf cf) 20 Q n d dk)
  case atStart => exact ⟨0, 0, 20, d, rfl, rfl, rfl, rfl, by omega, by omega, HR.out.self, Ob.zero d⟩
  case round =>
    obtain ⟨Q, a, b, dk, rfl, rfl, haQ, hab, han, hg, hW, hM⟩ := hrel
    have HW : Hid (Wd w wr blk dk) := hW
    have HM : Hid (Ob (ltOf cf) 20 Q n d dk) := hM
    have HS : Hid (dk.size = n) := hM.perm.1.trans HN.out
    have HQ : Hid (a = Q * 20) := haQ
    have HB : Hid (b = a + 20) := hab
    clear hW hM haQ hab
    by_cases hlt : b ≤ n
    · have hq2 : a ≤ b := by have := HB.out; omega
      go_wp2_with (go_at_call 36; refine (IN.out _ _ a b HW.out HS.out hq2 hlt).mono ?_; rintro e w2 ⟨rfl, d2, hW2, hP2, hS2⟩)
      go_roundg (n + 20 - b)
      case measure => have := HB.out; omega
      case rel =>
        refine ⟨Q + 1, b, b + 20, d2, rfl, by go_num, by have := HB.out; have := HQ.out; omega, rfl, hlt, Nat.le_refl _, hW2, ?_⟩
        have e1 := HB.out
        have e2 := HQ.out
        have e3 := HS.out
        rw [e1, e2] at hP2 hS2
        exact HM.out.add (by omega) (by omega) (by omega) hP2 hS2
    · have hbn : n < a + 20 := by have := HB.out; omega
      have hns : ¬ (b : Int) ≤ (n : Int) := by omega
      go_wp2_with (go_at_call 36; refine (IN.out _ _ a n HW.out HS.out han (Nat.le_refl _)).mono ?_; rintro e w2 ⟨rfl, d2, hW2, hP2, hS2⟩)
      have HW2 : Hid (Wd w w2 blk d2) := hW2
      have HP2 : Hid (PermIn 0 n d d2 ∧ SB (ltOf cf) 20 0 n d2) := by
        have e2 := HQ.out
        have e3 := HS.out
        rw [e2] at hP2 hS2
        exact HM.out.all (by omega) (by omega) (by omega) (by omega) hP2 hS2
      clear hW2 hP2 hS2 hbn hns hlt
      go_loopg [6] n (fun gh vk wr => ∃ (k : Nat) (dk : Array CL), vk = .int .i64 k ∧ 0 < k ∧ k ≤ 200020 ∧ n - k ≤ gh ∧ Wd w wr blk dk ∧ PermIn 0 n d dk ∧ SB (ltOf cf) k 0 n dk)
      case atStart => exact ⟨20, d2, rfl, by omega, by omega, by omega, HW2.out, HP2.out.1, HP2.out.2⟩
      case round =>
        obtain ⟨k, dk, rfl, hk0, hkk, hgk, hW, hP, hB⟩ := hrel
        have HW : Hid (Wd w wr blk dk) := hW
        have HP : Hid (PermIn 0 n d dk) := hP
        have HB : Hid (SB (ltOf cf) k 0 n dk) := hB
        clear hW hP hB
        by_cases hkn : k < n
        · go_wp2
          go_loopg [7, 8] (n + 2 * k) (fun gh va vb wr => ∃ (Q a b : Nat) (dk : Array CL), va = .int .i64 a ∧ vb = .int .i64 b ∧ Hid (a = Q * (2 * k)) ∧ b = a + 2 * k ∧ a ≤ n ∧ n + 2 * k - a ≤ gh ∧ Wd w wr blk dk ∧ Oc (ltOf cf) k Q n d dk)
          case atStart => exact ⟨0, 0, 2 * k, dk, rfl, by first | rfl | go_num, (show 0 = 0 * (2 * k) by rw [Nat.zero_mul]), by omega, by omega, by omega, HW.out, Oc.zero HP.out HB.out⟩
          case round =>
            obtain ⟨Q, a, b, dk, rfl, rfl, HQ, hab, han, hg, hW, hM⟩ := hrel
            have HW : Hid (Wd w wr blk dk) := hW
            have HM : Hid (Oc (ltOf cf) k Q n d dk) := hM
            have HS : Hid (dk.size = n) := hM.perm.1.trans HN.out
            have HB : Hid (b = a + 2 * k) := hab
            obtain ⟨y, hy⟩ : ∃ y, y = a + k := ⟨_, rfl⟩
            have ey : (a : Int) + (k : Int) = (y : Int) := by omega
            have HY : Hid (y = a + k) := hy
            have y1 : a < y := by omega
            have y2 : y < b := by omega
            have bb : b ≤ 600000 := by omega
            clear hW hM hab hy
            by_cases hlt : b ≤ n
            · go_wp2_with (go_at_call 37; refine (SY.out _ _ a y b HW.out HS.out y1 y2 hlt).mono ?_; rintro e w3 ⟨rfl, d3, hW3, hM3⟩)
              go_roundg (n + 2 * k - b)
              case measure => have := HB.out; omega
              case rel =>
                refine ⟨Q + 1, b, b + 2 * k, d3, rfl, by first | rfl | go_num | (congr 1; omega), (show b = (Q + 1) * (2 * k) by rw [Nat.add_mul, Nat.one_mul, ← HQ.out]; exact HB.out), rfl, hlt, Nat.le_refl _, hW3, ?_⟩
                have e1 := HY.out
                have e2 := HB.out
                have e3 := HS.out
                subst e1
                subst e2
                exact HM.out.add HQ.out hk0 hlt (by omega) hM3
            · have hns : ¬ (b : Int) ≤ (n : Int) := by omega
              by_cases hyn : y < n
              · go_wp2_with (go_at_call 37; refine (SY.out _ _ a y n HW.out HS.out y1 hyn (Nat.le_refl _)).mono ?_; rintro e w3 ⟨rfl, d3, hW3, hM3⟩)
                have hfin : PermIn 0 n d d3 ∧ SB (ltOf cf) (2 * k) 0 n d3 := by
                  have e1 := HY.out
                  have e2 := HB.out
                  have e3 := HS.out
                  subst e1
                  exact HM.out.last HQ.out hk0 (by omega) hyn (by omega) hM3
                go_roundg (n - 2 * k)
                case measure => omega
                case rel => exact ⟨2 * k, d3, by first | rfl | go_num | (congr 1; omega), by omega, by omega, Nat.le_refl _, hW3, hfin.1, hfin.2⟩
              · have hyn' : ¬ (y : Int) < (n : Int) := by omega
                have hfin : Hid (PermIn 0 n d dk ∧ SB (ltOf cf) (2 * k) 0 n dk) := HM.out.lone HQ.out hk0 (by have := HY.out; omega)
                go_wp2
                go_roundg (n - 2 * k)
                case measure => omega
                case rel => exact ⟨2 * k, dk, by first | rfl | go_num | (congr 1; omega), by omega, by omega, Nat.le_refl _, HW.out, hfin.out.1, hfin.out.2⟩
        · have hkn' : ¬ (k : Int) < (n : Int) := by omega
          go_wp2
          go_end0
          have h := HB.out.fst
          rw [Nat.min_eq_right (by omega)] at h
          exact ⟨rfl, dk, HW.out, HP.out, h⟩
theorem SortStable (hS : SWO (ltOf cf)) (eg : ∀ args w, (callFunc g args).run Try.prog w = .ok (.enter g args) w) (hR : Rw w blk d) (hC : CmpLays Try.prog g cb encC 2 cf blk 0 d.size w) (hn : d.size = n) :
    Calls Try.prog 19 #[.slice (some ⟨blk, 0, none⟩) n cap, .func (.func g) #[] cb] w fun e w' => e = .returned (.tuple #[]) ∧ ∃ d', Wd w w' blk d' ∧ PermIn 0 n d d' ∧ SortedIn (ltOf cf) 0 n d' := by
  have ST : Hid (Calls Try.prog 29 #[.slice (some ⟨blk, 0, none⟩) n cap, .int .i64 n, .func (.func g) #[] cb] w fun e w' => e = .returned (.tuple #[]) ∧ ∃ d', Wd w w' blk d' ∧ PermIn 0 n d d' ∧ SortedIn (ltOf cf) 0 n d') := stableR hS eg hR hC hn
  clear hR hC hn hS eg
  go_enter Try.func19, Try.ntmps19
  go_wp2_with (go_at_call 29; refine ST.out.mono ?_; rintro e w3 ⟨rfl, h⟩)
  go_end0
  exact ⟨rfl, h⟩
end
end Go.Proofs.Ytjlhohljkedbbaa.So
