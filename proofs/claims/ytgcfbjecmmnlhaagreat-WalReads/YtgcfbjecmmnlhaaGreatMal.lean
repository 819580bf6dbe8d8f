/- WalReads: whether From tells what it should. WalReads: whether From tells what it should. WalReads: whether From tells what it should. WalReads: whether From tells what it should. WalReads: Read told of the law's log; whether From tells what it should, at any place. -/
import Derived.Test.YtgcfbjecmmnlhaaGreatMak
namespace Go.Proofs.YtgcfbjecmmnlhaaGreat
open Go.RowKit Go.Maps Go.ChangeMaps
set_option linter.unusedVariables false
set_option linter.unusedSimpArgs false
set_option maxRecDepth 100000

section
variable {B l k db run sure p n : Nat} {w w' w0 wx : World} {S S' : Dk} {fs gs ss : List ByteArray} {v av u : Value} {A : Obj → Prop}
theorem mid_nil (fs : List ByteArray) (i : Nat) : mid fs i i = ⟨#[]⟩ := by
  unfold mid
  rw [List.drop_eq_nil_of_le (by rw [List.length_take]; omega)]
  rfl
theorem mid_succ {kk i : Nat} (h1 : kk ≤ i) (h2 : i < fs.length) : mid fs kk (i + 1) = mid fs kk i ++ fs[i] := by
  unfold mid
  rw [List.take_succ_eq_append_getElem h2, List.drop_append_of_le_length (by rw [List.length_take]; omega), cat_snoc]
theorem mid_size {kk i : Nat} (h1 : kk ≤ i) (h2 : i ≤ fs.length) : (mid fs kk i).size = off fs i - off fs kk := by
  rw [← mid_ext h1]
  have := off_mono (l := fs) h2
  rw [off_all] at this
  rw [ByteArray.size_extract]
  omega
set_option maxHeartbeats 4000000 in
theorem fromIs_out (h : SlS w0 wx l k S db 1 fs sure) (kv x m : Int) (hx : x < 1 ∨ (off fs sure : Int) + 1 < x) : Calls Tryz.prog 35 #[.pointer (some ⟨l, 0, none⟩), .pointer (some ⟨p, 0, none⟩), .int .i64 kv, .int .i64 x, .int .i64 m] wx fun e w' => e = .returned (.bool true) ∧ Below w0.heap.size w0 w' := by
  have CF : Hid (Calls Tryz.prog 66 #[.pointer (some ⟨l, 0, none⟩), .int .i64 x, .int .i64 m] wx fun e w' => e = .returned (.tuple #[.string ⟨#[]⟩, .int .i64 6]) ∧ w' = wx) := from_range h.lv.lx x m hx
  have CD : Hid (Calls Tryz.prog 25 #[.pointer (some ⟨l, 0, none⟩)] wx fun e w' => e = .returned (.int .i64 ((off fs sure : Int) + 1)) ∧ w' = wx) := Durable_any h.lv.lx.g
  have HB : Hid _ := h.bel
  clear h
  generalize (off fs sure : Int) + 1 = D at *
  by_cases h1 : x < 1
  · clear hx CD
    go_enter Tryz.func35, Tryz.ntmps35
    go_wp2_with (go_at_call 66; refine CF.out.mono ?_; rintro e w1 ⟨rfl, rfl⟩)
    go_ret
    exact ⟨rfl, HB.out⟩
  · have h2 : D < x := by omega
    clear hx
    go_enter Tryz.func35, Tryz.ntmps35
    go_wp2_with (first
      | (go_at_call 66; refine CF.out.mono ?_; clear CF; rintro e w1 ⟨rfl, rfl⟩)
      | (go_at_call 25; refine CD.out.mono ?_; clear CD; rintro e w2 ⟨rfl, rfl⟩))
    go_ret
    exact ⟨rfl, HB.out⟩
end
end Go.Proofs.YtgcfbjecmmnlhaaGreat

namespace Go.Proofs.YtgcfbjecmmnlhaaGreat
open Go.RowKit Go.Maps Go.ChangeMaps
set_option linter.unusedVariables false
set_option linter.unusedSimpArgs false
set_option maxRecDepth 100000

section
variable {B l k db run sure p n : Nat} {w w' w0 wx : World} {S S' : Dk} {fs gs ss : List ByteArray} {v av u : Value} {A : Obj → Prop}
set_option maxHeartbeats 4000000 in
theorem fromIs_no (h : SlS w0 wx l k S db 1 fs sure) (x m : Int) (h1 : ¬ x < 1) (h2 : ¬ (off fs sure : Int) + 1 < x) (hb : bnd fs x = false) : Calls Tryz.prog 35 #[.pointer (some ⟨l, 0, none⟩), .pointer (some ⟨p, 0, none⟩), .int .i64 (-1), .int .i64 x, .int .i64 m] wx fun e w' => e = .returned (.bool true) ∧ Below w0.heap.size w0 w' := by
  have hne : x ≠ (off fs sure : Int) + 1 := fun e => by
    have : bnd fs x = true := bnd_iff.2 ⟨sure, h.lv.hs, by omega⟩
    rw [hb] at this; cases this
  have hcon : (plc 1 fs).contains x = false := by
    unfold bnd at hb
    rw [Bool.or_eq_false_iff] at hb
    exact hb.1
  have CF : Hid (Calls Tryz.prog 66 #[.pointer (some ⟨l, 0, none⟩), .int .i64 x, .int .i64 m] wx fun e w' => e = .returned (.tuple #[.string ⟨#[]⟩, .int .i64 4]) ∧ Below wx.heap.size wx w') := from_form h.lv.lx h.lv.fit x m h1 (by omega) hcon
  have CD : Hid (∀ wy, Below wx.heap.size wx wy → Calls Tryz.prog 25 #[.pointer (some ⟨l, 0, none⟩)] wy fun e w' => e = .returned (.int .i64 ((off fs sure : Int) + 1)) ∧ w' = wy) := fun wy q => Durable_any (h.lv.lx.below q).g
  have HB : Hid _ := h.bel
  clear h hne hcon hb
  generalize (off fs sure : Int) + 1 = D at *
  go_enter Tryz.func35, Tryz.ntmps35
  go_wp2_with (first
    | (go_at_call 66; refine CF.out.mono ?_; clear CF; rintro e w1 ⟨rfl, b1⟩)
    | (go_at_call 25; refine (CD.out _ b1).mono ?_; clear CD; rintro e w2 ⟨rfl, rfl⟩))
  go_ret
  exact ⟨rfl, thn HB.out b1⟩
end
end Go.Proofs.YtgcfbjecmmnlhaaGreat

namespace Go.Proofs.YtgcfbjecmmnlhaaGreat
open Go.RowKit Go.Maps Go.ChangeMaps
set_option linter.unusedVariables false
set_option linter.unusedSimpArgs false
set_option maxRecDepth 100000

section
variable {B l k db run sure p n : Nat} {w w' w0 wx : World} {S S' : Dk} {fs gs ss : List ByteArray} {v av u : Value} {A : Obj → Prop}
/-- From, at a place of a record that stands or behind the last that does. -/
theorem SlS.from (h : SlS w0 wx l k S db 1 fs sure) (kk : Nat) (hkk : kk ≤ sure) (x m : Int) (hx : x = 1 + (off fs kk : Int)) : Calls Tryz.prog 66 #[.pointer (some ⟨l, 0, none⟩), .int .i64 x, .int .i64 m] wx fun e w' => ∃ j, e = .returned (.tuple #[.string (mid fs kk j), .int .i64 0]) ∧ kk ≤ j ∧ (kk = sure → j = kk) ∧ (kk < sure → FrJ fs sure kk m j) ∧ SlS w0 w' l k S db 1 fs sure ∧ Kp isA w0.heap.size wx w' := by
  have hle := h.bel.size
  by_cases hq : kk < sure
  · refine (from_ok h.lv.lx h.lv.fit h.lv.hs x m hq hx).mono ?_
    rintro e w' ⟨j, he, hF, hL, hK⟩
    exact ⟨j, he, by have := hF.lo; omega, fun q => by omega, fun _ => hF, ⟨⟨hL, h.lv.up, h.lv.fit, h.lv.hs, h.lv.n, h.lv.r2, h.lv.q⟩, h.set, h.n, h.bel.trans hK.bel⟩, hK.l⟩
  · obtain rfl : kk = sure := by omega
    refine (from_end h.lv.lx x m (by omega) (by omega)).mono ?_
    rintro e w' ⟨he, rfl⟩
    exact ⟨kk, by rw [mid_nil]; exact he, Nat.le_refl _, fun _ => rfl, fun q => by omega, h, Kp.refl _ _ _⟩
end
end Go.Proofs.YtgcfbjecmmnlhaaGreat

namespace Go.Proofs.YtgcfbjecmmnlhaaGreat
open Go.RowKit Go.Maps Go.ChangeMaps
set_option linter.unusedVariables false
set_option linter.unusedSimpArgs false
set_option maxRecDepth 100000

section
variable {B l k db run sure p n : Nat} {w w' w0 wx : World} {S S' : Dk} {fs gs ss : List ByteArray} {v av u : Value} {A : Obj → Prop}
set_option maxHeartbeats 8000000 in
theorem fromIs_at (h : SlS w0 wx l k S db 1 fs sure) (hp : Pl w0.heap.size wx p av sure) (ho : OwnS w0.heap.size wx av fs) (kk : Nat) (hkk : kk ≤ sure) (x m : Int) (hmb : m ≤ 9223372036854775807) (hx : x = 1 + (off fs kk : Int)) : Calls Tryz.prog 35 #[.pointer (some ⟨l, 0, none⟩), .pointer (some ⟨p, 0, none⟩), .int .i64 (kk : Int), .int .i64 x, .int .i64 m] wx fun e w' => e = .returned (.bool true) ∧ Below w0.heap.size w0 w' := by
  have CF : Hid (Calls Tryz.prog 66 #[.pointer (some ⟨l, 0, none⟩), .int .i64 x, .int .i64 m] wx fun e w' => ∃ j, e = .returned (.tuple #[.string (mid fs kk j), .int .i64 0]) ∧ kk ≤ j ∧ (kk = sure → j = kk) ∧ (kk < sure → FrJ fs sure kk m j) ∧ SlS w0 w' l k S db 1 fs sure ∧ Kp isA w0.heap.size wx w') := h.from kk hkk x m hx
  have CD : Hid (∀ wy, SlS w0 wy l k S db 1 fs sure → Calls Tryz.prog 25 #[.pointer (some ⟨l, 0, none⟩)] wy fun e w' => e = .returned (.int .i64 ((off fs sure : Int) + 1)) ∧ w' = wy) := fun wy q => Durable_any q.lv.lx.g
  have hsz := h.size
  have hln := h.len
  have hs := h.lv.hs
  have HF : Hid (∀ f ∈ fs, Frm f) := h.lv.fit.frm
  have hm1 := off_mono (l := fs) hkk
  have t1 : ¬ x < 1 := by omega
  have t2 : ¬ (off fs sure : Int) + 1 < x := by omega
  have t3 : ¬ (kk : Int) < 0 := by omega
  have HP : Hid _ := hp
  obtain ⟨a, c, rfl⟩ := ho.ex
  have HO : Hid _ := ho
  obtain ⟨M, hM⟩ : ∃ M : Int, M = if m < 0 then 0 else m := ⟨_, rfl⟩
  have HJ : Hid (∀ i, kk ≤ i → i ≤ sure → (∀ q, kk + 1 ≤ q → q < i → (off fs (q + 1) : Int) - (off fs kk : Int) ≤ M) → (kk < sure → kk + 1 ≤ i) → (i < sure → ¬ (off fs (i + 1) : Int) - (off fs kk : Int) ≤ M) → ∀ j, (kk = sure → j = kk) → (kk < sure → FrJ fs sure kk m j) → i = j) := fun i h1 h2 h3 h4 h5 j h6 h7 => by
    by_cases q : kk < sure
    · refine FrJ.uniq (sure := sure) (kk := kk) (most := m) ⟨h4 q, h2, fun r r1 r2 => ?_, fun r => ?_⟩ (h7 q)
      · have := h3 r r1 r2
        have := off_lt HF.out (i := kk) (j := r + 1) (by omega) (by omega)
        by_cases hm0 : m < 0
        · rw [if_pos hm0] at hM; omega
        · rw [if_neg hm0] at hM; omega
      · have := h5 r
        have := off_lt HF.out (i := kk) (j := i + 1) (by omega) (by omega)
        by_cases hm0 : m < 0
        · rw [if_pos hm0] at hM; omega
        · rw [if_neg hm0] at hM; omega
    · have := h6 (by omega)
      omega
  clear h hp ho hm1
  have hoz : (off fs sure : Int) ≤ 1740 := by have := off_mono (l := fs) hs; rw [off_all] at this; omega
  obtain ⟨D, hD⟩ : ∃ D : Int, D = (off fs sure : Int) + 1 := ⟨_, rfl⟩
  rw [← hD] at t2 CD
  have HD : Hid _ := hD
  have HX : Hid _ := hx
  have hxb : x ≤ 2000 := by omega
  clear hD hx hoz
  have hMb : M ≤ 9223372036854775807 := by
    by_cases hm0 : m < 0
    · rw [if_pos hm0] at hM; omega
    · rw [if_neg hm0] at hM; omega
  have hM0 : 0 ≤ M := by
    by_cases hm0 : m < 0
    · rw [if_pos hm0] at hM; omega
    · rw [if_neg hm0] at hM; omega
  by_cases hm0 : m < 0
  · rw [if_pos hm0] at hM
    subst hM
    go_enter Tryz.func35, Tryz.ntmps35
    go_wp2_with (first
      | (go_at_call 66; refine CF.out.mono ?_; clear CF; rintro e w1 ⟨j, rfl, hj1, hj2, hj3, S1, k1⟩; have HSj : Hid ((kk = sure → j = kk) ∧ (kk < sure → FrJ fs sure kk m j)) := And.intro hj2 hj3; have HS1 : Hid _ := S1; have HP1 : Hid _ := HP.out.kept k1; have HO1 : Hid _ := HO.out.kept k1; clear hj2 hj3 S1 k1 HP HO)
      | (go_at_call 25; refine (CD.out _ HS1.out).mono ?_; clear CD; rintro e w2 ⟨rfl, rfl⟩))
    have c0 := HP1.out.c0
    have c1 := HP1.out.c1
    go_loopw [13, 14] (fun sv iv wr => ∃ i : Nat, kk ≤ i ∧ i ≤ sure ∧ iv = .int .i64 (i : Int) ∧ sv = .string (mid fs kk i) ∧ Hid (∀ q, kk + 1 ≤ q → q < i → (off fs (q + 1) : Int) - (off fs kk : Int) ≤ (0 : Int)) ∧ wr = w2) (fun _ iv _ => sure - (intOf iv).toNat)
    case atStart => exact ⟨kk, Nat.le_refl _, hkk, rfl, by rw [mid_nil], fun q q1 q2 => by omega, rfl⟩
    case round =>
      obtain ⟨i, hi1, hi2, rfl, rfl, hon, rfl⟩ := hrel
      by_cases hlt : i < sure
      · obtain ⟨g, ha, hcell⟩ := HO1.out.at_ (i := i) (by omega)
        subst ha
        have hos := off_succ (l := fs) (i := i) (by omega)
        have hom := off_mono (l := fs) (i := i + 1) (j := fs.length) (by omega)
        rw [off_all] at hom
        have hok := off_mono (l := fs) hi1
        have hms := mid_size (fs := fs) hi1 (by omega)
        have hfl : i < fs.length := by omega
        have hl2 : (i : Int) < (sure : Int) := by omega
        have hzb : ((mid fs kk i).size : Int) ≤ 1740 := by omega
        have hfb : (fs[i].size : Int) ≤ 1740 := by omega
        have hw : IntKind.i64.wrap (0 - ((mid fs kk i).size : Int)) = 0 - ((mid fs kk i).size : Int) := by rw [IntKind.wrap_i64]; omega
        have hw' : IntKind.i64.wrap (-((mid fs kk i).size : Int)) = -((mid fs kk i).size : Int) := by rw [IntKind.wrap_i64]; omega
        have HT : Hid (((fs[i].size : Int) ≤ 0 - ((mid fs kk i).size : Int)) ↔ (off fs (i + 1) : Int) - (off fs kk : Int) ≤ (0 : Int)) := (by omega : ((fs[i].size : Int) ≤ 0 - ((mid fs kk i).size : Int)) ↔ (off fs (i + 1) : Int) - (off fs kk : Int) ≤ (0 : Int))
        have HC : Hid (mid fs kk (i + 1) = mid fs kk i ++ fs[i]) := mid_succ hi1 hfl
        have hib : (i : Int) ≤ 300 := by omega
        clear hos hom hok hms
        generalize hF : fs[i] = F at *
        generalize hZ : mid fs kk i = Z at *
        clear hF
        by_cases hk1 : kk < i
        · have hk2 : (kk : Int) < (i : Int) := by omega
          by_cases hT : (F.size : Int) ≤ 0 - (Z.size : Int)
          · go_wp2
            go_roundw
            case rel => exact ⟨i + 1, by omega, by omega, by go_num, by rw [HC.out], fun q q1 q2 => by
                rcases Nat.lt_or_ge q i with r | r
                · exact hon.out q q1 r
                · have : q = i := by omega
                  subst this; exact HT.out.1 hT, by first | rfl | trivial⟩
            case measure => simp [intOf]; omega
          · have hT2 : 0 - (Z.size : Int) < (F.size : Int) := by omega
            have hT3 : -(Z.size : Int) < (F.size : Int) := by omega
            obtain rfl : i = j := HJ.out i hi1 hi2 hon.out (fun _ => by omega) (fun _ => (by have := (not_congr HT.out).1 hT; omega)) j HSj.out.1 HSj.out.2
            rw [hZ]
            go_wp2
            go_ret
            exact ⟨rfl, HS1.out.bel⟩
        · obtain rfl : kk = i := by omega
          have hk2 : ¬ (kk : Int) < (kk : Int) := by omega
          go_wp2
          go_roundw
          case rel => exact ⟨kk + 1, by omega, by omega, by go_num, by rw [HC.out], fun q q1 q2 => by omega, by first | rfl | trivial⟩
          case measure => simp [intOf]; omega
      · obtain rfl : i = sure := by omega
        have hl2 : ¬ (i : Int) < (i : Int) := by omega
        obtain rfl : i = j := HJ.out i hi1 hi2 hon.out (fun q => by omega) (fun q => by omega) j HSj.out.1 HSj.out.2
        clear hlt
        generalize mid fs kk i = Z at *
        go_wp2
        go_ret
        exact ⟨rfl, HS1.out.bel⟩
  · rw [if_neg hm0] at hM
    subst hM
    go_enter Tryz.func35, Tryz.ntmps35
    go_wp2_with (first
      | (go_at_call 66; refine CF.out.mono ?_; clear CF; rintro e w1 ⟨j, rfl, hj1, hj2, hj3, S1, k1⟩; have HSj : Hid ((kk = sure → j = kk) ∧ (kk < sure → FrJ fs sure kk M j)) := And.intro hj2 hj3; have HS1 : Hid _ := S1; have HP1 : Hid _ := HP.out.kept k1; have HO1 : Hid _ := HO.out.kept k1; clear hj2 hj3 S1 k1 HP HO)
      | (go_at_call 25; refine (CD.out _ HS1.out).mono ?_; clear CD; rintro e w2 ⟨rfl, rfl⟩))
    have c0 := HP1.out.c0
    have c1 := HP1.out.c1
    go_loopw [13, 14] (fun sv iv wr => ∃ i : Nat, kk ≤ i ∧ i ≤ sure ∧ iv = .int .i64 (i : Int) ∧ sv = .string (mid fs kk i) ∧ Hid (∀ q, kk + 1 ≤ q → q < i → (off fs (q + 1) : Int) - (off fs kk : Int) ≤ M) ∧ wr = w2) (fun _ iv _ => sure - (intOf iv).toNat)
    case atStart => exact ⟨kk, Nat.le_refl _, hkk, rfl, by rw [mid_nil], fun q q1 q2 => by omega, rfl⟩
    case round =>
      obtain ⟨i, hi1, hi2, rfl, rfl, hon, rfl⟩ := hrel
      by_cases hlt : i < sure
      · obtain ⟨g, ha, hcell⟩ := HO1.out.at_ (i := i) (by omega)
        subst ha
        have hos := off_succ (l := fs) (i := i) (by omega)
        have hom := off_mono (l := fs) (i := i + 1) (j := fs.length) (by omega)
        rw [off_all] at hom
        have hok := off_mono (l := fs) hi1
        have hms := mid_size (fs := fs) hi1 (by omega)
        have hfl : i < fs.length := by omega
        have hl2 : (i : Int) < (sure : Int) := by omega
        have hzb : ((mid fs kk i).size : Int) ≤ 1740 := by omega
        have hfb : (fs[i].size : Int) ≤ 1740 := by omega
        have hw : IntKind.i64.wrap (M - ((mid fs kk i).size : Int)) = M - ((mid fs kk i).size : Int) := by rw [IntKind.wrap_i64]; omega
        have HT : Hid (((fs[i].size : Int) ≤ M - ((mid fs kk i).size : Int)) ↔ (off fs (i + 1) : Int) - (off fs kk : Int) ≤ M) := (by omega : ((fs[i].size : Int) ≤ M - ((mid fs kk i).size : Int)) ↔ (off fs (i + 1) : Int) - (off fs kk : Int) ≤ M)
        have HC : Hid (mid fs kk (i + 1) = mid fs kk i ++ fs[i]) := mid_succ hi1 hfl
        have hib : (i : Int) ≤ 300 := by omega
        clear hos hom hok hms
        generalize hF : fs[i] = F at *
        generalize hZ : mid fs kk i = Z at *
        clear hF
        by_cases hk1 : kk < i
        · have hk2 : (kk : Int) < (i : Int) := by omega
          by_cases hT : (F.size : Int) ≤ M - (Z.size : Int)
          · go_wp2
            go_roundw
            case rel => exact ⟨i + 1, by omega, by omega, by go_num, by rw [HC.out], fun q q1 q2 => by
                rcases Nat.lt_or_ge q i with r | r
                · exact hon.out q q1 r
                · have : q = i := by omega
                  subst this; exact HT.out.1 hT, by first | rfl | trivial⟩
            case measure => simp [intOf]; omega
          · have hT2 : M - (Z.size : Int) < (F.size : Int) := by omega
            obtain rfl : i = j := HJ.out i hi1 hi2 hon.out (fun _ => by omega) (fun _ => (by have := (not_congr HT.out).1 hT; omega)) j HSj.out.1 HSj.out.2
            rw [hZ]
            go_wp2
            go_ret
            exact ⟨rfl, HS1.out.bel⟩
        · obtain rfl : kk = i := by omega
          have hk2 : ¬ (kk : Int) < (kk : Int) := by omega
          go_wp2
          go_roundw
          case rel => exact ⟨kk + 1, by omega, by omega, by go_num, by rw [HC.out], fun q q1 q2 => by omega, by first | rfl | trivial⟩
          case measure => simp [intOf]; omega
      · obtain rfl : i = sure := by omega
        have hl2 : ¬ (i : Int) < (i : Int) := by omega
        obtain rfl : i = j := HJ.out i hi1 hi2 hon.out (fun q => by omega) (fun q => by omega) j HSj.out.1 HSj.out.2
        clear hlt
        generalize mid fs kk i = Z at *
        go_wp2
        go_ret
        exact ⟨rfl, HS1.out.bel⟩
end
end Go.Proofs.YtgcfbjecmmnlhaaGreat

namespace Go.Proofs.YtgcfbjecmmnlhaaGreat
open Go.RowKit Go.Maps Go.ChangeMaps
set_option linter.unusedVariables false
set_option linter.unusedSimpArgs false
set_option maxRecDepth 100000

section
variable {B l k db run sure p n : Nat} {w w' w0 wx : World} {S S' : Dk} {fs gs ss : List ByteArray} {v av u : Value}
/-- The law's k: the frame at whose place x is, or -1. -/
def KV (fs : List ByteArray) (x kv : Int) : Prop := (kv = -1 ∧ bnd fs x = false) ∨ (∃ kk : Nat, kk ≤ fs.length ∧ kv = (kk : Int) ∧ x = 1 + (off fs kk : Int))
theorem fromIs_any (h : SlS w0 wx l k S db 1 fs sure) (hp : Pl w0.heap.size wx p av sure) (ho : OwnS w0.heap.size wx av fs) (kv x m : Int) (hmb : m ≤ 9223372036854775807) (hk : KV fs x kv) : Calls Tryz.prog 35 #[.pointer (some ⟨l, 0, none⟩), .pointer (some ⟨p, 0, none⟩), .int .i64 kv, .int .i64 x, .int .i64 m] wx fun e w' => e = .returned (.bool true) ∧ Below w0.heap.size w0 w' := by
  by_cases hr : x < 1 ∨ (off fs sure : Int) + 1 < x
  · exact fromIs_out h kv x m hr
  · have h1 : ¬ x < 1 := fun q => hr (Or.inl q)
    have h2 : ¬ (off fs sure : Int) + 1 < x := fun q => hr (Or.inr q)
    rcases hk with ⟨rfl, hb⟩ | ⟨kk, hkk, rfl, hx⟩
    · exact fromIs_no h x m h1 h2 hb
    · refine fromIs_at h hp ho kk ?_ x m hmb hx
      rcases Nat.lt_or_ge sure kk with q | q
      · have := off_lt h.lv.fit.frm q hkk
        omega
      · exact q
theorem SlS.readOut (h : SlS w0 wx l k S db run fs sure) (x : Int) (hx : x < 1 ∨ ((cat fs).size : Int) + 1 ≤ x) : Calls Tryz.prog 34 #[.pointer (some ⟨l, 0, none⟩), .int .i64 x] wx fun e w' => (∃ v m, e = .returned (.tuple #[v, .int .i64 0, .int .i64 8]) ∧ RecF w' v m wx.heap.size) ∧ SlS w0 w' l k S db run fs sure ∧ Kp isA w0.heap.size wx w' := by
  refine (read_out h.lv.lx h.lv.fit x hx).mono ?_
  rintro e w' ⟨he, hb⟩
  exact ⟨⟨_, _, he, RecF.zero _ _⟩, h.below hb, Kp.of_below hb h.bel.size⟩
theorem SlS.readAt (h : SlS w0 wx l k S db run fs sure) (kk : Nat) (hkk : kk < fs.length) (x : Int) (hx : x = 1 + (off fs kk : Int)) : Calls Tryz.prog 34 #[.pointer (some ⟨l, 0, none⟩), .int .i64 x] wx fun e w' => (∃ v, e = .returned (.tuple #[v, .int .i64 (x + (fs[kk].size : Int)), .int .i64 0]) ∧ RecF w' v (recF fs[kk]) wx.heap.size) ∧ SlS w0 w' l k S db run fs sure ∧ Kp isA w0.heap.size wx w' := by
  have hoa := open_at h.lv.fit.frm hkk
  have hos := off_succ hkk
  have hom := off_mono (l := fs) (i := kk + 1) (j := fs.length) hkk
  rw [off_all] at hom
  have hsz := h.size
  have hlt := off_lt h.lv.fit.frm (i := kk) (j := kk + 1) (by omega) hkk
  refine (read_ok h.lv.lx h.lv.fit x (by omega) (by omega) (m := recF fs[kk]) (n := (fs[kk].size : Int)) (by rw [show x - 1 = (off fs kk : Int) by omega]; exact hoa) (by omega) (by omega)).mono ?_
  rintro e w' ⟨⟨v, he, hv⟩, hL, hK, _⟩
  exact ⟨⟨v, he, hv⟩, ⟨⟨hL, h.lv.up, h.lv.fit, h.lv.hs, h.lv.n, h.lv.r2, h.lv.q⟩, h.set, h.n, h.bel.trans hK.bel⟩, hK.l⟩
theorem SlS.readIn (h : SlS w0 wx l k S db run fs sure) (x : Int) (hx1 : 1 ≤ x) (hx2 : x < ((cat fs).size : Int) + 1) : Calls Tryz.prog 34 #[.pointer (some ⟨l, 0, none⟩), .int .i64 x] wx fun e w' => (∃ v m n g, e = .returned (.tuple #[v, .int .i64 n, .int .i64 g]) ∧ RecF w' v m wx.heap.size) ∧ SlS w0 w' l k S db run fs sure ∧ Kp isA w0.heap.size wx w' := by
  have hsz := h.size
  by_cases he : (openM (cat fs) (x - 1)).2.2 = 0
  · obtain ⟨a, ha⟩ : ∃ a : Nat, x - 1 = (a : Int) := ⟨(x - 1).toNat, by omega⟩
    have ho : openM (cat fs) (a : Int) = ((openM (cat fs) (x - 1)).1, (openM (cat fs) (x - 1)).2.1, 0) := by
      rw [← ha, ← he]
    obtain ⟨f, hf, hn, _, hle, _⟩ := open_frm (s := cat fs) (a := a) (by omega) ho
    refine (read_ok h.lv.lx h.lv.fit x hx1 hx2 (by rw [ha]; exact ho) (by omega) (by omega)).mono ?_
    rintro e w' ⟨⟨v, he, hv⟩, hL, hK, _⟩
    exact ⟨⟨v, _, _, _, he, hv⟩, ⟨⟨hL, h.lv.up, h.lv.fit, h.lv.hs, h.lv.n, h.lv.r2, h.lv.q⟩, h.set, h.n, h.bel.trans hK.bel⟩, hK.l⟩
  · refine (read_bad h.lv.lx h.lv.fit x hx1 hx2 he).mono ?_
    rintro e w' ⟨⟨y, he⟩, hL, hK⟩
    exact ⟨⟨_, _, _, _, he, RecF.zero _ _⟩, ⟨⟨hL, h.lv.up, h.lv.fit, h.lv.hs, h.lv.n, h.lv.r2, h.lv.q⟩, h.set, h.n, h.bel.trans hK.bel⟩, hK.l⟩
theorem SlS.bound (h : SlS w0 wx l k S db run fs sure) (x : Int) : Calls Tryz.prog 28 #[.pointer (some ⟨l, 0, none⟩), .int .i64 x] wx fun e w' => e = .returned (.bool (bnd fs x)) ∧ Below wx.heap.size wx w' := Bound_any h.lv.lx h.lv.fit x
theorem SlS.end_ (h : SlS w0 wx l k S db run fs sure) : Calls Tryz.prog 24 #[.pointer (some ⟨l, 0, none⟩)] wx fun e w' => e = .returned (.int .i64 (((cat fs).size : Int) + 1)) ∧ w' = wx := End_any h.lv.lx.g (by have := h.size; show (cat fs).size ≤ 1000000; omega)
end
end Go.Proofs.YtgcfbjecmmnlhaaGreat
