/- Bytes that are read as a page, or refused: headRight, read. -/
import Derived.Test.YtmoognjegjeegaaChk
namespace Go.Proofs.Ytmoognjegjeegaa
open Go.RowKit
set_option linter.unusedVariables false
set_option linter.unusedSimpArgs false
set_option maxRecDepth 100000

section
variable {w : World} {b : Nat} {s : List UInt8}
theorem headRight_any (w : World) (h : Sh w b s) : Calls Try.prog 56 #[.pointer (some ⟨b, 0, none⟩)] w fun e w' => e = .returned (.bool (headB s)) ∧ w' = w := by
  have C1 : Hid (∀ w, Sh w b s → Calls Try.prog 41 #[.pointer (some ⟨b, 0, none⟩)] w fun e w' => e = .returned (.int .i64 (g s 0)) ∧ w' = w) := fun w h => kind_any w h
  have C2 : Hid (∀ w, Sh w b s → Calls Try.prog 42 #[.pointer (some ⟨b, 0, none⟩)] w fun e w' => e = .returned (.int .i64 (g s 1)) ∧ w' = w) := fun w h => level_any w h
  have C3 : Hid (∀ w, Sh w b s → Calls Try.prog 39 #[.pointer (some ⟨b, 0, none⟩)] w fun e w' => e = .returned (.int .i64 (cnt s)) ∧ w' = w) := fun w h => count_any w h
  have C4 : Hid (∀ w, Sh w b s → Calls Try.prog 63 #[.pointer (some ⟨b, 0, none⟩)] w fun e w' => e = .returned (.int .i64 (en s)) ∧ w' = w) := fun w h => end_any w h
  have C5 : Hid (∀ w, Calls Try.prog 45 #[.int .i64 (g s 0 : Int), .int .i64 (g s 1 : Int)] w fun e w' => e = .returned (.bool (fit (g s 0) (g s 1))) ∧ w' = w) := fun w => fits_any w _ _
  have b0 := g_lt s 0
  have b1 := g_lt s 1
  have b2 : cnt s < 256 := g_lt s 2
  have b3 : en s < 256 := g_lt s 3
  have hl := h.len
  have hf : fit (g s 0) (g s 1) = decide (g s 0 ≤ 2 ∧ (g s 0 = 2 ∨ g s 1 = 0)) := by
    rw [fit]; exact decide_eq_decide.2 ⟨fun h => by omega, fun h => by omega⟩
  have H : Hid _ := h
  clear h
  by_cases h1 : g s 0 ≤ 2 ∧ (g s 0 = 2 ∨ g s 1 = 0)
  · rw [hf, decide_eq_true h1] at C5
    by_cases h2 : g s 0 = 0
    · have h2' : ((g s 0 : Int) == 0) = true := by simp [h2]
      by_cases h3 : 0 < cnt s
      · have h3' : (0 : Int) < (cnt s : Int) := by omega
        have hno : Hid (headB s = false) := by
          have : headB s = false := by simp only [headB, decide_eq_false_iff_not]; omega
          exact this
        generalize (g s 0) = k0 at *
        clear hf h1 h2
        go_enter Try.func56, Try.ntmps56
        go_wp2_with (first | (go_at_call 41; refine (C1.out _ H.out).mono ?_; rintro e w' ⟨rfl, rfl⟩) | (go_at_call 42; refine (C2.out _ H.out).mono ?_; rintro e w' ⟨rfl, rfl⟩) | (go_at_call 45; refine (C5.out _).mono ?_; rintro e w' ⟨rfl, rfl⟩) | (go_at_call 39; refine (C3.out _ H.out).mono ?_; rintro e w' ⟨rfl, rfl⟩))
        go_ret
        exact ⟨by rw [hno.out]; rfl, rfl⟩
      · have h3' : ¬ (0 : Int) < (cnt s : Int) := by omega
        have hyes : Hid (headB s = decide (4 ≤ en s ∧ en s + cnt s ≤ 224)) := by
          have : headB s = decide (4 ≤ en s ∧ en s + cnt s ≤ 224) := by rw [headB]; exact decide_eq_decide.2 ⟨fun h => by omega, fun h => by omega⟩
          exact this
        generalize (g s 0) = k0 at *
        clear hf h1 h2
        by_cases h4 : 4 ≤ en s
        · have h4' : (4 : Int) ≤ (en s : Int) := by omega
          go_enter Try.func56, Try.ntmps56
          go_wp2_with (first | (go_at_call 41; refine (C1.out _ H.out).mono ?_; rintro e w' ⟨rfl, rfl⟩) | (go_at_call 42; refine (C2.out _ H.out).mono ?_; rintro e w' ⟨rfl, rfl⟩) | (go_at_call 45; refine (C5.out _).mono ?_; rintro e w' ⟨rfl, rfl⟩) | (go_at_call 39; refine (C3.out _ H.out).mono ?_; rintro e w' ⟨rfl, rfl⟩) | (go_at_call 63; refine (C4.out _ H.out).mono ?_; rintro e w' ⟨rfl, rfl⟩))
          go_ret
          exact ⟨by rw [hyes.out, show decide (4 ≤ en s ∧ en s + cnt s ≤ 224) = decide ((en s : Int) + (cnt s : Int) ≤ 224) from decide_eq_decide.2 ⟨fun h => by omega, fun h => by omega⟩]; rfl, rfl⟩
        · have h4' : ¬ (4 : Int) ≤ (en s : Int) := by omega
          go_enter Try.func56, Try.ntmps56
          go_wp2_with (first | (go_at_call 41; refine (C1.out _ H.out).mono ?_; rintro e w' ⟨rfl, rfl⟩) | (go_at_call 42; refine (C2.out _ H.out).mono ?_; rintro e w' ⟨rfl, rfl⟩) | (go_at_call 45; refine (C5.out _).mono ?_; rintro e w' ⟨rfl, rfl⟩) | (go_at_call 39; refine (C3.out _ H.out).mono ?_; rintro e w' ⟨rfl, rfl⟩) | (go_at_call 63; refine (C4.out _ H.out).mono ?_; rintro e w' ⟨rfl, rfl⟩))
          go_ret
          exact ⟨by rw [hyes.out, show decide (4 ≤ en s ∧ en s + cnt s ≤ 224) = false by simp only [decide_eq_false_iff_not]; omega]; rfl, rfl⟩
    · have h2' : ((g s 0 : Int) == 0) = false := by simp; omega
      have hyes : Hid (headB s = decide (4 ≤ en s ∧ en s + cnt s ≤ 224)) := by
        have : headB s = decide (4 ≤ en s ∧ en s + cnt s ≤ 224) := by rw [headB]; exact decide_eq_decide.2 ⟨fun h => by omega, fun h => by omega⟩
        exact this
      generalize (g s 0) = k0 at *
      clear hf h1 h2
      by_cases h4 : 4 ≤ en s
      · have h4' : (4 : Int) ≤ (en s : Int) := by omega
        go_enter Try.func56, Try.ntmps56
        go_wp2_with (first | (go_at_call 41; refine (C1.out _ H.out).mono ?_; rintro e w' ⟨rfl, rfl⟩) | (go_at_call 42; refine (C2.out _ H.out).mono ?_; rintro e w' ⟨rfl, rfl⟩) | (go_at_call 45; refine (C5.out _).mono ?_; rintro e w' ⟨rfl, rfl⟩) | (go_at_call 39; refine (C3.out _ H.out).mono ?_; rintro e w' ⟨rfl, rfl⟩) | (go_at_call 63; refine (C4.out _ H.out).mono ?_; rintro e w' ⟨rfl, rfl⟩))
        go_ret
        exact ⟨by rw [hyes.out, show decide (4 ≤ en s ∧ en s + cnt s ≤ 224) = decide ((en s : Int) + (cnt s : Int) ≤ 224) from decide_eq_decide.2 ⟨fun h => by omega, fun h => by omega⟩]; rfl, rfl⟩
      · have h4' : ¬ (4 : Int) ≤ (en s : Int) := by omega
        go_enter Try.func56, Try.ntmps56
        go_wp2_with (first | (go_at_call 41; refine (C1.out _ H.out).mono ?_; rintro e w' ⟨rfl, rfl⟩) | (go_at_call 42; refine (C2.out _ H.out).mono ?_; rintro e w' ⟨rfl, rfl⟩) | (go_at_call 45; refine (C5.out _).mono ?_; rintro e w' ⟨rfl, rfl⟩) | (go_at_call 39; refine (C3.out _ H.out).mono ?_; rintro e w' ⟨rfl, rfl⟩) | (go_at_call 63; refine (C4.out _ H.out).mono ?_; rintro e w' ⟨rfl, rfl⟩))
        go_ret
        exact ⟨by rw [hyes.out, show decide (4 ≤ en s ∧ en s + cnt s ≤ 224) = false by simp only [decide_eq_false_iff_not]; omega]; rfl, rfl⟩
  · rw [hf, decide_eq_false h1] at C5
    have hno : Hid (headB s = false) := by
      have : headB s = false := by simp only [headB, decide_eq_false_iff_not]; omega
      exact this
    clear hf h1
    go_enter Try.func56, Try.ntmps56
    go_wp2_with (first | (go_at_call 41; refine (C1.out _ H.out).mono ?_; rintro e w' ⟨rfl, rfl⟩) | (go_at_call 42; refine (C2.out _ H.out).mono ?_; rintro e w' ⟨rfl, rfl⟩) | (go_at_call 45; refine (C5.out _).mono ?_; rintro e w' ⟨rfl, rfl⟩))
    go_ret
    exact ⟨by rw [hno.out]; rfl, rfl⟩

theorem read_size (w : World) (p : ByteArray) (hp : p.size ≠ 224) (hz : p.size ≤ 140737488351232) : Calls Try.prog 37 #[.string p] w fun e w' => e = .returned (.tuple #[pgV zs, .bool false]) ∧ Below w.heap.size w w' := by
  have h1 : ((p.size : Int) != 224) = true := by simp; omega
  go_enter Try.func37, Try.ntmps37
  go_wp2_with (first | (refine wpList_new_sh _ rfl rfl ?_; first | (have := N1; intro w2 b2 N2) | (intro w1 b1 N1)) | (refine wpList_put_sh _ rfl _ _ rfl rfl (t := zs) zero63 (N1.sh.below N2.below) zs_length ?_; intro w3 P3))
  refine bodyPost_ret (results_row_tmp rfl _ _ b1 63 (pgA zs) (0, 0) _ rfl P3.sh.blk row_sheet rfl (info_pg zs_length)) rfl ?_
  have z1 := N1.below.size
  have z2 := N2.below.size
  exact ⟨rfl, N1.below.trans ((N2.below.mono z1).trans (P3.below N1.le (by omega)))⟩
theorem read_any (w : World) (p : ByteArray) (hp : p.size = 224) : Calls Try.prog 37 #[.string p] w fun e w' => e = .returned (.tuple #[pgV (if rightB (bts p) then bts p else zs), .bool (rightB (bts p))]) ∧ Below w.heap.size w w' := by
  have h1 : ((p.size : Int) != 224) = false := by simp; omega
  obtain ⟨s, hs⟩ : ∃ s, s = bts p := ⟨_, rfl⟩
  have hsl : s.length = 224 := by rw [hs, bts_length, hp]
  have C1 : Hid (∀ w b, Sh w b s → Calls Try.prog 56 #[.pointer (some ⟨b, 0, none⟩)] w fun e w' => e = .returned (.bool (headB s)) ∧ w' = w) := fun w b h => headRight_any w h
  rw [← hs]
  have C2 : Hid (Head s → ∀ w b, Sh w b s → Calls Try.prog 57 #[.pointer (some ⟨b, 0, none⟩)] w fun e w' => e = .returned (.bool (allB s)) ∧ Below w.heap.size w w') := (fun hd w b h => cellsRight_any w h hd : Head s → ∀ w b, Sh w b s → Calls Try.prog 57 #[.pointer (some ⟨b, 0, none⟩)] w fun e w' => e = .returned (.bool (allB s)) ∧ Below w.heap.size w w')
  have HS : Hid _ := hs
  clear hs
  cases hh : headB s
  · rw [hh] at C1
    have hr : rightB s = false := by simp [rightB, hh]
    rw [hr]
    simp only [Bool.false_eq_true, if_false]
    clear hr
    go_enter Try.func37, Try.ntmps37
    go_wp2_with (first | (refine wpList_new_sh _ rfl rfl ?_; first | (have := N1; intro w2 b2 N2) | (intro w1 b1 N1)) | (refine wpList_copy_all _ rfl _ _ rfl rfl rfl N2.sh hp ?_; rw [← HS.out]; intro w3 P3) | (go_at_call 56; refine (C1.out _ _ P3.sh).mono ?_; rintro e w' ⟨rfl, rfl⟩) | (refine wpList_put_sh _ rfl _ _ rfl rfl (t := zs) zero63 ((N1.sh.below N2.below).off P3.off ?_) zs_length ?_; intro e; have z1 := N1.sh.lt; have z2 := N2.le; omega; intro w4 P4))
    refine bodyPost_ret (results_row_tmp rfl _ _ b1 63 (pgA zs) (0, 0) _ rfl P4.sh.blk row_sheet rfl (info_pg zs_length)) rfl ?_
    have z1 := N1.below.size
    have z2 := N2.below.size
    have z3 := P3.off.size
    have z4 := N2.le
    exact ⟨rfl, N1.below.trans ((N2.below.mono z1).trans ((P3.below (by omega) (by omega)).trans (P4.below N1.le (by omega))))⟩
  · rw [hh] at C1
    have C3 := C2.out ((headB_iff s).1 hh)
    have CC : Hid (∀ w b, Sh w b s → Calls Try.prog 57 #[.pointer (some ⟨b, 0, none⟩)] w fun e w' => e = .returned (.bool (allB s)) ∧ Below w.heap.size w w') := C3
    have hr : rightB s = allB s := by simp [rightB, hh]
    clear C3 C2
    cases ha : allB s
    · rw [ha] at CC hr
      rw [hr]
      simp only [Bool.false_eq_true, if_false]
      clear hr
      go_enter Try.func37, Try.ntmps37
      go_wp2_with (first | (refine wpList_new_sh _ rfl rfl ?_; first | (have := N1; intro w2 b2 N2) | (intro w1 b1 N1)) | (refine wpList_copy_all _ rfl _ _ rfl rfl rfl N2.sh hp ?_; rw [← HS.out]; intro w3 P3) | (go_at_call 56; refine (C1.out _ _ P3.sh).mono ?_; rintro e w' ⟨rfl, rfl⟩) | (go_at_call 57; refine (CC.out _ _ P3.sh).mono ?_; rintro e w5 ⟨rfl, hb5⟩) | (refine wpList_put_sh _ rfl _ _ rfl rfl (t := zs) zero63 (((N1.sh.below N2.below).off P3.off ?_).below hb5) zs_length ?_; intro e; have z1 := N1.sh.lt; have z2 := N2.le; omega; intro w4 P4))
      refine bodyPost_ret (results_row_tmp rfl _ _ b1 63 (pgA zs) (0, 0) _ rfl P4.sh.blk row_sheet rfl (info_pg zs_length)) rfl ?_
      have z1 := N1.below.size
      have z2 := N2.below.size
      have z3 := P3.off.size
      have z4 := N2.le
      have z5 := hb5.size
      exact ⟨rfl, N1.below.trans ((N2.below.mono z1).trans ((P3.below (by omega) (by omega)).trans ((hb5.mono (by omega)).trans (P4.below N1.le (by omega)))))⟩
    · rw [ha] at CC hr
      rw [hr]
      simp only [if_true]
      clear hr
      go_enter Try.func37, Try.ntmps37
      go_wp2_with (first | (refine wpList_new_sh _ rfl rfl ?_; first | (have := N1; intro w2 b2 N2) | (intro w1 b1 N1)) | (refine wpList_copy_all _ rfl _ _ rfl rfl rfl N2.sh hp ?_; rw [← HS.out]; intro w3 P3) | (go_at_call 56; refine (C1.out _ _ P3.sh).mono ?_; rintro e w' ⟨rfl, rfl⟩) | (go_at_call 57; refine (CC.out _ _ P3.sh).mono ?_; rintro e w5 ⟨rfl, hb5⟩) | (refine wpList_load_sh _ rfl _ rfl _ rfl s (P3.sh.below hb5) ?_) | (refine wpList_put_sh _ rfl _ _ rfl rfl (t := s) rfl (((N1.sh.below N2.below).off P3.off ?_).below hb5) hsl ?_; intro e; have z1 := N1.sh.lt; have z2 := N2.le; omega; intro w4 P4))
      refine bodyPost_ret (results_row_tmp rfl _ _ b1 63 (pgA s) (0, 0) _ rfl P4.sh.blk row_sheet rfl (info_pg hsl)) rfl ?_
      have z1 := N1.below.size
      have z2 := N2.below.size
      have z3 := P3.off.size
      have z4 := N2.le
      have z5 := hb5.size
      exact ⟨rfl, N1.below.trans ((N2.below.mono z1).trans ((P3.below (by omega) (by omega)).trans ((hb5.mono (by omega)).trans (P4.below N1.le (by omega)))))⟩
/-- read, of whatever bytes. -/
theorem read_right (w : World) (p : ByteArray) (h : Right (bts p)) : Calls Try.prog 37 #[.string p] w fun e w' => e = .returned (.tuple #[pgV (bts p), .bool true]) ∧ Below w.heap.size w w' := by
  have := read_any w p (by rw [← bts_length, h.head.len])
  rw [(rightB_iff _).2 h] at this
  exact this
theorem read_wrong (w : World) (p : ByteArray) (hz : p.size ≤ 140737488351232) (h : ¬ Right (bts p)) : Calls Try.prog 37 #[.string p] w fun e w' => e = .returned (.tuple #[pgV zs, .bool false]) ∧ Below w.heap.size w w' := by
  by_cases hp : p.size = 224
  · have := read_any w p hp
    rw [show rightB (bts p) = false from Bool.eq_false_iff.2 (fun e => h ((rightB_iff _).1 e))] at this
    exact this
  · exact read_size w p hp hz
end
end Go.Proofs.Ytmoognjegjeegaa
