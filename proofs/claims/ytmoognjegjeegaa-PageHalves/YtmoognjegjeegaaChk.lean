/- Whether bytes are a page: cellRight, cellsRight, headRight, read. -/
import Derived.Test.YtmoognjegjeegaaRd
namespace Go.Proofs.Ytmoognjegjeegaa
open Go.RowKit
set_option linter.unusedVariables false
set_option linter.unusedSimpArgs false
set_option maxRecDepth 100000

section
variable {w : World} {b : Nat} {s : List UInt8}
theorem cell_any (w : World) (h : Sh w b s) (i : Nat) (hi : i < 224) (ha : At s (slot s i)) (he : en s ≤ 223) : Calls Try.prog 40 #[.pointer (some ⟨b, 0, none⟩), .int .i64 (i : Int)] w fun e w' => e = .returned (.agg #[.string (cell s i).k, .string (cell s i).v]) ∧ Below w.heap.size w w' := by
  have C1 : Hid (∀ w, Sh w b s → Calls Try.prog 60 #[.pointer (some ⟨b, 0, none⟩), .int .i64 (i : Int)] w fun e w' => e = .returned (.string (cell s i).k) ∧ ∃ n, w' = w.drewN n) := fun w h => key_any w h i hi ha he
  have C2 : Hid (∀ w, Sh w b s → Calls Try.prog 61 #[.pointer (some ⟨b, 0, none⟩), .int .i64 (i : Int)] w fun e w' => e = .returned (.string (cell s i).v) ∧ ∃ n, w' = w.drewN n) := fun w h => val_any w h i hi ha he
  have H : Hid _ := h
  clear h ha he
  generalize (cell s i) = c at *
  go_enter Try.func40, Try.ntmps40
  go_wp2_with (first | (go_at_call 60; refine (C1.out _ (H.out.alloc _)).mono ?_; rintro e w' ⟨rfl, n1, rfl⟩) | (go_at_call 61; refine (C2.out _ ((H.out.alloc _).drewN _)).mono ?_; rintro e w' ⟨rfl, n2, rfl⟩))
  refine bodyPost_ret (results_cell_row rfl _ _ w.heap.size 28 #[.string c.k, .string c.v] (0, 0) _ rfl (block_set2 ((MapKept.heap_alloc w _).1) _ _) Try.underlying28 rfl info_cell) rfl ?_
  exact ⟨rfl, (((below_drewN ((Below.refl _ _).alloc (Nat.le_refl _) _) _).setCell (Nat.le_refl _) _).setCell (Nat.le_refl _) _)⟩

/-- Is the cell that begins at x right? -/
theorem cellRight_any (w : World) (h : Sh w b s) (i : Nat) (hi : i < 224) (hl : en s ≤ 224) : Calls Try.prog 65 #[.pointer (some ⟨b, 0, none⟩), .int .i64 (i : Int)] w fun e w' => e = .returned (.bool (atB s (slot s i))) ∧ ∃ n, w' = w.drewN n := by
  have C : Hid (∀ w, Sh w b s → Calls Try.prog 66 #[.pointer (some ⟨b, 0, none⟩), .int .i64 (i : Int)] w fun e w' => e = .returned (.int .i64 (slot s i)) ∧ w' = w) := fun w h => slot_any w h i hi
  have C2 : Hid (∀ w, Sh w b s → Calls Try.prog 63 #[.pointer (some ⟨b, 0, none⟩)] w fun e w' => e = .returned (.int .i64 (en s)) ∧ w' = w) := fun w h => end_any w h
  obtain ⟨x, hx⟩ : ∃ x, x = slot s i := ⟨_, rfl⟩
  rw [← hx] at C ⊢
  have H : Hid _ := h
  have hxb : x < 256 := by rw [hx]; exact g_lt _ _
  clear hx
  by_cases h1 : x < 4
  · have h1' : (x : Int) < 4 := by omega
    clear h
    go_enter Try.func65, Try.ntmps65
    go_wp2_with (go_at_call 66; refine (C.out _ H.out).mono ?_; rintro e w' ⟨rfl, rfl⟩)
    go_ret
    exact ⟨by rw [show atB s x = false by simp only [atB, decide_eq_false_iff_not]; omega]; rfl, 0, rfl⟩
  · have h1' : ¬ (x : Int) < 4 := by omega
    by_cases h2 : en s < x + 2
    · have h2' : (en s : Int) < (x : Int) + 2 := by omega
      clear h
      go_enter Try.func65, Try.ntmps65
      go_wp2_with (first | (go_at_call 66; refine (C.out _ H.out).mono ?_; rintro e w' ⟨rfl, rfl⟩) | (go_at_call 63; refine (C2.out _ H.out).mono ?_; rintro e w' ⟨rfl, rfl⟩))
      go_ret
      exact ⟨by rw [show atB s x = false by simp only [atB, decide_eq_false_iff_not]; omega]; rfl, 0, rfl⟩
    · have h2' : ¬ (en s : Int) < (x : Int) + 2 := by omega
      have hb := g_lt s x
      have hb1 := g_lt s (x + 1)
      have hc := h.cell (j := x) (by omega)
      have hc1 := h.cell (j := x + 1) (by omega)
      have hx' : x + 1 < 224 := by omega
      by_cases h3 : 16 < g s x
      · have h3' : (16 : Int) < (g s x : Int) := by omega
        clear h
        go_enter Try.func65, Try.ntmps65
        go_wp2_with (first | (go_at_call 66; refine (C.out _ H.out).mono ?_; rintro e w' ⟨rfl, rfl⟩) | (go_at_call 63; refine (C2.out _ H.out).mono ?_; rintro e w' ⟨rfl, rfl⟩))
        go_quiet (fail)
        go_wp2
        go_ret
        exact ⟨by rw [show atB s x = false by simp only [atB, decide_eq_false_iff_not]; omega]; rfl, _, rfl⟩
      · have h3' : ¬ (16 : Int) < (g s x : Int) := by omega
        by_cases h4 : 32 < g s (x + 1)
        · have h4' : (32 : Int) < (g s (x + 1) : Int) := by omega
          clear h
          go_enter Try.func65, Try.ntmps65
          go_wp2_with (first | (go_at_call 66; refine (C.out _ H.out).mono ?_; rintro e w' ⟨rfl, rfl⟩) | (go_at_call 63; refine (C2.out _ H.out).mono ?_; rintro e w' ⟨rfl, rfl⟩))
          go_quiet (fail)
          go_wp2
          go_ret
          exact ⟨by rw [show atB s x = false by simp only [atB, decide_eq_false_iff_not]; omega]; rfl, _, rfl⟩
        · have h4' : ¬ (32 : Int) < (g s (x + 1) : Int) := by omega
          clear h
          go_enter Try.func65, Try.ntmps65
          go_wp2_with (first | (go_at_call 66; refine (C.out _ H.out).mono ?_; rintro e w' ⟨rfl, rfl⟩) | (go_at_call 63; refine (C2.out _ H.out).mono ?_; rintro e w' ⟨rfl, rfl⟩))
          go_quiet (fail)
          go_wp2_with (go_at_call 63; refine (C2.out _ (H.out.drewN _)).mono ?_; rintro e w' ⟨rfl, rfl⟩)
          go_ret
          refine ⟨?_, _, rfl⟩
          rw [show atB s x = decide ((x : Int) + 2 + (g s x : Int) + (g s (x + 1) : Int) ≤ (en s : Int)) by
            rw [atB]; exact decide_eq_decide.2 ⟨fun h => by omega, fun h => by omega⟩]
          rfl

def cellsTo (s : List UInt8) (i : Nat) : List Cl := (List.range i).map (cell s)
theorem cellsTo_succ (s : List UInt8) (i : Nat) : cellsTo s (i + 1) = cellsTo s i ++ [cell s i] := by simp [cellsTo, List.range_succ]
theorem needs_to (s : List UInt8) (i : Nat) : needs (cellsTo s (i + 1)) = needs (cellsTo s i) + need (cell s i) := by rw [cellsTo_succ, needs_append]; simp [needs]
theorem needs_to_le {s : List UInt8} (hd : Head s) : ∀ i, (∀ j, j < i → Ok s j) → needs (cellsTo s i) ≤ 51 * i
  | 0, _ => by simp [cellsTo, needs]
  | i + 1, h => by
    have h1 := needs_to_le hd i (fun j hj => h j (by omega))
    have h2 := (h i (by omega)).need hd
    rw [needs_to, need]; omega
def keyI (s : List UInt8) (x : Int) : ByteArray := key s x.toNat

set_option maxHeartbeats 1000000 in
theorem cellsRight_any (w : World) (h : Sh w b s) (hd : Head s) : Calls Try.prog 57 #[.pointer (some ⟨b, 0, none⟩)] w fun e w' => e = .returned (.bool (allB s)) ∧ Below w.heap.size w w' := by
  have C1 : Hid (∀ w, Sh w b s → Calls Try.prog 39 #[.pointer (some ⟨b, 0, none⟩)] w fun e w' => e = .returned (.int .i64 (cnt s)) ∧ w' = w) := fun w h => count_any w h
  have H : Hid _ := h
  have hn := hd.slotlt
  have hel : en s ≤ 224 := by have := hd.enn; omega
  clear h
  go_enter Try.func57, Try.ntmps57
  go_wp2_with (go_at_call 39; refine (C1.out _ H.out).mono ?_; rintro e w' ⟨rfl, rfl⟩)
  go_loopw [3, 7] (fun nd kv wr => ∃ i : Nat, kv = .int .i64 (i : Int) ∧ nd = .int .i64 (needs (cellsTo s i) : Nat) ∧ i ≤ cnt s ∧ Hid (∀ j, j < i → Ok s j) ∧ Below w'.heap.size w' wr) (fun _ kv _ => cnt s - (intOf kv).toNat)
  case atStart => exact ⟨0, rfl, rfl, Nat.zero_le _, (fun j hj => absurd hj (Nat.not_lt_zero _) : ∀ j, j < 0 → Ok s j), Below.refl _ _⟩
  case round =>
    obtain ⟨i, rfl, rfl, hi, hok, hbel⟩ := hrel
    have HS : Hid (Sh wr b s) := H.out.below hbel
    by_cases hlt : i < cnt s
    · have hltI : (i : Int) < (cnt s : Int) := by omega
      have he : en s ≤ 223 := by have := hd.enn; omega
      have C2 : Hid (∀ w, Sh w b s → Calls Try.prog 65 #[.pointer (some ⟨b, 0, none⟩), .int .i64 (i : Int)] w fun e w' => e = .returned (.bool (atB s (slot s i))) ∧ ∃ n, w' = w.drewN n) := fun w h => cellRight_any w h i (by omega) hel
      have hnl := needs_to_le hd i hok.out
      have hst := needs_to s i
      cases ha : atB s (slot s i)
      · rw [ha] at C2
        have hno : Hid (allB s = false) := allB_no hlt (by simp [okB, ha])
        clear ha hst
        go_wp2_with (go_at_call 65; refine (C2.out _ HS.out).mono ?_; rintro e w2 ⟨rfl, n, rfl⟩)
        go_ret
        exact ⟨by rw [hno.out]; rfl, below_drewN hbel _⟩
      · rw [ha] at C2
        have hat := (atB_iff s _).1 ha
        have C3 : Hid (∀ w, Sh w b s → Calls Try.prog 40 #[.pointer (some ⟨b, 0, none⟩), .int .i64 (i : Int)] w fun e w' => e = .returned (.agg #[.string (cell s i).k, .string (cell s i).v]) ∧ Below w.heap.size w w') := fun w h => cell_any w h i (by omega) hat he
        have hk : (cell s i).k.size ≤ 16 := by have := hat.ksize hd.el; have := hat.k; rw [cell]; omega
        have hv : (cell s i).v.size ≤ 32 := by have := hat.vsize hd.el; have := hat.v; rw [cell]; omega
        have C4 : Hid (∀ w, Calls Try.prog 27 #[.agg #[.string (cell s i).k, .string (cell s i).v]] w fun e w' => e = .returned (.int .i64 (need (cell s i))) ∧ Below w.heap.size w w') := fun w => Need_any w _ (by omega) (by omega)
        have hnd : need (cell s i) ≤ 51 := by simp only [need]; omega
        have nx : (∀ j, j < i → Ok s j) → Ok s i → ∀ j, j < i + 1 → Ok s j := fun h1 h2 j hj => by
          by_cases e : j = i
          · subst e; exact h2
          · exact h1 j (by omega)
        have NX : Hid _ := nx
        clear nx
        obtain ⟨c, hc⟩ : ∃ c, c = cell s i := ⟨_, rfl⟩
        rw [← hc] at C3 C4 hk hv hnd hst
        obtain ⟨n, hn'⟩ : ∃ n, n = need c := ⟨_, rfl⟩
        rw [← hn'] at C4 hnd hst
        obtain ⟨m, hm⟩ : ∃ m, m = needs (cellsTo s i) := ⟨_, rfl⟩
        rw [← hm] at hst hnl
        rw [← hm]
        have HST : Hid _ := hst
        by_cases h0 : i = 0
        · subst h0
          have hO : Hid (Ok s 0) := (⟨hat, fun h => absurd h (Nat.lt_irrefl _)⟩ : Ok s 0)
          clear hc hn' hat hm ha hst
          go_wp2_with (first | (go_at_call 65; refine (C2.out _ HS.out).mono ?_; rintro e w2 ⟨rfl, n2, rfl⟩) | (go_at_call 40; refine (C3.out _ (HS.out.drewN _)).mono ?_; rintro e w3 ⟨rfl, hb3⟩) | (go_at_call 27; refine (C4.out _).mono ?_; rintro e w4 ⟨rfl, hb4⟩))
          go_roundw
          case rel => exact ⟨1, by simp, by rw [HST.out]; simp, by omega, NX.out hok.out hO.out, (below_drewN hbel _).trans (hb3.mono (by have := hbel.size; simpa using this) |>.trans (hb4.mono (by have := hbel.size; have := hb3.size; simp at this; omega)))⟩
          case measure => simp [intOf]; omega
        · obtain ⟨j, rfl⟩ : ∃ j, i = j + 1 := ⟨i - 1, by omega⟩
          have haj := (hok.out j (by omega)).at_
          obtain ⟨kf, hkf⟩ : ∃ kf : Int → ByteArray, kf = keyI s := ⟨_, rfl⟩
          have hx : kf ((j : Int) + 1) = key s (j + 1) := by rw [hkf]; rfl
          have hy : kf (j : Int) = key s j := by rw [hkf]; rfl
          have hle := leq_not (kf (j : Int)) (kf ((j : Int) + 1))
          have C5 : Hid (∀ w (z : Int), Sh w b s → (z = (j : Int) + 1 ∨ z = (j : Int)) → Calls Try.prog 60 #[.pointer (some ⟨b, 0, none⟩), .int .i64 z] w fun e w' => e = .returned (.string (kf z)) ∧ ∃ n, w' = w.drewN n) := fun w z h hz => by
            rcases hz with rfl | rfl
            · have := key_any w h (j + 1) (by omega) hat he
              rw [hx]; exact this
            · have := key_any w h j (by omega) haj he
              rw [hy]; exact this
          have hO : Hid (lt (kf (j : Int)) (kf ((j : Int) + 1)) = true → Ok s (j + 1)) := (fun h => ⟨hat, fun _ => by rw [Nat.add_sub_cancel, ← hx, ← hy]; exact h⟩ : lt (kf (j : Int)) (kf ((j : Int) + 1)) = true → Ok s (j + 1))
          have hN : Hid (lt (kf (j : Int)) (kf ((j : Int) + 1)) = false → allB s = false) := (fun h => allB_no hlt (by simp [okB, ← hx, ← hy, h]) : lt (kf (j : Int)) (kf ((j : Int) + 1)) = false → allB s = false)
          clear hc hn' hat haj hm ha hx hy hst hkf
          have hj1 : ((j + 1 : Nat) : Int) = (j : Int) + 1 := by omega
          rw [hj1] at C2 C3 ⊢
          cases hl : lt (kf (j : Int)) (kf ((j : Int) + 1))
          · rw [hl] at hle
            have HL : Hid _ := hl
            clear hl
            go_wp2_with (first | (go_at_call 65; refine (C2.out _ HS.out).mono ?_; rintro e w2 ⟨rfl, n2, rfl⟩) | (go_at_call 60; refine (C5.out _ _ (HS.out.drewN _) ?_).mono ?_; (first | exact Or.inl rfl | exact Or.inr rfl); rintro e w3 ⟨rfl, n3, rfl⟩))
            go_ret
            exact ⟨by rw [hN.out HL.out]; rfl, below_drewN hbel _⟩
          · rw [hl] at hle
            have HL : Hid _ := hl
            clear hl
            go_wp2_with (first | (go_at_call 65; refine (C2.out _ HS.out).mono ?_; rintro e w2 ⟨rfl, n2, rfl⟩) | (go_at_call 60; refine (C5.out _ _ (HS.out.drewN _) ?_).mono ?_; (first | exact Or.inl rfl | exact Or.inr rfl); rintro e w3 ⟨rfl, n3, rfl⟩) | (go_at_call 40; refine (C3.out _ (HS.out.drewN _)).mono ?_; rintro e w5 ⟨rfl, hb3⟩) | (go_at_call 27; refine (C4.out _).mono ?_; rintro e w6 ⟨rfl, hb4⟩))
            go_roundw
            case rel => exact ⟨j + 2, by go_num, by rw [HST.out]; simp, by omega, NX.out hok.out (hO.out HL.out), (below_drewN hbel _).trans (hb3.mono (by have := hbel.size; simpa using this) |>.trans (hb4.mono (by have := hbel.size; have := hb3.size; simp at this; omega)))⟩
            case measure => simp [intOf]; omega
    · have hie : i = cnt s := by omega
      subst hie
      have hA : Hid (allB s = decide ((needs (cellsTo s (cnt s)) : Int) ≤ 220)) := by
        have : allB s = decide ((needs (cellsTo s (cnt s)) : Int) ≤ 220) := by
          rw [Bool.eq_iff_iff, allB_iff, decide_eq_true_eq]
          exact ⟨fun h => by have := h.2; simp only [cells, cellsTo] at this ⊢; omega, fun h => ⟨hok.out, by simp only [cells, cellsTo] at h ⊢; omega⟩⟩
        exact this
      have hnl := needs_to_le hd (cnt s) hok.out
      generalize hm : needs (cellsTo s (cnt s)) = m at *
      clear hm
      have hlt' : ¬ (cnt s : Int) < (cnt s : Int) := by omega
      go_wp2
      go_ret
      exact ⟨by rw [hA.out]; rfl, hbel⟩
end
end Go.Proofs.Ytmoognjegjeegaa
