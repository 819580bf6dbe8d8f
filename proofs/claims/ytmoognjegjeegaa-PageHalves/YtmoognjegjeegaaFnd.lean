/- The place of a key: sort.Search, its closure, find. -/
import Derived.Test.YtmoognjegjeegaaCel
namespace Go.Proofs.Ytmoognjegjeegaa
open Go.RowKit
set_option linter.unusedVariables false
set_option linter.unusedSimpArgs false
set_option maxRecDepth 100000

theorem Search_any (w : World) (n x : Nat) (p q : Value) (hx : x ≤ n) (hn : n < 100000)
    (hf : ∀ (m i : Nat), i < n → Calls Try.prog 59 #[.int .i64 (i : Int), p, q] (w.drewN m) fun e w' => e = .returned (.bool (decide (x ≤ i))) ∧ ∃ k, w' = (w.drewN m).drewN k) :
    Calls Try.prog 58 #[.int .i64 (n : Int), .func (.func 59) #[] #[p, q]] w fun e w' => e = .returned (.int .i64 (x : Int)) ∧ ∃ k, w' = w.drewN k := by
  have HF : Hid _ := hf
  clear hf
  have eg : ∀ args w, (callFunc 59 args).run Try.prog w = .ok (.enter 59 args) w := fun args w => by kernel_rfl
  go_enter Try.func58, Try.ntmps58
  go_wp2
  go_loopw [5, 6] (fun s5 s6 wr => ∃ (lo hi k : Nat), s5 = .int .i64 (lo : Int) ∧ s6 = .int .i64 (hi : Int) ∧ lo ≤ x ∧ x ≤ hi ∧ hi ≤ n ∧ wr = w.drewN k) (fun s5 s6 _ => (intOf s6).toNat - (intOf s5).toNat)
  case atStart => exact ⟨0, n, 0, rfl, rfl, Nat.zero_le _, hx, Nat.le_refl _, rfl⟩
  case round =>
    obtain ⟨lo, hi, k, rfl, rfl, hl, hh, hin, rfl⟩ := hrel
    by_cases hlt : lo < hi
    · have hltI : (lo : Int) < (hi : Int) := by omega
      have hc := HF.out k ((lo + hi) / 2) (by omega)
      rw [show (((lo + hi) / 2 : Nat) : Int) = ((lo : Int) + (hi : Int)) / 2 by omega] at hc
      by_cases hp : x ≤ (lo + hi) / 2
      · rw [decide_eq_true hp] at hc
        have HP : Hid _ := hp
        clear hp
        go_wp2_with (go_at_fn 59; refine hc.mono ?_; rintro e w' ⟨rfl, nq, rfl⟩)
        go_roundw
        case rel => exact ⟨lo, (lo + hi) / 2, k + nq, rfl, by rw [show ((lo : Int) + (hi : Int)) / 2 = (((lo + hi) / 2 : Nat) : Int) by omega], hl, HP.out, by omega, rfl⟩
        case measure => simp [intOf]; omega
      · rw [decide_eq_false hp] at hc
        have HP : Hid _ := hp
        clear hp
        go_wp2_with (go_at_fn 59; refine hc.mono ?_; rintro e w' ⟨rfl, nq, rfl⟩)
        go_roundw
        case rel =>
          have hq : ¬ x ≤ (lo + hi) / 2 := HP.out
          exact ⟨(lo + hi) / 2 + 1, hi, k + nq, by rw [show ((lo : Int) + (hi : Int)) / 2 + 1 = (((lo + hi) / 2 + 1 : Nat) : Int) by omega], rfl, by omega, hh, hin, rfl⟩
        case measure => simp [intOf]; omega
    · have e1 : lo = x := by omega
      subst e1
      have hltI : ¬ (lo : Int) < (hi : Int) := by omega
      go_wp2
      go_ret
      exact ⟨rfl, k, rfl⟩

section
variable {w : World} {b : Nat} {s : List UInt8}
theorem find1_any (w : World) (h : Sh w b s) (hr : Right s) (b1 b2 : Nat) (x : ByteArray) (h1 : w.cell? ⟨b1, 0, none⟩ = some (.pointer (some ⟨b, 0, none⟩))) (h2 : w.cell? ⟨b2, 0, none⟩ = some (.string x)) (i : Nat) (hi : i < cnt s) :
    Calls Try.prog 59 #[.int .i64 (i : Int), .pointer (some ⟨b1, 0, none⟩), .pointer (some ⟨b2, 0, none⟩)] w fun e w' => e = .returned (.bool !(lt (key s i) x)) ∧ ∃ k, w' = w.drewN k := by
  have hd := hr.head
  have hn := hd.slotlt
  have C1 : Hid (∀ w, Sh w b s → Calls Try.prog 60 #[.pointer (some ⟨b, 0, none⟩), .int .i64 (i : Int)] w fun e w' => e = .returned (.string (key s i)) ∧ ∃ n, w' = w.drewN n) := fun w h => key_any w h i (by omega) (hr.ok i hi).at_ (by have := hd.enn; omega)
  have H : Hid _ := h
  clear h
  generalize hk : key s i = y at *
  clear hk
  have hlt : lt y x = Op.bytesLess y.toList x.toList := rfl
  rw [hlt]
  clear hlt
  go_enter Try.func59, Try.ntmps59
  go_wp2
  go_quiet ((go_at_call 60; refine Calls.quiet_of (C1.out _ (H.out.drewN _))))
  go_wp2
  go_ret
  exact ⟨rfl, _, rfl⟩
theorem plc_search {s : List UInt8} (hr : Right s) (x : ByteArray) (i : Nat) (hi : i < cnt s) : (!(lt (key s i) x)) = decide (plc (cells s) x ≤ i) := by
  have hl := cells_length s
  have hg : ∀ t (ht : t < (cells s).length), (cells s)[t].k = key s t := fun t ht => by rw [cells_get' ht]; rfl
  by_cases h : plc (cells s) x ≤ i
  · rw [decide_eq_true h]
    have h1 : lt (key s (plc (cells s) x)) x = false := by rw [← hg _ (by omega)]; exact plc_at (by omega)
    cases h2 : lt (key s i) x
    · rfl
    · by_cases e : plc (cells s) x = i
      · rw [e, h2] at h1; cases h1
      · rw [lt_trans (rising hr i _ (by omega) hi) h2] at h1; cases h1
  · rw [decide_eq_false h]
    have := plc_lt (L := cells s) (x := x) (t := i) (by omega) (by omega)
    rw [hg] at this
    simp [this]
theorem isAt_lt {s : List UInt8} {x : ByteArray} (h : plc (cells s) x < cnt s) : isAt (cells s) x = ((key s (plc (cells s) x)).toList == x.toList) := by
  rw [isAt, cells_get h]; rfl
theorem isAt_ge {s : List UInt8} {x : ByteArray} (h : ¬ plc (cells s) x < cnt s) : isAt (cells s) x = false := by
  rw [isAt, List.getElem?_eq_none (by rw [cells_length]; omega)]

set_option maxHeartbeats 1000000 in
theorem find_any (w : World) (h : Sh w b s) (hr : Right s) (x : ByteArray) : Calls Try.prog 38 #[.pointer (some ⟨b, 0, none⟩), .string x] w fun e w' => e = .returned (.tuple #[.int .i64 (plc (cells s) x : Nat), .bool (isAt (cells s) x)]) ∧ Below w.heap.size w w' := by
  have hd := hr.head
  have hn := hd.slotlt
  have C1 : Hid (∀ w, Sh w b s → Calls Try.prog 39 #[.pointer (some ⟨b, 0, none⟩)] w fun e w' => e = .returned (.int .i64 (cnt s)) ∧ w' = w) := fun w h => count_any w h
  obtain ⟨W, hW⟩ : ∃ W, W = (w.alloc (.cells #[.pointer (some ⟨b, 0, none⟩)] 81)).alloc (.cells #[.string x] 9) := ⟨_, rfl⟩
  have hB : Below w.heap.size w W := by rw [hW]; exact ((Below.refl _ _).alloc (Nat.le_refl _) _).alloc (by simp) _
  have hS : Sh W b s := h.below hB
  have c1 : W.cell? ⟨w.heap.size, 0, none⟩ = some (.pointer (some ⟨b, 0, none⟩)) := by
    rw [hW, World.cell?_alloc_lt _ _ _ (by simp)]
    rw [Joins.cell_of_block (MapKept.heap_alloc w _).1]; rfl
  have c2 : W.cell? ⟨w.heap.size + 1, 0, none⟩ = some (.string x) := by
    have e : w.heap.size + 1 = (w.alloc (.cells #[.pointer (some ⟨b, 0, none⟩)] 81)).heap.size := by simp
    rw [hW, e, Joins.cell_of_block (MapKept.heap_alloc _ _).1]; rfl
  have hple := plc_le (cells s) x
  rw [cells_length] at hple
  have CS : Hid (Calls Try.prog 58 #[.int .i64 (cnt s : Int), .func (.func 59) #[] #[.pointer (some ⟨w.heap.size, 0, none⟩), .pointer (some ⟨w.heap.size + 1, 0, none⟩)]] W fun e w' => e = .returned (.int .i64 (plc (cells s) x : Nat)) ∧ ∃ k, w' = W.drewN k) :=
    Search_any W (cnt s) (plc (cells s) x) _ _ hple (by omega) (fun m i hi => by
      have := find1_any (W.drewN m) (hS.drewN m) hr w.heap.size (w.heap.size + 1) x c1 c2 i hi
      rw [plc_search hr x i hi] at this
      exact this)
  have FF : Hid (∀ W2, (∃ k, W2 = W.drewN k) → Sh W2 b s ∧ W2.cell? ⟨w.heap.size, 0, none⟩ = some (.pointer (some ⟨b, 0, none⟩)) ∧ W2.cell? ⟨w.heap.size + 1, 0, none⟩ = some (.string x) ∧ Below w.heap.size w W2) := (by
    rintro W2 ⟨k, rfl⟩
    exact ⟨hS.drewN k, c1, c2, below_drewN hB _⟩ : ∀ W2, (∃ k, W2 = W.drewN k) → Sh W2 b s ∧ W2.cell? ⟨w.heap.size, 0, none⟩ = some (.pointer (some ⟨b, 0, none⟩)) ∧ W2.cell? ⟨w.heap.size + 1, 0, none⟩ = some (.string x) ∧ Below w.heap.size w W2)
  have H : Hid _ := hS
  by_cases hlt : plc (cells s) x < cnt s
  · rw [isAt_lt hlt]
    generalize hp : plc (cells s) x = i at *
    have hltI : (i : Int) < (cnt s : Int) := by omega
    have C2 : Hid (∀ w, Sh w b s → Calls Try.prog 60 #[.pointer (some ⟨b, 0, none⟩), .int .i64 (i : Int)] w fun e w' => e = .returned (.string (key s i)) ∧ ∃ n, w' = w.drewN n) := fun w h => key_any w h i (by omega) (hr.ok i hlt).at_ (by have := hd.enn; omega)
    have HB : Hid _ := hB
    have HW : Hid _ := hW
    clear h hp hS hr hd hB hW
    generalize key s i = y at *
    go_enter Try.func38, Try.ntmps38
    go_wp2_with (first | (go_at_call 39; rw [← HW.out]; refine (C1.out _ H.out).mono ?_; rintro e w' ⟨rfl, rfl⟩) | (go_at_call 58; refine CS.out.mono ?_; rintro e W2 ⟨rfl, hk⟩; obtain ⟨H2, d1, d2, HB2⟩ := FF.out W2 hk; clear hk))
    go_quiet (first | (go_at_call 39; refine Calls.quiet_of_same (C1.out _ (H2.drewN _))) | (go_at_call 60; refine Calls.quiet_of (C2.out _ (H2.drewN _))))
    go_wp2
    go_ret2
    exact ⟨rfl, below_drewN HB2 _⟩
  · rw [isAt_ge hlt]
    generalize hp : plc (cells s) x = i at *
    have hltI : ¬ (i : Int) < (cnt s : Int) := by omega
    have HB : Hid _ := hB
    have HW : Hid _ := hW
    clear h hp hS hr hd hB hW
    go_enter Try.func38, Try.ntmps38
    go_wp2_with (first | (go_at_call 39; rw [← HW.out]; refine (C1.out _ H.out).mono ?_; rintro e w' ⟨rfl, rfl⟩) | (go_at_call 58; refine CS.out.mono ?_; rintro e W2 ⟨rfl, hk⟩; obtain ⟨H2, d1, d2, HB2⟩ := FF.out W2 hk; clear hk))
    go_quiet ((go_at_call 39; refine Calls.quiet_of_same (C1.out _ (H2.drewN _))))
    go_wp2
    go_ret2
    exact ⟨rfl, below_drewN HB2 _⟩
end
end Go.Proofs.Ytmoognjegjeegaa
