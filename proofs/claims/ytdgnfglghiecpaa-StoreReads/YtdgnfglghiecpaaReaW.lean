/- StoreReads: what is read of any bytes in a page's sectors. -/
import Derived.Test.YtdgnfglghiecpaaReaP
import Derived.Deep.RegionHeld3
namespace Go.Proofs.Ytdgnfglghiecpaa
open Go.RowKit Go.Maps Go.ChangeMaps
set_option linter.unusedVariables false
set_option linter.unusedSimpArgs false
set_option maxRecDepth 100000

variable {W w w' : World} {db sb g k : Nat} {S : Dk}

def parts4 (P : Nat → ByteArray) : Array Value := #[.string (P 0), .string (P 1), .string (P 2), .string (P 3)]
theorem reads_far (a i : Int) (P : Nat → ByteArray) (h : a < 1 ∨ 65535 < a ∨ i < 0 ∨ 8 ≤ i) (w : World) : Calls Try.prog 5 #[.int .i64 a, .int .i64 i, .agg #[.string (P 0), .string (P 1), .string (P 2), .string (P 3)]] w fun e w' => e = .returned (.bool true) ∧ Below w.heap.size w w' := by
  have hc : a < 1 ∨ (¬ a < 1 ∧ 65535 < a) ∨ (¬ a < 1 ∧ ¬ 65535 < a ∧ i < 0) ∨ (¬ a < 1 ∧ ¬ 65535 < a ∧ ¬ i < 0 ∧ 8 ≤ i) := by omega
  clear h
  rcases hc with h1 | ⟨h1, h2⟩ | ⟨h1, h2, h3⟩ | ⟨h1, h2, h3, h4⟩
  all_goals
    go_enter Try.func5, Try.ntmps5
    go_wp2_with (go_at_call 9; refine (awake_any _).mono ?_; rintro e w' ⟨rfl, hb⟩)
    go_ret
    exact ⟨rfl, ((Below.refl _ _).alloc (Nat.le_refl _) _).trans (hb.mono (by simp))⟩
theorem pad_zero {s : ByteArray} (h : s.size ≤ 64) : (pad s).size = 64 := pad_size h
/-- The first eight bytes of the first sector, once it was read. -/
def fstJ (c : Nat → ByteArray) : Nat → ByteArray
  | 0 => ⟨#[]⟩
  | _ + 1 => (c 0).extract 0 8
theorem put4_one (b : Nat) (P : Nat → ByteArray) (S : Dk) (hu : S.up = true) (hs : S.set = false) (k : Nat) (hn : b + k < S.n) (hz : (P k).size ≤ 64) : writeDk (put4 b P S k) ((b + k : Nat) : Int) (P k) = put4 b P S (k + 1) ∧ writeE (put4 b P S k) ((b + k : Nat) : Int) (P k) = 0 := by
  have h := write_calm (S := put4 b P S k) hu hs (b + k) hn (P k) hz
  exact ⟨h.1.trans (put4_step b P S k), h.2⟩
theorem put4_long (b : Nat) (P : Nat → ByteArray) (S : Dk) (hu : S.up = true) (k : Nat) (hn : b + k < S.n) (hz : ¬ (P k).size ≤ 64) : writeDk (put4 b P S k) ((b + k : Nat) : Int) (P k) = put4 b P S k ∧ writeE (put4 b P S k) ((b + k : Nat) : Int) (P k) = 3 := by
  have hr : refAt (put4 b P S k).up (put4 b P S k).n ((b + k : Nat) : Int) = 0 := by
    show refAt S.up S.n _ = 0
    simp [refAt, hu]; omega
  have hz' : 64 < (P k).size := by omega
  unfold writeDk writeE
  rw [hr]
  simp [hz']
theorem rdV_congr {g : Nat} {f f' : Nat → ByteArray} (h : ∀ j, j < 4 → f j = f' j) : rdV g f = rdV g f' := by
  have k : knwJ g f 4 = knwJ g f' 4 := by simp only [knwJ, h 0 (by omega), h 1 (by omega), h 2 (by omega), h 3 (by omega)]
  have v : whlJ f 4 = whlJ f' 4 := by simp only [whlJ, h 0 (by omega), h 1 (by omega), h 2 (by omega), h 3 (by omega)]
  have t : txtJ f 4 = txtJ f' 4 := by simp only [txtJ, h 0 (by omega), h 1 (by omega), h 2 (by omega), h 3 (by omega)]
  unfold rdV
  rw [k, v, t, h 0 (by omega)]
set_option maxHeartbeats 4000000 in
theorem reads_in (g i : Nat) (g1 : 1 ≤ g) (g2 : g ≤ 65535) (hi : i < 8) (P : Nat → ByteArray) (hP : ∀ j, j < 4 → (P j).size ≤ 140737488351232) (w : World) : Calls Try.prog 5 #[.int .i64 (g : Int), .int .i64 (i : Int), .agg #[.string (P 0), .string (P 1), .string (P 2), .string (P 3)]] w fun e w' => e = .returned (.bool true) ∧ Below w.heap.size w w' := by
  obtain ⟨W1, hW1⟩ : ∃ W1, W1 = w.alloc (.cells #[.string (P 0), .string (P 1), .string (P 2), .string (P 3)] 44) := ⟨_, rfl⟩
  have hB1 : Below w.heap.size w W1 := by rw [hW1]; exact (Below.refl _ _).alloc (Nat.le_refl _) _
  have hL1 : w.heap.size < W1.heap.size := by rw [hW1]; simp
  have hC1 : Hid (∀ j, j < 4 → W1.cell? ⟨w.heap.size, j, none⟩ = some (.string (P j))) := fun j hj => by
    rw [hW1, Joins.cell_of_block (MapKept.heap_alloc w _).1]
    have : j = 0 ∨ j = 1 ∨ j = 2 ∨ j = 3 := by omega
    rcases this with rfl | rfl | rfl | rfl <;> rfl
  have CM : Hid (Calls Try.prog 14 #[.int .i64 (g : Int)] (w.alloc (.cells #[.string (P 0), .string (P 1), .string (P 2), .string (P 3)] 44)) fun e w' =>
    ∃ sb, e = .returned (.tuple #[.pointer (some ⟨W1.heap.size + 2, 0, none⟩), .pointer (some ⟨sb, 0, none⟩)]) ∧ Sx W1 w' (W1.heap.size + 2) sb g 0 (newDk 40)) := by rw [← hW1]; exact made_any g g1 g2 W1
  obtain ⟨c, hc⟩ : ∃ c : Nat → ByteArray, c = fun j => pad (P j) := ⟨_, rfl⟩
  obtain ⟨T, hT⟩ : ∃ T : Nat → Dk, T = put4 (5 + 4 * i) P (newDk 40) := ⟨_, rfl⟩
  have hT0 : newDk 40 = T 0 := by rw [hT, put4_zero]
  rw [hT0] at CM
  have hu : ∀ j, (T j).up = true := fun j => by rw [hT]; rfl
  have CW : Hid (∀ w2 sb (j : Nat), Sx W1 w2 (W1.heap.size + 2) sb g j (T j) → j < 4 → (P j).size ≤ 64 → Calls Try.prog 21 #[.pointer (some ⟨W1.heap.size + 2, 0, none⟩), .int .i64 (5 + 4 * (i : Int) + (j : Int)), .string (P j)] w2 fun e w' =>
      e = .returned (.int .i64 0) ∧ Sx W1 w' (W1.heap.size + 2) sb g (j + 1) (T (j + 1))) := fun w2 sb j h hj hz => by
    have := h.dwrite (by omega) ((5 + 4 * i + j : Nat) : Int) (P j) (by omega)
    have e := put4_one (5 + 4 * i) P (newDk 40) rfl rfl j (show 5 + 4 * i + j < 40 by omega) hz
    rw [hT] at this ⊢
    rw [e.1, e.2] at this
    rwa [show ((5 + 4 * i + j : Nat) : Int) = 5 + 4 * (i : Int) + (j : Int) by omega] at this
  have CX : Hid (∀ w2 sb (j : Nat), Sx W1 w2 (W1.heap.size + 2) sb g j (T j) → j < 4 → ¬ (P j).size ≤ 64 → Calls Try.prog 21 #[.pointer (some ⟨W1.heap.size + 2, 0, none⟩), .int .i64 (5 + 4 * (i : Int) + (j : Int)), .string (P j)] w2 fun e w' =>
      e = .returned (.int .i64 3) ∧ Below W1.heap.size W1 w') := fun w2 sb j h hj hz => by
    have := h.dwrite (by omega) ((5 + 4 * i + j : Nat) : Int) (P j) (by have := hP j hj; omega)
    have e := put4_long (5 + 4 * i) P (newDk 40) rfl j (show 5 + 4 * i + j < 40 by omega) hz
    rw [hT] at this
    rw [e.1, e.2] at this
    rw [show ((5 + 4 * i + j : Nat) : Int) = 5 + 4 * (i : Int) + (j : Int) by omega] at this
    exact this.mono fun e w' ⟨he, hs⟩ => ⟨he, hs.bel⟩
  have CR : Hid (∀ w2 sb (j : Nat), Sx W1 w2 (W1.heap.size + 2) sb g (j + 1) (T (j + 1)) → j < 4 → Calls Try.prog 17 #[.pointer (some ⟨W1.heap.size + 2, 0, none⟩), .int .i64 (5 + 4 * (i : Int) + (j : Int))] w2 fun e w' =>
      e = .returned (.tuple #[.string (c j), .int .i64 0]) ∧ Sx W1 w' (W1.heap.size + 2) sb g (j + 1) (T (j + 1))) := fun w2 sb j h hj => by
    have := h.dread (hu _) (5 + 4 * i + j) (by omega)
    have e : (T (j + 1)).now (5 + 4 * i + j) = c j := by
      rw [hT, hc, put4_now, if_pos (by omega)]
      simp
    rwa [e, show ((5 + 4 * i + j : Nat) : Int) = 5 + 4 * (i : Int) + (j : Int) by omega] at this
  have hr : rdOut 5 8 g (T 4) (i : Int) = rdV g c := by
    unfold rdOut
    rw [if_neg (by omega), Int.toNat_natCast]
    have e : ∀ j, j < 4 → (T 4).now (5 + 4 * i + j) = c j := fun j hj => by
      rw [hT, hc, put4_now, if_pos (by omega)]; simp
    exact rdV_congr e
  have C3 : Hid (∀ w2 sb, Sx W1 w2 (W1.heap.size + 2) sb g 4 (T 4) → Calls Try.prog 19 #[.pointer (some ⟨sb, 0, none⟩), .int .i64 (i : Int)] w2 fun e w' => e = .returned (.tuple #[.string (rdV g c).1, .int .i64 (rdV g c).2.1, .int .i64 (rdV g c).2.2]) ∧ Sx W1 w' (W1.heap.size + 2) sb g 4 (T 4)) := fun w1 tb h => by
    have := h.read (hu 4) (i : Int)
    rwa [hr] at this
  have C4 : Hid (∀ w2 sb, Sx W1 w2 (W1.heap.size + 2) sb g 4 (T 4) → Calls Try.prog 20 #[.pointer (some ⟨sb, 0, none⟩), .int .i64 (i : Int), .int .i64 0] w2 fun e w' => e = .returned (.bool ((rdV g c).2.2 == 0 && (rdV g c).2.1 == 0)) ∧ Sx W1 w' (W1.heap.size + 2) sb g 4 (T 4)) := fun w1 tb h => by
    have := h.is (hu 4) (i : Int) 0
    rwa [hr] at this
  obtain ⟨N, hN⟩ : ∃ N, N = nf := ⟨_, rfl⟩
  have CN : Hid (∀ n k w, 0 ≤ n → n ≤ 281474976710656 → 0 ≤ k → k ≤ 6 → Calls Try.prog 18 #[.int .i64 n, .int .i64 k] w fun e w' => e = .returned (.string (N n k)) ∧ Below w.heap.size w w') := fun n k w h0 h1 k0 k1 => by rw [hN]; exact nf_any n k w h0 h1 k0 k1
  have hcz : Hid (∀ j, (P j).size ≤ 64 → (c j).size = 64) := fun j hz => by rw [hc]; exact pad_size hz
  have L1 : Hid (∀ j, (c j).size = 64 → (((c j).extract 0 2).toList == (N (g : Int) 2).toList) = ((gnS (c j) : Int) == (g : Int))) := fun j hz => by rw [hN]; exact law_gen _ hz g g2
  have L4 : Hid ((c 0).size = 64 → N (lnS (c 0) : Int) 6 = ((c 0).extract 0 8).extract 2 8 ∧ lnS (c 0) < 281474976710656) := fun hz => by rw [hN]; exact law_lsn _ hz
  have i1 : ¬ (g : Int) < 1 := by omega
  have i2 : ¬ 65535 < (g : Int) := by omega
  have i3 : ¬ (i : Int) < 0 := by omega
  have i4 : ¬ 8 ≤ (i : Int) := by omega
  clear hr hT0 hT hc hN hW1 g1 g2 hu
  go_enter Try.func5, Try.ntmps5
  go_wp2_with (first
    | (go_at_call 14; refine CM.out.mono ?_; rintro e w1 ⟨sb, rfl, h0⟩))
  go_loopw [9, 10, 11, 12, 13] (fun sm wh tx fi ix wr => ∃ j : Nat, j ≤ 4 ∧ ix = .int .i64 j ∧ sm = .bool (knwJ g c j) ∧ wh = .bool (whlJ c j) ∧ tx = .string (txtJ c j) ∧ fi = .string (fstJ c j) ∧ Hid (∀ i, i < j → (P i).size ≤ 64) ∧ Sx W1 wr (W1.heap.size + 2) sb g j (T j)) (fun _ _ _ _ ix _ => 4 - (intOf ix).toNat)
  case atStart => exact ⟨0, by omega, rfl, rfl, rfl, rfl, rfl, fun i hi => absurd hi (by omega), h0⟩
  case round =>
    obtain ⟨j, hj, rfl, rfl, rfl, rfl, rfl, hz, hs⟩ := hrel
    by_cases hlt : j < 4
    · have k0 := (hs.bel.cell (p := ⟨w.heap.size, j, none⟩) hL1).trans (hC1.out j hlt)
      by_cases hzj : (P j).size ≤ 64
      · have hcj := hcz.out j hzj
        have l1 := L1.out j hcj
        have l3 := law_rest (c j) hcj
        have z1 := txtJ_size c j
        have z2 := txS_size (c j)
        have z3 : (txtJ c j).size ≤ 224 := by omega
        have z8 : ((c j).extract 0 8).size = 8 := by rw [ByteArray.size_extract, hcj]; omega
        have HE : Hid (txtJ c (j + 1) = txtJ c j ++ txS (c j) ∧ knwJ g c (j + 1) = (knwJ g c j || ((gnS (c j) : Int) == (g : Int))) ∧ whlJ c (j + 1) = (whlJ c j && (((gnS (c j) : Int) == (gnS (c 0) : Int)) && ((lnS (c j) : Int) == (lnS (c 0) : Int)))) ∧ fstJ c (j + 1) = (c 0).extract 0 8) := ⟨rfl, rfl, rfl, rfl⟩
        have HZ : Hid (∀ i, i < j + 1 → (P i).size ≤ 64) := fun i hi => by
          by_cases e : i = j
          · rw [e]; exact hzj
          · exact hz.out i (by omega)
        clear z1
        by_cases hj0 : j = 0
        · subst hj0
          have f0 : fstJ c 0 = ⟨#[]⟩ := rfl
          have f1 : knwJ g c 0 = false := rfl
          have f2 : whlJ c 0 = true := rfl
          rw [f0, f1, f2]
          have HF : Hid _ := And.intro f1 f2
          clear f0 f1 f2
          go_wp2_with (first
            | (go_at_call 21; refine (CW.out _ _ 0 hs hlt hzj).mono ?_; clear hs; rintro e w2 ⟨rfl, hs⟩)
            | (go_at_call 17; refine (CR.out _ _ 0 hs hlt).mono ?_; clear hs; rintro e w3 ⟨rfl, hs⟩))
          have hd := hs.drew
          go_region_held3 (fun _ => True) (trivial) ((go_at_call 18; refine (CN.out _ _ _ ?_ ?_ ?_ ?_).mono ?_; omega; omega; omega; omega; rintro e wA ⟨rfl, bA⟩; have hn := hd.below bA; clear hd bA; have hd := hn; clear hn))
          go_wp2
          go_roundw
          case rel =>
            refine ⟨0 + 1, by omega, by go_num, ?_, ?_, ?_, ?_, HZ.out, hd⟩
            · rw [HE.out.2.1, HF.out.1]; simp
            · rw [HE.out.2.2.1, HF.out.2]; simp
            · rw [HE.out.1]
            · rw [HE.out.2.2.2]
          case measure => simp [intOf]
        · have hjb : ((j : Int) == 0) = false := by simp; omega
          have hff : fstJ c j = (c 0).extract 0 8 := by
            cases j with
            | zero => exact absurd rfl hj0
            | succ j => rfl
          have hc0 := hcz.out 0 (hz.out 0 (by omega))
          have l2 := law_mark (c j) (c 0) hcj hc0
          have z0 : ((c 0).extract 0 8).size = 8 := by rw [ByteArray.size_extract, hc0]; omega
          rw [hff]
          clear hff hc0
          cases hk : knwJ g c j
          · cases hw : whlJ c j
            · go_wp2_with (first
                | (go_at_call 21; refine (CW.out _ _ j hs hlt hzj).mono ?_; clear hs; rintro e w2 ⟨rfl, hs⟩)
                | (go_at_call 17; refine (CR.out _ _ j hs hlt).mono ?_; clear hs; rintro e w3 ⟨rfl, hs⟩))
              have hd := hs.drew
              go_region_held3 (fun _ => True) (trivial) ((go_at_call 18; refine (CN.out _ _ _ ?_ ?_ ?_ ?_).mono ?_; omega; omega; omega; omega; rintro e wA ⟨rfl, bA⟩; have hn := hd.below bA; clear hd bA; have hd := hn; clear hn))
              go_wp2
              go_roundw
              case rel =>
                refine ⟨j + 1, by omega, by go_num, ?_, ?_, ?_, ?_, HZ.out, hd⟩
                · rw [HE.out.2.1, hk]; simp
                · rw [HE.out.2.2.1, hw]; simp
                · rw [HE.out.1]
                · rw [HE.out.2.2.2]
              case measure => simp [intOf]; omega
            · go_wp2_with (first
                | (go_at_call 21; refine (CW.out _ _ j hs hlt hzj).mono ?_; clear hs; rintro e w2 ⟨rfl, hs⟩)
                | (go_at_call 17; refine (CR.out _ _ j hs hlt).mono ?_; clear hs; rintro e w3 ⟨rfl, hs⟩))
              have hd := hs.drew
              go_region_held3 (fun _ => True) (trivial) ((go_at_call 18; refine (CN.out _ _ _ ?_ ?_ ?_ ?_).mono ?_; omega; omega; omega; omega; rintro e wA ⟨rfl, bA⟩; have hn := hd.below bA; clear hd bA; have hd := hn; clear hn))
              go_wp2
              go_roundw
              case rel =>
                refine ⟨j + 1, by omega, by go_num, ?_, ?_, ?_, ?_, HZ.out, hd⟩
                · rw [HE.out.2.1, hk]; simp
                · rw [HE.out.2.2.1, hw]; simp
                · rw [HE.out.1]
                · rw [HE.out.2.2.2]
              case measure => simp [intOf]; omega
          · cases hw : whlJ c j
            · go_wp2_with (first
                | (go_at_call 21; refine (CW.out _ _ j hs hlt hzj).mono ?_; clear hs; rintro e w2 ⟨rfl, hs⟩)
                | (go_at_call 17; refine (CR.out _ _ j hs hlt).mono ?_; clear hs; rintro e w3 ⟨rfl, hs⟩))
              have hd := hs.drew
              go_quiet (fail)
              go_wp2
              go_roundw
              case rel =>
                refine ⟨j + 1, by omega, by go_num, ?_, ?_, ?_, ?_, HZ.out, hs.below (below_drewN _ _)⟩
                · rw [HE.out.2.1, hk]; simp
                · rw [HE.out.2.2.1, hw]; simp
                · rw [HE.out.1]
                · rw [HE.out.2.2.2]
              case measure => simp [intOf]; omega
            · go_wp2_with (first
                | (go_at_call 21; refine (CW.out _ _ j hs hlt hzj).mono ?_; clear hs; rintro e w2 ⟨rfl, hs⟩)
                | (go_at_call 17; refine (CR.out _ _ j hs hlt).mono ?_; clear hs; rintro e w3 ⟨rfl, hs⟩))
              have hd := hs.drew
              go_quiet (fail)
              go_wp2
              go_roundw
              case rel =>
                refine ⟨j + 1, by omega, by go_num, ?_, ?_, ?_, ?_, HZ.out, hs.below (below_drewN _ _)⟩
                · rw [HE.out.2.1, hk]; simp
                · rw [HE.out.2.2.1, hw]; simp
                · rw [HE.out.1]
                · rw [HE.out.2.2.2]
              case measure => simp [intOf]; omega
      · go_wp2_with (first
          | (go_at_call 21; refine (CX.out _ _ j hs hlt hzj).mono ?_; clear hs; rintro e w2 ⟨rfl, b2⟩)
          | (go_at_call 9; refine (awake_any _).mono ?_; rintro e w7 ⟨rfl, b7⟩))
        go_ret
        have bb := hB1.trans (b2.mono hB1.size)
        exact ⟨rfl, bb.trans (b7.mono bb.size)⟩
    · obtain rfl : j = 4 := by omega
      have z3 := txtJ_size c 4
      have hc0 := hcz.out 0 (hz.out 0 (by omega))
      have hl4 := L4.out hc0
      have z8 : ((c 0).extract 0 8).size = 8 := by rw [ByteArray.size_extract, hc0]; omega
      have hff : fstJ c 4 = (c 0).extract 0 8 := rfl
      rw [hff]
      cases hk : knwJ g c 4
      · have hv : rdV g c = (⟨#[]⟩, 0, 8) := by unfold rdV; rw [hk]; rfl
        rw [hv] at C3 C4
        clear hv hff hl4
        go_wp2_with (first
          | (go_at_call 19; refine (C3.out _ _ hs).mono ?_; clear hs; rintro e w4 ⟨rfl, hs⟩)
          | (go_at_call 20; refine (C4.out _ _ hs).mono ?_; clear hs; rintro e w5 ⟨rfl, hs⟩)
          | (go_at_call 9; refine (awake_any _).mono ?_; rintro e w7 ⟨rfl, b7⟩))
        go_ret
        have bb := hB1.trans (hs.bel.mono hB1.size)
        exact ⟨rfl, bb.trans (b7.mono bb.size)⟩
      · cases hw : whlJ c 4
        · have hv : rdV g c = (⟨#[]⟩, 0, 10) := by unfold rdV; rw [hk, hw]; rfl
          rw [hv] at C3 C4
          clear hv hff hl4
          go_wp2_with (first
            | (go_at_call 19; refine (C3.out _ _ hs).mono ?_; clear hs; rintro e w4 ⟨rfl, hs⟩)
            | (go_at_call 20; refine (C4.out _ _ hs).mono ?_; clear hs; rintro e w5 ⟨rfl, hs⟩)
            | (go_at_call 9; refine (awake_any _).mono ?_; rintro e w7 ⟨rfl, b7⟩))
          go_ret
          have bb := hB1.trans (hs.bel.mono hB1.size)
          exact ⟨rfl, bb.trans (b7.mono bb.size)⟩
        · have hv : rdV g c = (txtJ c 4, (lnS (c 0) : Int), 0) := by unfold rdV; rw [hk, hw]; rfl
          rw [hv] at C3 C4
          obtain ⟨l, hl⟩ : ∃ l : Int, l = (lnS (c 0) : Int) := ⟨_, rfl⟩
          rw [← hl] at C3 C4
          have q1 : 0 ≤ l := by omega
          have q2 : l ≤ 281474976710656 := by omega
          have q3 : N l 6 = ((c 0).extract 0 8).extract 2 8 := by rw [hl]; exact hl4.1
          have q4 : (((c 0).extract 0 8).extract 2 8).size = 6 := by rw [ByteArray.size_extract, z8]; omega
          clear hv hff hl4 hl
          go_wp2_with (first
            | (go_at_call 19; refine (C3.out _ _ hs).mono ?_; clear hs; rintro e w4 ⟨rfl, hs⟩))
          have hd := hs.drew
          go_region_held3 (fun _ => True) (trivial) (first
            | (go_at_call 18; refine (CN.out _ _ _ ?_ ?_ ?_ ?_).mono ?_; omega; omega; omega; omega; rintro e wA ⟨rfl, bA⟩; have hn := hd.below bA; clear hd bA; have hd := hn; clear hn)
            | (go_at_call 9; refine (awake_any _).mono ?_; rintro e w7 ⟨rfl, b7⟩))
          go_wp2
          go_ret
          have bb := hB1.trans (hd.bel.mono hB1.size)
          exact ⟨rfl, bb.trans (b7.mono bb.size)⟩
theorem reads_walk (a i : Int) (P : Nat → ByteArray) (hP : ∀ j, j < 4 → (P j).size ≤ 140737488351232) (w : World) : Calls Try.prog 5 #[.int .i64 a, .int .i64 i, .agg #[.string (P 0), .string (P 1), .string (P 2), .string (P 3)]] w fun e w' => e = .returned (.bool true) ∧ Below w.heap.size w w' := by
  by_cases h : a < 1 ∨ 65535 < a ∨ i < 0 ∨ 8 ≤ i
  · exact reads_far a i P h w
  · obtain ⟨a, rfl⟩ : ∃ m : Nat, a = m := ⟨a.toNat, by omega⟩
    obtain ⟨i, rfl⟩ : ∃ m : Nat, i = m := ⟨i.toNat, by omega⟩
    exact reads_in a i (by omega) (by omega) (by omega) P hP w
end Go.Proofs.Ytdgnfglghiecpaa
