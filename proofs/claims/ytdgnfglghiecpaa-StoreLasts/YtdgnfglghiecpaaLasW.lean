/- StoreLasts: a page that was synced, and not written since, is read as it was. -/
import Derived.Test.YtdgnfglghiecpaaOpsS
import Derived.Deep.RegionHeld3
namespace Go.Proofs.Ytdgnfglghiecpaa
open Go.RowKit Go.Maps Go.ChangeMaps
set_option linter.unusedVariables false
set_option linter.unusedSimpArgs false
set_option maxRecDepth 100000

variable {W w w' : World} {db sb g k : Nat} {S : Dk} {T : ByteArray}

/-- Page 2 lasts, and nothing of it waits; the power is on, and there is no arm. -/
structure Keep2 (T : ByteArray) (S : Dk) : Prop where
  up : S.up = true
  set : S.set = false
  sure : ∀ j, j < 4 → S.sure (13 + j) = sec 3 99 T j
  wait : ∀ j, j < 4 → S.wait (13 + j) = none
theorem Keep2.out (h : Keep2 T S) (hn : S.n = 40) (id : Int) (hid : id ≠ 2) (t : ByteArray) (l : Int) : Keep2 T (stOut 5 8 3 S id t l).1 := by
  unfold stOut
  split
  · exact h
  · split
    · exact h
    · split
      · exact h
      · rename_i h1 h2 h3
        have ht : t.size = 224 := by omega
        rw [wrK_calm h.up h.set (by omega) (fun j hj => by rw [sec_size ht hj]; exact Nat.le_refl _) 4 (Nat.le_refl _)]
        refine ⟨h.up, h.set, h.sure, fun j hj => ?_⟩
        show (if _ then _ else _) = _
        rw [if_neg (by omega)]
        exact h.wait j hj
structure LS (T : ByteArray) (W w : World) (db sb k : Nat) : Prop where
  ex : ∃ S, Sx W w db sb 3 k S ∧ Keep2 T S
structure LD (T : ByteArray) (W w : World) (db sb k : Nat) : Prop where
  ex : ∃ S x, Sx W w db sb 3 k (offDk S x) ∧ Keep2 T S
structure LU (T : ByteArray) (W w : World) (db sb k : Nat) : Prop where
  ex : ∃ S x, Sx W w db sb 3 k (upOff S x) ∧ Keep2 T S
theorem LS.bel (h : LS T W w db sb k) : Below W.heap.size W w := by obtain ⟨S, h, _⟩ := h.ex; exact h.bel
theorem LU.bel (h : LU T W w db sb k) : Below W.heap.size W w := by obtain ⟨S, x, h, _⟩ := h.ex; exact h.bel
theorem LS.below (h : LS T W w db sb k) (hb : Below w.heap.size w w') : LS T W w' db sb k := by obtain ⟨S, h, q⟩ := h.ex; exact ⟨S, h.below hb, q⟩
theorem LS.drew (h : LS T W w db sb k) : LS T W w.drew db sb k := h.below ((Below.refl _ _).drew)
theorem LS.mono {k' : Nat} (h : LS T W w db sb k) (hk : k ≤ k') : LS T W w db sb k' := by obtain ⟨S, h, q⟩ := h.ex; exact ⟨S, h.mono hk, q⟩
theorem LS.write (h : LS T W w db sb k) (hk : k ≤ 1000) (id : Int) (hid : id ≠ 2) (t : ByteArray) (ht : t.size = 224) (l : Int) : Calls Try.prog 15 #[.pointer (some ⟨sb, 0, none⟩), .int .i64 id, .string t, .int .i64 l] w fun e w' =>
    (∃ x, e = .returned (.int .i64 x)) ∧ LS T W w' db sb (k + 4) := by
  obtain ⟨S, h, q⟩ := h.ex
  refine (h.write (by omega) id t (by omega) l).mono ?_
  rintro e w' ⟨he, hs⟩
  exact ⟨⟨_, he⟩, ⟨_, hs, q.out h.n id hid t l⟩⟩
theorem LS.crash (h : LS T W w db sb k) (hk : k ≤ 1000) (x : Int) (x0 : 0 ≤ x) (x1 : x ≤ 18446744073709551615) : Calls Try.prog 25 #[.pointer (some ⟨db, 0, none⟩), .int .u64 x] w fun e w' =>
    e = .returned (.int .i64 0) ∧ LD T W w' db sb (k + 1) := by
  obtain ⟨S, h, q⟩ := h.ex
  refine (h.lose (by omega) q.up x x0 x1).mono ?_
  rintro e w' ⟨he, hs⟩
  exact ⟨he, ⟨_, _, hs, q⟩⟩
theorem LD.start (h : LD T W w db sb k) : Calls Try.prog 27 #[.pointer (some ⟨db, 0, none⟩)] w fun e w' =>
    e = .returned (.int .i64 0) ∧ LU T W w' db sb k := by
  obtain ⟨S, x, h, q⟩ := h.ex
  refine h.go_on.mono ?_
  rintro e w' ⟨he, hs⟩
  exact ⟨he, ⟨_, _, hs, q⟩⟩
theorem LU.read (h : LU T W w db sb k) (ht : T.size = 224) : Calls Try.prog 19 #[.pointer (some ⟨sb, 0, none⟩), .int .i64 2] w fun e w' =>
    e = .returned (.tuple #[.string T, .int .i64 99, .int .i64 0]) ∧ LU T W w' db sb k := by
  obtain ⟨S, x, h, q⟩ := h.ex
  have hr : rdOut 5 8 3 (upOff S x) 2 = (T, 99, 0) := by
    unfold rdOut
    rw [if_neg (by omega)]
    refine rdV_whole (g := 3) (l := 99) (by omega) (by omega) ht (fun j hj => ?_)
    show lossF S.sure S.wait x (13 + j) = _
    unfold lossF
    rw [q.wait j hj]
    exact q.sure j hj
  have := h.read rfl 2
  rw [hr] at this
  exact this.mono fun e w' ⟨he, hs⟩ => ⟨he, ⟨_, _, hs, q⟩⟩
theorem lasts_start (T : ByteArray) (ht : T.size = 224) : Keep2 T (synDk (put4 13 (sec 3 99 T) (newDk 40) 4)) :=
  ⟨rfl, rfl, fun j hj => put4_sec 13 3 99 T ht _ j hj, fun j hj => rfl⟩

set_option maxHeartbeats 2000000 in
theorem lasts_walk (c : Int) (c0 : 0 ≤ c) (c1 : c ≤ 255) (ao : Option Addr) (len cap : Nat) (f : Nat → Wr3) (x : Int) (x0 : 0 ≤ x) (x1 : x ≤ 18446744073709551615) (w : World) (hw : IsWrs w ao len f) :
    Calls Try.prog 7 #[.int .u8 c, .slice ao len cap, .int .u64 x] w fun e w' => e = .returned (.bool true) ∧ Below w.heap.size w w' := by
  have CM : Hid (Calls Try.prog 14 #[.int .i64 3] w fun e w' =>
    ∃ sb, e = .returned (.tuple #[.pointer (some ⟨w.heap.size + 2, 0, none⟩), .pointer (some ⟨sb, 0, none⟩)]) ∧ Sx w w' (w.heap.size + 2) sb 3 0 (newDk 40)) := made_any 3 (by omega) (by omega) w
  obtain ⟨F, hF⟩ : ∃ F : Int → ByteArray, F = (fun x => fillS x.toNat) := ⟨_, rfl⟩
  have hFz : ∀ x, (F x).size = 224 := fun x => by rw [hF]; exact fillS_size _
  have CF : Hid (∀ x w, 0 ≤ x → x ≤ 255 → Calls Try.prog 23 #[.int .u8 x] w fun e w' => e = .returned (.string (F x)) ∧ Below w.heap.size w w') := fun x w h0 h1 => by rw [hF]; exact fill_int x w h0 (by omega)
  obtain ⟨S1, hS1⟩ : ∃ S, S = put4 13 (sec 3 99 (F c)) (newDk 40) 4 := ⟨_, rfl⟩
  obtain ⟨S0, hS0⟩ : ∃ S, S = newDk 40 := ⟨_, rfl⟩
  rw [← hS0] at CM
  have C1 : Hid (∀ w1 sb, Sx w w1 (w.heap.size + 2) sb 3 0 S0 → Calls Try.prog 15 #[.pointer (some ⟨sb, 0, none⟩), .int .i64 2, .string (F c), .int .i64 99] w1 fun e w' => e = .returned (.int .i64 0) ∧ Sx w w' (w.heap.size + 2) sb 3 4 S1) := fun w1 sb h => by
    rw [hS0] at h; rw [hS1]; exact h.put (by omega) rfl rfl 2 (by omega) _ (hFz c) 99 (by omega)
  have C2 : Hid (∀ w1 sb, Sx w w1 (w.heap.size + 2) sb 3 4 S1 → Calls Try.prog 24 #[.pointer (some ⟨sb, 0, none⟩)] w1 fun e w' => e = .returned (.int .i64 0) ∧ LS (F c) w w' (w.heap.size + 2) sb 5) := fun w1 sb h => by
    have hu : S1.up = true := by rw [hS1]; rfl
    have hs : S1.set = false := by rw [hS1]; rfl
    refine (h.syn (by omega) hu hs).mono ?_
    rintro e w' ⟨he, hs⟩
    exact ⟨he, ⟨_, hs, by rw [hS1]; exact lasts_start _ (hFz c)⟩⟩
  have hTz := hFz c
  clear hF hS0 hS1
  go_enter Try.func7, Try.ntmps7
  go_wp2_with (first
    | (go_at_call 14; refine CM.out.mono ?_; rintro e w1 ⟨sb, rfl, h0⟩)
    | (go_at_call 23; refine (CF.out _ _ c0 c1).mono ?_; rintro e wf ⟨rfl, bf⟩)
    | (go_at_call 15; refine (C1.out _ _ (h0.below bf)).mono ?_; clear h0 bf; rintro e w2 ⟨rfl, h1⟩)
    | (go_at_call 24; refine (C2.out _ _ h1).mono ?_; clear h1; rintro e w3 ⟨rfl, hs⟩))
  go_loopw [9] (fun ix wr => ∃ (j : Nat), j ≤ len ∧ j ≤ 30 ∧ ix = .int .i64 j ∧ LS (F c) w wr (w.heap.size + 2) sb (5 + 4 * j)) (fun ix _ => 30 - (intOf ix).toNat)
  case atStart => exact ⟨0, by omega, by omega, rfl, hs⟩
  case round =>
    obtain ⟨j, hj1, hj2, rfl, hs⟩ := hrel
    by_cases hlt : j < len ∧ j < 30
    · obtain ⟨b, off, rfl, hbl, HC0⟩ := hw.on rfl hlt.1
      obtain ⟨hc0, hc1⟩ := hw.c j hlt.1
      generalize f j = fj at *
      obtain ⟨fi, fc, fs⟩ := fj
      simp only at HC0 hc0 hc1
      have HC : Hid _ := HC0
      obtain ⟨q0, q1, q2⟩ := HC0 wr hs.bel
      clear HC0
      have i1 : (j : Int) < (len : Int) := by omega
      have i2 : (j : Int) < 30 := by omega
      by_cases hid : fi = 2
      · subst hid
        go_wp2
        go_roundw
        case rel => exact ⟨j + 1, by omega, by omega, by go_num, hs.mono (by omega)⟩
        case measure => simp [intOf]; omega
      · have hidb : (fi != 2) = true := by simpa using hid
        have hd := hs.drew
        have hkk : 5 + 4 * j ≤ 1000 := by omega
        clear hs
        go_wp2
        go_region_held3 (fun W => W.cell? ⟨b, off + j * 3, none⟩ = some (.int .i64 fi) ∧ W.cell? ⟨b, off + j * 3 + 1, none⟩ = some (.int .u8 fc)) (first | exact ⟨(HC.out _ hd.bel).1, (HC.out _ hd.bel).2.1⟩ | go_keep) (first
          | (go_at_call 23; refine (CF.out _ _ ?_ ?_).mono ?_; exact hc0; exact hc1; rintro e wA ⟨rfl, bA⟩; have hn := hd.below bA; clear hd bA; have hd := hn; clear hn)
          | (go_at_call 15; refine (hd.write ?_ _ ?_ _ ?_ _).mono ?_; exact hkk; exact hid; exact hFz _; clear hd; rintro e wB ⟨⟨xx, rfl⟩, hd⟩))
        go_wp2
        go_roundw
        case rel => exact ⟨j + 1, by omega, by omega, by go_num, hd⟩
        case measure => simp [intOf]; omega
    · have hE : (decide ((j : Int) < (len : Int)) && decide ((j : Int) < 30)) = false := by simp; omega
      by_cases h1 : (j : Int) < (len : Int)
      · have h2 : ¬ (j : Int) < 30 := by omega
        go_wp2_with (first
          | (go_at_call 25; refine (hs.crash (by omega) x x0 x1).mono ?_; clear hs; rintro e w4 ⟨rfl, h4⟩)
          | (go_at_call 27; refine h4.start.mono ?_; clear h4; rintro e w5 ⟨rfl, h5⟩)
          | (go_at_call 19; refine (h5.read hTz).mono ?_; clear h5; rintro e w6 ⟨rfl, h6⟩)
          | (go_at_call 23; refine (CF.out _ _ c0 c1).mono ?_; rintro e w7 ⟨rfl, b7⟩)
          | (go_at_call 9; refine (awake_any _).mono ?_; rintro e w8 ⟨rfl, b8⟩))
        go_ret
        have bb := h6.bel.trans (b7.mono h6.bel.size)
        exact ⟨rfl, bb.trans (b8.mono bb.size)⟩
      · go_wp2_with (first
          | (go_at_call 25; refine (hs.crash (by omega) x x0 x1).mono ?_; clear hs; rintro e w4 ⟨rfl, h4⟩)
          | (go_at_call 27; refine h4.start.mono ?_; clear h4; rintro e w5 ⟨rfl, h5⟩)
          | (go_at_call 19; refine (h5.read hTz).mono ?_; clear h5; rintro e w6 ⟨rfl, h6⟩)
          | (go_at_call 23; refine (CF.out _ _ c0 c1).mono ?_; rintro e w7 ⟨rfl, b7⟩)
          | (go_at_call 9; refine (awake_any _).mono ?_; rintro e w8 ⟨rfl, b8⟩))
        go_ret
        have bb := h6.bel.trans (b7.mono h6.bel.size)
        exact ⟨rfl, bb.trans (b8.mono bb.size)⟩
end Go.Proofs.Ytdgnfglghiecpaa
