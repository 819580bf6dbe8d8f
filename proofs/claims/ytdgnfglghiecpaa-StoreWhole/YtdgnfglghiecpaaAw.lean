/- The law's awake: chapter 6's example. -/
import Derived.Test.YtdgnfglghiecpaaLf
namespace Go.Proofs.Ytdgnfglghiecpaa
open Go.RowKit Go.Maps Go.ChangeMaps
set_option linter.unusedVariables false
set_option linter.unusedSimpArgs false
set_option maxRecDepth 100000

variable {W w w' : World} {db sb g k : Nat} {S : Dk}

theorem Sx.put (h : Sx W w db sb g k S) (hk : k ≤ 10000) (hu : S.up = true) (hs : S.set = false) (i : Nat) (hi : i < 8) (t : ByteArray) (ht : t.size = 224) (l : Nat) (hl : l < 281474976710656) :
    Calls Try.prog 15 #[.pointer (some ⟨sb, 0, none⟩), .int .i64 (i : Int), .string t, .int .i64 (l : Int)] w fun e w' =>
      e = .returned (.int .i64 0) ∧ Sx W w' db sb g (k + 4) (put4 (5 + 4 * i) (sec g l t) S 4) := by
  have := h.write hk (i : Int) t (by omega) (l : Int)
  rwa [stOut_calm hu hs h.n i hi t ht l hl] at this
def synDk (S : Dk) : Dk := { S with acts := S.acts + 1, sure := S.now, wait := fun _ => none }
theorem sync_calm (hu : S.up = true) (hs : S.set = false) : syncDk S = synDk S ∧ syncE S = 0 := by
  have ha : actE S = 0 := by simp [actE, hs]
  exact ⟨by simp [syncDk, hu, ha, actDk, hs, synDk], by simp [syncE, hu, ha]⟩
theorem Sx.syn (h : Sx W w db sb g k S) (hk : k ≤ 10000) (hu : S.up = true) (hs : S.set = false) : Calls Try.prog 24 #[.pointer (some ⟨sb, 0, none⟩)] w fun e w' =>
    e = .returned (.int .i64 0) ∧ Sx W w' db sb g (k + 1) (synDk S) := by
  have := h.sync hk
  rwa [(sync_calm hu hs).1, (sync_calm hu hs).2] at this
theorem synDk_now (S : Dk) (j : Nat) : (synDk S).now j = S.now j := rfl
theorem Sx.lose (h : Sx W w db sb g k S) (hk : k ≤ 10000) (hu : S.up = true) (x : Int) (x0 : 0 ≤ x) (x1 : x ≤ 18446744073709551615) : Calls Try.prog 25 #[.pointer (some ⟨db, 0, none⟩), .int .u64 x] w fun e w' =>
    e = .returned (.int .i64 0) ∧ Sx W w' db sb g (k + 1) (offDk S x) := by
  have := h.crash hk x x0 x1
  have e1 : crE S = 0 := by simp [crE, hu]
  have e2 : crDk S x = offDk S x := by simp [crDk, hu]
  rwa [e1, e2] at this
theorem Sx.go_on {x : Int} (h : Sx W w db sb g k (offDk S x)) : Calls Try.prog 27 #[.pointer (some ⟨db, 0, none⟩)] w fun e w' =>
    e = .returned (.int .i64 0) ∧ Sx W w' db sb g k (upOff S x) := by
  have := h.start
  exact this

/-- The example's page, written twice. -/
def aw1 : Dk := put4 5 (sec 1 7 (fillS 1)) (newDk 40) 4
def aw3 : Dk := put4 5 (sec 1 8 (fillS 2)) (synDk aw1) 4
theorem aw1_now (i : Nat) (hi : i < 4) : aw1.now (5 + i) = sec 1 7 (fillS 1) i := put4_sec 5 1 7 _ (fillS_size 1) _ i hi
theorem aw3_read : rdOut 5 8 1 aw3 0 = (fillS 2, 8, 0) := by
  unfold rdOut
  rw [if_neg (by omega)]
  exact rdV_whole (g := 1) (l := 8) (by omega) (by omega) (fillS_size 2) (fun i hi => put4_sec 5 1 8 _ (fillS_size 2) _ i hi)
theorem lossF_some {sure : Nat → ByteArray} {wait : Nat → Option ByteArray} {x : Int} {i : Nat} {c : ByteArray} (h : wait i = some c) : lossF sure wait x i = if bitK x (rank wait i) then c else sure i := by
  unfold lossF; rw [h]
theorem aw4_five : (upOff aw3 5).now 5 = sec 1 8 (fillS 2) 0 := by
  show lossF aw3.sure aw3.wait 5 5 = _
  have hw : aw3.wait 5 = some (pad (sec 1 8 (fillS 2) 0)) := rfl
  rw [lossF_some hw, show rank aw3.wait 5 = 0 from rfl, show bitK 5 0 = true from by decide, if_pos rfl, pad_self (sec_size (fillS_size 2) (by omega))]
theorem aw4_six : (upOff aw3 5).now 6 = sec 1 7 (fillS 1) 1 := by
  show lossF aw3.sure aw3.wait 5 6 = _
  have hw : aw3.wait 6 = some (pad (sec 1 8 (fillS 2) 1)) := rfl
  rw [lossF_some hw, show rank aw3.wait 6 = 1 from rfl, show bitK 5 1 = false from by decide, if_neg (by decide)]
  exact aw1_now 1 (by omega)
theorem aw4_read : (rdOut 5 8 1 (upOff aw3 5) 0).2.2 = 10 := by
  unfold rdOut
  rw [if_neg (by omega)]
  have h5 := read_sec (g := 1) (l := 8) (by omega) (by omega) (fillS_size 2) (i := 0) (by omega)
  have h6 := read_sec (g := 1) (l := 7) (by omega) (by omega) (fillS_size 1) (i := 1) (by omega)
  rw [← aw4_five] at h5
  rw [← aw4_six] at h6
  generalize upOff aw3 5 = S4 at *
  have e0 : gnS (S4.now (5 + 4 * (0 : Int).toNat + 0)) = 1 := h5.1
  have e1 : lnS (S4.now (5 + 4 * (0 : Int).toNat + 0)) = 8 := h5.2.1
  have e2 : lnS (S4.now (5 + 4 * (0 : Int).toNat + 1)) = 7 := h6.2.1
  have k : knwJ 1 (fun i => S4.now (5 + 4 * (0 : Int).toNat + i)) 4 = true := by
    simp only [knwJ, e0]; simp
  have v : whlJ (fun i => S4.now (5 + 4 * (0 : Int).toNat + i)) 4 = false := by
    simp only [whlJ, e1, e2]; simp
  unfold rdV
  rw [k, v]
  rfl
theorem fill_int (x : Int) (w : World) (h0 : 0 ≤ x) (h1 : x < 256) : Calls Try.prog 23 #[.int .u8 x] w fun e w' => e = .returned (.string (fillS x.toNat)) ∧ Below w.heap.size w w' := by
  have := fill_any x.toNat (by omega) w
  rwa [Int.toNat_of_nonneg h0] at this

set_option maxHeartbeats 1000000 in
theorem awake_any (w : World) : Calls Try.prog 9 #[] w fun e w' => e = .returned (.bool true) ∧ Below w.heap.size w w' := by
  have CM : Hid (Calls Try.prog 14 #[.int .i64 1] w fun e w' =>
    ∃ sb, e = .returned (.tuple #[.pointer (some ⟨w.heap.size + 2, 0, none⟩), .pointer (some ⟨sb, 0, none⟩)]) ∧ Sx w w' (w.heap.size + 2) sb 1 0 (newDk 40)) := made_any 1 (by omega) (by omega) w
  obtain ⟨f, hf⟩ : ∃ f : Int → ByteArray, f = (fun x => fillS x.toNat) := ⟨_, rfl⟩
  have CF : Hid (∀ x w, 0 ≤ x → x < 256 → Calls Try.prog 23 #[.int .u8 x] w fun e w' => e = .returned (.string (f x)) ∧ Below w.heap.size w w') := fun x w h0 h1 => by rw [hf]; exact fill_int x w h0 h1
  have hf1 : f 1 = fillS 1 := by rw [hf]; rfl
  have hf2 : f 2 = fillS 2 := by rw [hf]; rfl
  obtain ⟨S1, hS1⟩ : ∃ S, S = aw1 := ⟨_, rfl⟩
  obtain ⟨S3, hS3⟩ : ∃ S, S = aw3 := ⟨_, rfl⟩
  obtain ⟨S4, hS4⟩ : ∃ S, S = upOff aw3 5 := ⟨_, rfl⟩
  obtain ⟨S0, hS0⟩ : ∃ S, S = newDk 40 := ⟨_, rfl⟩
  rw [← hS0] at CM
  have C1 : Hid (∀ w1 sb, Sx w w1 (w.heap.size + 2) sb 1 0 S0 → Calls Try.prog 15 #[.pointer (some ⟨sb, 0, none⟩), .int .i64 0, .string (f 1), .int .i64 7] w1 fun e w' => e = .returned (.int .i64 0) ∧ Sx w w' (w.heap.size + 2) sb 1 4 S1) := fun w1 sb h => by
    rw [hS0] at h; rw [hf1, hS1]; exact h.put (by omega) rfl rfl 0 (by omega) _ (fillS_size 1) 7 (by omega)
  have C2 : Hid (∀ w1 sb, Sx w w1 (w.heap.size + 2) sb 1 4 S1 → Calls Try.prog 24 #[.pointer (some ⟨sb, 0, none⟩)] w1 fun e w' => e = .returned (.int .i64 0) ∧ Sx w w' (w.heap.size + 2) sb 1 5 (synDk S1)) := fun w1 sb h => by
    have hu : S1.up = true := by rw [hS1]; rfl
    have hs : S1.set = false := by rw [hS1]; rfl
    exact h.syn (by omega) hu hs
  have C3 : Hid (∀ w1 sb, Sx w w1 (w.heap.size + 2) sb 1 5 (synDk S1) → Calls Try.prog 15 #[.pointer (some ⟨sb, 0, none⟩), .int .i64 0, .string (f 2), .int .i64 8] w1 fun e w' => e = .returned (.int .i64 0) ∧ Sx w w' (w.heap.size + 2) sb 1 9 S3) := fun w1 sb h => by
    rw [hS1] at h; rw [hf2, hS3]; exact h.put (by omega) rfl rfl 0 (by omega) _ (fillS_size 2) 8 (by omega)
  have C4 : Hid (∀ w1 sb, Sx w w1 (w.heap.size + 2) sb 1 9 S3 → Calls Try.prog 19 #[.pointer (some ⟨sb, 0, none⟩), .int .i64 0] w1 fun e w' => e = .returned (.tuple #[.string (f 2), .int .i64 8, .int .i64 0]) ∧ Sx w w' (w.heap.size + 2) sb 1 9 S3) := fun w1 sb h => by
    have hu : S3.up = true := by rw [hS3]; rfl
    have := h.read hu 0
    have e : rdOut 5 8 1 S3 0 = (f 2, 8, 0) := by rw [hS3, hf2]; exact aw3_read
    rwa [e] at this
  have C5 : Hid (∀ w1 sb, Sx w w1 (w.heap.size + 2) sb 1 9 S3 → Calls Try.prog 25 #[.pointer (some ⟨w.heap.size + 2, 0, none⟩), .int .u64 5] w1 fun e w' => e = .returned (.int .i64 0) ∧ Sx w w' (w.heap.size + 2) sb 1 10 (offDk S3 5)) := fun w1 sb h => by
    have hu : S3.up = true := by rw [hS3]; rfl
    exact h.lose (by omega) hu 5 (by omega) (by omega)
  have C6 : Hid (∀ w1 sb, Sx w w1 (w.heap.size + 2) sb 1 10 (offDk S3 5) → Calls Try.prog 27 #[.pointer (some ⟨w.heap.size + 2, 0, none⟩)] w1 fun e w' => e = .returned (.int .i64 0) ∧ Sx w w' (w.heap.size + 2) sb 1 10 S4) := fun w1 sb h => by
    have := h.go_on
    rw [hS4, ← hS3]; exact this
  have C7 : Hid (∀ w1 sb, Sx w w1 (w.heap.size + 2) sb 1 10 S4 → Calls Try.prog 19 #[.pointer (some ⟨sb, 0, none⟩), .int .i64 0] w1 fun e w' => ∃ x y, e = .returned (.tuple #[.string x, .int .i64 y, .int .i64 10]) ∧ Sx w w' (w.heap.size + 2) sb 1 10 S4) := fun w1 sb h => by
    have hu : S4.up = true := by rw [hS4]; rfl
    have := h.read hu 0
    have e : (rdOut 5 8 1 S4 0).2.2 = 10 := by rw [hS4]; exact aw4_read
    rw [e] at this
    exact this.mono fun e w' ⟨he, hs⟩ => ⟨_, _, he, hs⟩
  clear hf hf1 hf2 hS0 hS1 hS3 hS4
  go_enter Try.func9, Try.ntmps9
  go_wp2_with (first
    | (go_at_call 14; refine CM.out.mono ?_; rintro e w1 ⟨sb, rfl, h0⟩)
    | (go_at_call 23; refine (CF.out _ _ (by omega) (by omega)).mono ?_; rintro e wf ⟨rfl, bf⟩)
    | (go_at_call 15; first
        | (refine (C1.out _ _ (h0.below bf)).mono ?_; clear h0 bf; rintro e w2 ⟨rfl, h1⟩)
        | (refine (C3.out _ _ (h2.below bf)).mono ?_; clear h2 bf; rintro e w4 ⟨rfl, h3⟩))
    | (go_at_call 24; refine (C2.out _ _ h1).mono ?_; clear h1; rintro e w3 ⟨rfl, h2⟩)
    | (go_at_call 19; first
        | (refine (C4.out _ _ h3).mono ?_; clear h3; rintro e w5 ⟨rfl, h4⟩)
        | (refine (C7.out _ _ h6).mono ?_; clear h6; rintro e w8 ⟨x, y, rfl, h7⟩))
    | (go_at_call 25; refine (C5.out _ _ (h4.below bf)).mono ?_; clear h4 bf; rintro e w6 ⟨rfl, h5⟩)
    | (go_at_call 27; refine (C6.out _ _ h5).mono ?_; clear h5; rintro e w7 ⟨rfl, h6⟩))
  go_ret
  exact ⟨rfl, h7.bel⟩
end Go.Proofs.Ytdgnfglghiecpaa
