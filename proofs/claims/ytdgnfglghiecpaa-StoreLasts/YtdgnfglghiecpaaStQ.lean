/- The store's mathematics, once more: four writes on a disk with no arm; a page that was written whole is read; what a sector is read as. -/
import Derived.Test.YtdgnfglghiecpaaStX
namespace Go.Proofs.Ytdgnfglghiecpaa
open Go.RowKit Go.Maps Go.ChangeMaps
set_option linter.unusedVariables false
set_option linter.unusedSimpArgs false
set_option maxRecDepth 100000

variable {S : Dk}

/-! ### What a sector is read as -/
theorem p2 : 256 ^ 2 = 65536 := by decide
theorem p6 : 256 ^ 6 = 281474976710656 := by decide
theorem rN_two (g l : Nat) (hg : g ≤ 65535) (x : ByteArray) : rN (hd g l ++ x, 0) 2 = (g, Pk.beS l 6 ++ x, 0) := by
  have := Pk.rdNum_app g 2 (Pk.beS l 6 ++ x) (by omega) (by omega) (by rw [p2]; omega)
  rw [← ByteArray.append_assoc] at this
  exact this
theorem rN_six (l : Nat) (hl : l < 281474976710656) (x : ByteArray) : rN (Pk.beS l 6 ++ x, 0) 6 = (l, x, 0) :=
  Pk.rdNum_app l 6 x (by omega) (by omega) (by rw [p6]; omega)
theorem rR_all (x : ByteArray) (hx : x.size = 56) : (rR (x, 0) 56).1 = x := by
  unfold rR
  rw [Pk.rdRaw_fits (by omega) (by simp only [hx]; omega)]
  show x.extract 0 56 = x
  apply ByteArray.ext
  have : x.data.size = 56 := hx
  simp [ByteArray.data_extract, this]
theorem read_hd (g l : Nat) (hg : g ≤ 65535) (hl : l < 281474976710656) (x : ByteArray) (hx : x.size = 56) : gnS (hd g l ++ x) = g ∧ lnS (hd g l ++ x) = l ∧ txS (hd g l ++ x) = x := by
  unfold gnS lnS txS
  rw [rN_two g l hg]
  dsimp only
  rw [rN_six l hl]
  exact ⟨rfl, rfl, rR_all x hx⟩
theorem read_sec {g l : Nat} (hg : g ≤ 65535) (hl : l < 281474976710656) {t : ByteArray} (ht : t.size = 224) {i : Nat} (hi : i < 4) :
    gnS (sec g l t i) = g ∧ lnS (sec g l t i) = l ∧ txS (sec g l t i) = t.extract (i * 56) ((i + 1) * 56) :=
  read_hd g l hg hl _ (by rw [ByteArray.size_extract, ht]; omega)
theorem gnS_zero : gnS zs64 = 0 := by decide +kernel
theorem four_cuts {t : ByteArray} (ht : t.size = 224) : ⟨#[]⟩ ++ t.extract (0 * 56) ((0 + 1) * 56) ++ t.extract (1 * 56) ((1 + 1) * 56) ++ t.extract (2 * 56) ((2 + 1) * 56) ++ t.extract (3 * 56) ((3 + 1) * 56) = t := by
  apply ByteArray.ext
  have hz : t.data.size = 224 := ht
  simp only [ByteArray.data_append, ByteArray.data_extract]
  apply Array.ext'
  simp only [Array.toList_append, Array.toList_extract, List.extract_eq_take_drop]
  have hl : t.data.toList.length = 224 := by simpa using hz
  generalize t.data.toList = L at hl
  have e1 : L.take 56 ++ (L.drop 56).take 56 = L.take 112 := by rw [← List.take_add]
  have e2 : L.take 112 ++ (L.drop 112).take 56 = L.take 168 := by rw [← List.take_add]
  have e3 : L.take 168 ++ (L.drop 168).take 56 = L.take 224 := by rw [← List.take_add]
  show [] ++ (L.drop 0).take 56 ++ (L.drop 56).take 56 ++ (L.drop 112).take 56 ++ (L.drop 168).take 56 = L
  rw [List.nil_append, List.drop_zero, e1, e2, e3, List.take_of_length_le (by omega)]
/-- A page of one write is read whole. -/
theorem rdV_whole {g l : Nat} (hg : g ≤ 65535) (hl : l < 281474976710656) {t : ByteArray} (ht : t.size = 224) {f : Nat → ByteArray} (hf : ∀ i, i < 4 → f i = sec g l t i) : rdV g f = (t, (l : Int), 0) := by
  have r := fun i hi => read_sec hg hl ht (i := i) hi
  have e : ∀ i, i < 4 → gnS (f i) = g ∧ lnS (f i) = l ∧ txS (f i) = t.extract (i * 56) ((i + 1) * 56) := fun i hi => by rw [hf i hi]; exact r i hi
  have k : knwJ g f 4 = true := by
    simp only [knwJ, (e 0 (by omega)).1]; simp
  have v : whlJ f 4 = true := by
    simp only [whlJ, (e 0 (by omega)).1, (e 1 (by omega)).1, (e 2 (by omega)).1, (e 3 (by omega)).1, (e 0 (by omega)).2.1, (e 1 (by omega)).2.1, (e 2 (by omega)).2.1, (e 3 (by omega)).2.1]; simp
  have x : txtJ f 4 = t := by
    simp only [txtJ, (e 0 (by omega)).2.2, (e 1 (by omega)).2.2, (e 2 (by omega)).2.2, (e 3 (by omega)).2.2]
    exact four_cuts ht
  unfold rdV
  rw [k, v, x, (e 0 (by omega)).2.1]
  rfl
/-- A page of no sector of the generation. -/
theorem rdV_none {g : Nat} {f : Nat → ByteArray} (hf : ∀ i, i < 4 → gnS (f i) ≠ g) : rdV g f = (⟨#[]⟩, 0, 8) := by
  have h := fun i hi => (by have := hf i hi; simp; omega : ((gnS (f i) : Int) == (g : Int)) = false)
  have k : knwJ g f 4 = false := by
    simp only [knwJ, h 0 (by omega), h 1 (by omega), h 2 (by omega), h 3 (by omega)]; rfl
  unfold rdV
  rw [k]
  rfl

/-! ### Writes on a disk with no arm -/
def put4 (b : Nat) (t : Nat → ByteArray) (S : Dk) (k : Nat) : Dk :=
  { S with acts := S.acts + (k : Int), wait := fun j => if b ≤ j ∧ j < b + k then some (pad (t (j - b))) else S.wait j }
theorem put4_zero (b : Nat) (t : Nat → ByteArray) (S : Dk) : put4 b t S 0 = S := by
  unfold put4
  have e : (fun j => if b ≤ j ∧ j < b + 0 then some (pad (t (j - b))) else S.wait j) = S.wait := by
    funext j; rw [if_neg (by omega)]
  rw [e]; simp
theorem write_calm {S : Dk} (hu : S.up = true) (hs : S.set = false) (i : Nat) (hi : i < S.n) (s : ByteArray) (hz : s.size ≤ 64) : writeDk S (i : Int) s = wrDk S i s ∧ writeE S (i : Int) s = 0 := by
  have hr : refAt S.up S.n i = 0 := by simp [refAt, hu]; omega
  have hz' : ¬ 64 < s.size := by omega
  have ha : actE S = 0 := by simp [actE, hs]
  exact ⟨by simp [writeDk, hr, hz', ha, wrDk, actDk, hs], by simp [writeE, hr, hz', ha]⟩
theorem wrK_calm {b : Nat} {t : Nat → ByteArray} {S : Dk} (hu : S.up = true) (hs : S.set = false) (hb : b + 4 ≤ S.n) (hz : ∀ i, i < 4 → (t i).size ≤ 64) : ∀ k, k ≤ 4 → wrK b t S k = (put4 b t S k, 0)
  | 0, _ => by rw [put4_zero]; rfl
  | k + 1, hk => by
    have ih := wrK_calm hu hs hb hz k (by omega)
    have hc := write_calm (S := put4 b t S k) hu hs (b + k) (show b + k < S.n by omega) (t k) (hz k (by omega))
    rw [wrK, ih, if_pos rfl, hc.1, hc.2]
    refine Prod.ext ?_ rfl
    show wrDk (put4 b t S k) (b + k) (t k) = put4 b t S (k + 1)
    unfold wrDk put4
    congr 1
    · funext j
      unfold upd
      by_cases e : j = b + k
      · subst e; rw [if_pos rfl, if_pos (by omega)]; simp
      · rw [if_neg e]
        dsimp only
        by_cases e2 : b ≤ j ∧ j < b + k
        · rw [if_pos e2, if_pos (by omega)]
        · rw [if_neg e2, if_neg (by omega)]
    · dsimp only; omega
theorem put4_now (b : Nat) (t : Nat → ByteArray) (S : Dk) (k j : Nat) : (put4 b t S k).now j = if b ≤ j ∧ j < b + k then pad (t (j - b)) else S.now j := by
  unfold Dk.now put4
  dsimp only
  split <;> rfl
/-- The sectors of page i of the laws' store. -/
theorem stOut_calm {g : Nat} {S : Dk} (hu : S.up = true) (hs : S.set = false) (hn : S.n = 40) (i : Nat) (hi : i < 8) (t : ByteArray) (ht : t.size = 224) (l : Nat) (hl : l < 281474976710656) :
    stOut 5 8 g S (i : Int) t (l : Int) = (put4 (5 + 4 * i) (sec g l t) S 4, 0) := by
  unfold stOut
  rw [if_neg (by omega), if_neg (by omega), if_neg (by omega)]
  exact wrK_calm hu hs (by omega) (fun j hj => by rw [Int.toNat_natCast, sec_size ht hj]; exact Nat.le_refl _) 4 (Nat.le_refl _)
theorem put4_sec (b g l : Nat) (t : ByteArray) (ht : t.size = 224) (S : Dk) (i : Nat) (hi : i < 4) : (put4 b (sec g l t) S 4).now (b + i) = sec g l t i := by
  rw [put4_now, if_pos (by omega), Nat.add_sub_cancel_left, pad_self (sec_size ht hi)]
end Go.Proofs.Ytdgnfglghiecpaa
