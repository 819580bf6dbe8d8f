/- The store's mathematics: a page's sectors, four writes one behind the other, what is read of four sectors. -/
import Derived.Test.YtdgnfglghiecpaaStL
namespace Go.Proofs.Ytdgnfglghiecpaa
open Go.RowKit Go.Maps Go.ChangeMaps
set_option linter.unusedVariables false
set_option linter.unusedSimpArgs false
set_option maxRecDepth 100000

variable {w w' : World} {db lb mb m sb : Nat} {S : Dk} {base pages gen : Nat}

/-- A disk whose counts are small. -/
structure Dq (k : Nat) (S : Dk) : Prop where
  ok : S.Ok
  acts : S.acts ≤ (k : Int)
  downs : S.downs ≤ (k : Int)
theorem Dq.mono {k k' : Nat} (h : Dq k S) (hk : k ≤ k') : Dq k' S := ⟨h.ok, by have := h.acts; omega, by have := h.downs; omega⟩
theorem actDk_counts (S : Dk) : (actDk S).acts ≤ S.acts + 1 ∧ (actDk S).downs ≤ S.downs + 1 := by
  unfold actDk offDk; split
  · exact ⟨by dsimp only; omega, Int.le_refl _⟩
  · split
    · exact ⟨Int.le_refl _, by dsimp only; omega⟩
    · exact ⟨Int.le_refl _, by dsimp only; omega⟩
theorem writeDk_counts (S : Dk) (i : Int) (s : ByteArray) : (writeDk S i s).acts ≤ S.acts + 1 ∧ (writeDk S i s).downs ≤ S.downs + 1 := by
  have := actDk_counts S
  unfold writeDk
  split
  · exact ⟨by omega, by omega⟩
  · split
    · exact ⟨by omega, by omega⟩
    · split
      · exact this
      · exact this
theorem Dq.write {k : Nat} (h : Dq k S) (hk : k ≤ 100000) (i : Int) (s : ByteArray) : Dq (k + 1) (writeDk S i s) := by
  have h1 := writeDk_counts S i s
  have := h.acts
  have := h.downs
  exact ⟨writeDk_ok h.ok (by omega) (by omega) i s, by omega, by omega⟩
theorem syncDk_counts (S : Dk) : (syncDk S).acts ≤ S.acts + 1 ∧ (syncDk S).downs ≤ S.downs + 1 := by
  have := actDk_counts S
  unfold syncDk
  split
  · split
    · exact this
    · exact this
  · exact ⟨by omega, by omega⟩
theorem Dq.sync {k : Nat} (h : Dq k S) (hk : k ≤ 100000) : Dq (k + 1) (syncDk S) := by
  have h1 := syncDk_counts S
  have := h.acts
  have := h.downs
  exact ⟨syncDk_ok h.ok (by omega) (by omega), by omega, by omega⟩
theorem Dq.off {k : Nat} (h : Dq k S) (hk : k ≤ 100000) (x : Int) : Dq (k + 1) (offDk S x) := by
  have := h.acts
  have := h.downs
  exact ⟨offDk_ok h.ok _ (by omega), by simp only [offDk]; omega, by simp only [offDk]; omega⟩
theorem Dq.up {k : Nat} (h : Dq k S) (b : Bool) : Dq k { S with up := b } := ⟨up_ok h.ok b, h.acts, h.downs⟩
theorem Dq.new {n : Nat} (h1 : 1 ≤ n) (h2 : n ≤ 8192) : Dq 0 (newDk n) := ⟨newDk_ok h1 h2, Int.le_refl _, Int.le_refl _⟩
theorem offDk_n (S : Dk) (x : Int) : (offDk S x).n = S.n := rfl
theorem writeDk_n (S : Dk) (i : Int) (s : ByteArray) : (writeDk S i s).n = S.n := by
  unfold writeDk
  split
  · rfl
  · split
    · rfl
    · split
      · exact actDk_n S
      · exact actDk_n S
theorem syncDk_n (S : Dk) : (syncDk S).n = S.n := by
  unfold syncDk
  split
  · split
    · exact actDk_n S
    · exact actDk_n S
  · rfl

/-- A sector of a page. -/
def sec (g l : Nat) (t : ByteArray) (i : Nat) : ByteArray := hd g l ++ t.extract (i * 56) ((i + 1) * 56)
theorem sec_size {g l : Nat} {t : ByteArray} (ht : t.size = 224) {i : Nat} (hi : i < 4) : (sec g l t i).size = 64 := by
  rw [sec, ByteArray.size_append, hd_size, ByteArray.size_extract, ht]; omega
theorem pad_self {s : ByteArray} (h : s.size = 64) : pad s = s := by
  unfold pad; rw [h]; apply ByteArray.ext; simp
/-- Four writes, up to the first error. -/
def wrK (b : Nat) (t : Nat → ByteArray) (S : Dk) : Nat → Dk × Int
  | 0 => (S, 0)
  | k + 1 => if (wrK b t S k).2 = 0 then (writeDk (wrK b t S k).1 ((b + k : Nat) : Int) (t k), writeE (wrK b t S k).1 ((b + k : Nat) : Int) (t k)) else wrK b t S k
theorem wrK_err {b : Nat} {t : Nat → ByteArray} {S : Dk} {k : Nat} (h : (wrK b t S k).2 ≠ 0) : ∀ n, wrK b t S (k + n) = wrK b t S k
  | 0 => rfl
  | n + 1 => by
    have := wrK_err h n
    show (if (wrK b t S (k + n)).2 = 0 then _ else wrK b t S (k + n)) = _
    rw [this, if_neg h]
theorem wrK_dq {b : Nat} {t : Nat → ByteArray} {S : Dk} {q : Nat} (h : Dq q S) (hq : q ≤ 90000) : ∀ k, k ≤ 4 → Dq (q + k) (wrK b t S k).1
  | 0, _ => h
  | k + 1, hk => by
    have := wrK_dq h hq (b := b) (t := t) k (by omega)
    rw [wrK]
    split
    · exact this.write (by omega) _ _
    · exact this.mono (by omega)
theorem wrK_n (b : Nat) (t : Nat → ByteArray) (S : Dk) : ∀ k, (wrK b t S k).1.n = S.n
  | 0 => rfl
  | k + 1 => by
    rw [wrK]
    split
    · exact (writeDk_n _ _ _).trans (wrK_n b t S k)
    · exact wrK_n b t S k
end Go.Proofs.Ytdgnfglghiecpaa
