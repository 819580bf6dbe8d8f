/- What was laid is read again: lemmas on bytes alone, and on what a writer and a row of items keep. -/
import Derived.Test.YtdgdbfodcccmcaaItems
namespace Go.Proofs.Ytdgdbfodcccmcaa
open Go.RowKit
set_option linter.unusedVariables false
set_option linter.unusedSimpArgs false

/-- An item's bytes; whether it has room. -/
def encI (x : Int × Int × ByteArray) : ByteArray := if x.2.1 = 0 then beS x.2.2.size 2 ++ x.2.2 else beS x.1.toNat x.2.1.toNat
def okI (x : Int × Int × ByteArray) : Prop := (x.2.1 = 0 ∧ x.2.2.size ≤ 65535) ∨ (x.2.1 ≠ 0 ∧ 1 ≤ x.2.1 ∧ x.2.1 ≤ 6 ∧ 0 ≤ x.1 ∧ x.1 < limI x.2.1.toNat)
def encK : List (Int × Int × ByteArray) → ByteArray
  | [] => ⟨#[]⟩
  | x :: r => encI x ++ encK r
def cellsK (K : List (Int × Int × ByteArray)) : List Value := K.flatMap fun x => [.int .i64 x.1, .int .i64 x.2.1, .string x.2.2]

theorem append_nil (s : ByteArray) : s ++ (⟨#[]⟩ : ByteArray) = s := by apply ByteArray.ext; simp [ByteArray.data_append]
theorem encK_snoc (K : List (Int × Int × ByteArray)) (x : Int × Int × ByteArray) : encK (K ++ [x]) = encK K ++ encI x := by
  induction K with
  | nil => simp only [List.nil_append, encK, append_nil, nil_append]
  | cons y K ih => simp only [List.cons_append, encK, ih, ByteArray.append_assoc]
theorem cellsK_length (K : List (Int × Int × ByteArray)) : (cellsK K).length = K.length * 3 := by
  induction K with
  | nil => rfl
  | cons x K ih => simp only [cellsK, List.flatMap_cons, List.length_append, List.length_cons, List.length_nil] at *; omega
theorem cellsK_snoc (K : List (Int × Int × ByteArray)) (x : Int × Int × ByteArray) : cellsK (K ++ [x]) = cellsK K ++ [.int .i64 x.1, .int .i64 x.2.1, .string x.2.2] := by
  simp [cellsK]
theorem cellsK_get (K : List (Int × Int × ByteArray)) (j : Nat) (x : Int × Int × ByteArray) (h : K[j]? = some x) :
    (cellsK K)[j * 3]? = some (.int .i64 x.1) ∧ (cellsK K)[j * 3 + 1]? = some (.int .i64 x.2.1) ∧ (cellsK K)[j * 3 + 2]? = some (.string x.2.2) := by
  induction K generalizing j with
  | nil => simp at h
  | cons y K ih =>
    cases j with
    | zero => simp at h; subst h; simp [cellsK]
    | succ j =>
      have := ih j (by simpa using h)
      rw [show (j + 1) * 3 = j * 3 + 3 by omega]
      simpa [cellsK, List.flatMap_cons] using this
theorem beN_be (k : Nat) (n : Nat) (h : n < 256 ^ k) : beN (be n k) = n := by
  have key : ∀ (k a : Nat), (be n k).foldl (fun a b => 256 * a + b.toNat) a = a * 256 ^ k + n % 256 ^ k := by
    intro k
    induction k with
    | zero => intro a; simp [be, Nat.mod_one]
    | succ k ih =>
      intro a
      rw [be, List.foldl_cons, ih]
      have hb : (UInt8.ofNat (n / 256 ^ k % 256)).toNat = n / 256 ^ k % 256 := by simp
      rw [hb, Nat.pow_succ, Nat.mod_mul]
      rw [Nat.add_mul, Nat.mul_comm 256 a, Nat.mul_assoc, Nat.mul_comm 256 (256 ^ k), Nat.mul_comm (n / 256 ^ k % 256) (256 ^ k)]
      omega
  unfold beN
  rw [key k 0, Nat.mod_eq_of_lt h]
  omega
theorem limI_nat (k : Nat) : limI k = ((256 ^ k : Nat) : Int) := by simp [limI]
theorem extract_left (a b : ByteArray) : (a ++ b).extract 0 a.size = a := by
  apply ByteArray.ext
  simp [ByteArray.data_extract, ByteArray.data_append]
theorem extract_right (a b : ByteArray) : (a ++ b).extract a.size (a ++ b).size = b := by
  apply ByteArray.ext
  simp [ByteArray.data_extract, ByteArray.data_append]
  have e1 : a.data.extract a.size (a.size + b.size) = #[] := by
    apply Array.eq_empty_of_size_eq_zero
    rw [Array.size_extract, show a.size = a.data.size from rfl]
    omega
  have e2 : b.data.extract 0 b.size = b.data := by
    rw [show b.size = b.data.size from rfl]
    simp
  rw [e1, e2]
  simp
theorem rdRaw_app (a b : ByteArray) : rdRaw (a ++ b) 0 a.size = (a, b, 0) := by
  rw [rdRaw_fits (by omega) (by rw [ByteArray.size_append]; omega), Int.toNat_natCast, extract_left, extract_right]
theorem rdNum_app (n k : Nat) (b : ByteArray) (h1 : 1 ≤ k) (h6 : k ≤ 6) (hn : n < 256 ^ k) : rdNum (beS n k ++ b) 0 k = (n, b, 0) := by
  unfold rdNum rdNumSt
  rw [if_neg (by omega)]
  have h := rdRaw_app (beS n k) b
  rw [beS_size] at h
  rw [h]
  show (beN (be n k), _) = _
  rw [beN_be k n hn]
theorem rdText_app (t b : ByteArray) (h : t.size ≤ 65535) : rdText (beS t.size 2 ++ t ++ b) 0 65535 = (t, b, 0) := by
  have h2 := rdNum_app t.size 2 (t ++ b) (by omega) (by omega) (by have : 256 ^ 2 = 65536 := by decide
                                                                   omega)
  rw [← ByteArray.append_assoc] at h2
  unfold rdText rdTextSt
  rw [show ((2 : Nat) : Int) = 2 from rfl] at h2
  rw [h2]
  dsimp only
  rw [if_neg (by omega)]
  exact rdRaw_app t b
theorem rdItem_text {x : Int × Int × ByteArray} {b : ByteArray} (h : okI x) (h0 : x.2.1 = 0) : rdText (encI x ++ b) 0 65535 = (x.2.2, b, 0) := by
  unfold encI
  rw [if_pos h0]
  rcases h with h | h
  · exact rdText_app _ _ h.2
  · exact absurd h0 h.1
theorem rdItem_num {x : Int × Int × ByteArray} {b : ByteArray} (h : okI x) (h0 : x.2.1 ≠ 0) : rdNum (encI x ++ b) 0 x.2.1 = (x.1.toNat, b, 0) ∧ (x.1.toNat : Int) = x.1 := by
  unfold encI
  rw [if_neg h0]
  rcases h with h | ⟨_, h1, h6, hn, hl⟩
  · exact absurd h.1 h0
  · rw [limI_nat] at hl
    have := rdNum_app x.1.toNat x.2.1.toNat b (by omega) (by omega) (by omega)
    rw [Int.toNat_of_nonneg (by omega)] at this
    exact ⟨this, Int.toNat_of_nonneg hn⟩
theorem encI_size {x : Int × Int × ByteArray} (h : okI x) : (encI x).size ≤ 65537 := by
  unfold encI
  rcases h with h | h
  · rw [if_pos h.1, ByteArray.size_append, beS_size]; omega
  · rw [if_neg h.1, beS_size]; omega
theorem textV_enc {x : Int × Int × ByteArray} (h0 : x.2.1 = 0) (h : x.2.2.size ≤ 65535) (A : ByteArray) : textV A x.2.2 = (A ++ encI x, 0) := by
  rw [textV_fits (by omega)]
  unfold encI
  rw [if_pos h0, ByteArray.append_assoc]
theorem putV_enc {x : Int × Int × ByteArray} (h0 : x.2.1 ≠ 0) (A : ByteArray) (h : (putV ⟨#[]⟩ x.1 x.2.1).2 = 0) : putV A x.1 x.2.1 = (A ++ encI x, 0) ∧ okI x := by
  by_cases hw : x.2.1 < 1 ∨ 6 < x.2.1
  · rw [putV_width hw] at h; exact absurd h (by decide)
  · by_cases hr : x.1 < 0 ∨ limI x.2.1.toNat ≤ x.1
    · rw [putV_range hw hr] at h; exact absurd h (by decide)
    · rw [putV_fits hw hr]
      unfold encI
      rw [if_neg h0]
      exact ⟨rfl, .inr ⟨h0, by omega, by omega, by omega, by omega⟩⟩

/-- A row of items that grows leaves a writer as it was. -/
theorem Chain.grown {b : Nat} {w w' : World} {row : Option Nat} (hg : w.grownBy w' row) (hr : ∀ g, row = some g → ∃ cur fr, w.heap[g]? = some (.cells cur 35 fr)) :
    ∀ {l : List ByteArray} {p : Option Addr}, Chain b w p l → Chain b w' p l
  | [], _, h => h
  | t :: r, _, ⟨c, p', hp, hc, hl, hh, ht, hrr⟩ => by
    refine ⟨c, p', hp, hc, Nat.lt_of_lt_of_le hl hg.size, ?_, ht, Chain.grown hg hr hrr⟩
    rw [hg.block c hl (fun e => by obtain ⟨cur, fr, h⟩ := hr c e.symm; rw [hh] at h; simp at h), hh]
theorem WrIs.grown {w w' : World} {b : Nat} {all : ByteArray} {e : Int} {row : Option Nat} (h : WrIs w b all e) (hg : w.grownBy w' row) (hr : ∀ g, row = some g → ∃ cur fr, w.heap[g]? = some (.cells cur 35 fr)) : WrIs w' b all e := by
  obtain ⟨p, l, h1, h2, h3⟩ := h
  refine ⟨p, l, ?_, h2.grown hg hr, h3⟩
  have hlt := h1.lt
  unfold isWr at *
  rw [hg.block b hlt (fun e => by obtain ⟨cur, fr, h⟩ := hr b e.symm; rw [h1] at h; simp at h), h1]
theorem owns_tag {w : World} {base n : Nat} {v : Value} {xs : List Value} (h : w.ownsRow base 35 3 v n xs) : ∀ g, v.ownBlock = some g → ∃ cur fr, w.heap[g]? = some (.cells cur 35 fr) := by
  intro g hg
  rcases h.2 with ⟨rfl, _⟩ | ⟨g', cap, cur, rfl, _, hh, _⟩
  · simp [Value.ownBlock] at hg
  · simp [Value.ownBlock] at hg
    subst hg
    exact ⟨cur, _, hh⟩
theorem owns_off {w w' : World} {b n base : Nat} {v : Value} {xs : List Value} (h : w.ownsRow base 35 3 v n xs) (o : Off b w w') (hb : b < base) : w'.ownsRow base 35 3 v n xs := by
  refine ⟨h.1, h.2.imp id ?_⟩
  rintro ⟨g, cap, cur, hv, hg, hh, r⟩
  refine ⟨g, cap, cur, hv, hg, ?_, r⟩
  rw [o.block g ?_ (by omega), hh]
  rcases Nat.lt_or_ge g w.heap.size with h' | h'
  · exact h'
  · simp [Array.getElem?_eq_none h'] at hh
theorem owns_below {w w' : World} {n base : Nat} {v : Value} {xs : List Value} (h : w.ownsRow base 35 3 v n xs) (o : Below w.heap.size w w') : w'.ownsRow base 35 3 v n xs := by
  refine ⟨h.1, h.2.imp id ?_⟩
  rintro ⟨g, cap, cur, hv, hg, hh, r⟩
  refine ⟨g, cap, cur, hv, hg, ?_, r⟩
  rw [o.block g ?_, hh]
  rcases Nat.lt_or_ge g w.heap.size with h' | h'
  · exact h'
  · simp [Array.getElem?_eq_none h'] at hh
end Go.Proofs.Ytdgdbfodcccmcaa
