/- The program's reader: the calls Num, Text and End of any reader that is not nil. -/
import Derived.Test.YtakdfdnndogaiabPkRd
import Derived.Laws.BitsAllLaws
namespace Go.Proofs.Ytakdfdnndogaiab.Pk
open Go.RowKit
set_option linter.unusedVariables false
set_option linter.unusedSimpArgs false
set_option maxRecDepth 100000

theorem beN_snoc (l : List UInt8) (c : UInt8) : beN (l ++ [c]) = 256 * beN l + c.toNat := by simp [beN]
theorem beN_lt (l : List UInt8) : beN l < 256 ^ l.length := by
  have key : ∀ (l : List UInt8) (a n : Nat), a < 256 ^ n → l.foldl (fun a b => 256 * a + b.toNat) a < 256 ^ (n + l.length) := by
    intro l
    induction l with
    | nil => intro a n h; simpa using h
    | cons c l ih =>
      intro a n h
      have hc := c.toNat_lt
      have := ih (256 * a + c.toNat) (n + 1) (by rw [Nat.pow_succ]; omega)
      rw [List.foldl_cons, List.length_cons]
      rw [show n + (l.length + 1) = n + 1 + l.length by omega]
      exact this
  have := key l 0 0 (by simp)
  simpa [beN] using this
theorem beN_le6 (l : List UInt8) (h : l.length ≤ 6) : beN l < 281474976710656 := by
  have h1 := beN_lt l
  have h2 : 256 ^ l.length ≤ 256 ^ 6 := Nat.pow_le_pow_right (by omega) h
  have h3 : 256 ^ 6 = 281474976710656 := by decide
  omega
theorem take_snoc (s : ByteArray) (k : Nat) (h : k < s.size) : s.data.toList.take (k + 1) = s.data.toList.take k ++ [s[k]] := by
  rw [List.take_succ_eq_append_getElem (by simpa using h)]; rfl
theorem bytesRow_cell (w : World) (s : ByteArray) (c m : Nat) (k : Nat) (h : k < s.size) :
    (w.alloc (.cells (bytesRow s c) 5 (m, m + 1))).cell? ⟨w.heap.size, k, none⟩ = some (.int .u8 (s[k].toNat : Int)) := by
  rw [World.cell?_alloc_mark]
  have h' : k < s.data.size := h
  simp only [bytesRow]
  rw [Array.getElem?_append_left (by simpa using h')]
  rw [Array.getElem?_map, Array.getElem?_eq_getElem h']
  rfl
theorem or_byte (x : Nat) (c : UInt8) (h : x < 281474976710656) : bits BinOp.or IntKind.i64 ((x : Int) * 256) (wrap64 (c.toNat : Int)) = ((256 * x + c.toNat : Nat) : Int) := by
  have hc := c.toNat_lt
  have e1 : wrap64 (c.toNat : Int) = (c.toNat : Int) := by unfold wrap64; omega
  rw [e1]
  show IntKind.i64.wrap ((BitVec.ofInt 64 ((x : Int) * 256) ||| BitVec.ofInt 64 (c.toNat : Int)).toNat : Int) = _
  have e2 : ((x : Int) * 256) = ((256 * x : Nat) : Int) := by omega
  rw [e2, BitVec.toNat_or, ofInt_u64 (256 * x) (by omega), ofInt_u64 c.toNat (by omega), nat_join8 (256 * x) c.toNat (by omega) (by omega), IntKind.wrap_i64]
  omega

theorem rdFail_size (l : ByteArray) (e x : Int) : (rdFail l e x).1.size ≤ l.size := by
  unfold rdFail
  split
  · exact Nat.zero_le _
  · exact Nat.le_refl _
theorem rdFail_ne (l : ByteArray) (e x : Int) (hx : x ≠ 0) : (rdFail l e x).2 ≠ 0 := by
  unfold rdFail
  split
  · exact hx
  · assumption
theorem size_nil : (⟨#[]⟩ : ByteArray).size = 0 := rfl
theorem rdRaw_size (l : ByteArray) (e n : Int) : (rdRaw l e n).2.1.size ≤ l.size := by
  unfold rdRaw
  repeat' split
  all_goals simp [ByteArray.size_extract, size_nil]
theorem rdRaw_size1 (l : ByteArray) (e n : Int) (k : Nat) (h : n ≤ k) : (rdRaw l e n).1.size ≤ k := by
  unfold rdRaw
  repeat' split
  all_goals simp [ByteArray.size_extract, size_nil]
  all_goals omega
theorem rdNumSt_size (l : ByteArray) (e k : Int) : (rdNumSt l e k).1.size ≤ l.size := by
  unfold rdNumSt
  split
  · exact rdFail_size _ _ _
  · exact Nat.le_refl _
theorem rdNumSt_size1 (l : ByteArray) (e k : Int) : (rdRaw (rdNumSt l e k).1 (rdNumSt l e k).2 k).1.size ≤ 6 := by
  unfold rdNumSt
  split
  · rw [rdRaw_had (rdFail_ne _ _ _ (by decide))]; exact Nat.zero_le _
  · exact rdRaw_size1 _ _ _ 6 (by omega)
theorem rdNum_size (l : ByteArray) (e k : Int) : (rdNum l e k).2.1.size ≤ l.size := Nat.le_trans (rdRaw_size _ _ _) (rdNumSt_size _ _ _)
theorem rdNum_lt (l : ByteArray) (e k : Int) : (rdNum l e k).1 < 281474976710656 := beN_le6 _ (rdNumSt_size1 l e k)

end Go.Proofs.Ytakdfdnndogaiab.Pk
