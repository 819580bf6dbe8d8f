/- What Open asks, as the law reckons it: mathematics. -/
import Derived.Test.YtakdfdnndogaiaaRxOpn
import Derived.Test.YtakdfdnndogaiaaRfRd
namespace Go.Proofs.Ytakdfdnndogaiaa
open Go.RowKit
set_option linter.unusedVariables false
set_option linter.unusedSimpArgs false
set_option maxRecDepth 100000

theorem openV_yes {z : ByteArray} (h : Sm.sealV (z.extract 4 z.size) = z) : Sm.openV z = (z.extract 4 z.size, 0) := by
  have := Sm.open_seal (z.extract 4 z.size)
  unfold Sm.sealV at h
  rw [h] at this
  exact this
theorem beN_foldl : ∀ (l : List UInt8) (a : Nat), l.foldl (fun a b => 256 * a + b.toNat) a = a * 256 ^ l.length + Pk.beN l
  | [], a => by simp [Pk.beN]
  | c :: l, a => by
    have h1 := beN_foldl l (256 * a + c.toNat)
    have h2 := beN_foldl l (256 * 0 + c.toNat)
    rw [List.foldl_cons, h1]
    show _ = _ + (c :: l).foldl (fun a b => 256 * a + b.toNat) 0
    rw [List.foldl_cons, h2, List.length_cons, Nat.pow_succ, Nat.add_mul, Nat.mul_zero, Nat.zero_add, Nat.mul_comm 256 a, Nat.mul_assoc, Nat.mul_comm 256 (256 ^ l.length), Nat.add_assoc]
theorem beN_cons (c : UInt8) (l : List UInt8) : Pk.beN (c :: l) = c.toNat * 256 ^ l.length + Pk.beN l := by
  show (c :: l).foldl (fun a b => 256 * a + b.toNat) 0 = _
  rw [List.foldl_cons, beN_foldl]; simp
theorem beN_inj : ∀ (l m : List UInt8), l.length = m.length → Pk.beN l = Pk.beN m → l = m
  | [], [], _, _ => rfl
  | [], _ :: _, h, _ => by simp at h
  | _ :: _, [], h, _ => by simp at h
  | c :: l, d :: m, h, e => by
    have hl : l.length = m.length := by simpa using h
    rw [beN_cons, beN_cons, hl] at e
    have b1 := Pk.beN_lt l
    have b2 := Pk.beN_lt m
    rw [hl] at b1
    generalize 256 ^ m.length = K at *
    have hcd : c.toNat = d.toNat := by
      rcases Nat.lt_trichotomy c.toNat d.toNat with x | x | x
      · have y := Nat.mul_le_mul_right K (show c.toNat + 1 ≤ d.toNat from x)
        rw [Nat.succ_mul] at y
        omega
      · exact x
      · have y := Nat.mul_le_mul_right K (show d.toNat + 1 ≤ c.toNat from x)
        rw [Nat.succ_mul] at y
        omega
    rw [hcd] at e
    rw [beN_inj l m hl (by omega), UInt8.toNat_inj.1 hcd]
theorem be_beN (l : List UInt8) : Pk.be (Pk.beN l) l.length = l :=
  beN_inj _ _ (Pk.be_length _ _) (Pk.beN_be _ _ (Pk.beN_lt l))
theorem openV_no {z : ByteArray} (h4 : 4 ≤ z.size) (h : Sm.sealV (z.extract 4 z.size) ≠ z) : Sm.openV z = (⟨#[]⟩, 5) := by
  unfold Sm.openV
  rw [if_neg (by omega), if_neg]
  intro e
  apply h
  have hz : (z.extract 0 4).data.toList.length = 4 := by
    have : (z.extract 0 4).size = 4 := by rw [ByteArray.size_extract]; omega
    rw [Array.length_toList]
    exact this
  have hb := be_beN (z.extract 0 4).data.toList
  rw [hz] at hb
  unfold Sm.sealV
  rw [e, Int.toNat_natCast]
  have e2 : Pk.beS (Pk.beN (z.extract 0 4).data.toList) 4 = z.extract 0 4 := by
    apply ByteArray.ext
    unfold Pk.beS
    dsimp only
    rw [hb]
  rw [e2]
  apply ByteArray.ext
  rw [ByteArray.data_append, ByteArray.data_extract, ByteArray.data_extract, Array.extract_append_extract]
  rw [Nat.min_eq_left (by omega), Nat.max_eq_right (by omega)]
  exact Array.extract_size
theorem sN_two {s : ByteArray} (h : 2 ≤ s.size) : sN (s, 0) 2 = (s.extract 2 s.size, 0) := by
  rw [(nN_eq (s, 0) 2 (by omega) (by omega)).2, Pk.rdRaw_fits (by omega) (by dsimp only; omega)]
  rfl
theorem frM_range {s : ByteArray} (h6 : 6 ≤ s.size) (h : nN (s, 0) 2 < 1 ∨ 4096 < nN (s, 0) 2) : frM s = (⟨#[]⟩, 4) := by
  unfold frM
  rw [if_neg (by omega), if_pos h]
theorem frM_short {s : ByteArray} {k : Nat} (h6 : 6 ≤ s.size) (hk : nN (s, 0) 2 = (k : Int)) (h1 : 1 ≤ k) (h2 : k ≤ 4096) (h : s.size < 6 + k) : frM s = (⟨#[]⟩, 2) := by
  have e : frR s = (⟨#[]⟩, ⟨#[]⟩, 2) := by
    unfold frR
    rw [sN_two (by omega), hk, Pk.rdRaw_short (by omega) (by dsimp only; rw [ByteArray.size_extract]; omega)]
  unfold frM
  rw [if_neg (by omega), if_neg (by omega), e, if_pos (show (2 : Int) ≠ 0 by decide)]
theorem frR_fits {s : ByteArray} {k : Nat} (h6 : 6 ≤ s.size) (hk : nN (s, 0) 2 = (k : Int)) (h : 6 + k ≤ s.size) : (frR s).1 = s.extract 2 (6 + k) ∧ (frR s).2.2 = 0 := by
  unfold frR
  rw [sN_two (by omega), hk, Pk.rdRaw_fits (by omega) (by dsimp only; rw [ByteArray.size_extract]; omega)]
  refine ⟨?_, rfl⟩
  dsimp only
  rw [show ((4 : Int) + (k : Int)).toNat = 4 + k by omega, extract_extract1 s 2 (4 + k) (by omega)]
  congr 1
  omega
theorem frM_open {s : ByteArray} {k : Nat} (h6 : 6 ≤ s.size) (hk : nN (s, 0) 2 = (k : Int)) (h1 : 1 ≤ k) (h2 : k ≤ 4096) (h : 6 + k ≤ s.size) : frM s = Sm.openV (s.extract 2 (6 + k)) := by
  obtain ⟨e1, e2⟩ := frR_fits h6 hk h
  unfold frM
  rw [if_neg (by omega), if_neg (by omega), e2, if_neg (by simp), e1]
end Go.Proofs.Ytakdfdnndogaiaa
