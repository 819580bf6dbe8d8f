/- What any 64 bytes of a sector are read as, and what the law asks of them: bytes alone. -/
import Derived.Test.YtdgnfglghiecpaaWriA
namespace Go.Proofs.Ytdgnfglghiecpaa
open Go.RowKit Go.Maps Go.ChangeMaps
set_option linter.unusedVariables false
set_option linter.unusedSimpArgs false
set_option maxRecDepth 100000

theorem beN_foldl : ∀ (l : List UInt8) (a : Nat), l.foldl (fun a b => 256 * a + b.toNat) a = a * 256 ^ l.length + Pk.beN l
  | [], a => by simp [Pk.beN]
  | c :: l, a => by
    have h1 := beN_foldl l (256 * a + c.toNat)
    have h2 := beN_foldl l (256 * 0 + c.toNat)
    rw [List.foldl_cons, h1]
    show _ = _ + (c :: l).foldl (fun a b => 256 * a + b.toNat) 0
    rw [List.foldl_cons, h2, List.length_cons, Nat.pow_succ, Nat.add_mul, Nat.mul_zero, Nat.zero_add, Nat.mul_comm 256 a, Nat.mul_assoc, Nat.mul_comm 256 (256 ^ l.length), Nat.add_assoc]
theorem beN_cons (c : UInt8) (l : List UInt8) : Pk.beN (c :: l) = c.toNat * 256 ^ l.length + Pk.beN l := by
  show (c :: l).foldl (fun a b => 256 * a + b.toNat) 0 = _
  rw [List.foldl_cons, beN_foldl]; simp
theorem beN_inj : ∀ (l m : List UInt8), l.length = m.length → Pk.beN l = Pk.beN m → l = m
  | [], [], _, _ => rfl
  | [], _ :: _, h, _ => by simp at h
  | _ :: _, [], h, _ => by simp at h
  | c :: l, d :: m, h, e => by
    have hl : l.length = m.length := by simpa using h
    rw [beN_cons, beN_cons, hl] at e
    have b1 := Pk.beN_lt l
    have b2 := Pk.beN_lt m
    rw [hl] at b1
    generalize 256 ^ m.length = K at *
    have hcd : c.toNat = d.toNat := by
      rcases Nat.lt_trichotomy c.toNat d.toNat with x | x | x
      · have y := Nat.mul_le_mul_right K (show c.toNat + 1 ≤ d.toNat from x)
        rw [Nat.succ_mul] at y
        omega
      · exact x
      · have y := Nat.mul_le_mul_right K (show d.toNat + 1 ≤ c.toNat from x)
        rw [Nat.succ_mul] at y
        omega
    rw [hcd] at e
    rw [beN_inj l m hl (by omega), UInt8.toNat_inj.1 hcd]
theorem be_beN (l : List UInt8) : Pk.be (Pk.beN l) l.length = l :=
  beN_inj _ _ (Pk.be_length _ _) (Pk.beN_be _ _ (Pk.beN_lt l))
theorem beS_beN (x : ByteArray) {k : Nat} (hx : x.size = k) : ∃ n, n < 256 ^ k ∧ x = Pk.beS n k := by
  have hl : x.data.toList.length = k := by simpa using hx
  refine ⟨Pk.beN x.data.toList, by have := Pk.beN_lt x.data.toList; rwa [hl] at this, ?_⟩
  apply ByteArray.ext
  show x.data = (Pk.be (Pk.beN x.data.toList) k).toArray
  rw [← hl, be_beN]
theorem beS_inj {n m k : Nat} (hn : n < 256 ^ k) (hm : m < 256 ^ k) (h : Pk.beS n k = Pk.beS m k) : n = m := by
  have h1 : Pk.be n k = Pk.be m k := by
    have := congrArg (fun x : ByteArray => x.data.toList) h
    simpa [Pk.beS] using this
  rw [← Pk.beN_be k n hn, ← Pk.beN_be k m hm, h1]
/-- Whatever 64 bytes: a generation, a record, and what is behind. -/
theorem split64 (c : ByteArray) (hc : c.size = 64) : ∃ g l x, g ≤ 65535 ∧ l < 281474976710656 ∧ x.size = 56 ∧ c = hd g l ++ x := by
  obtain ⟨g, hg, eg⟩ := beS_beN (c.extract 0 2) (k := 2) (by rw [ByteArray.size_extract, hc]; omega)
  obtain ⟨l, hl, el⟩ := beS_beN (c.extract 2 8) (k := 6) (by rw [ByteArray.size_extract, hc]; omega)
  rw [p2] at hg
  rw [p6] at hl
  refine ⟨g, l, c.extract 8 64, by omega, hl, by rw [ByteArray.size_extract, hc]; omega, ?_⟩
  rw [hd, ← eg, ← el]
  apply ByteArray.ext
  have hz : c.data.size = 64 := hc
  simp only [ByteArray.data_append, ByteArray.data_extract]
  apply Array.ext'
  simp only [Array.toList_append, Array.toList_extract, List.extract_eq_take_drop]
  have hL : c.data.toList.length = 64 := by simpa using hz
  generalize c.data.toList = L at hL
  have e1 : L.take 2 ++ (L.drop 2).take 6 = L.take 8 := by rw [← List.take_add]
  have e2 : L.take 8 ++ (L.drop 8).take 56 = L.take 64 := by rw [← List.take_add]
  show L = (L.drop 0).take 2 ++ (L.drop 2).take 6 ++ (L.drop 8).take 56
  rw [List.drop_zero, e1, e2, List.take_of_length_le (by omega)]
theorem hd_gen (g l : Nat) (x : ByteArray) : (hd g l ++ x).extract 0 2 = Pk.beS g 2 := by
  have := Pk.extract_left (Pk.beS g 2) (Pk.beS l 6 ++ x)
  rw [Pk.beS_size, ← ByteArray.append_assoc] at this
  exact this
theorem hd_hd (g l : Nat) (x : ByteArray) : (hd g l ++ x).extract 0 8 = hd g l := by
  have := Pk.extract_left (hd g l) x
  rwa [hd_size] at this
theorem hd_rest (g l : Nat) (x : ByteArray) (hx : x.size = 56) : (hd g l ++ x).extract 8 64 = x := by
  have := Pk.extract_right (hd g l) x
  rwa [hd_size, ByteArray.size_append, hd_size, hx] at this
theorem hd_lsn (g l : Nat) : (hd g l).extract 2 8 = Pk.beS l 6 := by
  have := Pk.extract_right (Pk.beS g 2) (Pk.beS l 6)
  rwa [ByteArray.size_append, Pk.beS_size, Pk.beS_size] at this
theorem hd_inj {g l g' l' : Nat} (hg : g ≤ 65535) (hg' : g' ≤ 65535) (hl : l < 281474976710656) (hl' : l' < 281474976710656) (h : hd g l = hd g' l') : g = g' ∧ l = l' := by
  have e1 := hd_gen g l ⟨#[]⟩
  have e2 := hd_gen g' l' ⟨#[]⟩
  have e3 := hd_lsn g l
  have e4 := hd_lsn g' l'
  rw [h] at e1 e3
  exact ⟨beS_inj (k := 2) (by rw [p2]; omega) (by rw [p2]; omega) (e1.symm.trans e2), beS_inj (k := 6) (by rw [p6]; omega) (by rw [p6]; omega) (e3.symm.trans e4)⟩
theorem toList_ne {a b : ByteArray} (h : ¬ a = b) : (a.toList == b.toList) = false := by
  rw [beq_eq_false_iff_ne, ByteArray.toList_eq, ByteArray.toList_eq]
  intro e
  exact h (ByteArray.ext (Array.ext' e))
/-- The law's first two bytes against a generation; its first eight against another's; the rest. -/
theorem law_gen (c : ByteArray) (hc : c.size = 64) (g : Nat) (hg : g ≤ 65535) : ((c.extract 0 2).toList == (nf (g : Int) 2).toList) = ((gnS c : Int) == (g : Int)) := by
  obtain ⟨g', l', x, a1, a2, a3, rfl⟩ := split64 c hc
  rw [hd_gen, (read_hd g' l' a1 a2 x a3).1]
  show ((Pk.beS g' 2).toList == (Pk.beS g 2).toList) = _
  by_cases e : g' = g
  · subst e; simp
  · have h1 : ((g' : Int) == (g : Int)) = false := by simp; omega
    have h2 : ((Pk.beS g' 2).toList == (Pk.beS g 2).toList) = false := by
      refine toList_ne fun h => ?_
      exact e (beS_inj (k := 2) (by rw [p2]; omega) (by rw [p2]; omega) h)
    rw [h1, h2]
theorem law_mark (c d : ByteArray) (hc : c.size = 64) (hd' : d.size = 64) : ((c.extract 0 8).toList == (d.extract 0 8).toList) = (((gnS c : Int) == (gnS d : Int)) && ((lnS c : Int) == (lnS d : Int))) := by
  obtain ⟨g, l, x, a1, a2, a3, rfl⟩ := split64 c hc
  obtain ⟨g', l', x', b1, b2, b3, rfl⟩ := split64 d hd'
  have r1 := read_hd g l a1 a2 x a3
  have r2 := read_hd g' l' b1 b2 x' b3
  rw [hd_hd, hd_hd, r1.1, r1.2.1, r2.1, r2.2.1]
  by_cases e : g = g' ∧ l = l'
  · obtain ⟨rfl, rfl⟩ := e; simp
  · have h2 : ((hd g l).toList == (hd g' l').toList) = false := by
      refine toList_ne fun h => ?_
      exact e (hd_inj a1 b1 a2 b2 h)
    rw [h2]
    symm
    simp only [Bool.and_eq_false_iff, beq_eq_false_iff_ne, ne_eq]
    omega
theorem law_rest (c : ByteArray) (hc : c.size = 64) : c.extract 8 64 = txS c := by
  obtain ⟨g, l, x, a1, a2, a3, rfl⟩ := split64 c hc
  rw [hd_rest g l x a3, (read_hd g l a1 a2 x a3).2.2]
theorem law_lsn (c : ByteArray) (hc : c.size = 64) : nf (lnS c : Int) 6 = (c.extract 0 8).extract 2 8 ∧ lnS c < 281474976710656 := by
  obtain ⟨g, l, x, a1, a2, a3, rfl⟩ := split64 c hc
  rw [hd_hd, hd_lsn, (read_hd g l a1 a2 x a3).2.1]
  exact ⟨rfl, a2⟩
theorem put4_step (b : Nat) (t : Nat → ByteArray) (S : Dk) (k : Nat) : wrDk (put4 b t S k) (b + k) (t k) = put4 b t S (k + 1) := by
  unfold wrDk put4
  congr 1
  · funext j
    unfold upd
    by_cases e : j = b + k
    · subst e; rw [if_pos rfl, if_pos (by omega)]; simp
    · rw [if_neg e]
      dsimp only
      by_cases e2 : b ≤ j ∧ j < b + k
      · rw [if_pos e2, if_pos (by omega)]
      · rw [if_neg e2, if_neg (by omega)]
  · dsimp only; omega
end Go.Proofs.Ytdgnfglghiecpaa
