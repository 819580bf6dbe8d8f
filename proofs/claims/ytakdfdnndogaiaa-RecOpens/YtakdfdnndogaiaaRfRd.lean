/- The document's reader: raw, num, text, change: they read as the program's. -/
import Derived.Test.YtakdfdnndogaiaaRxRdM
import Derived.Test.YtakdfdnndogaiaaRxRdC
namespace Go.Proofs.Ytakdfdnndogaiaa
open Go.RowKit
set_option linter.unusedVariables false
set_option linter.unusedSimpArgs false
set_option maxRecDepth 100000

/-- The document's reader in block b: what is left from its place on, and its error. -/
structure RfS (w : World) (b : Nat) (q : Lf) : Prop where
  ex : ∃ (s : ByteArray) (a : Nat), w.heap[b]? = some (.cells #[.string s, .int .i64 (a : Int), .int .i64 q.2] 63) ∧ a ≤ s.size ∧ s.size ≤ 140737488351232 ∧ (q.2 = 0 → q.1 = s.extract a s.size)
section
variable {w w' : World} {b c : Nat} {q : Lf}
theorem RfS.lt (h : RfS w b q) : b < w.heap.size := by obtain ⟨s, a, h1, _⟩ := h.ex; exact (Array.getElem?_eq_some_iff.1 h1).1
theorem RfS.below (h : RfS w b q) (hb : Below w.heap.size w w') : RfS w' b q := by obtain ⟨s, a, h1, h2⟩ := h.ex; exact ⟨s, a, (hb.block b h.lt).trans h1, h2⟩
theorem RfS.off (h : RfS w b q) (hb : Pk.Off c w w') (hn : b ≠ c) : RfS w' b q := by obtain ⟨s, a, h1, h2⟩ := h.ex; exact ⟨s, a, (hb.block b h.lt hn).trans h1, h2⟩
end
theorem extract_size (s : ByteArray) (a : Nat) (h : a ≤ s.size) : (s.extract a s.size).size = s.size - a := by rw [ByteArray.size_extract]; omega
theorem extract_extract1 (s : ByteArray) (a n : Nat) (h : a + n ≤ s.size) : (s.extract a s.size).extract 0 n = s.extract a (a + n) := by
  apply ByteArray.ext
  simp only [ByteArray.data_extract]
  have e : s.size = s.data.size := rfl
  rw [Array.extract_extract]
  congr 1
  omega
theorem extract_extract2 (s : ByteArray) (a n : Nat) (h : a + n ≤ s.size) : (s.extract a s.size).extract n (s.extract a s.size).size = s.extract (a + n) s.size := by
  rw [extract_size s a (by omega)]
  apply ByteArray.ext
  simp only [ByteArray.data_extract]
  rw [Array.extract_extract]
  congr 1
  have e : s.size = s.data.size := rfl
  omega
theorem off_dr {b : Nat} {a w : World} (h : Pk.Off b a w) (n : Nat) : Pk.Off b a (w.drewN n) := ⟨h.os, h.tape, h.output, h.size, h.block⟩
set_option maxHeartbeats 1000000 in
theorem RfS.raw {w : World} {b : Nat} {q : Lf} (h : RfS w b q) (n : Nat) (hn : n ≤ 281474976710656) : Calls Try.prog 52 #[.pointer (some ⟨b, 0, none⟩), .int .i64 (n : Int)] w fun r w' => r = .returned (.string (Pk.rdRaw q.1 q.2 n).1) ∧ RfS w' b (Pk.rdRaw q.1 q.2 n).2 ∧ Pk.Off b w w' := by
  obtain ⟨s, a, hb, ha, hs, hq⟩ := h.ex
  obtain ⟨l, e⟩ := q
  dsimp only at hb hq ⊢
  have c0 := Joins.cell_of_block hb 0
  have c1 := Joins.cell_of_block hb 1
  have c2 := Joins.cell_of_block hb 2
  simp only [List.getElem?_toArray, List.getElem?_cons_zero, List.getElem?_cons_succ] at c0 c1 c2
  have hf := fun i => Joins.unfrozen_of_block hb i
  clear h
  by_cases he : e = 0
  · subst he
    replace hq := hq rfl
    have hlz : l.size = s.size - a := by rw [hq]; exact extract_size s a ha
    by_cases hl : (l.size : Int) < n
    · rw [Pk.rdRaw_short (by omega) hl]
      have hl' : (s.size : Int) - (a : Int) < (n : Int) := by omega
      go_enter Try.func52, Try.ntmps52
      go_wp2
      go_quiet (fail)
      go_wp2
      go_ret
      refine ⟨rfl, ⟨s, a, ?_, ha, hs, fun h => absurd h (by decide)⟩, (off_dr (Pk.Off.refl _ _) _).setCell _ _⟩
      have hb' : (w.drewN nq).heap[b]? = some (.cells #[.string s, .int .i64 (a : Int), .int .i64 0] 63) := hb
      exact Joins.block_setCell hb' _
    · have hle : a + n ≤ s.size := by omega
      rw [Pk.rdRaw_fits (by omega) hl, Int.toNat_natCast, hq, extract_extract1 s a n hle, extract_extract2 s a n hle]
      have hl' : ¬ (s.size : Int) - (a : Int) < (n : Int) := by omega
      have hsl : ∀ W, (Instr.slice 9 (.string s) (some (.int .i64 (a : Int))) (some (.int .i64 ((a : Int) + (n : Int)))) none).run Try.prog W = .ok (.string (s.extract a (a + n))) W := by
        intro W
        have := run_slice_string (P := Try.prog) W 9 s .i64 .i64 (a : Int) ((a : Int) + (n : Int)) Try.underlying9 (by omega) (by omega) (by omega)
        rw [show ((a : Int) + (n : Int)).toNat = a + n by omega, Int.toNat_natCast] at this
        exact this
      have hsub : (a : Int) + (n : Int) - (n : Int) = (a : Int) := by omega
      have hw1 : IntKind.i64.wrap ((a : Int) + (n : Int) - (n : Int)) = (a : Int) := by rw [IntKind.wrap_i64]; omega
      have hw2 : IntKind.i64.wrap (a : Int) = (a : Int) := by rw [IntKind.wrap_i64]; omega
      go_enter Try.func52, Try.ntmps52
      go_wp2
      go_quiet (fail)
      go_wp2
      go_quiet (fail)
      go_wp2
      go_ret
      refine ⟨rfl, ⟨s, a + n, ?_, hle, hs, fun _ => rfl⟩, off_dr ((off_dr (Pk.Off.refl _ _) _).setCell _ _) _⟩
      rw [Int.natCast_add]
      exact Joins.block_setCell (w := w.drewN _) hb _
  · rw [Pk.rdRaw_had he]
    have he1 : (e == 0) = false := by simpa using he
    have he' : (e != 0) = true := by simpa using he
    go_enter Try.func52, Try.ntmps52
    go_wp2
    go_quiet (fail)
    go_wp2
    go_ret
    exact ⟨rfl, ⟨s, a, hb, ha, hs, hq⟩, off_dr (Pk.Off.refl _ _) _⟩
theorem nN_eq (q : Lf) (k : Int) (h1 : 1 ≤ k) (h6 : k ≤ 6) : nN q k = (Pk.beN (Pk.rdRaw q.1 q.2 k).1.data.toList : Nat) ∧ sN q k = (Pk.rdRaw q.1 q.2 k).2 := by
  unfold nN sN Pk.rdNum Pk.rdNumSt
  rw [if_neg (by omega)]
  exact ⟨rfl, rfl⟩
set_option maxHeartbeats 1000000 in
theorem RfS.num {w : World} {b : Nat} {q : Lf} (h : RfS w b q) (k : Int) (h1 : 1 ≤ k) (h6 : k ≤ 6) : Calls Try.prog 32 #[.pointer (some ⟨b, 0, none⟩), .int .i64 k] w fun r w' => r = .returned (.int .i64 (nN q k)) ∧ RfS w' b (sN q k) ∧ Pk.Off b w w' := by
  obtain ⟨e1, e2⟩ := nN_eq q k h1 h6
  rw [e1, e2]
  obtain ⟨j, rfl⟩ : ∃ j : Nat, k = j := ⟨k.toNat, by omega⟩
  have c1 := h.raw j (by omega)
  have hsv : (Pk.rdRaw q.1 q.2 (j : Int)).1.size ≤ 6 := Pk.rdRaw_size1 _ _ _ 6 (by omega)
  generalize (Pk.rdRaw q.1 q.2 (j : Int)).2 = q' at *
  generalize (Pk.rdRaw q.1 q.2 (j : Int)).1 = sv at *
  have C1 : Hid (∀ wx, wx = w → Calls Try.prog 52 #[.pointer (some ⟨b, 0, none⟩), .int .i64 (j : Int)] wx fun r w' => r = .returned (.string sv) ∧ RfS w' b q' ∧ Pk.Off b w w') := fun wx hx => by subst hx; exact c1
  clear c1 h e1 e2
  go_enter Try.func32, Try.ntmps32
  go_wp2_with (go_at_call 52; refine (C1.out _ rfl).mono ?_; rintro e w1 ⟨rfl, hr, ho⟩)
  go_loop [6, 7] (fun n i => ∃ j : Nat, j ≤ sv.size ∧ i = .int .i64 j ∧ n = .int .i64 (Pk.beN (sv.data.toList.take j) : Nat)) (fun _ i => sv.size - (intOf i).toNat)
  case atStart => exact ⟨0, Nat.zero_le _, rfl, rfl⟩
  case round =>
    obtain ⟨i, hi, rfl, rfl⟩ := hrel
    by_cases hlt : i < sv.size
    · have hlt2 := Pk.beN_le6 (sv.data.toList.take i) (by have := List.length_take_le i sv.data.toList; omega)
      have HS : Hid (Pk.beN (sv.data.toList.take (i + 1)) = 256 * Pk.beN (sv.data.toList.take i) + sv[i].toNat) := (by rw [Pk.take_snoc _ _ hlt, Pk.beN_snoc] : Pk.beN (sv.data.toList.take (i + 1)) = 256 * Pk.beN (sv.data.toList.take i) + sv[i].toNat)
      have hby := sv[i].toNat_lt
      generalize Pk.beN (sv.data.toList.take i) = N at *
      go_wp2
      go_round
      case rel =>
        refine ⟨i + 1, by omega, by go_num, ?_⟩
        rw [HS.out]
        go_num
      case measure => simp [intOf]; omega
    · go_wp2
      go_ret
      rw [List.take_of_length_le (by simp; omega)]
      exact ⟨rfl, hr, ho⟩
theorem rdFail_st (l : ByteArray) (e x : Int) : Pk.rdFail l e x = if e = 0 then (⟨#[]⟩, x) else (l, e) := rfl
set_option maxHeartbeats 1000000 in
theorem RfS.text {w : World} {b : Nat} {q : Lf} (h : RfS w b q) (m : Int) : Calls Try.prog 33 #[.pointer (some ⟨b, 0, none⟩), .int .i64 m] w fun r w' => r = .returned (.string (tT q m)) ∧ RfS w' b (sT q m) ∧ Pk.Off b w w' := by
  obtain ⟨n, hn⟩ : ∃ n : Nat, nN q 2 = n := ⟨(Pk.rdNum q.1 q.2 2).1, rfl⟩
  have hnl := nN_lt q 2
  have c1 := h.num 2 (by omega) (by omega)
  have et : Pk.rdText q.1 q.2 m = if m < (n : Int) then Pk.rdRaw (Pk.rdFail (sN q 2).1 (sN q 2).2 3).1 (Pk.rdFail (sN q 2).1 (sN q 2).2 3).2 n else Pk.rdRaw (sN q 2).1 (sN q 2).2 n := by
    have hn' : ((Pk.rdNum q.1 q.2 2).1 : Int) = n := hn
    unfold Pk.rdText Pk.rdTextSt
    rw [hn']
    split <;> rfl
  unfold tT sT
  rw [et]
  rw [hn] at c1 hnl
  generalize sN q 2 = q1 at *
  have C1 : Hid (∀ wx, wx = w → Calls Try.prog 32 #[.pointer (some ⟨b, 0, none⟩), .int .i64 2] wx fun r w' => r = .returned (.int .i64 (n : Int)) ∧ RfS w' b q1 ∧ Pk.Off b w w') := fun wx hx => by subst hx; exact c1
  clear c1 h et hn
  obtain ⟨l1, e1⟩ := q1
  dsimp only
  have C2 : Hid (∀ wx q', RfS wx b q' → Calls Try.prog 52 #[.pointer (some ⟨b, 0, none⟩), .int .i64 (n : Int)] wx fun r w' => r = .returned (.string (Pk.rdRaw q'.1 q'.2 n).1) ∧ RfS w' b (Pk.rdRaw q'.1 q'.2 n).2 ∧ Pk.Off b wx w') := fun wx q' h' => h'.raw n (by omega)
  clear hnl
  by_cases he : e1 = 0
  · subst he
    by_cases hm : m < (n : Int)
    · rw [if_pos hm, rdFail_st, if_pos rfl]
      go_enter Try.func33, Try.ntmps33
      go_wp2_with (first
        | (go_at_call 32; refine (C1.out _ rfl).mono ?_; rintro e w1 ⟨rfl, hr, ho⟩; obtain ⟨s, a, hb, ha, hs, hq⟩ := hr.ex; clear hq; dsimp only at hb; have c2 := Joins.cell_of_block hb 2; simp only [List.getElem?_toArray, List.getElem?_cons_zero, List.getElem?_cons_succ] at c2; have hf := Joins.unfrozen_of_block hb 2; have R2 : RfS (w1.setCell ⟨b, 2, none⟩ (.int .i64 3)) b (⟨#[]⟩, 3) := ⟨s, a, Joins.block_setCell hb _, ha, hs, fun h => absurd h (by decide)⟩; have O2 : Pk.Off b w (w1.setCell ⟨b, 2, none⟩ (.int .i64 3)) := ho.setCell _ _)
        | (go_at_call 52; refine (C2.out _ _ R2).mono ?_; rintro e w3 ⟨rfl, r3, o3⟩))
      go_ret
      exact ⟨rfl, r3, O2.trans o3⟩
    · rw [if_neg hm]
      go_enter Try.func33, Try.ntmps33
      go_wp2_with (first
        | (go_at_call 32; refine (C1.out _ rfl).mono ?_; rintro e w1 ⟨rfl, hr, ho⟩; obtain ⟨s, a, hb, ha, hs, hq⟩ := hr.ex; clear hq; dsimp only at hb; have c2 := Joins.cell_of_block hb 2; simp only [List.getElem?_toArray, List.getElem?_cons_zero, List.getElem?_cons_succ] at c2)
        | (go_at_call 52; refine (C2.out _ _ hr).mono ?_; rintro e w3 ⟨rfl, r3, o3⟩))
      go_ret
      exact ⟨rfl, r3, ho.trans o3⟩
  · have he1 : (e1 == 0) = false := by simpa using he
    have hsame : (if m < (n : Int) then Pk.rdRaw (Pk.rdFail l1 e1 3).1 (Pk.rdFail l1 e1 3).2 n else Pk.rdRaw l1 e1 n) = Pk.rdRaw l1 e1 n := by
      rw [rdFail_st, if_neg he]
      split <;> rfl
    rw [hsame]
    go_enter Try.func33, Try.ntmps33
    go_wp2_with (first
      | (go_at_call 32; refine (C1.out _ rfl).mono ?_; rintro e w1 ⟨rfl, hr, ho⟩; obtain ⟨s, a, hb, ha, hs, hq⟩ := hr.ex; clear hq; dsimp only at hb; have c2 := Joins.cell_of_block hb 2; simp only [List.getElem?_toArray, List.getElem?_cons_zero, List.getElem?_cons_succ] at c2)
      | (go_at_call 52; refine (C2.out _ _ hr).mono ?_; rintro e w3 ⟨rfl, r3, o3⟩))
    go_ret
    exact ⟨rfl, r3, ho.trans o3⟩
end Go.Proofs.Ytakdfdnndogaiaa
