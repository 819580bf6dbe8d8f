/- A page from which a place's cell is dropped, as the law writes it: dropped. -/
import Derived.Test.YtmoognjegjeegaaLCel
import Derived.BigRegion
namespace Go.Proofs.Ytmoognjegjeegaa
open Go.RowKit
set_option linter.unusedVariables false
set_option linter.unusedSimpArgs false
set_option maxRecDepth 100000

theorem drop_list {s : List UInt8} {i : Nat} (hl : s.length = 224) (hi : i < cnt s) (hn : cnt s ≤ 220) :
    dropS s i = seg s 0 2 ++ ([UInt8.ofNat (cnt s - 1)] ++ (seg s 3 (221 - cnt s) ++ ([0] ++ (seg s (224 - cnt s) (cnt s - 1 - i) ++ seg s (224 - i) i)))) := by
  have l1 : (seg s 0 2).length = 2 := seg_length (by omega)
  have l2 : (seg s 3 (221 - cnt s)).length = 221 - cnt s := seg_length (by omega)
  have l3 : (seg s (224 - cnt s) (cnt s - 1 - i)).length = cnt s - 1 - i := seg_length (by omega)
  have l4 : (seg s (224 - i) i).length = i := seg_length (by omega)
  apply List.ext_getElem?
  intro j
  rw [dropS_get hl hi hn]
  by_cases h1 : j < 2
  · rw [if_neg (by omega), if_neg (by omega), if_neg (by omega), List.getElem?_append_left (by omega), seg_get, if_pos h1, Nat.zero_add]
  · rw [List.getElem?_append_right (by omega), l1]
    by_cases h2 : j = 2
    · subst h2; rfl
    · rw [if_neg h2, List.getElem?_append_right (by simp; omega), List.length_singleton]
      by_cases h3 : j < 224 - cnt s
      · rw [if_neg (by omega), if_neg (by omega), List.getElem?_append_left (by omega), seg_get, if_pos (by omega)]
        congr 1; omega
      · rw [List.getElem?_append_right (by omega), l2]
        by_cases h4 : j = 224 - cnt s
        · rw [if_pos h4, show j - 2 - 1 - (221 - cnt s) = 0 by omega]; rfl
        · rw [if_neg h4, List.getElem?_append_right (by simp; omega), List.length_singleton]
          by_cases h5 : j < 224 - i
          · rw [if_pos (by omega), List.getElem?_append_left (by omega), seg_get, if_pos (by omega)]
            congr 1; omega
          · rw [if_neg (by omega), List.getElem?_append_right (by omega), l3, seg_get]
            by_cases h6 : j < 224
            · rw [if_pos (by omega)]; congr 1; omega
            · rw [if_neg (by omega), List.getElem?_eq_none (by omega)]
theorem tx_append (a b : List UInt8) : tx a ++ tx b = tx (a ++ b) := by
  apply ByteArray.ext; simp [tx, ByteArray.data_append]
/-- The string of one byte that was built. -/
theorem conv_one (W : World) (m : Nat) (hm : m < 256) (t : TypeId) : (convert 74 9 (.slice (some ⟨W.heap.size, 0, none⟩) 1 1)).run Try.prog (W.alloc (.cells #[.int .u8 (m : Int)] t)) = .ok (.string (tx [UInt8.ofNat m])) (W.alloc (.cells #[.int .u8 (m : Int)] t)) := by
  have := Lib.run_convert_whole (P := Try.prog) (W.alloc (.cells #[.int .u8 (m : Int)] t)) 74 5 9 Try.underlying74 Try.underlying5 Try.underlying9 W.heap.size 0 (tx [UInt8.ofNat m]) (fun i hi => by
    have e : i = 0 := by simpa [tx_size] using hi
    subst e
    rw [Joins.cell_of_block (MapKept.heap_alloc W _).1]
    show some (Value.int .u8 (m : Int)) = some (Value.int .u8 ((UInt8.ofNat m).toNat : Int))
    rw [byte_nat hm]) 1
  exact this
theorem conv_at {W : World} {b m : Nat} {t : TypeId} (h : W.heap[b]? = some (.cells #[.int .u8 (m : Int)] t)) (hm : m < 256) : (convert 74 9 (.slice (some ⟨b, 0, none⟩) 1 1)).run Try.prog W = .ok (.string (tx [UInt8.ofNat m])) W := by
  have := Lib.run_convert_whole (P := Try.prog) W 74 5 9 Try.underlying74 Try.underlying5 Try.underlying9 b 0 (tx [UInt8.ofNat m]) (fun i hi => by
    have e : i = 0 := by simpa [tx_size] using hi
    subst e
    rw [Joins.cell_of_block h]
    show some (Value.int .u8 (m : Int)) = some (Value.int .u8 ((UInt8.ofNat m).toNat : Int))
    rw [byte_nat hm]) 1
  exact this
theorem dropped_any (w : World) (p : ByteArray) (n i : Nat) (hp : p.size = 224) (hn : n = cnt (bts p)) (hn2 : n ≤ 220) (hi : i < n) : Calls Try.prog 30 #[.string p, .int .i64 (n : Int), .int .i64 (i : Int)] w fun e w' => e = .returned (.string (tx (dropS (bts p) i))) ∧ Below w.heap.size w w' := by
  have hd := drop_list (s := bts p) (i := i) (by rw [bts_length, hp]) (by omega) (by omega)
  rw [← hn] at hd
  have x1 := extract_seg p (224 - n) (223 - i)
  have x2 := extract_seg p (224 - i) 224
  have x3 := extract_seg p 0 2
  have x4 := extract_seg p 3 (224 - n)
  rw [show 223 - i - (224 - n) = n - 1 - i by omega] at x1
  rw [show 224 - (224 - i) = i by omega] at x2
  rw [show 224 - n - 3 = 221 - n by omega] at x4
  have HD : Hid _ := hd
  clear hd hn
  have zz : ∀ a m, (tx (seg (bts p) a m)).size ≤ 224 := fun a m => by
    have : (bts p).length = 224 := by rw [bts_length, hp]
    rw [tx_size, seg, List.length_take, List.length_drop]; omega
  obtain ⟨m1, e1, k1⟩ : ∃ m, (tx (seg (bts p) (224 - n) (n - 1 - i))).size = m ∧ m ≤ 224 := ⟨_, rfl, zz _ _⟩
  obtain ⟨m2, e2, k2⟩ : ∃ m, (tx (seg (bts p) (224 - i) i)).size = m ∧ m ≤ 224 := ⟨_, rfl, zz _ _⟩
  obtain ⟨m3, e3, k3⟩ : ∃ m, (tx (seg (bts p) 0 (2 - 0))).size = m ∧ m ≤ 224 := ⟨_, rfl, zz _ _⟩
  obtain ⟨m4, e4, k4⟩ : ∃ m, (tx (seg (bts p) 3 (221 - n))).size = m ∧ m ≤ 224 := ⟨_, rfl, zz _ _⟩
  have e5 : (tx [UInt8.ofNat (n - 1)]).size = 1 := by rw [tx_size]; rfl
  clear zz
  generalize bts p = s at *
  generalize seg s (224 - n) (n - 1 - i) = A1 at *
  generalize seg s (224 - i) i = A2 at *
  generalize seg s 0 (2 - 0) = A3 at *
  generalize seg s 3 (221 - n) = A4 at *
  have c1 := conv_at (W := (w.alloc (.cells #[.int .u8 ((n - 1 : Nat) : Int)] 5)).drew.drew) (b := w.heap.size) (m := n - 1) (MapKept.heap_alloc w _).1 (by omega)
  have h1 : (224 : Int) - (n : Int) = ((224 - n : Nat) : Int) := by omega
  have h2 : (223 : Int) - (i : Int) = ((223 - i : Nat) : Int) := by omega
  have h3 : (224 : Int) - (i : Int) = ((224 - i : Nat) : Int) := by omega
  have h4 : (n : Int) - 1 = ((n - 1 : Nat) : Int) := by omega
  obtain ⟨N1, hN1⟩ : ∃ x, x = 224 - n := ⟨_, rfl⟩
  obtain ⟨N2, hN2⟩ : ∃ x, x = 223 - i := ⟨_, rfl⟩
  obtain ⟨N3, hN3⟩ : ∃ x, x = 224 - i := ⟨_, rfl⟩
  obtain ⟨N4, hN4⟩ : ∃ x, x = n - 1 := ⟨_, rfl⟩
  rw [← hN1] at h1 x1 x4
  rw [← hN2] at h2 x1
  rw [← hN3] at h3 x2
  rw [← hN4] at h4 c1 e5 HD
  have hb1 : N1 ≤ N2 := by omega
  have hb2 : N2 ≤ 224 := by omega
  have hb3 : N3 ≤ 224 := by omega
  have hb4 : 3 ≤ N1 := by omega
  have hb5 : N1 ≤ 224 := by omega
  have hb6 : N4 < 256 := by omega
  clear hN1 hN2 hN3 hN4 hn2 hi
  go_enter Try.func30, Try.ntmps30
  go_wp2
  go_region
  go_wp2
  go_region
  go_wp2
  go_ret
  refine ⟨?_, ((thnA (Below.refl _ _) _).drew).drew⟩
  rw [HD.out, ← tx_append, ← tx_append, ← tx_append, ← tx_append, ← tx_append]
  show Ending.returned (.string (tx A3 ++ tx [UInt8.ofNat N4] ++ tx A4 ++ tx [0] ++ (tx A1 ++ tx A2))) = _
  simp only [ByteArray.append_assoc]
end Go.Proofs.Ytmoognjegjeegaa
