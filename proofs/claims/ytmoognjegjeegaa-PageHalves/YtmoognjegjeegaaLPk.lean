/- A packed page, as the law writes it: noughts, packed. -/
import Derived.Test.YtmoognjegjeegaaLyt
import Derived.Test.YtmoognjegjeegaaWit
import Derived.Test.YtmoognjegjeegaaDrp
namespace Go.Proofs.Ytmoognjegjeegaa
open Go.RowKit
set_option linter.unusedVariables false
set_option linter.unusedSimpArgs false
set_option maxRecDepth 100000

/-- The string of bytes that were built. -/
theorem conv_bytes {W : World} {b : Nat} {t : TypeId} (l : List UInt8) (h : W.heap[b]? = some (.cells (pgA l) t)) (cap : Nat) : (convert 74 9 (.slice (some ⟨b, 0, none⟩) l.length cap)).run Try.prog W = .ok (.string (tx l)) W := by
  have := Lib.run_convert_whole (P := Try.prog) W 74 5 9 Try.underlying74 Try.underlying5 Try.underlying9 b 0 (tx l) (fun i hi => by
    rw [Joins.cell_of_block h]
    rw [tx_size] at hi
    have := pgL_get l i hi
    rw [Nat.zero_add]
    have e : (pgA l)[i]? = (pgL l)[i]? := by simp [pgA]
    rw [e, this, g, List.getElem?_eq_getElem hi]
    rfl) cap
  rw [tx_size] at this
  exact this
theorem noughts_any (w : World) (n : Nat) (hn : n ≤ 224) : Calls Try.prog 50 #[.int .i64 (n : Int)] w fun e w' => e = .returned (.string (tx (List.replicate n 0))) ∧ Below w.heap.size w w' := by
  have hmk : ∀ w, (Instr.makeSlice 74 (.int .i64 (n : Int)) (.int .i64 (n : Int))).run Try.prog w = .ok (.slice (some ⟨w.heap.size, 0, none⟩) n n) (w.alloc (.cells (madeCells #[.int .u8 0] n) 5)) :=
    fun w => run_make_row' 74 5 (.int .u8 0) 1 Try.underlying74 (by kernel_rfl) rfl .i64 .i64 n (by omega) (by omega) w
  have he : madeCells #[.int .u8 0] n = pgA (List.replicate n 0) := by
    apply Array.toList_inj.1
    rw [toList_madeCells_one]
    simp [pgA, pgL, Lib.byteCells]
  rw [he] at hmk
  have hcv := conv_bytes (W := w.alloc (.cells (pgA (List.replicate n 0)) 5)) (b := w.heap.size) (t := 5) (List.replicate n 0) (MapKept.heap_alloc w _).1 n
  rw [List.length_replicate] at hcv
  clear he
  generalize List.replicate n (0 : UInt8) = Z at *
  go_enter Try.func50, Try.ntmps50
  go_wp2
  go_ret
  exact ⟨rfl, (Below.refl _ _).alloc (Nat.le_refl _) _⟩
theorem bts_k (k : ByteArray) : tx (bts k) = k := tx_bts k
set_option maxHeartbeats 2000000 in
theorem lpacked_any (w : World) (k l : Nat) (hk : k < 256) (hl : l < 256) {a : Option Addr} {L : List Cl} (cap : Nat) (h : Cs w a L) (hs : Small L) (hf : needs L ≤ 220) : Calls Try.prog 26 #[.int .i64 (k : Int), .int .i64 (l : Int), .slice a L.length cap] w fun e w' => e = .returned (.string (tx (lyt k l L))) ∧ Below w.heap.size w w' := by
  have hln := hs.len
  have hhl := hp_length L
  have HLE : Hid (∀ i, (hp (L.take i)).length + (L.take i).length = needs (L.take i)) := (fun i => hp_length _ : ∀ i, (hp (L.take i)).length + (L.take i).length = needs (L.take i))
  go_enter Try.func26, Try.ntmps26
  go_wp2
  go_loopw [7, 8, 9] (fun s7 s8 s9 wr => ∃ i : Nat, s9 = .int .i64 (i : Int) ∧ s7 = .string (tx (hp (L.take i))) ∧ s8 = .string (tx (sl 4 (L.take i))) ∧ i ≤ L.length ∧ Below w.heap.size w wr) (fun _ _ s9 _ => L.length - (intOf s9).toNat)
  case atStart => exact ⟨0, rfl, rfl, rfl, Nat.zero_le _, Below.refl _ _⟩
  case round =>
    obtain ⟨i, rfl, rfl, rfl, hi, hbel⟩ := hrel
    have hli := HLE.out i
    have hle := needs_take_le L i
    by_cases hlt : i < L.length
    · have hltI : (i : Int) < (L.length : Int) := by omega
      obtain ⟨b, off, rfl, hb, c0, c1⟩ := h.at' hbel hlt
      have sk := hs.k _ (List.getElem_mem hlt)
      have sv := hs.v _ (List.getElem_mem hlt)
      have e : L.take (i + 1) = L.take i ++ [L[i]] := List.take_succ_eq_append_getElem hlt
      have hH : Hid (tx (hp (L.take (i + 1))) = tx (hp (L.take i)) ++ tx [UInt8.ofNat L[i].k.size, UInt8.ofNat L[i].v.size] ++ L[i].k ++ L[i].v) := (by
        rw [e, hp_append]
        simp only [hp, List.append_nil, cb]
        rw [← tx_append, ← tx_append, ← tx_append, bts_k, bts_k]
        simp only [ByteArray.append_assoc] : tx (hp (L.take (i + 1))) = tx (hp (L.take i)) ++ tx [UInt8.ofNat L[i].k.size, UInt8.ofNat L[i].v.size] ++ L[i].k ++ L[i].v)
      have hS : Hid (tx (sl 4 (L.take (i + 1))) = tx [UInt8.ofNat (4 + (hp (L.take i)).length)] ++ tx (sl 4 (L.take i))) := (by rw [e, sl_snoc, ← tx_append] : tx (sl 4 (L.take (i + 1))) = tx [UInt8.ofNat (4 + (hp (L.take i)).length)] ++ tx (sl 4 (L.take i)))
      have z1 : (tx (hp (L.take i))).size = (hp (L.take i)).length := tx_size _
      have z2 : (tx (sl 4 (L.take i))).size ≤ 1000 := by rw [tx_size, sl_length, List.length_take]; omega
      obtain ⟨m2, zz2, hm2⟩ : ∃ m, (tx (sl 4 (L.take i))).size = m ∧ m ≤ 1000 := ⟨_, rfl, z2⟩
      obtain ⟨m1, hm1⟩ : ∃ m, m = (hp (L.take i)).length := ⟨_, rfl⟩
      rw [← hm1] at hli z1 hS
      have hm1b : m1 ≤ 220 := by omega
      have z3 : (tx [UInt8.ofNat (4 + m1)]).size = 1 := by rw [tx_size]; rfl
      have z4 : (tx [UInt8.ofNat L[i].k.size, UInt8.ofNat L[i].v.size]).size = 2 := by rw [tx_size]; rfl
      have hpa1 : pgA [UInt8.ofNat (4 + m1)] = #[.int .u8 (4 + (m1 : Int))] := by
        simp only [pgA, pgL, Lib.byteCells, List.map_cons, List.map_nil]
        rw [byte_nat (by omega)]; simp
      have cv1 := conv_bytes (W := wr.alloc (.cells (pgA [UInt8.ofNat (4 + m1)]) 5)) (b := wr.heap.size) (t := 5) [UInt8.ofNat (4 + m1)] (MapKept.heap_alloc wr _).1 1
      rw [hpa1] at cv1
      simp only [List.length_cons, List.length_nil] at cv1
      have hpa2 : pgA [UInt8.ofNat L[i].k.size, UInt8.ofNat L[i].v.size] = #[.int .u8 (L[i].k.size : Int), .int .u8 (L[i].v.size : Int)] := by
        simp only [pgA, pgL, Lib.byteCells, List.map_cons, List.map_nil]
        rw [byte_nat (by omega), byte_nat (by omega)]
      have cv2 : ∀ W : World, (convert 74 9 (.slice (some ⟨W.heap.size, 0, none⟩) 2 2)).run Try.prog (W.alloc (.cells #[.int .u8 (L[i].k.size : Int), .int .u8 (L[i].v.size : Int)] 5)).drew = .ok (.string (tx [UInt8.ofNat L[i].k.size, UInt8.ofNat L[i].v.size])) (W.alloc (.cells #[.int .u8 (L[i].k.size : Int), .int .u8 (L[i].v.size : Int)] 5)).drew := fun W => by
        have := conv_bytes (W := (W.alloc (.cells (pgA [UInt8.ofNat L[i].k.size, UInt8.ofNat L[i].v.size]) 5)).drew) (b := W.heap.size) (t := 5) [UInt8.ofNat L[i].k.size, UInt8.ofNat L[i].v.size] (MapKept.heap_alloc W _).1 2
        rw [hpa2] at this
        exact this
      clear hpa1 hpa2 e hm1
      generalize L[i] = c at *
      generalize tx (hp (L.take i)) = H at *
      generalize tx (sl 4 (L.take i)) = S at *
      generalize tx [UInt8.ofNat (4 + m1)] = B1 at *
      generalize tx [UInt8.ofNat c.k.size, UInt8.ofNat c.v.size] = B2 at *
      clear z2
      go_wp2
      have zX : Below w.heap.size w (wr.alloc (.cells #[.int .u8 (4 + (m1 : Int))] 5)) := thnA hbel _
      have d0 := (((Below.refl wr.heap.size wr).alloc (Nat.le_refl _) (.cells #[.int .u8 (4 + (m1 : Int))] 5)).cell (p := ⟨b, off + i * 2, none⟩) (by exact Nat.lt_of_lt_of_le hb hbel.size)).trans c0
      have d1 := (((Below.refl wr.heap.size wr).alloc (Nat.le_refl _) (.cells #[.int .u8 (4 + (m1 : Int))] 5)).cell (p := ⟨b, off + i * 2 + 1, none⟩) (by exact Nat.lt_of_lt_of_le hb hbel.size)).trans c1
      have hbX : b < (wr.alloc (.cells #[.int .u8 (4 + (m1 : Int))] 5)).heap.size := Nat.lt_of_lt_of_le hb zX.size
      generalize wr.alloc (.cells #[.int .u8 (4 + (m1 : Int))] 5) = wX at *
      clear cv1 c0 c1
      have cv2' := cv2 wX
      clear cv2
      go_region
      go_wp2
      exact ⟨⟨i + 1, by go_num, by rw [hH.out], by rw [hS.out], by omega, (thnA zX _).drew⟩, by simp [intOf]; omega⟩
    · have hie : i = L.length := by omega
      subst hie
      rw [List.take_length] at hli
      have e1 : tx (hp (L.take L.length)) = tx (hp L) := by rw [List.take_length]
      have e2 : tx (sl 4 (L.take L.length)) = tx (sl 4 L) := by rw [List.take_length]
      rw [e1, e2]
      have hlt' : ¬ (L.length : Int) < (L.length : Int) := by omega
      obtain ⟨m1, hm1⟩ : ∃ m, m = (hp L).length := ⟨_, rfl⟩
      have z1 : (tx (hp L)).size = m1 := by rw [tx_size, hm1]
      have z2 : (tx (sl 4 L)).size = L.length := by rw [tx_size, sl_length]
      have HY : Hid (tx (lyt k l L) = tx [UInt8.ofNat k, UInt8.ofNat l, UInt8.ofNat L.length, UInt8.ofNat (4 + m1)] ++ tx (hp L) ++ tx (List.replicate (220 - m1 - L.length) 0) ++ tx (sl 4 L)) := (by rw [hm1, tx_append, tx_append, tx_append]; rfl : tx (lyt k l L) = tx [UInt8.ofNat k, UInt8.ofNat l, UInt8.ofNat L.length, UInt8.ofNat (4 + m1)] ++ tx (hp L) ++ tx (List.replicate (220 - m1 - L.length) 0) ++ tx (sl 4 L))
      rw [← hm1] at hhl
      have hN : (220 : Int) - (m1 : Int) - (L.length : Int) = ((220 - m1 - L.length : Nat) : Int) := by omega
      have z3 : (tx (List.replicate (220 - m1 - L.length) (0 : UInt8))).size ≤ 224 := by rw [tx_size, List.length_replicate]; omega
      obtain ⟨m3, zz3, hm3⟩ : ∃ m, (tx (List.replicate (220 - m1 - L.length) (0 : UInt8))).size = m ∧ m ≤ 224 := ⟨_, rfl, z3⟩
      have CZ : Hid (∀ w, Calls Try.prog 50 #[.int .i64 ((220 - m1 - L.length : Nat) : Int)] w fun e w' => e = .returned (.string (tx (List.replicate (220 - m1 - L.length) 0))) ∧ Below w.heap.size w w') := fun w => noughts_any w _ (by omega)
      have z4 : (tx [UInt8.ofNat k, UInt8.ofNat l, UInt8.ofNat L.length, UInt8.ofNat (4 + m1)]).size = 4 := by rw [tx_size]; rfl
      have hpa : pgA [UInt8.ofNat k, UInt8.ofNat l, UInt8.ofNat L.length, UInt8.ofNat (4 + m1)] = #[.int .u8 (k : Int), .int .u8 (l : Int), .int .u8 (L.length : Int), .int .u8 (4 + (m1 : Int))] := by
        simp only [pgA, pgL, Lib.byteCells, List.map_cons, List.map_nil]
        rw [byte_nat hk, byte_nat hl, byte_nat (by omega), byte_nat (by omega)]; simp
      have cv := conv_bytes (W := wr.alloc (.cells (pgA [UInt8.ofNat k, UInt8.ofNat l, UInt8.ofNat L.length, UInt8.ofNat (4 + m1)]) 5)) (b := wr.heap.size) (t := 5) [UInt8.ofNat k, UInt8.ofNat l, UInt8.ofNat L.length, UInt8.ofNat (4 + m1)] (MapKept.heap_alloc wr _).1 4
      rw [hpa] at cv
      simp only [List.length_cons, List.length_nil] at cv
      have hL256 : L.length < 256 := by omega
      obtain ⟨nz, hnz⟩ : ∃ n, n = 220 - m1 - L.length := ⟨_, rfl⟩
      rw [← hnz] at hN CZ zz3 HY
      clear hpa e1 e2 hm1 z3 hnz hs h hli hle
      generalize tx (hp L) = H at *
      generalize tx (sl 4 L) = S at *
      generalize tx [UInt8.ofNat k, UInt8.ofNat l, UInt8.ofNat L.length, UInt8.ofNat (4 + m1)] = B4 at *
      generalize tx (List.replicate nz (0 : UInt8)) = Z at *
      go_wp2_with (go_at_call 50; refine (CZ.out _).mono ?_; rintro e w3 ⟨rfl, hb3⟩)
      go_ret
      exact ⟨by rw [HY.out]; rfl, thn (thnA hbel _) hb3⟩
end Go.Proofs.Ytmoognjegjeegaa
