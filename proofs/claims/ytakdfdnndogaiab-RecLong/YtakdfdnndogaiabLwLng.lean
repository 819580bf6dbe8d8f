/- RecLong: a record of many images, and whether it has a frame. -/
import Derived.Test.YtakdfdnndogaiabRxFrm
import Derived.Lib.SlBytesRow
namespace Go.Proofs.Ytakdfdnndogaiab
open Go.RowKit
set_option linter.unusedVariables false
set_option linter.unusedSimpArgs false
set_option maxRecDepth 100000

def imgs (T : ByteArray) (n : Nat) : List Im := (List.range n).map fun j : Nat => ((j : Int), T)
theorem imgs_succ (T : ByteArray) (n : Nat) : imgs T (n + 1) = imgs T n ++ [((n : Int), T)] := by simp [imgs, List.range_succ]
theorem imgs_length (T : ByteArray) (n : Nat) : (imgs T n).length = n := by simp [imgs]
theorem imgs_mem {T : ByteArray} {n : Nat} {p : Im} (h : p ∈ imgs T n) : p.2 = T := by
  simp only [imgs, List.mem_map] at h
  obtain ⟨j, _, rfl⟩ := h
  rfl
theorem lay_imgs {T : ByteArray} (hT : T.size = 224) (a : ByteArray) : ∀ n, n ≤ 100 → ∃ X, layI (imgs T n) (a, 0) = (X, 0) ∧ X.size = a.size + 228 * n
  | 0, _ => ⟨a, rfl, rfl⟩
  | n + 1, h => by
    obtain ⟨X, h1, h2⟩ := lay_imgs hT a n (by omega)
    refine ⟨X ++ Pk.beS n 2 ++ Pk.beS T.size 2 ++ T, ?_, ?_⟩
    · rw [imgs_succ, layI_snoc, h1]
      dsimp only
      rw [stepW_good (by omega) (by omega) (by omega) (by rw [Pk.limI_2]; omega), stepT_good (by omega)]
      rfl
    · simp only [ByteArray.size_append, Pk.beS_size]
      omega
def longM (T : ByteArray) (n : Nat) : Rm := ⟨kS 2, imgs T n, []⟩
theorem long_laid {T : ByteArray} (hT : T.size = 224) {n : Nat} (hn : n ≤ 20) : (laidM (longM T n)).2 = 0 ∧ (laidM (longM T n)).1.size = 2 + 228 * n := by
  have e : laidM (longM T n) = layI (imgs T n) (stepW (stepW (⟨#[]⟩, 0) 2 1) ((imgs T n).length : Int) 1) := by
    unfold laidM laidF
    have e2 : (longM T n).s.kd = 2 := rfl
    rw [e2, if_pos (by omega)]
    rfl
  rw [e, imgs_length, stepW_good (by omega) (by omega) (by omega) (by rw [Pk.limI_1]; omega), stepW_good (by omega) (by omega) (by omega) (by rw [Pk.limI_1]; omega)]
  obtain ⟨X, h1, h2⟩ := lay_imgs hT (⟨#[]⟩ ++ Pk.beS (2 : Int).toNat (1 : Int).toNat ++ Pk.beS ((n : Int)).toNat (1 : Int).toNat) n (by omega)
  rw [h1]
  refine ⟨rfl, ?_⟩
  rw [h2]
  simp only [ByteArray.size_append, Pk.beS_size, Pk.size_nil]
  rfl
theorem long_clean (T : ByteArray) (n : Nat) : cleanM (longM T n) = longM T n := by
  simp [cleanM, cleanS, longM, kS, zS]
theorem long_ref {T : ByteArray} (hT : T.size = 224) (n : Nat) : refM (longM T n) = 0 := by
  have hw : whole (imgs T n) = true := by
    unfold whole
    rw [List.all_eq_true]
    intro p hp
    rw [imgs_mem hp]
    simpa using hT
  simp [refM, formed, longM, kS, zS, Pk.size_nil, hw]
theorem long_no {T : ByteArray} (hT : T.size = 224) {n : Nat} (hn : n ≤ 20) (h : 17 < n) : frameM (longM T n) = (⟨#[]⟩, 3) := by
  obtain ⟨h1, h2⟩ := long_laid hT hn
  unfold frameM
  rw [long_clean, bodyM_long (long_ref hT n) h1 (by omega)]
  rfl
theorem long_yes {T : ByteArray} (hT : T.size = 224) {n : Nat} (h : n ≤ 17) : (frameM (longM T n)).2 = 0 ∧ (frameM (longM T n)).1.size = 8 + 228 * n := by
  obtain ⟨h1, h2⟩ := long_laid hT (n := n) (by omega)
  unfold frameM
  rw [long_clean, bodyM_good (long_ref hT n) h1 (by omega)]
  dsimp only
  rw [if_neg (by simp)]
  refine ⟨rfl, ?_⟩
  rw [frameB_size, h2]
  omega
theorem long_small {T : ByteArray} (hT : T.size = 224) {n : Nat} (hn : n ≤ 20) : Small (longM T n) := by
  refine ⟨?_, Nat.zero_le _, ?_, Nat.zero_le _, Nat.zero_le _, Nat.zero_le _⟩
  · show (imgs T n).length ≤ 1000
    rw [imgs_length]; omega
  · intro p hp
    rw [imgs_mem (n := n) hp, hT]; omega
/-- 224 bytes: c, and then nothing. -/
def oneT (c : Nat) : ByteArray := ⟨(Array.replicate 224 0).setIfInBounds 0 (UInt8.ofNat c)⟩
theorem oneT_size (c : Nat) : (oneT c).size = 224 := by simp [oneT, ByteArray.size]
/-- The bytes and the record between two rounds. -/
structure Lg (w wr : World) (g b : Nat) (C : Array Value) (T : ByteArray) (k : Nat) (a : Option Addr) (cap : Nat) : Prop where
  row : wr.heap[g]? = some (.cells C 5)
  rc : RcAt wr b (kS 2) (.slice a k cap) nilV
  own : Own 29 (b + 1) wr a cap (encI (imgs T k))
  bel : Below w.heap.size w wr
  gb : g < b
  wg : w.heap.size ≤ g
theorem Lg.below {w wr wq : World} {g b : Nat} {C : Array Value} {T : ByteArray} {k : Nat} {a : Option Addr} {cap : Nat} (h : Lg w wr g b C T k a cap) (hb : Below wr.heap.size wr wq) : Lg w wq g b C T k a cap :=
  ⟨(hb.block g (Array.getElem?_eq_some_iff.1 h.row).1).trans h.row, h.rc.below hb, h.own.below hb, thn h.bel hb, h.gb, h.wg⟩
theorem Lg.recV {w wr : World} {g b : Nat} {C : Array Value} {T : ByteArray} {k : Nat} {a : Option Addr} {cap : Nat} (h : Lg w wr g b C T k a cap) : RecV wr (.agg ((kS 2).A (.slice a k cap) nilV)) (longM T k) := by
  refine ⟨_, _, rfl, ?_, SlT.nil _⟩
  have := h.own.fr.slI
  rw [encI_length, imgs_length] at this
  exact this
theorem oneT_get {c : Nat} (hc : c < 256) (M : Array Value) (hM : M = madeCells #[Value.int .u8 0] 224) (i : Nat) (hi : i < (oneT c).size) : (M.setIfInBounds 0 (.int .u8 (c : Int)))[i]? = some (.int .u8 (((oneT c)[i]).toNat : Int)) := by
  have h224 : i < 224 := by rw [oneT_size] at hi; exact hi
  show _ = some (Value.int .u8 (((((Array.replicate 224 (0 : UInt8)).setIfInBounds 0 (UInt8.ofNat c))[i]'(by simp; omega)).toNat : Nat) : Int))
  rw [Array.getElem_setIfInBounds (by simp; omega), Array.getElem?_setIfInBounds]
  have hz : M.size = 224 := by rw [hM]; exact size_madeCells _ _
  by_cases h0 : 0 = i
  · rw [if_pos h0, if_pos (by omega), if_pos h0]
    have : (UInt8.ofNat c).toNat = c := by simp; omega
    rw [this]
  · rw [if_neg h0, if_neg h0, hM]
    simp [madeCells, h224, Nat.mod_one]
section
variable {w : World} {c k : Nat}
set_option maxHeartbeats 1000000 in
theorem long_far {n : Int} (h : n < 0 ∨ 20 < n) (c : Int) : Calls Try.prog 3 #[.int .i64 n, .int .u8 c] w fun e w' => e = .returned (.bool true) ∧ Below w.heap.size w w' := by
  have CK : Hid (∀ wx, Calls Try.prog 4 #[] wx fun e w' => e = .returned (.bool true) ∧ Below wx.heap.size wx w') := fun wx => awake_any wx
  by_cases h1 : n < 0
  · go_enter Try.func3, Try.ntmps3
    go_wp2_with (go_at_call 4; refine (CK.out _).mono ?_; rintro e w6 ⟨rfl, b6⟩)
    go_ret
    exact ⟨rfl, b6⟩
  · have h2 : (20 : Int) < n := by omega
    clear h
    go_enter Try.func3, Try.ntmps3
    go_wp2_with (go_at_call 4; refine (CK.out _).mono ?_; rintro e w6 ⟨rfl, b6⟩)
    go_ret
    exact ⟨rfl, b6⟩
set_option maxHeartbeats 2000000 in
theorem long_near (hk : k ≤ 20) (hc : c < 256) : Calls Try.prog 3 #[.int .i64 (k : Int), .int .u8 (c : Int)] w fun e w' => e = .returned (.bool true) ∧ Below w.heap.size w w' := by
  have CK : Hid (∀ wx, Calls Try.prog 4 #[] wx fun e w' => e = .returned (.bool true) ∧ Below wx.heap.size wx w') := fun wx => awake_any wx
  have hmk : ∀ w, (Instr.makeSlice 23 (.int .i64 224) (.int .i64 224)).run Try.prog w = .ok (.slice (some ⟨w.heap.size, 0, none⟩) 224 224) (w.alloc (.cells (madeCells #[.int .u8 0] 224) 5)) :=
    fun w => run_make_row' 23 5 (.int .u8 0) 1 Try.underlying23 (by kernel_rfl) rfl .i64 .i64 224 (by omega) (by omega) w
  obtain ⟨M, hM⟩ : ∃ M, M = madeCells #[Value.int .u8 0] 224 := ⟨_, rfl⟩
  have hg := fun i hi => oneT_get hc M hM i hi
  have hTz := oneT_size c
  have hMz : M.size = 224 := by rw [hM]; exact size_madeCells _ _
  rw [← hM] at hmk
  clear hM
  generalize oneT c = T at *
  have CF : Hid (∀ wx a cap, RecV wx (.agg ((kS 2).A (.slice a k cap) nilV)) (longM T k) → Calls Try.prog 5 #[.agg ((kS 2).A (.slice a k cap) nilV)] wx fun r w' => r = .returned (.tuple #[.string (frameM (longM T k)).1, .int .i64 (frameM (longM T k)).2]) ∧ Below wx.heap.size wx w') := fun wx a cap h => Frame_any h (long_small hTz hk)
  have HY : Hid (k ≤ 17 → (frameM (longM T k)).2 = 0 ∧ (frameM (longM T k)).1.size = 8 + 228 * k) := fun h => long_yes hTz h
  have HN : Hid (17 < k → frameM (longM T k) = (⟨#[]⟩, 3)) := fun h => long_no hTz hk h
  generalize frameM (longM T k) = FM at *
  obtain ⟨m0, em0⟩ : ∃ v, M[0]? = some v := ⟨_, Array.getElem?_eq_getElem (by omega)⟩
  have k0 : (w.alloc (.cells M 5)).cell? ⟨w.heap.size, 0, none⟩ = some m0 := (Joins.cell_of_block (MapKept.heap_alloc w _).1 0).trans em0
  have hf0 : (w.alloc (.cells M 5)).frozen? ⟨w.heap.size, 0, none⟩ = false := Joins.unfrozen_of_block (MapKept.heap_alloc w _).1 0
  have hg' : Hid (∀ i (hi : i < T.size), (M.setIfInBounds 0 (.int .u8 (c : Int)))[i]? = some (.int .u8 ((T[i]).toNat : Int))) := hg
  clear hg
  have hk2 : (k : Int) ≤ 20 := by omega
  go_enter Try.func3, Try.ntmps3
  go_wp2_with (first
    | (refine wpList_new_rc _ rfl rfl ?_; intro w1 b1 N1)
    | (refine wpList_put_rc (s' := kS 2) (I' := nilV) (T' := nilV) _ rfl (.tmp 6) (.tmp 21) rfl rfl rfl N1.rc rfl rfl ?_; intro w2 P2))
  generalize M.setIfInBounds 0 (.int .u8 (c : Int)) = C at *
  have hB0 : Hid ((w.alloc (.cells C 5)).heap[w.heap.size]? = some (.cells C 5)) := (MapKept.heap_alloc w _).1
  have hb0 : Hid (Below w.heap.size w (w.alloc (.cells C 5))) := (Below.refl _ _).alloc (Nat.le_refl _) _
  have H : Lg w w2 w.heap.size b1 C T 0 none 0 := by
    have e := N1.eq
    have z0 : w.heap.size < (w.alloc (.cells C 5)).heap.size := (Array.getElem?_eq_some_iff.1 hB0.out).1
    have z1 := N1.rc.lt
    have hr1 := (N1.below.block w.heap.size z0).trans hB0.out
    refine ⟨(P2.off.block _ (by omega) (by omega)).trans hr1, P2.rc, Own.nil _ _ _, (thn hb0.out N1.below).trans (P2.below (by omega) (by have := (thn hb0.out N1.below).size; omega)), by omega, Nat.le_refl _⟩
  clear hmk k0 hf0 hB0 hb0 N1 P2 em0 hMz
  go_loopw [7] (fun iv wr => ∃ (i : Nat) (a : Option Addr) (cap : Nat), i ≤ k ∧ iv = .int .i64 (i : Int) ∧ Lg w wr w.heap.size b1 C T i a cap) (fun iv _ => k - (intOf iv).toNat)
  case atStart => exact ⟨0, none, 0, Nat.zero_le _, rfl, H⟩
  case round =>
    clear H
    obtain ⟨i, a, cap, hi, rfl, H⟩ := hrel
    by_cases hlt : i < k
    · have hlt2 : (i : Int) < (k : Int) := by omega
      have k9 := H.rc.c9
      have hcv : (convert 23 9 (.slice (some ⟨w.heap.size, 0, none⟩) 224 224)).run Try.prog wr = .ok (.string T) wr := by
        have := Lib.run_convert_whole (P := Try.prog) wr 23 5 9 Try.underlying23 Try.underlying5 Try.underlying9 w.heap.size 0 T (fun i hi => by
          rw [Joins.cell_of_block H.row, Nat.zero_add]
          exact hg'.out i hi) 224
        rw [hTz] at this
        exact this
      have BA : Hid (Below wr.heap.size wr (wr.alloc (.cells #[.int .i64 (i : Int), .string T] 29))) := (Below.refl _ _).alloc (Nat.le_refl _) _
      have H2 : Hid (Lg w (wr.alloc (.cells #[.int .i64 (i : Int), .string T] 29)) w.heap.size b1 C T i a cap) := H.below BA.out
      have CN : Hid (Cs (wr.alloc (.cells #[.int .i64 (i : Int), .string T] 29)) (some ⟨wr.heap.size, 0, none⟩) (encI [((i : Int), T)])) := (⟨fun j hj => by
        obtain rfl : j = 0 := by simpa [encI] using hj
        exact ⟨wr.heap.size, 0, rfl, by simp, Joins.cell_of_block (MapKept.heap_alloc wr _).1 0, Joins.cell_of_block (MapKept.heap_alloc wr _).1 1⟩⟩ : Cs (wr.alloc (.cells #[.int .i64 (i : Int), .string T] 29)) (some ⟨wr.heap.size, 0, none⟩) (encI [((i : Int), T)]))
      clear hg'
      go_wp2_with (first
        | (refine wpList_append_own' two_im (B := b1 + 1) rfl (.tmp 28) (.tmp 33) rfl rfl (n := i) (xs := encI (imgs T i)) (by rw [encI_length, imgs_length]) H2.out.own H2.out.rc.lt rfl (news := encI [((i : Int), T)]) rfl (fun e => by cases e) CN.out (encI_ones _) (by omega) ?_; intro a4 cap4 w4 O4 B4)
        | (refine wpList_fput (s' := kS 2) (I' := .slice a4 (i + 1) cap4) (T' := nilV) _ rfl 24 (.tmp 35) (.tmp 34) rfl rfl rfl (⟨(B4.block b1 (Nat.lt_succ_self _)).trans H2.out.rc.blk⟩ : RcAt w4 b1 (kS 2) (.slice a i cap) nilV) (by omega) rfl (by kernel_rfl) rfl ?_; intro w5 P5))
      go_roundw
      case rel =>
        have gb := H.gb
        have wg := H.wg
        have hgl := (B4.block w.heap.size (by omega)).trans H2.out.row
        have hgl2 := (Array.getElem?_eq_some_iff.1 hgl).1
        have q1 := H2.out.bel.trans (B4.mono (show w.heap.size ≤ b1 + 1 by omega))
        refine ⟨i + 1, a4, cap4, by omega, by go_num, (P5.off.block _ hgl2 (by omega)).trans hgl, P5.rc, ?_, q1.trans (P5.below (by omega) q1.size), gb, wg⟩
        rw [imgs_succ, encI_append]
        exact ⟨O4.row.kept (fun q hq => P5.off.block q (O4.row.lt q hq) (by have := O4.fresh q hq; omega)), O4.fresh⟩
      case measure => simp [intOf]; omega
    · obtain rfl : i = k := by omega
      have hlt2 : ¬ (i : Int) < (i : Int) := by omega
      have hrv := H.recV
      obtain ⟨F, E⟩ := FM
      clear hg'
      by_cases h17 : 17 < i
      · have h17' : (17 : Int) < (i : Int) := by omega
        have := HN.out h17
        cases this
        dsimp only at CF
        clear HY HN
        go_wp2_with (first
          | (refine wpList_load_rc _ rfl (.tmp 6) rfl rfl H.rc ?_)
          | (go_at_call 5; refine (CF.out _ _ _ hrv).mono ?_; rintro e w7 ⟨rfl, b7⟩)
          | (go_at_call 4; refine (CK.out _).mono ?_; rintro e w8 ⟨rfl, b8⟩))
        go_ret
        exact ⟨rfl, thn (thn H.bel b7) b8⟩
      · have h17' : ¬ (17 : Int) < (i : Int) := by omega
        obtain ⟨e1, e2⟩ := HY.out (by omega)
        dsimp only at e1 e2 CF
        subst e1
        have e3 : (F.size : Int) = 8 + 228 * (i : Int) := by omega
        have e4 : F.size ≤ 100000 := by omega
        clear HY HN e2
        go_wp2_with (first
          | (refine wpList_load_rc _ rfl (.tmp 6) rfl rfl H.rc ?_)
          | (go_at_call 5; refine (CF.out _ _ _ hrv).mono ?_; rintro e w7 ⟨rfl, b7⟩)
          | (go_at_call 4; refine (CK.out _).mono ?_; rintro e w8 ⟨rfl, b8⟩))
        go_ret
        exact ⟨rfl, thn (thn H.bel b7) b8⟩
end
theorem long_walk (w : World) (n c : Int) (h1 : 0 ≤ c) (h2 : c ≤ 255) : Calls Try.prog 3 #[.int .i64 n, .int .u8 c] w fun e w' => e = .returned (.bool true) ∧ Below w.heap.size w w' := by
  by_cases h : n < 0 ∨ 20 < n
  · exact long_far h c
  · obtain ⟨k, rfl⟩ : ∃ k : Nat, n = (k : Int) := ⟨n.toNat, by omega⟩
    obtain ⟨d, rfl⟩ : ∃ d : Nat, c = (d : Int) := ⟨c.toNat, by omega⟩
    exact long_near (by omega) (by omega)
end Go.Proofs.Ytakdfdnndogaiab
