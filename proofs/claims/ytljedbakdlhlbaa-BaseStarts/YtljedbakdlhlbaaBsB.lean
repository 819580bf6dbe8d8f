/- The law's own bytes of a base. -/
import Derived.Test.YtljedbakdlhlbaaBsN
import Derived.Test.YtljedbakdlhlbaaBsO
import Derived.Deep.RegionHeld3
namespace Go.Proofs.Ytljedbakdlhlbaa
open Go.RowKit
set_option linter.unusedVariables false
set_option linter.unusedSimpArgs false
set_option maxRecDepth 100000

/-- The law's two slices. -/
structure Two (w0 w2 : World) (s : Bs) : Prop where
  n : ∀ (j : Nat) (n : Int) (k : Nat), s.ps[j]? = some (n, k) → w2.cell? ⟨w0.heap.size, j, none⟩ = some (.int .i64 n)
  k : ∀ (j : Nat) (n : Int) (k : Nat), s.ps[j]? = some (n, k) → w2.cell? ⟨w0.heap.size + 1, j, none⟩ = some (.int .i64 (k : Int))
  bel : Below w0.heap.size w0 w2
  sz : w2.heap.size = w0.heap.size + 2
theorem ps_at {s : Bs} {j : Nat} {n : Int} {k : Nat} (h : s.ps[j]? = some (n, k)) : s.A[j]? = some (.int .i64 n) ∧ (#[.int .i64 1, .int .i64 4, .int .i64 2, .int .i64 6, .int .i64 6, .int .i64 4, .int .i64 4] : Array Value)[j]? = some (.int .i64 (k : Int)) := by
  match j, h with
  | 0, h => cases h; exact ⟨rfl, rfl⟩
  | 1, h => cases h; exact ⟨rfl, rfl⟩
  | 2, h => cases h; exact ⟨rfl, rfl⟩
  | 3, h => cases h; exact ⟨rfl, rfl⟩
  | 4, h => cases h; exact ⟨rfl, rfl⟩
  | 5, h => cases h; exact ⟨rfl, rfl⟩
  | 6, h => cases h; exact ⟨rfl, rfl⟩
theorem two_rows (w0 : World) (s : Bs) : Two w0 ((w0.alloc (.cells s.A 3)).alloc (.cells #[.int .i64 1, .int .i64 4, .int .i64 2, .int .i64 6, .int .i64 6, .int .i64 4, .int .i64 4] 3)) s := by
  have b1 : Below w0.heap.size w0 (w0.alloc (.cells s.A 3)) := (Below.refl _ _).alloc (Nat.le_refl _) _
  have z1 : (w0.alloc (.cells s.A 3)).heap.size = w0.heap.size + 1 := by simp [go_sem]
  have h1 : (w0.alloc (.cells s.A 3)).heap[w0.heap.size]? = some (.cells s.A 3) := (MapKept.heap_alloc w0 _).1
  generalize w0.alloc (.cells s.A 3) = w1 at *
  have h2 := (MapKept.heap_alloc w1 (.cells #[.int .i64 1, .int .i64 4, .int .i64 2, .int .i64 6, .int .i64 6, .int .i64 4, .int .i64 4] 3)).1
  have b2 : Below w1.heap.size w1 (w1.alloc (.cells #[.int .i64 1, .int .i64 4, .int .i64 2, .int .i64 6, .int .i64 6, .int .i64 4, .int .i64 4] 3)) := (Below.refl _ _).alloc (Nat.le_refl _) _
  rw [z1] at h2
  refine ⟨fun j n k h => ?_, fun j n k h => ?_, b1.trans (b2.mono (by omega)), by simp [go_sem]; omega⟩
  · rw [Joins.cell_of_block ((b2.block _ (by omega)).trans h1)]
    exact (ps_at h).1
  · rw [Joins.cell_of_block h2]
    exact (ps_at h).2
/-- What the law's bytes are behind j numbers. -/
structure By9 (s : Bs) (j : Nat) (t : ByteArray) (f : Bool) : Prop where
  sz : t.size ≤ 9 + 6 * j
  ok : f = true ↔ AllFit (s.ps.take j)
  is : AllFit (s.ps.take j) → t = sig9 ++ cat (s.ps.take j)
theorem cat_append : ∀ (l m : List (Int × Nat)), cat (l ++ m) = cat l ++ cat m
  | [], m => by simp [cat, nil_append]
  | p :: l, m => by rw [List.cons_append, cat, cat_append l m, cat, ByteArray.append_assoc]
theorem By9.next {s : Bs} {j : Nat} {t : ByteArray} {f : Bool} (h : By9 s j t f) {n : Int} {k : Nat} (hp : s.ps[j]? = some (n, k)) (hk : k ≤ 6) {u : ByteArray} {b : Bool} (hn : Num9 n k u b) : By9 s (j + 1) (t ++ u) (f && b && decide (0 ≤ n)) := by
  have hj : j < s.ps.length := (List.getElem?_eq_some_iff.1 hp).1
  have he : s.ps[j] = (n, k) := (List.getElem?_eq_some_iff.1 hp).2
  have e : s.ps.take (j + 1) = s.ps.take j ++ [(n, k)] := by rw [List.take_succ_eq_append_getElem hj, he]
  have ha : AllFit (s.ps.take (j + 1)) ↔ AllFit (s.ps.take j) ∧ Room n k := by
    rw [e]
    constructor
    · intro x
      exact ⟨fun p hp => x p (List.mem_append_left _ hp), x (n, k) (List.mem_append_right _ (List.mem_singleton.2 rfl))⟩
    · rintro ⟨x, y⟩ p hp
      rcases List.mem_append.1 hp with q | q
      · exact x p q
      · cases List.mem_singleton.1 q; exact y
  refine ⟨?_, ?_, ?_⟩
  · rw [ByteArray.size_append, hn.size]; have := h.sz; omega
  · rw [ha, Bool.and_assoc, Bool.and_eq_true, h.ok, hn.ok]
  · intro x
    obtain ⟨x1, x2⟩ := ha.1 x
    rw [e, cat_append, h.is x1, hn.fits x2, ByteArray.append_assoc]
    simp [cat, Pk.append_nil]
theorem ps_mem {s : Bs} (hs : I64 s) {j : Nat} (hj : j < 7) : ∃ (n : Int) (k : Nat), s.ps[j]? = some (n, k) ∧ k ≤ 6 ∧ -9223372036854775808 ≤ n ∧ n ≤ 9223372036854775807 := by
  match j, hj with
  | 0, _ => exact ⟨_, _, rfl, by decide, hs.nd⟩
  | 1, _ => exact ⟨_, _, rfl, by decide, hs.bt⟩
  | 2, _ => exact ⟨_, _, rfl, by decide, hs.gn⟩
  | 3, _ => exact ⟨_, _, rfl, by decide, hs.ck⟩
  | 4, _ => exact ⟨_, _, rfl, by decide, hs.rd⟩
  | 5, _ => exact ⟨_, _, rfl, by decide, hs.sn⟩
  | 6, _ => exact ⟨_, _, rfl, by decide, hs.jn⟩
structure Rt9 (s : Bs) (w : World) (e : Ending) (w' : World) : Prop where
  ex : ∃ t f, e = .returned (.tuple #[.string t, .bool f]) ∧ By9 s 7 t f ∧ Below w.heap.size w w'
set_option maxHeartbeats 2000000 in
theorem bytes9 (s : Bs) (hs : I64 s) (w : World) : Calls Try.prog 10 #[.agg s.A] w fun e w' => Rt9 s w e w' := by
  have CN : Hid (∀ wx (n : Int) (k : Nat), k ≤ 6 → -9223372036854775808 ≤ n → n ≤ 9223372036854775807 → Calls Try.prog 22 #[.int .i64 n, .int .i64 (k : Int)] wx fun e w' => ∃ t b, e = .returned (.tuple #[.string t, .bool b]) ∧ Num9 n k t b ∧ Below wx.heap.size wx w') := fun wx n k h1 h2 h3 => number_any n k wx h1 h2 h3 _ rfl
  go_enter Try.func10, Try.ntmps10
  go_wp2_with (first
    | (refine wpList_box_bs (s := s) _ rfl _ rfl rfl ?_; intro w0 b0 N0; have k0 := N0.rc.c0; have k1 := N0.rc.c1; have k2 := N0.rc.c2; have k3 := N0.rc.c3; have k4 := N0.rc.c4; have k5 := N0.rc.c5; have k6 := N0.rc.c6))
  have T := two_rows w0 s
  have hz0 : w0.heap.size < w0.heap.size + 2 := by omega
  unfold Bs.A at T
  generalize (w0.alloc (.cells #[.int .i64 s.nd, .int .i64 s.bt, .int .i64 s.gn, .int .i64 s.ck, .int .i64 s.rd, .int .i64 s.sn, .int .i64 s.jn] 3)).alloc (.cells #[.int .i64 1, .int .i64 4, .int .i64 2, .int .i64 6, .int .i64 6, .int .i64 4, .int .i64 4] 3) = w2 at T ⊢
  clear k0 k1 k2 k3 k4 k5 k6
  go_loopw [4, 7, 8] (fun t f i wr => ∃ (j : Nat) (u : ByteArray) (b : Bool), j ≤ 7 ∧ i = .int .i64 j ∧ t = .string u ∧ f = .bool b ∧ By9 s j u b ∧ Below w2.heap.size w2 wr) (fun _ _ i _ => 7 - (intOf i).toNat)
  case atStart => exact ⟨0, sig9, true, Nat.zero_le _, rfl, rfl, rfl, ⟨by rw [sig9_size]; omega, ⟨fun _ p hp => by simp at hp, fun _ => rfl⟩, fun _ => by simp [cat, Pk.append_nil]⟩, Below.refl _ _⟩
  case round =>
    obtain ⟨j, u, f, hj, rfl, rfl, rfl, hy, hb⟩ := hrel
    by_cases hlt : j < 7
    · obtain ⟨n, k, hp, hk, h1, h2⟩ := ps_mem hs hlt
      have hu : u.size ≤ 60 := by have := hy.sz; omega
      have HK : Hid (∀ wx, Below wr.heap.size wr wx → wx.cell? ⟨w0.heap.size, j, none⟩ = some (.int .i64 n) ∧ wx.cell? ⟨w0.heap.size + 1, j, none⟩ = some (.int .i64 (k : Int))) := by
        intro wx q
        have z := T.sz
        have q2 : Below w2.heap.size w2 wx := hb.trans (q.mono hb.size)
        exact ⟨(q2.cell (by simp; omega)).trans (T.n j n k hp), (q2.cell (by simp; omega)).trans (T.k j n k hp)⟩
      have c0 := (HK.out wr (Below.refl _ _)).1
      have c1 := (HK.out wr (Below.refl _ _)).2
      go_wp2
      go_region_held3 (fun W => W.cell? ⟨w0.heap.size, j, none⟩ = some (.int .i64 n) ∧ W.cell? ⟨w0.heap.size + 1, j, none⟩ = some (.int .i64 (k : Int))) (first | exact keep1 | go_keep) ((go_at_call 22; refine (CN.out _ n k hk h1 h2).mono ?_; rintro e w4 ⟨t4, b4, rfl, N4, q4⟩; have keep1 := HK.out _ (((Below.refl _ _).drew).trans q4)))
      have q5 : Below wr.heap.size wr w4 := ((Below.refl _ _).drew).trans q4
      have d0 := (HK.out w4 q5).1
      have ht4 : t4.size ≤ 6 := by rw [N4.size]; exact hk
      have hY := hy.next hp hk N4
      cases f
      · go_wp2
        go_roundw
        case rel => exact ⟨j + 1, u ++ t4, false, by omega, by go_num, rfl, rfl, hY, hb.trans (q5.mono hb.size)⟩
        case measure => simp [intOf]; omega
      · cases b4
        · go_wp2
          go_roundw
          case rel => exact ⟨j + 1, u ++ t4, false, by omega, by go_num, rfl, rfl, hY, hb.trans (q5.mono hb.size)⟩
          case measure => simp [intOf]; omega
        · go_wp2
          go_roundw
          case rel => exact ⟨j + 1, u ++ t4, decide (0 ≤ n), by omega, by go_num, rfl, rfl, hY, hb.trans (q5.mono hb.size)⟩
          case measure => simp [intOf]; omega
    · go_wp2
      go_ret2
      have : j = 7 := by omega
      subst this
      exact ⟨u, f, rfl, hy, thn N0.below (T.bel.trans (hb.mono T.bel.size))⟩
theorem By9.fit {s : Bs} {t : ByteArray} {f : Bool} (h : By9 s 7 t f) (hs : Fit s) : f = true ∧ t = bB s := ⟨h.ok.2 hs, h.is hs⟩
theorem By9.bad {s : Bs} {t : ByteArray} {f : Bool} (h : By9 s 7 t f) (hs : ¬ Fit s) : f = false := by
  cases f
  · rfl
  · exact absurd (h.ok.1 rfl) hs
end Go.Proofs.Ytljedbakdlhlbaa
