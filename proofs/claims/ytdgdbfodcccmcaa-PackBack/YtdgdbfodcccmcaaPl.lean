/- The law's own reader: what each of its calls returns and leaves. -/
import Derived.Test.YtdgdbfodcccmcaaRdNum
namespace Go.Proofs.Ytdgdbfodcccmcaa
open Go.RowKit
set_option linter.unusedVariables false
set_option linter.unusedSimpArgs false
set_option maxRecDepth 100000

/-- The law's own reader lies whole in block b. -/
def isPl (w : World) (b : Nat) (s : ByteArray) (a e : Int) : Prop := w.heap[b]? = some (.cells #[.string s, .int .i64 a, .int .i64 e] 49)
theorem isPl.c0 {w : World} {b : Nat} {s : ByteArray} {a e : Int} (h : isPl w b s a e) : w.cell? ⟨b, 0, none⟩ = some (.string s) := by
  unfold isPl at h; simp [World.cell?, h]
theorem isPl.c1 {w : World} {b : Nat} {s : ByteArray} {a e : Int} (h : isPl w b s a e) : w.cell? ⟨b, 1, none⟩ = some (.int .i64 a) := by
  unfold isPl at h; simp [World.cell?, h]
theorem isPl.c2 {w : World} {b : Nat} {s : ByteArray} {a e : Int} (h : isPl w b s a e) : w.cell? ⟨b, 2, none⟩ = some (.int .i64 e) := by
  unfold isPl at h; simp [World.cell?, h]
theorem isPl.f {w : World} {b : Nat} {s : ByteArray} {a e : Int} (h : isPl w b s a e) (i : Nat) : w.frozen? ⟨b, i, none⟩ = false := by
  unfold isPl at h; simp [World.frozen?, h]
theorem isPl.lt {w : World} {b : Nat} {s : ByteArray} {a e : Int} (h : isPl w b s a e) : b < w.heap.size := by
  unfold isPl at h
  rcases Nat.lt_or_ge b w.heap.size with h' | h'
  · exact h'
  · simp [Array.getElem?_eq_none h'] at h
theorem isPl.below {w w' : World} {b : Nat} {s : ByteArray} {a e : Int} (h : isPl w b s a e) (hb : Below w.heap.size w w') : isPl w' b s a e := (hb.block b h.lt).trans h
theorem isPl.off {w w' : World} {b c : Nat} {s : ByteArray} {a e : Int} (h : isPl w b s a e) (hb : Off c w w') (hn : b ≠ c) : isPl w' b s a e := (hb.block b h.lt hn).trans h
theorem isPl.set1 {w : World} {b : Nat} {s : ByteArray} {a e : Int} (h : isPl w b s a e) (x : Int) : isPl (w.setCell ⟨b, 1, none⟩ (.int .i64 x)) b s x e := by
  unfold isPl at *
  rw [Joins.block_setCell h]; rfl
theorem isPl.set2 {w : World} {b : Nat} {s : ByteArray} {a e : Int} (h : isPl w b s a e) (x : Int) : isPl (w.setCell ⟨b, 2, none⟩ (.int .i64 x)) b s a x := by
  unfold isPl at *
  rw [Joins.block_setCell h]; rfl

theorem Off.drewN {b : Nat} {a w : World} (h : Off b a w) (n : Nat) : Off b a (w.drewN n) := ⟨h.os, h.tape, h.output, h.size, h.block⟩
theorem isPl.drewN {w : World} {b : Nat} {s : ByteArray} {a e : Int} (h : isPl w b s a e) (n : Nat) : isPl (w.drewN n) b s a e := h
theorem isRd.drewN {w : World} {b : Nat} {s : ByteArray} {e : Int} (h : isRd w b s e) (n : Nat) : isRd (w.drewN n) b s e := h

def plRaw (s : ByteArray) (a : Nat) (e n : Int) : ByteArray × Nat × Int :=
  if e ≠ 0 then (⟨#[]⟩, a, e) else if n < 0 then (⟨#[]⟩, a, 1) else if (s.size : Int) - a < n then (⟨#[]⟩, a, 2) else (s.extract a (a + n.toNat), a + n.toNat, 0)
theorem plRaw_had {s : ByteArray} {a : Nat} {e n : Int} (h : e ≠ 0) : plRaw s a e n = (⟨#[]⟩, a, e) := by simp [plRaw, h]
theorem plRaw_neg {s : ByteArray} {a : Nat} {n : Int} (h : n < 0) : plRaw s a 0 n = (⟨#[]⟩, a, 1) := by simp [plRaw, h]
theorem plRaw_short {s : ByteArray} {a : Nat} {n : Int} (h : ¬ n < 0) (h2 : (s.size : Int) - a < n) : plRaw s a 0 n = (⟨#[]⟩, a, 2) := by simp [plRaw, h, h2]
theorem plRaw_fits {s : ByteArray} {a : Nat} {n : Int} (h : ¬ n < 0) (h2 : ¬ (s.size : Int) - a < n) : plRaw s a 0 n = (s.extract a (a + n.toNat), a + n.toNat, 0) := by simp [plRaw, h, h2]

set_option maxHeartbeats 1000000 in
theorem raw_any (b : Nat) (s : ByteArray) (a : Nat) (e n : Int) (w : World) (hs : s.size ≤ 140737488351232) (ha : a ≤ s.size) (h : isPl w b s a e) :
    Calls Try.prog 23 #[.pointer (some ⟨b, 0, none⟩), .int .i64 n] w fun r w' => r = .returned (.string (plRaw s a e n).1) ∧ isPl w' b s (plRaw s a e n).2.1 (plRaw s a e n).2.2 ∧ Off b w w' := by
  have hc0 := h.c0
  have hc1 := h.c1
  have hc2 := h.c2
  have hf := h.f
  by_cases he : e = 0
  · subst he
    by_cases hn : n < 0
    · rw [plRaw_neg hn]
      go_enter Try.func23, Try.ntmps23
      go_wp2
      go_ret
      exact ⟨rfl, h.set2 _, (Off.refl _ _).setCell _ _⟩
    · by_cases hl : (s.size : Int) - a < n
      · rw [plRaw_short hn hl]
        go_enter Try.func23, Try.ntmps23
        go_wp2
        go_quiet (fail)
        go_wp2
        go_ret
        exact ⟨rfl, (h.drewN nq).set2 _, ((Off.refl _ _).drewN nq).setCell _ _⟩
      · rw [plRaw_fits hn hl]
        obtain ⟨m, rfl⟩ : ∃ m : Nat, n = m := ⟨n.toNat, by omega⟩
        have hm : m + a ≤ s.size := by omega
        rw [Int.toNat_natCast]
        go_enter Try.func23, Try.ntmps23
        go_wp2
        go_quiet (fail)
        go_wp2
        go_quiet (fail)
        go_wp2
        go_ret
        rw [Int.natCast_add]
        exact ⟨rfl, ((h.drewN _).set1 _).drewN _, (((Off.refl _ _).drewN _).setCell _ _).drewN _⟩
  · rw [plRaw_had he]
    have he' : (e != 0) = true := by simpa using he
    go_enter Try.func23, Try.ntmps23
    go_wp2
    go_ret
    exact ⟨rfl, h, Off.refl _ _⟩

def plNumE (e k : Int) : Int := if e = 0 ∧ (k < 1 ∨ 6 < k) then 1 else e
def plNum (s : ByteArray) (a : Nat) (e k : Int) : Nat × Nat × Int := (beN (plRaw s a (plNumE e k) k).1.data.toList, (plRaw s a (plNumE e k) k).2)
def plTextE (s : ByteArray) (a : Nat) (e m : Int) : Int := if (plNum s a e 2).2.2 = 0 ∧ m < (plNum s a e 2).1 then 3 else (plNum s a e 2).2.2
def plText (s : ByteArray) (a : Nat) (e m : Int) : ByteArray × Nat × Int := plRaw s (plNum s a e 2).2.1 (plTextE s a e m) (plNum s a e 2).1

theorem plRaw_le (s : ByteArray) (a : Nat) (e n : Int) (h : a ≤ s.size) : (plRaw s a e n).2.1 ≤ s.size := by
  unfold plRaw
  repeat' split
  all_goals simp
  all_goals omega
theorem plRaw_size1 (s : ByteArray) (a : Nat) (e n : Int) (k : Nat) (h : n ≤ k) : (plRaw s a e n).1.size ≤ k := by
  unfold plRaw
  repeat' split
  all_goals simp [ByteArray.size_extract, size_nil]
  all_goals omega
theorem plNumE_size1 (s : ByteArray) (a : Nat) (e k : Int) : (plRaw s a (plNumE e k) k).1.size ≤ 6 := by
  unfold plNumE
  by_cases he : e = 0
  · by_cases hk : k < 1 ∨ 6 < k
    · rw [if_pos ⟨he, hk⟩, plRaw_had (by decide)]; exact Nat.zero_le _
    · rw [if_neg (fun h => hk h.2)]; exact plRaw_size1 _ _ _ _ 6 (by omega)
  · rw [if_neg (fun h => he h.1), plRaw_had he]; exact Nat.zero_le _
theorem plNum_lt (s : ByteArray) (a : Nat) (e k : Int) : (plNum s a e k).1 < 281474976710656 := beN_le6 _ (plNumE_size1 s a e k)
theorem plNum_le (s : ByteArray) (a : Nat) (e k : Int) (h : a ≤ s.size) : (plNum s a e k).2.1 ≤ s.size := plRaw_le _ _ _ _ h

set_option maxHeartbeats 1000000 in
theorem num_any_law (b : Nat) (s : ByteArray) (a : Nat) (e k : Int) (w : World) (hs : s.size ≤ 140737488351232) (ha : a ≤ s.size) (h : isPl w b s a e) :
    Calls Try.prog 24 #[.pointer (some ⟨b, 0, none⟩), .int .i64 k] w fun r w' => r = .returned (.int .i64 (plNum s a e k).1) ∧ isPl w' b s (plNum s a e k).2.1 (plNum s a e k).2.2 ∧ Off b w w' := by
  have hsv := plNumE_size1 s a e k
  have hc2 := h.c2
  have hf := h.f
  unfold plNum
  obtain ⟨e0, he0⟩ : ∃ e0, plNumE e k = e0 := ⟨_, rfl⟩
  rw [he0] at hsv ⊢
  have c1 := fun w h => raw_any b s a e0 k w hs ha h
  obtain ⟨sv, st, hp⟩ : ∃ sv st, plRaw s a e0 k = (sv, st) := ⟨_, _, rfl⟩
  rw [hp] at c1 hsv ⊢
  dsimp only at c1 hsv ⊢
  have C1 : Hid _ := c1
  clear c1 hp
  by_cases he : e = 0
  · subst he
    by_cases h1k : k < 1
    · rw [plNumE, if_pos ⟨rfl, .inl h1k⟩] at he0
      subst he0
      go_enter Try.func24, Try.ntmps24
      go_wp2_with (go_at_call 23; refine (C1.out _ (h.set2 _)).mono ?_; rintro e w1 ⟨rfl, h1, o1⟩)
      go_loop [6, 7] (fun n i => ∃ j : Nat, j ≤ sv.size ∧ i = .int .i64 j ∧ n = .int .i64 (beN (sv.data.toList.take j))) (fun _ i => sv.size - (intOf i).toNat)
      case atStart => exact ⟨0, Nat.zero_le _, rfl, rfl⟩
      case round =>
        obtain ⟨j, hj, rfl, rfl⟩ := hrel
        by_cases hlt : j < sv.size
        · have hlt2 := beN_le6 (sv.data.toList.take j) (by have := List.length_take_le j sv.data.toList; omega)
          have hc := sv[j].toNat_lt
          go_wp2
          go_round
          case rel => exact ⟨j + 1, by omega, by go_num, by rw [take_snoc _ _ hlt, beN_snoc]; go_num⟩
          case measure => simp [intOf]; omega
        · go_wp2
          go_ret
          rw [List.take_of_length_le (by simp; omega)]
          exact ⟨rfl, h1, ((Off.refl _ _).setCell _ _).trans o1⟩
    · by_cases h6k : 6 < k
      · rw [plNumE, if_pos ⟨rfl, .inr h6k⟩] at he0
        subst he0
        go_enter Try.func24, Try.ntmps24
        go_wp2_with (go_at_call 23; refine (C1.out _ (h.set2 _)).mono ?_; rintro e w1 ⟨rfl, h1, o1⟩)
        go_loop [6, 7] (fun n i => ∃ j : Nat, j ≤ sv.size ∧ i = .int .i64 j ∧ n = .int .i64 (beN (sv.data.toList.take j))) (fun _ i => sv.size - (intOf i).toNat)
        case atStart => exact ⟨0, Nat.zero_le _, rfl, rfl⟩
        case round =>
          obtain ⟨j, hj, rfl, rfl⟩ := hrel
          by_cases hlt : j < sv.size
          · have hlt2 := beN_le6 (sv.data.toList.take j) (by have := List.length_take_le j sv.data.toList; omega)
            have hc := sv[j].toNat_lt
            go_wp2
            go_round
            case rel => exact ⟨j + 1, by omega, by go_num, by rw [take_snoc _ _ hlt, beN_snoc]; go_num⟩
            case measure => simp [intOf]; omega
          · go_wp2
            go_ret
            rw [List.take_of_length_le (by simp; omega)]
            exact ⟨rfl, h1, ((Off.refl _ _).setCell _ _).trans o1⟩
      · rw [plNumE, if_neg (fun x => x.2.elim h1k h6k)] at he0
        subst he0
        go_enter Try.func24, Try.ntmps24
        go_wp2_with (go_at_call 23; refine (C1.out _ h).mono ?_; rintro e w1 ⟨rfl, h1, o1⟩)
        go_loop [6, 7] (fun n i => ∃ j : Nat, j ≤ sv.size ∧ i = .int .i64 j ∧ n = .int .i64 (beN (sv.data.toList.take j))) (fun _ i => sv.size - (intOf i).toNat)
        case atStart => exact ⟨0, Nat.zero_le _, rfl, rfl⟩
        case round =>
          obtain ⟨j, hj, rfl, rfl⟩ := hrel
          by_cases hlt : j < sv.size
          · have hlt2 := beN_le6 (sv.data.toList.take j) (by have := List.length_take_le j sv.data.toList; omega)
            have hc := sv[j].toNat_lt
            go_wp2
            go_round
            case rel => exact ⟨j + 1, by omega, by go_num, by rw [take_snoc _ _ hlt, beN_snoc]; go_num⟩
            case measure => simp [intOf]; omega
          · go_wp2
            go_ret
            rw [List.take_of_length_le (by simp; omega)]
            exact ⟨rfl, h1, o1⟩
  · rw [plNumE, if_neg (fun x => he x.1)] at he0
    subst he0
    have he' : (e == 0) = false := by simpa using he
    go_enter Try.func24, Try.ntmps24
    go_wp2_with (go_at_call 23; refine (C1.out _ h).mono ?_; rintro e w1 ⟨rfl, h1, o1⟩)
    go_loop [6, 7] (fun n i => ∃ j : Nat, j ≤ sv.size ∧ i = .int .i64 j ∧ n = .int .i64 (beN (sv.data.toList.take j))) (fun _ i => sv.size - (intOf i).toNat)
    case atStart => exact ⟨0, Nat.zero_le _, rfl, rfl⟩
    case round =>
      obtain ⟨j, hj, rfl, rfl⟩ := hrel
      by_cases hlt : j < sv.size
      · have hlt2 := beN_le6 (sv.data.toList.take j) (by have := List.length_take_le j sv.data.toList; omega)
        have hc := sv[j].toNat_lt
        go_wp2
        go_round
        case rel => exact ⟨j + 1, by omega, by go_num, by rw [take_snoc _ _ hlt, beN_snoc]; go_num⟩
        case measure => simp [intOf]; omega
      · go_wp2
        go_ret
        rw [List.take_of_length_le (by simp; omega)]
        exact ⟨rfl, h1, o1⟩

set_option maxHeartbeats 1000000 in
theorem text_any_law (b : Nat) (s : ByteArray) (a : Nat) (e m : Int) (w : World) (hs : s.size ≤ 140737488351232) (ha : a ≤ s.size) (h : isPl w b s a e) :
    Calls Try.prog 25 #[.pointer (some ⟨b, 0, none⟩), .int .i64 m] w fun r w' => r = .returned (.string (plText s a e m).1) ∧ isPl w' b s (plText s a e m).2.1 (plText s a e m).2.2 ∧ Off b w w' := by
  have c0 := fun w h => num_any_law b s a e 2 w hs ha h
  have hn := plNum_lt s a e 2
  have hz := plNum_le s a e 2 ha
  unfold plText plTextE
  obtain ⟨n, a1, e1, hst⟩ : ∃ n a1 e1, plNum s a e 2 = (n, a1, e1) := ⟨_, _, _, rfl⟩
  rw [hst] at c0 hn hz ⊢
  dsimp only at c0 hn hz ⊢
  have C0 : Hid _ := c0
  clear c0 hst
  by_cases hc : e1 = 0 ∧ m < n
  · rw [if_pos hc]
    obtain ⟨rfl, hm⟩ := hc
    have C2 : Hid _ := fun w h => raw_any b s a1 3 n w hs hz h
    go_enter Try.func25, Try.ntmps25
    go_wp2_with (first | (go_at_call 24; refine (C0.out _ h).mono ?_; rintro e w1 ⟨rfl, h1, o1⟩; have hc2 := h1.c2; have hf := h1.f) | (go_at_call 23; refine (C2.out _ (h1.set2 _)).mono ?_; rintro e w3 ⟨rfl, h3, o3⟩))
    go_ret
    exact ⟨rfl, h3, (o1.setCell _ _).trans o3⟩
  · rw [if_neg hc]
    have C2 : Hid _ := fun w h => raw_any b s a1 e1 n w hs hz h
    by_cases he : e1 = 0
    · have hm : ¬ m < n := fun x => hc ⟨he, x⟩
      subst he
      clear hc
      go_enter Try.func25, Try.ntmps25
      go_wp2_with (first | (go_at_call 24; refine (C0.out _ h).mono ?_; rintro e w1 ⟨rfl, h1, o1⟩; have hc2 := h1.c2; have hf := h1.f) | (go_at_call 23; refine (C2.out _ h1).mono ?_; rintro e w3 ⟨rfl, h3, o3⟩))
      go_ret
      exact ⟨rfl, h3, o1.trans o3⟩
    · have he' : (e1 == 0) = false := by simpa using he
      clear hc
      go_enter Try.func25, Try.ntmps25
      go_wp2_with (first | (go_at_call 24; refine (C0.out _ h).mono ?_; rintro e w1 ⟨rfl, h1, o1⟩; have hc2 := h1.c2; have hf := h1.f) | (go_at_call 23; refine (C2.out _ h1).mono ?_; rintro e w3 ⟨rfl, h3, o3⟩))
      go_ret
      exact ⟨rfl, h3, o1.trans o3⟩
end Go.Proofs.Ytdgdbfodcccmcaa
