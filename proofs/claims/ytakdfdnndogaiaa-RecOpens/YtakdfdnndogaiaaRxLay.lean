/- What a writer has behind the parts of a record: layPlaces, layImages, layTable, layChange. -/
import Derived.Test.YtakdfdnndogaiaaRxVal
import Derived.Deep.RegionHeld3
namespace Go.Proofs.Ytakdfdnndogaiaa
open Go.RowKit
set_option linter.unusedVariables false
set_option linter.unusedSimpArgs false
set_option maxRecDepth 100000

/-- The writer in block b has laid A.1, or bears the error A.2. -/
structure WrS (w : World) (b : Nat) (A : ByteArray × Int) (j : Nat) : Prop where
  wr : Pk.WrIs w b A.1 A.2
  sz : A.1.size ≤ j
section
variable {w w' : World} {b j : Nat} {A : ByteArray × Int}
theorem WrS.lt (h : WrS w b A j) : b < w.heap.size := h.wr.lt
theorem WrS.below (h : WrS w b A j) (hb : Below w.heap.size w w') : WrS w' b A j := ⟨h.wr.below hb, h.sz⟩
theorem WrS.num (h : WrS w b A j) (hj : j ≤ 10000000000000) (n k : Int) : Calls Try.prog 55 #[.pointer (some ⟨b, 0, none⟩), .int .i64 n, .int .i64 k] w fun r w' => r = .returned (.tuple #[]) ∧ WrS w' b (stepW A n k) (j + 6) ∧ Pk.Off b w w' := by
  have hz := h.sz
  refine (Pk.WNum_any b A.1 A.2 n k w h.wr (by omega)).mono ?_
  rintro e w'' ⟨he, hw, ho⟩
  exact ⟨he, ⟨hw, by have := stepW_size A n k; omega⟩, ho⟩
theorem WrS.text (h : WrS w b A j) (hj : j ≤ 10000000000000) (t : ByteArray) (ht : t.size ≤ 140737488351232) : Calls Try.prog 68 #[.pointer (some ⟨b, 0, none⟩), .string t] w fun r w' => r = .returned (.tuple #[]) ∧ WrS w' b (stepT A t) (j + 65537) ∧ Pk.Off b w w' := by
  have hz := h.sz
  refine (Pk.WText_any b A.1 A.2 t w h.wr (by omega) ht).mono ?_
  rintro e w'' ⟨he, hw, ho⟩
  exact ⟨he, ⟨hw, by have := stepT_size A t; omega⟩, ho⟩
theorem keep_new {o : Obj} (ho : Pk.Off b (w.alloc o) w') (hb : b < w.heap.size) : w'.heap[w.heap.size]? = some o := by
  have := ho.block w.heap.size (by simp) (by omega)
  rw [this]
  exact (MapKept.heap_alloc w o).1
def ints (ps : List Int) : Array Value := (ps.map fun p => .int .i64 p).toArray
theorem ints_at {g : Nat} {ps : List Int} (h : w.heap[g]? = some (.cells (ints ps) 3)) {i : Nat} (hi : i < ps.length) : w.cell? ⟨g, i, none⟩ = some (.int .i64 ps[i]) := by
  rw [Joins.cell_of_block h]
  simp [ints, hi]
set_option maxHeartbeats 400000 in
theorem layPlaces_any (h : WrS w b A j) (hj : j ≤ 1000000000000) {g n : Nat} (ps : List Int) (hg : w.heap[g]? = some (.cells (ints ps) 3)) (hgb : g ≠ b) (hn : ps.length = n) (h3 : n ≤ 3) :
    Calls Try.prog 57 #[.pointer (some ⟨b, 0, none⟩), .slice (some ⟨g, 0, none⟩) n n] w fun r w' => r = .returned (.tuple #[]) ∧ WrS w' b (layP ps A) (j + 6 * n) ∧ Pk.Off b w w' := by
  have hgl : g < w.heap.size := (Array.getElem?_eq_some_iff.1 hg).1
  go_enter Try.func57, Try.ntmps57
  go_wp2
  go_loopw [8] (fun ix wr => ∃ i : Nat, i ≤ n ∧ ix = .int .i64 (i : Int) ∧ WrS wr b (layP (ps.take i) A) (j + 6 * i) ∧ Pk.Off b w wr) (fun ix _ => n - (intOf ix).toNat)
  case atStart => exact ⟨0, Nat.zero_le _, rfl, h, Pk.Off.refl _ _⟩
  case round =>
    obtain ⟨i, hi, rfl, hw, ho⟩ := hrel
    by_cases hlt : i < n
    · have hc := ints_at ((ho.block g hgl hgb).trans hg) (i := i) (by omega)
      have hs : layP (ps.take (i + 1)) A = stepW (layP (ps.take i) A) (ps[i]'(by omega)) 6 := by
        rw [List.take_succ_eq_append_getElem (by omega), layP_snoc]
      have HS : Hid _ := hs
      have hi2 : (i : Int) < (n : Int) := by omega
      have HO : Hid (Pk.Off b w wr) := ho
      clear hs h hg ho
      generalize ps[i]'(by omega) = p at *
      go_wp2_with (go_at_call 55; refine (hw.num (by omega) _ _).mono ?_; rintro e w1 ⟨rfl, h1, o1⟩)
      go_roundw
      case rel =>
        refine ⟨i + 1, by omega, by go_num, ?_, HO.out.trans o1⟩
        rw [HS.out]
        exact h1
      case measure => simp [intOf]; omega
    · have hin : i = n := by omega
      subst hin
      have hi2 : ¬ (i : Int) < (i : Int) := by omega
      go_wp2
      go_end0
      rw [List.take_of_length_le (by omega)] at hw
      exact ⟨rfl, hw, ho⟩
set_option maxHeartbeats 400000 in
theorem layImages_any (h : WrS w b A j) (hj : j ≤ 100000000000) {a : Option Addr} {n c : Nat} (l : List Im) (hl : l.length = n) (hn : n ≤ 1000) (hcs : Cs w a (encI l)) (hne : l ≠ [] → ∀ b' off, a = some ⟨b', off, none⟩ → b' ≠ b) (ht : ∀ p ∈ l, p.2.size ≤ 1000) :
    Calls Try.prog 56 #[.pointer (some ⟨b, 0, none⟩), .slice a n c] w fun r w' => r = .returned (.tuple #[]) ∧ WrS w' b (layI l (stepW A n 1)) (j + 6 + 65543 * n) ∧ Pk.Off b w w' := by
  go_enter Try.func56, Try.ntmps56
  go_wp2_with (go_at_call 55; refine (h.num (by omega) _ _).mono ?_; rintro e w1 ⟨rfl, h1, o1⟩)
  go_loopw [12] (fun ix wr => ∃ i : Nat, i ≤ n ∧ ix = .int .i64 (i : Int) ∧ WrS wr b (layI (l.take i) (stepW A n 1)) (j + 6 + 65543 * i) ∧ Pk.Off b w wr) (fun ix _ => n - (intOf ix).toNat)
  case atStart => exact ⟨0, Nat.zero_le _, rfl, h1, o1⟩
  case round =>
    obtain ⟨i, hi, rfl, hw, ho⟩ := hrel
    by_cases hlt : i < n
    · obtain ⟨b', off, rfl, hb', HC⟩ := csI_at (hcs.off ho (hne (List.length_pos_iff.1 (by omega)))) (i := i) (by omega)
      obtain ⟨q0, q1⟩ := HC wr (Below.refl _ _)
      have hs : layI (l.take (i + 1)) (stepW A n 1) = stepT (stepW (layI (l.take i) (stepW A n 1)) (l[i]'(by omega)).1 2) (l[i]'(by omega)).2 := by
        rw [List.take_succ_eq_append_getElem (by omega), layI_snoc]
      have hz1 : (l[i]'(by omega)).2.size ≤ 140737488351232 := Nat.le_trans (ht (l[i]'(by omega)) (List.getElem_mem _)) (by omega)
      have HS : Hid _ := hs
      have hi2 : (i : Int) < (n : Int) := by omega
      have HO : Hid (Pk.Off b w wr) := ho
      have hbl := hw.lt
      clear hs h ho HC h1 o1 hcs ht
      generalize l[i]'(by omega) = p at *
      obtain ⟨p, t⟩ := p
      dsimp only at q0 q1 hz1 HS
      go_wp2_with (first
        | (go_at_call 55; refine ((hw.below ((Below.refl _ _).alloc (Nat.le_refl _) _)).num (by omega) _ _).mono ?_; rintro e w2 ⟨rfl, h2, o2⟩; have k1 := Joins.cell_of_block (keep_new o2 hbl) 1; have HO2 : Hid (Pk.Off b w w2) := (HO.out.alloc _).trans o2)
        | (go_at_call 68; refine (h2.text (by omega) _ hz1).mono ?_; rintro e w3 ⟨rfl, h3, o3⟩))
      go_roundw
      case rel =>
        refine ⟨i + 1, by omega, by go_num, ?_, HO2.out.trans o3⟩
        rw [HS.out]
        exact ⟨h3.wr, Nat.le_trans h3.sz (by omega)⟩
      case measure => simp [intOf]; omega
    · have hin : i = n := by omega
      subst hin
      have hi2 : ¬ (i : Int) < (i : Int) := by omega
      go_wp2
      go_end0
      rw [List.take_of_length_le (by omega)] at hw
      exact ⟨rfl, hw, ho⟩
set_option maxHeartbeats 400000 in
theorem layTable_any (h : WrS w b A j) (hj : j ≤ 100000000000) {a : Option Addr} {n c : Nat} (l : List Tb) (hl : l.length = n) (hn : n ≤ 1000) (hcs : Cs w a (encT l)) (hne : l ≠ [] → ∀ b' off, a = some ⟨b', off, none⟩ → b' ≠ b) :
    Calls Try.prog 59 #[.pointer (some ⟨b, 0, none⟩), .slice a n c] w fun r w' => r = .returned (.tuple #[]) ∧ WrS w' b (layB l (stepW A n 1)) (j + 6 + 12 * n) ∧ Pk.Off b w w' := by
  go_enter Try.func59, Try.ntmps59
  go_wp2_with (go_at_call 55; refine (h.num (by omega) _ _).mono ?_; rintro e w1 ⟨rfl, h1, o1⟩)
  go_loopw [12] (fun ix wr => ∃ i : Nat, i ≤ n ∧ ix = .int .i64 (i : Int) ∧ WrS wr b (layB (l.take i) (stepW A n 1)) (j + 6 + 12 * i) ∧ Pk.Off b w wr) (fun ix _ => n - (intOf ix).toNat)
  case atStart => exact ⟨0, Nat.zero_le _, rfl, h1, o1⟩
  case round =>
    obtain ⟨i, hi, rfl, hw, ho⟩ := hrel
    by_cases hlt : i < n
    · obtain ⟨b', off, rfl, hb', HC⟩ := csT_at (hcs.off ho (hne (List.length_pos_iff.1 (by omega)))) (i := i) (by omega)
      obtain ⟨q0, q1⟩ := HC wr (Below.refl _ _)
      have hs : layB (l.take (i + 1)) (stepW A n 1) = layP [(l[i]'(by omega)).1, (l[i]'(by omega)).2] (layB (l.take i) (stepW A n 1)) := by
        rw [List.take_succ_eq_append_getElem (by omega), layB_snoc]; rfl
      have HS : Hid _ := hs
      have hi2 : (i : Int) < (n : Int) := by omega
      have HO : Hid (Pk.Off b w wr) := ho
      have hbl := hw.lt
      clear hs h ho HC h1 o1 hcs
      generalize l[i]'(by omega) = p at *
      obtain ⟨p, t⟩ := p
      dsimp only at q0 q1 HS
      have CP : Hid (∀ w2, w2 = (wr.alloc (.cells #[.int .i64 p, .int .i64 t] 55)).alloc (.cells #[.int .i64 p, .int .i64 t] 3) → Calls Try.prog 57 #[.pointer (some ⟨b, 0, none⟩), .slice (some ⟨wr.heap.size + 1, 0, none⟩) 2 2] w2 fun r w' => r = .returned (.tuple #[]) ∧ WrS w' b (layP [p, t] (layB (l.take i) (stepW A n 1))) (j + 6 + 12 * i + 12) ∧ Pk.Off b wr w') := fun w2 h2 => by
        have hb2 : Below wr.heap.size wr w2 := by subst h2; exact ((Below.refl _ _).alloc (Nat.le_refl _) _).alloc (by simp) _
        have hg : w2.heap[wr.heap.size + 1]? = some (.cells (ints [p, t]) 3) := by
          subst h2
          have := (MapKept.heap_alloc (wr.alloc (.cells #[.int .i64 p, .int .i64 t] 55)) (.cells #[.int .i64 p, .int .i64 t] 3)).1
          simpa [ints] using this
        refine (layPlaces_any (n := 2) (hw.below hb2) (by omega) [p, t] hg (by omega) rfl (by omega)).mono ?_
        rintro e w3 ⟨he, h3, o3⟩
        exact ⟨he, h3, (Pk.Off.of_below hb2).trans o3⟩
      go_wp2_with (go_at_call 57; refine (CP.out _ rfl).mono ?_; rintro e w3 ⟨rfl, h3, o3⟩)
      go_roundw
      case rel =>
        refine ⟨i + 1, by omega, by go_num, ?_, HO.out.trans o3⟩
        rw [HS.out]
        exact ⟨h3.wr, Nat.le_trans h3.sz (by omega)⟩
      case measure => simp [intOf]; omega
    · have hin : i = n := by omega
      subst hin
      have hi2 : ¬ (i : Int) < (i : Int) := by omega
      go_wp2
      go_end0
      rw [List.take_of_length_le (by omega)] at hw
      exact ⟨rfl, hw, ho⟩
end
end Go.Proofs.Ytakdfdnndogaiaa
