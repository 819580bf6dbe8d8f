/- What a writer has behind the parts of a record: layPlaces, layImages, layTable, layChange. What a writer has behind a change: layChange. Why a record has no bytes: areWhole, tooLong, isFormed, refusal. Why a record has no bytes: refusal. A record's bytes as they are laid: laid, body, Frame. -/
import Derived.Test.YtgodjnbbocnckaaGreatMag
import Derived.Deep.RegionHeld3
import Derived.Test.YtgodjnbbocnckaaGreatMai
namespace Go.Proofs.YtgodjnbbocnckaaGreat
open Go.RowKit
set_option linter.unusedVariables false
set_option linter.unusedSimpArgs false
set_option maxRecDepth 100000

/-- The writer in block b has laid A.1, or bears the error A.2. -/
structure WrS (w : World) (b : Nat) (A : ByteArray × Int) (j : Nat) : Prop where
  wr : Pk.WrIs w b A.1 A.2
  sz : A.1.size ≤ j
section
variable {w w' : World} {b j : Nat} {A : ByteArray × Int}
theorem WrS.lt (h : WrS w b A j) : b < w.heap.size := h.wr.lt
theorem WrS.below (h : WrS w b A j) (hb : Below w.heap.size w w') : WrS w' b A j := ⟨h.wr.below hb, h.sz⟩
theorem WrS.num (h : WrS w b A j) (hj : j ≤ 10000000000000) (n k : Int) : Calls Tryz.prog 147 #[.pointer (some ⟨b, 0, none⟩), .int .i64 n, .int .i64 k] w fun r w' => r = .returned (.tuple #[]) ∧ WrS w' b (stepW A n k) (j + 6) ∧ Pk.Off b w w' := by
  have hz := h.sz
  refine (Pk.WNum_any b A.1 A.2 n k w h.wr (by omega)).mono ?_
  rintro e w'' ⟨he, hw, ho⟩
  exact ⟨he, ⟨hw, by have := stepW_size A n k; omega⟩, ho⟩
theorem WrS.text (h : WrS w b A j) (hj : j ≤ 10000000000000) (t : ByteArray) (ht : t.size ≤ 140737488351232) : Calls Tryz.prog 165 #[.pointer (some ⟨b, 0, none⟩), .string t] w fun r w' => r = .returned (.tuple #[]) ∧ WrS w' b (stepT A t) (j + 65537) ∧ Pk.Off b w w' := by
  have hz := h.sz
  refine (Pk.WText_any b A.1 A.2 t w h.wr (by omega) ht).mono ?_
  rintro e w'' ⟨he, hw, ho⟩
  exact ⟨he, ⟨hw, by have := stepT_size A t; omega⟩, ho⟩
theorem keep_new {o : Obj} (ho : Pk.Off b (w.alloc o) w') (hb : b < w.heap.size) : w'.heap[w.heap.size]? = some o := by
  have := ho.block w.heap.size (by simp) (by omega)
  rw [this]
  exact (MapKept.heap_alloc w o).1
def ints (ps : List Int) : Array Value := (ps.map fun p => .int .i64 p).toArray
theorem ints_at {g : Nat} {ps : List Int} (h : w.heap[g]? = some (.cells (ints ps) 3)) {i : Nat} (hi : i < ps.length) : w.cell? ⟨g, i, none⟩ = some (.int .i64 ps[i]) := by
  rw [Joins.cell_of_block h]
  simp [ints, hi]
set_option maxHeartbeats 400000 in
theorem layPlaces_any (h : WrS w b A j) (hj : j ≤ 1000000000000) {g n : Nat} (ps : List Int) (hg : w.heap[g]? = some (.cells (ints ps) 3)) (hgb : g ≠ b) (hn : ps.length = n) (h3 : n ≤ 3) :
    Calls Tryz.prog 149 #[.pointer (some ⟨b, 0, none⟩), .slice (some ⟨g, 0, none⟩) n n] w fun r w' => r = .returned (.tuple #[]) ∧ WrS w' b (layP ps A) (j + 6 * n) ∧ Pk.Off b w w' := by
  have hgl : g < w.heap.size := (Array.getElem?_eq_some_iff.1 hg).1
  go_enter Tryz.func149, Tryz.ntmps149
  go_wp2
  go_loopw [8] (fun ix wr => ∃ i : Nat, i ≤ n ∧ ix = .int .i64 (i : Int) ∧ WrS wr b (layP (ps.take i) A) (j + 6 * i) ∧ Pk.Off b w wr) (fun ix _ => n - (intOf ix).toNat)
  case atStart => exact ⟨0, Nat.zero_le _, rfl, h, Pk.Off.refl _ _⟩
  case round =>
    obtain ⟨i, hi, rfl, hw, ho⟩ := hrel
    by_cases hlt : i < n
    · have hc := ints_at ((ho.block g hgl hgb).trans hg) (i := i) (by omega)
      have hs : layP (ps.take (i + 1)) A = stepW (layP (ps.take i) A) (ps[i]'(by omega)) 6 := by
        rw [List.take_succ_eq_append_getElem (by omega), layP_snoc]
      have HS : Hid _ := hs
      have hi2 : (i : Int) < (n : Int) := by omega
      have HO : Hid (Pk.Off b w wr) := ho
      clear hs h hg ho
      generalize ps[i]'(by omega) = p at *
      go_wp2_with (go_at_call 147; refine (hw.num (by omega) _ _).mono ?_; rintro e w1 ⟨rfl, h1, o1⟩)
      go_roundw
      case rel =>
        refine ⟨i + 1, by omega, by go_num, ?_, HO.out.trans o1⟩
        rw [HS.out]
        exact h1
      case measure => simp [intOf]; omega
    · have hin : i = n := by omega
      subst hin
      have hi2 : ¬ (i : Int) < (i : Int) := by omega
      go_wp2
      go_end0
      rw [List.take_of_length_le (by omega)] at hw
      exact ⟨rfl, hw, ho⟩
set_option maxHeartbeats 400000 in
theorem layImages_any (h : WrS w b A j) (hj : j ≤ 100000000000) {a : Option Addr} {n c : Nat} (l : List Im) (hl : l.length = n) (hn : n ≤ 1000) (hcs : Cs w a (encI l)) (hne : l ≠ [] → ∀ b' off, a = some ⟨b', off, none⟩ → b' ≠ b) (ht : ∀ p ∈ l, p.2.size ≤ 1000) :
    Calls Tryz.prog 148 #[.pointer (some ⟨b, 0, none⟩), .slice a n c] w fun r w' => r = .returned (.tuple #[]) ∧ WrS w' b (layI l (stepW A n 1)) (j + 6 + 65543 * n) ∧ Pk.Off b w w' := by
  go_enter Tryz.func148, Tryz.ntmps148
  go_wp2_with (go_at_call 147; refine (h.num (by omega) _ _).mono ?_; rintro e w1 ⟨rfl, h1, o1⟩)
  go_loopw [12] (fun ix wr => ∃ i : Nat, i ≤ n ∧ ix = .int .i64 (i : Int) ∧ WrS wr b (layI (l.take i) (stepW A n 1)) (j + 6 + 65543 * i) ∧ Pk.Off b w wr) (fun ix _ => n - (intOf ix).toNat)
  case atStart => exact ⟨0, Nat.zero_le _, rfl, h1, o1⟩
  case round =>
    obtain ⟨i, hi, rfl, hw, ho⟩ := hrel
    by_cases hlt : i < n
    · obtain ⟨b', off, rfl, hb', HC⟩ := csI_at (hcs.off ho (hne (List.length_pos_iff.1 (by omega)))) (i := i) (by omega)
      obtain ⟨q0, q1⟩ := HC wr (Below.refl _ _)
      have hs : layI (l.take (i + 1)) (stepW A n 1) = stepT (stepW (layI (l.take i) (stepW A n 1)) (l[i]'(by omega)).1 2) (l[i]'(by omega)).2 := by
        rw [List.take_succ_eq_append_getElem (by omega), layI_snoc]
      have hz1 : (l[i]'(by omega)).2.size ≤ 140737488351232 := Nat.le_trans (ht (l[i]'(by omega)) (List.getElem_mem _)) (by omega)
      have HS : Hid _ := hs
      have hi2 : (i : Int) < (n : Int) := by omega
      have HO : Hid (Pk.Off b w wr) := ho
      have hbl := hw.lt
      clear hs h ho HC h1 o1 hcs ht
      generalize l[i]'(by omega) = p at *
      obtain ⟨p, t⟩ := p
      dsimp only at q0 q1 hz1 HS
      go_wp2_with (first
        | (go_at_call 147; refine ((hw.below ((Below.refl _ _).alloc (Nat.le_refl _) _)).num (by omega) _ _).mono ?_; rintro e w2 ⟨rfl, h2, o2⟩; have k1 := Joins.cell_of_block (keep_new o2 hbl) 1; have HO2 : Hid (Pk.Off b w w2) := (HO.out.alloc _).trans o2)
        | (go_at_call 165; refine (h2.text (by omega) _ hz1).mono ?_; rintro e w3 ⟨rfl, h3, o3⟩))
      go_roundw
      case rel =>
        refine ⟨i + 1, by omega, by go_num, ?_, HO2.out.trans o3⟩
        rw [HS.out]
        exact ⟨h3.wr, Nat.le_trans h3.sz (by omega)⟩
      case measure => simp [intOf]; omega
    · have hin : i = n := by omega
      subst hin
      have hi2 : ¬ (i : Int) < (i : Int) := by omega
      go_wp2
      go_end0
      rw [List.take_of_length_le (by omega)] at hw
      exact ⟨rfl, hw, ho⟩
set_option maxHeartbeats 400000 in
theorem layTable_any (h : WrS w b A j) (hj : j ≤ 100000000000) {a : Option Addr} {n c : Nat} (l : List Tb) (hl : l.length = n) (hn : n ≤ 1000) (hcs : Cs w a (encT l)) (hne : l ≠ [] → ∀ b' off, a = some ⟨b', off, none⟩ → b' ≠ b) :
    Calls Tryz.prog 151 #[.pointer (some ⟨b, 0, none⟩), .slice a n c] w fun r w' => r = .returned (.tuple #[]) ∧ WrS w' b (layB l (stepW A n 1)) (j + 6 + 12 * n) ∧ Pk.Off b w w' := by
  go_enter Tryz.func151, Tryz.ntmps151
  go_wp2_with (go_at_call 147; refine (h.num (by omega) _ _).mono ?_; rintro e w1 ⟨rfl, h1, o1⟩)
  go_loopw [12] (fun ix wr => ∃ i : Nat, i ≤ n ∧ ix = .int .i64 (i : Int) ∧ WrS wr b (layB (l.take i) (stepW A n 1)) (j + 6 + 12 * i) ∧ Pk.Off b w wr) (fun ix _ => n - (intOf ix).toNat)
  case atStart => exact ⟨0, Nat.zero_le _, rfl, h1, o1⟩
  case round =>
    obtain ⟨i, hi, rfl, hw, ho⟩ := hrel
    by_cases hlt : i < n
    · obtain ⟨b', off, rfl, hb', HC⟩ := csT_at (hcs.off ho (hne (List.length_pos_iff.1 (by omega)))) (i := i) (by omega)
      obtain ⟨q0, q1⟩ := HC wr (Below.refl _ _)
      have hs : layB (l.take (i + 1)) (stepW A n 1) = layP [(l[i]'(by omega)).1, (l[i]'(by omega)).2] (layB (l.take i) (stepW A n 1)) := by
        rw [List.take_succ_eq_append_getElem (by omega), layB_snoc]; rfl
      have HS : Hid _ := hs
      have hi2 : (i : Int) < (n : Int) := by omega
      have HO : Hid (Pk.Off b w wr) := ho
      have hbl := hw.lt
      clear hs h ho HC h1 o1 hcs
      generalize l[i]'(by omega) = p at *
      obtain ⟨p, t⟩ := p
      dsimp only at q0 q1 HS
      have CP : Hid (∀ w2, w2 = (wr.alloc (.cells #[.int .i64 p, .int .i64 t] 197)).alloc (.cells #[.int .i64 p, .int .i64 t] 3) → Calls Tryz.prog 149 #[.pointer (some ⟨b, 0, none⟩), .slice (some ⟨wr.heap.size + 1, 0, none⟩) 2 2] w2 fun r w' => r = .returned (.tuple #[]) ∧ WrS w' b (layP [p, t] (layB (l.take i) (stepW A n 1))) (j + 6 + 12 * i + 12) ∧ Pk.Off b wr w') := fun w2 h2 => by
        have hb2 : Below wr.heap.size wr w2 := by subst h2; exact ((Below.refl _ _).alloc (Nat.le_refl _) _).alloc (by simp) _
        have hg : w2.heap[wr.heap.size + 1]? = some (.cells (ints [p, t]) 3) := by
          subst h2
          have := (MapKept.heap_alloc (wr.alloc (.cells #[.int .i64 p, .int .i64 t] 197)) (.cells #[.int .i64 p, .int .i64 t] 3)).1
          simpa [ints] using this
        refine (layPlaces_any (n := 2) (hw.below hb2) (by omega) [p, t] hg (by omega) rfl (by omega)).mono ?_
        rintro e w3 ⟨he, h3, o3⟩
        exact ⟨he, h3, (Pk.Off.of_below hb2).trans o3⟩
      go_wp2_with (go_at_call 149; refine (CP.out _ rfl).mono ?_; rintro e w3 ⟨rfl, h3, o3⟩)
      go_roundw
      case rel =>
        refine ⟨i + 1, by omega, by go_num, ?_, HO.out.trans o3⟩
        rw [HS.out]
        exact ⟨h3.wr, Nat.le_trans h3.sz (by omega)⟩
      case measure => simp [intOf]; omega
    · have hin : i = n := by omega
      subst hin
      have hi2 : ¬ (i : Int) < (i : Int) := by omega
      go_wp2
      go_end0
      rw [List.take_of_length_le (by omega)] at hw
      exact ⟨rfl, hw, ho⟩
end
end Go.Proofs.YtgodjnbbocnckaaGreat

namespace Go.Proofs.YtgodjnbbocnckaaGreat
open Go.RowKit
set_option linter.unusedVariables false
set_option linter.unusedSimpArgs false
set_option maxRecDepth 100000

/-- A record in block b0 beside a writer in block b. -/
structure LdS (w wx : World) (b0 b : Nat) (s : Sc) (I T : Value) (A : ByteArray × Int) (j : Nat) : Prop where
  rc : RcAt wx b0 s I T
  wS : WrS wx b A j
  ne : b0 ≠ b
  off : Pk.Off b w wx
section
variable {w wr wq : World} {b0 b j j' : Nat} {s : Sc} {I T : Value} {A A' : ByteArray × Int}
theorem LdS.step (h : LdS w wr b0 b s I T A j) (h' : WrS wq b A' j') (o : Pk.Off b wr wq) : LdS w wq b0 b s I T A' j' := ⟨h.rc.off o h.ne, h', h.ne, h.off.trans o⟩
theorem LdS.below (h : LdS w wr b0 b s I T A j) (hb : Below wr.heap.size wr wq) : LdS w wq b0 b s I T A j := ⟨h.rc.below hb, h.wS.below hb, h.ne, h.off.trans (Pk.Off.of_below hb)⟩
theorem LdS.num (h : LdS w wr b0 b s I T A j) (hj : j ≤ 1000000000000) (n k : Int) : Calls Tryz.prog 147 #[.pointer (some ⟨b, 0, none⟩), .int .i64 n, .int .i64 k] wr fun r w' => r = .returned (.tuple #[]) ∧ LdS w w' b0 b s I T (stepW A n k) (j + 6) :=
  (h.wS.num (by omega) n k).mono fun e w' ⟨he, h1, o1⟩ => ⟨he, h.step h1 o1⟩
theorem LdS.text (h : LdS w wr b0 b s I T A j) (hj : j ≤ 1000000000000) (t : ByteArray) (ht : t.size ≤ 140737488351232) : Calls Tryz.prog 165 #[.pointer (some ⟨b, 0, none⟩), .string t] wr fun r w' => r = .returned (.tuple #[]) ∧ LdS w w' b0 b s I T (stepT A t) (j + 65537) :=
  (h.wS.text (by omega) t ht).mono fun e w' ⟨he, h1, o1⟩ => ⟨he, h.step h1 o1⟩
/-- The same, and the pointers to the values in block g. -/
structure LvS (w wx : World) (b0 b : Nat) (s : Sc) (I T : Value) (A : ByteArray × Int) (j g : Nat) (P : Array Value) : Prop where
  ld : LdS w wx b0 b s I T A j
  pg : wx.heap[g]? = some (.cells P 195)
  ne : g ≠ b
theorem LvS.text {g : Nat} {P : Array Value} (h : LvS w wr b0 b s I T A j g P) (hj : j ≤ 1000000000000) (t : ByteArray) (ht : t.size ≤ 140737488351232) : Calls Tryz.prog 165 #[.pointer (some ⟨b, 0, none⟩), .string t] wr fun r w' => r = .returned (.tuple #[]) ∧ LvS w w' b0 b s I T (stepT A t) (j + 65537) g P :=
  (h.ld.wS.text (by omega) t ht).mono fun e w' ⟨he, h1, o1⟩ => ⟨he, h.ld.step h1 o1, (o1.block g (Array.getElem?_eq_some_iff.1 h.pg).1 h.ne).trans h.pg, h.ne⟩
end
section
variable {w : World} {b j : Nat} {s : Sc} {I T : Value} {A : ByteArray × Int}
set_option maxHeartbeats 1000000 in
theorem layChange_3 (h : WrS w b A j) (hj : j ≤ 100000000000) (ha : actOf s = 3) (hk : s.ky.size ≤ 1000) (ho : s.ol.size ≤ 1000) (hw : s.nw.size ≤ 1000) :
    Calls Tryz.prog 150 #[.pointer (some ⟨b, 0, none⟩), .agg (s.A I T)] w fun r w' => r = .returned (.tuple #[]) ∧ WrS w' b (stepT (stepT (stepW A s.pg 2) s.ky) s.nw) (j + 300000) ∧ Pk.Off b w w' := by
  have hk' : s.ky.size ≤ 140737488351232 := by omega
  have ho' : s.ol.size ≤ 140737488351232 := by omega
  have hw' : s.nw.size ≤ 140737488351232 := by omega
  have hbl := h.lt
  have CV : Hid (∀ wr A' j', LdS w wr w.heap.size b s I T A' j' → Calls Tryz.prog 144 #[.pointer (some ⟨w.heap.size, 0, none⟩)] wr fun e w' => ∃ g, e = .returned (.slice (some ⟨g, 0, none⟩) 1 1) ∧ LvS w w' w.heap.size b s I T A' j' g #[.pointer (some ⟨w.heap.size, 7, none⟩)]) := fun wr A' j' H => by
    refine (values_3 H.rc ha).mono ?_
    rintro e w' ⟨he, hw'⟩
    refine ⟨wr.heap.size, he, ?_⟩
    subst hw'
    refine ⟨H.below ((Below.refl _ _).alloc (Nat.le_refl _) _), (MapKept.heap_alloc wr _).1, by have := H.wS.lt; omega⟩
  clear hk ho hw
  go_enter Tryz.func150, Tryz.ntmps150
  go_wp2_with (first
    | (refine wpList_box_rc (s := s) (I := I) (T := T) _ rfl _ rfl rfl ?_; intro w0 b0 N0; obtain rfl := N0.eq; have L : LdS w w0 w.heap.size b s I T A j := ⟨N0.rc, h.below N0.below, (fun e => absurd e (by omega)), Pk.Off.of_below N0.below⟩; clear N0; have k3 := L.rc.c3; have k5 := L.rc.c5)
    | (go_at_call 147; refine (L.num (by omega) _ _).mono ?_; clear L; rintro e w2 ⟨rfl, L⟩; have k5 := L.rc.c5)
    | (go_at_call 165; refine (L.text (by omega) _ hk').mono ?_; clear L; rintro e w3 ⟨rfl, L⟩)
    | (go_at_call 144; refine (CV.out _ _ _ L).mono ?_; clear L; rintro e w4 ⟨g, rfl, LV⟩; have f7 := LV.ld.rc.c7; have g0 := Joins.cell_of_block LV.pg 0; simp only [List.getElem?_toArray, List.getElem?_cons_zero, List.getElem?_cons_succ] at g0))
  refine wp_loop_rounds 2 ?_
  rw [rounds_succ]
  go_wp2_with (go_at_call 165; refine (LV.text (by omega) _ (by assumption)).mono ?_; clear LV; rintro e w4 ⟨rfl, LV⟩; have f7 := LV.ld.rc.c7; have g0 := Joins.cell_of_block LV.pg 0; simp only [List.getElem?_toArray, List.getElem?_cons_zero, List.getElem?_cons_succ] at g0)
  rw [rounds_succ]
  go_wp2
  go_end0
  exact ⟨rfl, ⟨LV.ld.wS.wr, Nat.le_trans LV.ld.wS.sz (by omega)⟩, LV.ld.off⟩
set_option maxHeartbeats 1000000 in
theorem layChange_4 (h : WrS w b A j) (hj : j ≤ 100000000000) (ha : actOf s = 4) (hk : s.ky.size ≤ 1000) (ho : s.ol.size ≤ 1000) (hw : s.nw.size ≤ 1000) :
    Calls Tryz.prog 150 #[.pointer (some ⟨b, 0, none⟩), .agg (s.A I T)] w fun r w' => r = .returned (.tuple #[]) ∧ WrS w' b (stepT (stepT (stepW A s.pg 2) s.ky) s.ol) (j + 300000) ∧ Pk.Off b w w' := by
  have hk' : s.ky.size ≤ 140737488351232 := by omega
  have ho' : s.ol.size ≤ 140737488351232 := by omega
  have hw' : s.nw.size ≤ 140737488351232 := by omega
  have hbl := h.lt
  have CV : Hid (∀ wr A' j', LdS w wr w.heap.size b s I T A' j' → Calls Tryz.prog 144 #[.pointer (some ⟨w.heap.size, 0, none⟩)] wr fun e w' => ∃ g, e = .returned (.slice (some ⟨g, 0, none⟩) 1 1) ∧ LvS w w' w.heap.size b s I T A' j' g #[.pointer (some ⟨w.heap.size, 6, none⟩)]) := fun wr A' j' H => by
    refine (values_4 H.rc ha).mono ?_
    rintro e w' ⟨he, hw'⟩
    refine ⟨wr.heap.size, he, ?_⟩
    subst hw'
    refine ⟨H.below ((Below.refl _ _).alloc (Nat.le_refl _) _), (MapKept.heap_alloc wr _).1, by have := H.wS.lt; omega⟩
  clear hk ho hw
  go_enter Tryz.func150, Tryz.ntmps150
  go_wp2_with (first
    | (refine wpList_box_rc (s := s) (I := I) (T := T) _ rfl _ rfl rfl ?_; intro w0 b0 N0; obtain rfl := N0.eq; have L : LdS w w0 w.heap.size b s I T A j := ⟨N0.rc, h.below N0.below, (fun e => absurd e (by omega)), Pk.Off.of_below N0.below⟩; clear N0; have k3 := L.rc.c3; have k5 := L.rc.c5)
    | (go_at_call 147; refine (L.num (by omega) _ _).mono ?_; clear L; rintro e w2 ⟨rfl, L⟩; have k5 := L.rc.c5)
    | (go_at_call 165; refine (L.text (by omega) _ hk').mono ?_; clear L; rintro e w3 ⟨rfl, L⟩)
    | (go_at_call 144; refine (CV.out _ _ _ L).mono ?_; clear L; rintro e w4 ⟨g, rfl, LV⟩; have f6 := LV.ld.rc.c6; have g0 := Joins.cell_of_block LV.pg 0; simp only [List.getElem?_toArray, List.getElem?_cons_zero, List.getElem?_cons_succ] at g0))
  refine wp_loop_rounds 2 ?_
  rw [rounds_succ]
  go_wp2_with (go_at_call 165; refine (LV.text (by omega) _ (by assumption)).mono ?_; clear LV; rintro e w4 ⟨rfl, LV⟩; have f6 := LV.ld.rc.c6; have g0 := Joins.cell_of_block LV.pg 0; simp only [List.getElem?_toArray, List.getElem?_cons_zero, List.getElem?_cons_succ] at g0)
  rw [rounds_succ]
  go_wp2
  go_end0
  exact ⟨rfl, ⟨LV.ld.wS.wr, Nat.le_trans LV.ld.wS.sz (by omega)⟩, LV.ld.off⟩
set_option maxHeartbeats 1000000 in
theorem layChange_o (h : WrS w b A j) (hj : j ≤ 100000000000) (h3 : actOf s ≠ 3) (h4 : actOf s ≠ 4) (hk : s.ky.size ≤ 1000) (ho : s.ol.size ≤ 1000) (hw : s.nw.size ≤ 1000) :
    Calls Tryz.prog 150 #[.pointer (some ⟨b, 0, none⟩), .agg (s.A I T)] w fun r w' => r = .returned (.tuple #[]) ∧ WrS w' b (stepT (stepT (stepT (stepW A s.pg 2) s.ky) s.ol) s.nw) (j + 300000) ∧ Pk.Off b w w' := by
  have hk' : s.ky.size ≤ 140737488351232 := by omega
  have ho' : s.ol.size ≤ 140737488351232 := by omega
  have hw' : s.nw.size ≤ 140737488351232 := by omega
  have hbl := h.lt
  have CV : Hid (∀ wr A' j', LdS w wr w.heap.size b s I T A' j' → Calls Tryz.prog 144 #[.pointer (some ⟨w.heap.size, 0, none⟩)] wr fun e w' => ∃ g, e = .returned (.slice (some ⟨g, 0, none⟩) 2 2) ∧ LvS w w' w.heap.size b s I T A' j' g #[.pointer (some ⟨w.heap.size, 6, none⟩), .pointer (some ⟨w.heap.size, 7, none⟩)]) := fun wr A' j' H => by
    refine (values_o H.rc h3 h4).mono ?_
    rintro e w' ⟨he, hw'⟩
    refine ⟨wr.heap.size, he, ?_⟩
    subst hw'
    refine ⟨H.below (((Below.refl _ _).drew).alloc (Nat.le_refl _) _), (MapKept.heap_alloc wr.drew _).1, by have := H.wS.lt; omega⟩
  clear hk ho hw
  go_enter Tryz.func150, Tryz.ntmps150
  go_wp2_with (first
    | (refine wpList_box_rc (s := s) (I := I) (T := T) _ rfl _ rfl rfl ?_; intro w0 b0 N0; obtain rfl := N0.eq; have L : LdS w w0 w.heap.size b s I T A j := ⟨N0.rc, h.below N0.below, (fun e => absurd e (by omega)), Pk.Off.of_below N0.below⟩; clear N0; have k3 := L.rc.c3; have k5 := L.rc.c5)
    | (go_at_call 147; refine (L.num (by omega) _ _).mono ?_; clear L; rintro e w2 ⟨rfl, L⟩; have k5 := L.rc.c5)
    | (go_at_call 165; refine (L.text (by omega) _ hk').mono ?_; clear L; rintro e w3 ⟨rfl, L⟩)
    | (go_at_call 144; refine (CV.out _ _ _ L).mono ?_; clear L; rintro e w4 ⟨g, rfl, LV⟩; have f6 := LV.ld.rc.c6; have f7 := LV.ld.rc.c7; have g0 := Joins.cell_of_block LV.pg 0; simp only [List.getElem?_toArray, List.getElem?_cons_zero, List.getElem?_cons_succ] at g0; have g1 := Joins.cell_of_block LV.pg 1; simp only [List.getElem?_toArray, List.getElem?_cons_zero, List.getElem?_cons_succ] at g1))
  refine wp_loop_rounds 3 ?_
  rw [rounds_succ]
  go_wp2_with (go_at_call 165; refine (LV.text (by omega) _ (by assumption)).mono ?_; clear LV; rintro e w4 ⟨rfl, LV⟩; have f6 := LV.ld.rc.c6; have f7 := LV.ld.rc.c7; have g0 := Joins.cell_of_block LV.pg 0; simp only [List.getElem?_toArray, List.getElem?_cons_zero, List.getElem?_cons_succ] at g0; have g1 := Joins.cell_of_block LV.pg 1; simp only [List.getElem?_toArray, List.getElem?_cons_zero, List.getElem?_cons_succ] at g1)
  rw [rounds_succ]
  go_wp2_with (go_at_call 165; refine (LV.text (by omega) _ (by assumption)).mono ?_; clear LV; rintro e w4 ⟨rfl, LV⟩; have f6 := LV.ld.rc.c6; have f7 := LV.ld.rc.c7; have g0 := Joins.cell_of_block LV.pg 0; simp only [List.getElem?_toArray, List.getElem?_cons_zero, List.getElem?_cons_succ] at g0; have g1 := Joins.cell_of_block LV.pg 1; simp only [List.getElem?_toArray, List.getElem?_cons_zero, List.getElem?_cons_succ] at g1)
  rw [rounds_succ]
  go_wp2
  go_end0
  exact ⟨rfl, ⟨LV.ld.wS.wr, Nat.le_trans LV.ld.wS.sz (by omega)⟩, LV.ld.off⟩
theorem layChange_any (h : WrS w b A j) (hj : j ≤ 100000000000) (hk : s.ky.size ≤ 1000) (ho : s.ol.size ≤ 1000) (hw : s.nw.size ≤ 1000) :
    Calls Tryz.prog 150 #[.pointer (some ⟨b, 0, none⟩), .agg (s.A I T)] w fun r w' => r = .returned (.tuple #[]) ∧ WrS w' b (layC s A) (j + 300000) ∧ Pk.Off b w w' := by
  unfold layC layV
  by_cases h3 : actOf s = 3
  · rw [if_pos h3]
    exact layChange_3 h hj h3 hk ho hw
  · by_cases h4 : actOf s = 4
    · rw [if_neg h3, if_pos h4]
      exact layChange_4 h hj h4 hk ho hw
    · rw [if_neg h3, if_neg h4]
      exact layChange_o h hj h3 h4 hk ho hw
end
end Go.Proofs.YtgodjnbbocnckaaGreat

namespace Go.Proofs.YtgodjnbbocnckaaGreat
open Go.RowKit
set_option linter.unusedVariables false
set_option linter.unusedSimpArgs false
set_option maxRecDepth 100000

theorem whole_take_succ {l : List Im} {i : Nat} (hi : i < l.length) : whole (l.take (i + 1)) = (whole (l.take i) && decide (l[i].2.size = 224)) := by
  rw [List.take_succ_eq_append_getElem hi]; simp only [whole, List.all_append, List.all_cons, List.all_nil, Bool.and_true]
theorem whole_false {l : List Im} {i : Nat} (hi : i < l.length) (h : ¬ l[i].2.size = 224) : whole l = false := by
  unfold whole
  rw [List.all_eq_false]
  exact ⟨l[i], List.getElem_mem hi, by simpa using h⟩
set_option maxHeartbeats 400000 in
theorem areWhole_any {w : World} {a : Option Addr} {n c : Nat} (l : List Im) (hl : l.length = n) (hn : n ≤ 1000) (hcs : Cs w a (encI l)) (ht : ∀ p ∈ l, p.2.size ≤ 9223372036854775807) :
    Calls Tryz.prog 163 #[.slice a n c] w fun r w' => r = .returned (.bool (whole l)) ∧ Below w.heap.size w w' := by
  go_enter Tryz.func163, Tryz.ntmps163
  go_wp2
  go_loopw [7] (fun ix wr => ∃ i : Nat, i ≤ n ∧ ix = .int .i64 (i : Int) ∧ whole (l.take i) = true ∧ Below w.heap.size w wr) (fun ix _ => n - (intOf ix).toNat)
  case atStart => exact ⟨0, Nat.zero_le _, rfl, rfl, Below.refl _ _⟩
  case round =>
    obtain ⟨i, hi, rfl, hw, hb⟩ := hrel
    by_cases hlt : i < n
    · obtain ⟨b', off, rfl, hb', HC⟩ := csI_at hcs (i := i) (by omega)
      obtain ⟨q0, q1⟩ := HC wr hb
      have hz := ht (l[i]'(by omega)) (List.getElem_mem _)
      have hi2 : (i : Int) < (n : Int) := by omega
      have HS : Hid _ := whole_take_succ (l := l) (i := i) (by omega)
      have HF : Hid _ := whole_false (l := l) (i := i) (by omega)
      have HW : Hid (whole (l.take i) = true) := hw
      have HB : Hid (Below w.heap.size w wr) := hb
      clear HC hcs ht hw hb
      generalize l[i]'(by omega) = p at *
      obtain ⟨p, t⟩ := p
      dsimp only at q0 q1 hz HS HF
      by_cases h2 : t.size = 224
      · have e : ((t.size : Int) != 224) = false := by simp [h2]
        go_wp2
        go_roundw
        case rel =>
          refine ⟨i + 1, by omega, by go_num, ?_, HB.out.alloc HB.out.size _⟩
          rw [HS.out, HW.out]; simp [h2]
        case measure => simp [intOf]; omega
      · have e : ((t.size : Int) != 224) = true := by simp; omega
        go_wp2
        go_ret
        rw [HF.out h2]
        exact ⟨rfl, HB.out.alloc HB.out.size _⟩
    · have hin : i = n := by omega
      subst hin
      have hi2 : ¬ (i : Int) < (i : Int) := by omega
      go_wp2
      go_ret
      rw [List.take_of_length_le (by omega)] at hw
      rw [hw]
      exact ⟨rfl, hb⟩
theorem tooLong_1 {w : World} {g : Nat} {t : ByteArray} (m : Int) (hg : w.cell? ⟨g, 0, none⟩ = some (.string t)) (ht : t.size ≤ 9223372036854775807) :
    Calls Tryz.prog 146 #[.int .i64 m, .slice (some ⟨g, 0, none⟩) 1 1] w fun r w' => r = .returned (.bool (decide (m < t.size))) ∧ w' = w := by
  by_cases h : m < (t.size : Int)
  · go_enter Tryz.func146, Tryz.ntmps146
    go_wp2
    refine wp_loop_rounds 2 ?_
    rw [rounds_succ]
    go_wp2
    go_ret
    exact ⟨by simp [h], rfl⟩
  · go_enter Tryz.func146, Tryz.ntmps146
    go_wp2
    refine wp_loop_rounds 2 ?_
    rw [rounds_succ]
    go_wp2
    rw [rounds_succ]
    go_wp2
    go_ret
    exact ⟨by simp [h], rfl⟩
theorem tooLong_2 {w : World} {g : Nat} {t u : ByteArray} (m : Int) (hg : w.cell? ⟨g, 0, none⟩ = some (.string t)) (hg' : w.cell? ⟨g, 1, none⟩ = some (.string u)) (ht : t.size ≤ 9223372036854775807) (hu : u.size ≤ 9223372036854775807) :
    Calls Tryz.prog 146 #[.int .i64 m, .slice (some ⟨g, 0, none⟩) 2 2] w fun r w' => r = .returned (.bool (decide (m < t.size) || decide (m < u.size))) ∧ w' = w := by
  by_cases h : m < (t.size : Int)
  · go_enter Tryz.func146, Tryz.ntmps146
    go_wp2
    refine wp_loop_rounds 3 ?_
    rw [rounds_succ]
    go_wp2
    go_ret
    exact ⟨by simp [h], rfl⟩
  · by_cases h2 : m < (u.size : Int)
    · go_enter Tryz.func146, Tryz.ntmps146
      go_wp2
      refine wp_loop_rounds 3 ?_
      rw [rounds_succ]
      go_wp2
      rw [rounds_succ]
      go_wp2
      go_ret
      exact ⟨by simp [h2], rfl⟩
    · go_enter Tryz.func146, Tryz.ntmps146
      go_wp2
      refine wp_loop_rounds 3 ?_
      rw [rounds_succ]
      go_wp2
      rw [rounds_succ]
      go_wp2
      rw [rounds_succ]
      go_wp2
      go_ret
      exact ⟨by simp [h, h2], rfl⟩
section
variable {w : World} {s : Sc} {T : Value} {a : Option Addr} {c : Nat} {l : List Im} {g : List Tb}
set_option maxHeartbeats 400000 in
theorem isFormed_any (hn : l.length ≤ 1000) (hcs : Cs w a (encI l)) (ht : ∀ p ∈ l, p.2.size ≤ 9223372036854775807) :
    Calls Tryz.prog 145 #[.agg (s.A (.slice a l.length c) T)] w fun r w' => r = .returned (.bool (formed ⟨s, l, g⟩)) ∧ Below w.heap.size w w' := by
  have CW : Hid (∀ w', Below w.heap.size w w' → Calls Tryz.prog 163 #[.slice a l.length c] w' fun r w'' => r = .returned (.bool (whole l)) ∧ Below w'.heap.size w' w'') := fun w' hb => areWhole_any l rfl hn (hcs.below hb) ht
  clear hcs ht
  unfold formed
  dsimp only
  by_cases h1 : s.kd = 1
  · rw [if_pos h1]
    have e1 : (s.kd == 1) = true := by simpa using h1
    by_cases hl : l.length = 1
    · have e2 : ((l.length : Int) == 1) = true := by simp [hl]
      have hd : decide (l.length = 1) = true := by simpa using hl
      rw [hd, Bool.true_and]
      generalize whole l = q at *
      clear h1 hl hd
      go_enter Tryz.func145, Tryz.ntmps145
      go_wp2_with (first
        | (refine wpList_box_rc (s := s) (I := _) (T := _) _ rfl _ rfl rfl ?_; intro w0 b0 N0; have k0 := N0.rc.c0; have k9 := N0.rc.c9)
        | (go_at_call 163; refine (CW.out _ N0.below).mono ?_; rintro e w1 ⟨rfl, b1⟩))
      go_ret
      exact ⟨rfl, thn N0.below b1⟩
    · have e2 : ((l.length : Int) == 1) = false := by simp; omega
      have hd : decide (l.length = 1) = false := by simpa using hl
      rw [hd, Bool.false_and]
      clear h1 hl hd
      go_enter Tryz.func145, Tryz.ntmps145
      go_wp2_with (refine wpList_box_rc (s := s) (I := _) (T := _) _ rfl _ rfl rfl ?_; intro w0 b0 N0; have k0 := N0.rc.c0; have k9 := N0.rc.c9)
      go_ret
      exact ⟨rfl, N0.below⟩
  · rw [if_neg h1]
    have e1 : (s.kd == 1) = false := by simpa using h1
    by_cases h2 : s.kd = 2
    · rw [if_pos h2]
      have e2 : (s.kd == 2) = true := by simpa using h2
      generalize whole l = q at *
      clear h1 h2
      go_enter Tryz.func145, Tryz.ntmps145
      go_wp2_with (first
        | (refine wpList_box_rc (s := s) (I := _) (T := _) _ rfl _ rfl rfl ?_; intro w0 b0 N0; have k0 := N0.rc.c0; have k9 := N0.rc.c9)
        | (go_at_call 163; refine (CW.out _ N0.below).mono ?_; rintro e w1 ⟨rfl, b1⟩))
      go_ret
      exact ⟨rfl, thn N0.below b1⟩
    · rw [if_neg h2]
      have e2 : (s.kd == 2) = false := by simpa using h2
      by_cases h6 : s.kd = 6
      · rw [if_pos h6]
        have e6 : (s.kd == 6) = true := by simpa using h6
        clear h1 h2 h6
        by_cases a3 : s.ac = 3
        · have f3 : (s.ac == 3) = true := by simpa using a3
          have hd : decide (s.ac = 3 ∨ s.ac = 4 ∨ s.ac = 5) = true := by simp [a3]
          rw [hd]
          clear a3 hd
          go_enter Tryz.func145, Tryz.ntmps145
          go_wp2_with (refine wpList_box_rc (s := s) (I := _) (T := _) _ rfl _ rfl rfl ?_; intro w0 b0 N0; have k0 := N0.rc.c0; have k4 := N0.rc.c4)
          go_ret
          exact ⟨rfl, N0.below⟩
        · have f3 : (s.ac == 3) = false := by simpa using a3
          by_cases a4 : s.ac = 4
          · have f4 : (s.ac == 4) = true := by simpa using a4
            have hd : decide (s.ac = 3 ∨ s.ac = 4 ∨ s.ac = 5) = true := by simp [a4]
            rw [hd]
            clear a3 a4 hd
            go_enter Tryz.func145, Tryz.ntmps145
            go_wp2_with (refine wpList_box_rc (s := s) (I := _) (T := _) _ rfl _ rfl rfl ?_; intro w0 b0 N0; have k0 := N0.rc.c0; have k4 := N0.rc.c4)
            go_ret
            exact ⟨rfl, N0.below⟩
          · have f4 : (s.ac == 4) = false := by simpa using a4
            have hd : decide (s.ac = 3 ∨ s.ac = 4 ∨ s.ac = 5) = (s.ac == 5) := by by_cases a5 : s.ac = 5 <;> simp [a3, a4, a5]
            rw [hd]
            clear a3 a4 hd
            generalize hq : (s.ac == 5) = q at *
            go_enter Tryz.func145, Tryz.ntmps145
            go_wp2_with (refine wpList_box_rc (s := s) (I := _) (T := _) _ rfl _ rfl rfl ?_; intro w0 b0 N0; have k0 := N0.rc.c0; have k4 := N0.rc.c4)
            go_ret
            exact ⟨rfl, N0.below⟩
      · rw [if_neg h6]
        have e6 : (s.kd == 6) = false := by simpa using h6
        clear h1 h2 h6
        go_enter Tryz.func145, Tryz.ntmps145
        go_wp2_with (refine wpList_box_rc (s := s) (I := _) (T := _) _ rfl _ rfl rfl ?_; intro w0 b0 N0; have k0 := N0.rc.c0; have k4 := N0.rc.c4)
        go_ret
        exact ⟨rfl, N0.below⟩
end
end Go.Proofs.YtgodjnbbocnckaaGreat

namespace Go.Proofs.YtgodjnbbocnckaaGreat
open Go.RowKit
set_option linter.unusedVariables false
set_option linter.unusedSimpArgs false
set_option maxRecDepth 100000

section
variable {w : World} {s : Sc} {T : Value} {a : Option Addr} {c : Nat} {l : List Im} {g : List Tb}
set_option maxHeartbeats 1000000 in
theorem refusalR_any (hn : l.length ≤ 1000) (hcs : Cs w a (encI l)) (ht : ∀ p ∈ l, p.2.size ≤ 9223372036854775807) (hk : s.ky.size ≤ 9223372036854775807) (ho : s.ol.size ≤ 9223372036854775807) (hw : s.nw.size ≤ 9223372036854775807) :
    Calls Tryz.prog 118 #[.agg (s.A (.slice a l.length c) T)] w fun r w' => r = .returned (.int .i64 (refM ⟨s, l, g⟩)) ∧ Below w.heap.size w w' := by
  have CF : Hid (∀ w', Below w.heap.size w w' → Calls Tryz.prog 145 #[.agg (s.A (.slice a l.length c) T)] w' fun r w'' => r = .returned (.bool (formed ⟨s, l, g⟩)) ∧ Below w'.heap.size w' w'') := fun w' hb => isFormed_any hn (hcs.below hb) ht
  clear hcs ht
  unfold refM
  dsimp only
  by_cases h1 : s.kd < 1
  · rw [if_pos (Or.inl h1)]
    go_enter Tryz.func118, Tryz.ntmps118
    go_wp2_with (refine wpList_box_rc (s := s) (I := _) (T := _) _ rfl _ rfl rfl ?_; intro w0 b0 N0; have k0 := N0.rc.c0)
    go_ret
    exact ⟨rfl, N0.below⟩
  by_cases h2 : 10 < s.kd
  · rw [if_pos (Or.inr h2)]
    go_enter Tryz.func118, Tryz.ntmps118
    go_wp2_with (refine wpList_box_rc (s := s) (I := _) (T := _) _ rfl _ rfl rfl ?_; intro w0 b0 N0; have k0 := N0.rc.c0)
    go_ret
    exact ⟨rfl, N0.below⟩
  rw [if_neg (by omega)]
  by_cases h3 : formed ⟨s, l, g⟩ = false
  · rw [if_pos h3]
    rw [h3] at CF
    go_enter Tryz.func118, Tryz.ntmps118
    go_wp2_with (first
      | (refine wpList_box_rc (s := s) (I := _) (T := _) _ rfl _ rfl rfl ?_; intro w0 b0 N0; have k0 := N0.rc.c0)
      | (refine wpList_load_rc _ rfl _ rfl rfl N0.rc ?_)
      | (go_at_call 145; refine (CF.out _ N0.below).mono ?_; rintro e w1 ⟨rfl, b1⟩))
    go_ret
    exact ⟨rfl, thn N0.below b1⟩
  rw [if_neg h3]
  have h3' : formed ⟨s, l, g⟩ = true := by simpa using h3
  rw [h3'] at CF
  clear h3 h3'
  obtain ⟨K, hK⟩ : ∃ K, K = decide ((16 : Int) < s.ky.size) := ⟨_, rfl⟩
  obtain ⟨V, hV⟩ : ∃ V, V = (decide ((32 : Int) < s.ol.size) || decide ((32 : Int) < s.nw.size)) := ⟨_, rfl⟩
  have C1 : Hid (∀ w1 : World, Calls Tryz.prog 146 #[.int .i64 16, .slice (some ⟨w1.heap.size, 0, none⟩) 1 1] (w1.alloc (.cells #[.string s.ky] 9)) fun r w' => r = .returned (.bool K) ∧ w' = w1.alloc (.cells #[.string s.ky] 9)) := fun w1 => by
    rw [hK]
    exact tooLong_1 16 (Joins.cell_of_block (MapKept.heap_alloc w1 _).1 0) hk
  have C2 : Hid (∀ w1 : World, Calls Tryz.prog 146 #[.int .i64 32, .slice (some ⟨w1.heap.size + 1, 0, none⟩) 2 2] ((w1.alloc (.cells #[.string s.ky] 9)).alloc (.cells #[.string s.ol, .string s.nw] 9)) fun r w' => r = .returned (.bool V) ∧ w' = (w1.alloc (.cells #[.string s.ky] 9)).alloc (.cells #[.string s.ol, .string s.nw] 9)) := fun w1 => by
    rw [hV]
    have hz : (w1.alloc (.cells #[.string s.ky] 9)).heap.size = w1.heap.size + 1 := by simp
    have hb := (MapKept.heap_alloc (w1.alloc (.cells #[.string s.ky] 9)) (.cells #[.string s.ol, .string s.nw] 9)).1
    rw [hz] at hb
    exact tooLong_2 32 (Joins.cell_of_block hb 0) (Joins.cell_of_block hb 1) ho hw
  by_cases h4 : 16 < s.ky.size
  · rw [if_pos h4]
    have hK' : K = true := by rw [hK]; simp; omega
    subst hK'
    clear hK hV C2 h4 hk ho hw
    go_enter Tryz.func118, Tryz.ntmps118
    go_wp2_with (first
      | (refine wpList_box_rc (s := s) (I := _) (T := _) _ rfl _ rfl rfl ?_; intro w0 b0 N0; have k0 := N0.rc.c0)
      | (refine wpList_load_rc _ rfl _ rfl rfl N0.rc ?_)
      | (go_at_call 145; refine (CF.out _ N0.below).mono ?_; rintro e w1 ⟨rfl, b1⟩; have k5 := (N0.rc.below b1).c5)
      | (go_at_call 146; refine (C1.out _).mono ?_; rintro e w2 ⟨rfl, rfl⟩))
    go_ret
    exact ⟨rfl, thn (thn N0.below b1) ((Below.refl _ _).alloc (Nat.le_refl _) _)⟩
  rw [if_neg h4]
  have hK' : K = false := by rw [hK]; simp; omega
  subst hK'
  by_cases h5 : 32 < s.ol.size ∨ 32 < s.nw.size
  · rw [if_pos h5]
    have hV' : V = true := by rw [hV]; simp; omega
    subst hV'
    clear hK hV h4 h5 hk ho hw
    go_enter Tryz.func118, Tryz.ntmps118
    go_wp2_with (first
      | (refine wpList_box_rc (s := s) (I := _) (T := _) _ rfl _ rfl rfl ?_; intro w0 b0 N0; have k0 := N0.rc.c0)
      | (refine wpList_load_rc _ rfl _ rfl rfl N0.rc ?_)
      | (go_at_call 145; refine (CF.out _ N0.below).mono ?_; rintro e w1 ⟨rfl, b1⟩; have k5 := (N0.rc.below b1).c5; have k6 := (N0.rc.below b1).c6; have k7 := (N0.rc.below b1).c7; have hlt := (N0.rc.below b1).lt)
      | (go_at_call 146; refine (C1.out _).mono ?_; clear C1; rintro e w2 ⟨rfl, rfl⟩; have B2 : Below w1.heap.size w1 (w1.alloc (.cells #[.string s.ky] 9)) := (Below.refl _ _).alloc (Nat.le_refl _) _)
      | (go_at_call 146; refine (C2.out _).mono ?_; clear C2; rintro e w3 ⟨rfl, rfl⟩))
    go_ret
    exact ⟨rfl, thn (thn (thn N0.below b1) B2) ((Below.refl _ _).alloc (Nat.le_refl _) _)⟩
  · rw [if_neg h5]
    have hV' : V = false := by rw [hV]; simp; omega
    subst hV'
    clear hK hV h4 h5 hk ho hw
    go_enter Tryz.func118, Tryz.ntmps118
    go_wp2_with (first
      | (refine wpList_box_rc (s := s) (I := _) (T := _) _ rfl _ rfl rfl ?_; intro w0 b0 N0; have k0 := N0.rc.c0)
      | (refine wpList_load_rc _ rfl _ rfl rfl N0.rc ?_)
      | (go_at_call 145; refine (CF.out _ N0.below).mono ?_; rintro e w1 ⟨rfl, b1⟩; have k5 := (N0.rc.below b1).c5; have k6 := (N0.rc.below b1).c6; have k7 := (N0.rc.below b1).c7; have hlt := (N0.rc.below b1).lt)
      | (go_at_call 146; refine (C1.out _).mono ?_; clear C1; rintro e w2 ⟨rfl, rfl⟩; have B2 : Below w1.heap.size w1 (w1.alloc (.cells #[.string s.ky] 9)) := (Below.refl _ _).alloc (Nat.le_refl _) _)
      | (go_at_call 146; refine (C2.out _).mono ?_; clear C2; rintro e w3 ⟨rfl, rfl⟩))
    go_ret
    exact ⟨rfl, thn (thn (thn N0.below b1) B2) ((Below.refl _ _).alloc (Nat.le_refl _) _)⟩
end
end Go.Proofs.YtgodjnbbocnckaaGreat

namespace Go.Proofs.YtgodjnbbocnckaaGreat
open Go.RowKit
set_option linter.unusedVariables false
set_option linter.unusedSimpArgs false
set_option maxRecDepth 100000

structure NewW (w w' : World) (b : Nat) : Prop where
  wS : WrS w' b (⟨#[]⟩, 0) 0
  below : Below w.heap.size w w'
  eq : b = w.heap.size
theorem zero_wr (w : World) : (zeroValue 202).run Tryz.prog w = .ok (.agg #[.pointer none, .int .i64 0, .int .i64 0]) w := by kernel_rfl
theorem wpList_new_wr {ops : Array Oper} {rest : List Oper} {o : Oper} {a : Act} {Q : Exit → Act → World → Prop} (w : World) (hg : o.guard = none) (hop : o.op = Op.alloc 202)
    (h : ∀ w' b, NewW w w' b → wpList Tryz.prog ops Q rest (a.put o.dst (.pointer (some ⟨b, 0, none⟩))) w') : wpList Tryz.prog ops Q (o :: rest) a w := by
  refine wpList_plain hg fun K' hK' => ?_
  unfold Oper.wp
  simp [execOp, hop, Instr.alloc, zero_wr, Result.andThen, Value.cells]
  exact hK' _ _ (h _ _ ⟨⟨⟨none, [], (MapKept.heap_alloc w _).1, rfl, rfl⟩, Nat.le_refl _⟩, (Below.refl _ _).alloc (Nat.le_refl _) _, rfl⟩)
theorem All_both (b : Nat) (all : ByteArray) (e : Int) (w : World) (h : Pk.WrIs w b all e) (hsz : all.size ≤ 140737488351232) (he : e ≠ 0 → all = ⟨#[]⟩) :
    Calls Tryz.prog 152 #[.pointer (some ⟨b, 0, none⟩)] w fun r w' => r = .returned (.tuple #[.string all, .int .i64 e]) ∧ Below w.heap.size w w' := by
  by_cases h0 : e = 0
  · subst h0; exact Pk.All_any b all w h hsz
  · rw [he h0]; exact Pk.All_err b all e w h h0
section
variable {w wr wq : World} {b0 b j j' : Nat} {s : Sc} {I T : Value} {A A' : ByteArray × Int}
theorem LdS.start {w0 w1 : World} {b1 : Nat} (N0 : NewR w w0 b0 s I T) (N1 : NewW w0 w1 b1) : LdS w w1 b0 b1 s I T (⟨#[]⟩, 0) 0 :=
  ⟨N0.rc.below N1.below, N1.wS, by have := N0.rc.lt; have := N1.eq; omega, Pk.Off.of_below (thn N0.below N1.below)⟩
theorem LdS.places2 (h : LdS w wr b0 b s I T A j) (hj : j ≤ 100000000000) (p q : Int) : Calls Tryz.prog 149 #[.pointer (some ⟨b, 0, none⟩), .slice (some ⟨wr.heap.size, 0, none⟩) 2 2] (wr.alloc (.cells #[.int .i64 p, .int .i64 q] 3)) fun r w' => r = .returned (.tuple #[]) ∧ LdS w w' b0 b s I T (layP [p, q] A) (j + 12) := by
  have hb : Below wr.heap.size wr (wr.alloc (.cells #[.int .i64 p, .int .i64 q] 3)) := (Below.refl _ _).alloc (Nat.le_refl _) _
  have hl := h.wS.lt
  refine (layPlaces_any (n := 2) (h.wS.below hb) (by omega) [p, q] (MapKept.heap_alloc wr _).1 (by omega) rfl (by omega)).mono ?_
  rintro e w' ⟨he, h1, o1⟩
  exact ⟨he, h.step h1 ((Pk.Off.of_below hb).trans o1)⟩
theorem LdS.places3 (h : LdS w wr b0 b s I T A j) (hj : j ≤ 100000000000) (p q x : Int) : Calls Tryz.prog 149 #[.pointer (some ⟨b, 0, none⟩), .slice (some ⟨wr.heap.size, 0, none⟩) 3 3] (wr.alloc (.cells #[.int .i64 p, .int .i64 q, .int .i64 x] 3)) fun r w' => r = .returned (.tuple #[]) ∧ LdS w w' b0 b s I T (layP [p, q, x] A) (j + 18) := by
  have hb : Below wr.heap.size wr (wr.alloc (.cells #[.int .i64 p, .int .i64 q, .int .i64 x] 3)) := (Below.refl _ _).alloc (Nat.le_refl _) _
  have hl := h.wS.lt
  refine (layPlaces_any (n := 3) (h.wS.below hb) (by omega) [p, q, x] (MapKept.heap_alloc wr _).1 (by omega) rfl (by omega)).mono ?_
  rintro e w' ⟨he, h1, o1⟩
  exact ⟨he, h.step h1 ((Pk.Off.of_below hb).trans o1)⟩
theorem LdS.change (h : LdS w wr b0 b s I T A j) (hj : j ≤ 100000000000) (hk : s.ky.size ≤ 1000) (ho : s.ol.size ≤ 1000) (hw : s.nw.size ≤ 1000) : Calls Tryz.prog 150 #[.pointer (some ⟨b, 0, none⟩), .agg (s.A I T)] wr fun r w' => r = .returned (.tuple #[]) ∧ LdS w w' b0 b s I T (layC s A) (j + 300000) :=
  (layChange_any h.wS hj hk ho hw).mono fun e w' ⟨he, h1, o1⟩ => ⟨he, h.step h1 o1⟩
theorem LdS.images {a : Option Addr} {c : Nat} {l : List Im} (h : LdS w wr b0 b s I T A j) (hj : j ≤ 100000000000) (hn : l.length ≤ 1000) (hcs : Cs w a (encI l)) (hb : w.heap.size ≤ b) (ht : ∀ p ∈ l, p.2.size ≤ 1000) : Calls Tryz.prog 148 #[.pointer (some ⟨b, 0, none⟩), .slice a l.length c] wr fun r w' => r = .returned (.tuple #[]) ∧ LdS w w' b0 b s I T (layI l (stepW A l.length 1)) (j + 6 + 65543 * l.length) := by
  have hne : l ≠ [] → ∀ b'' off', a = some ⟨b'', off', none⟩ → b'' ≠ b := by
    intro hl b'' off' e
    obtain ⟨b', off, e', hlt, _⟩ := hcs.at_ 0 (by rw [encI_length]; exact List.length_pos_iff.2 hl)
    rw [e'] at e
    cases e
    omega
  have hcs' : Cs wr a (encI l) := by
    by_cases hl : l = []
    · subst hl; exact Cs.nil _ _
    · exact hcs.off h.off (hne hl)
  refine (layImages_any h.wS hj l rfl hn hcs' hne ht).mono ?_
  rintro e w' ⟨he, h1, o1⟩
  exact ⟨he, h.step h1 o1⟩
theorem LdS.table {a : Option Addr} {c : Nat} {l : List Tb} (h : LdS w wr b0 b s I T A j) (hj : j ≤ 100000000000) (hn : l.length ≤ 1000) (hcs : Cs w a (encT l)) (hb : w.heap.size ≤ b) : Calls Tryz.prog 151 #[.pointer (some ⟨b, 0, none⟩), .slice a l.length c] wr fun r w' => r = .returned (.tuple #[]) ∧ LdS w w' b0 b s I T (layB l (stepW A l.length 1)) (j + 6 + 12 * l.length) := by
  have hne : l ≠ [] → ∀ b'' off', a = some ⟨b'', off', none⟩ → b'' ≠ b := by
    intro hl b'' off' e
    obtain ⟨b', off, e', hlt, _⟩ := hcs.at_ 0 (by rw [encT_length]; exact List.length_pos_iff.2 hl)
    rw [e'] at e
    cases e
    omega
  have hcs' : Cs wr a (encT l) := by
    by_cases hl : l = []
    · subst hl; exact Cs.nil _ _
    · exact hcs.off h.off (hne hl)
  refine (layTable_any h.wS hj l rfl hn hcs' hne).mono ?_
  rintro e w' ⟨he, h1, o1⟩
  exact ⟨he, h.step h1 o1⟩
/-- What the last call leaves. -/
theorem LdS.all (h : LdS w wr b0 b s I T A j) (hj : j ≤ 100000000000) (hb : w.heap.size ≤ b) (hB : Bare A) : Calls Tryz.prog 152 #[.pointer (some ⟨b, 0, none⟩)] wr fun r w' => r = .returned (.tuple #[.string A.1, .int .i64 A.2]) ∧ Below w.heap.size w w' := by
  have hz := h.wS.sz
  have hl := h.off.below hb (Nat.le_refl _)
  exact (All_both b A.1 A.2 wr h.wS.wr (by omega) hB).mono fun e w' ⟨he, h1⟩ => ⟨he, thn hl h1⟩
end

section
variable {w : World} {s : Sc} {I T : Value}
set_option maxHeartbeats 1000000 in
theorem laid_1 (hk : s.kd = 1) {a : Option Addr} {c : Nat} {l : List Im} (hn : l.length ≤ 1000) (hcs : Cs w a (encI l)) (ht : ∀ p ∈ l, p.2.size ≤ 1000) : Calls Tryz.prog 119 #[.agg (s.A (.slice a l.length c) T)] w fun r w' => r = .returned (.tuple #[.string (layI l (stepW (stepW (⟨#[]⟩, 0) s.kd 1) l.length 1)).1, .int .i64 (layI l (stepW (stepW (⟨#[]⟩, 0) s.kd 1) l.length 1)).2]) ∧ Below w.heap.size w w' := by
  have e1 : (s.kd == 1) = true := by rw [hk]; rfl
  clear hk
  go_enter Tryz.func119, Tryz.ntmps119
  go_wp2_with (first
    | (refine wpList_box_rc (s := s) (I := _) (T := _) _ rfl _ rfl rfl ?_; intro w0 b0 N0)
    | (refine wpList_new_wr _ rfl rfl ?_; intro w1 b1 N1; have H := LdS.start N0 N1; have hb1 : w.heap.size ≤ b1 := (Nat.le_trans N0.below.size (Nat.le_of_eq N1.eq.symm)); clear N0 N1; have k0 := H.rc.c0; have k9 := H.rc.c9)
    | (go_at_call 147; refine (H.num (by omega) _ _).mono ?_; clear H; rintro e w3 ⟨rfl, H⟩; have k0 := H.rc.c0; have k9 := H.rc.c9)
    | (go_at_call 148; refine (H.images (by omega) hn hcs hb1 ht).mono ?_; clear H; rintro e w3 ⟨rfl, H⟩)
    | (go_at_call 152; refine (H.all (by omega) hb1 (((bare0.stepW _ _).stepW _ _).layI _)).mono ?_; rintro e w9 ⟨rfl, b9⟩))
  go_ret2
  exact ⟨rfl, b9⟩
set_option maxHeartbeats 1000000 in
theorem laid_2 (hk : s.kd = 2) {a : Option Addr} {c : Nat} {l : List Im} (hn : l.length ≤ 1000) (hcs : Cs w a (encI l)) (ht : ∀ p ∈ l, p.2.size ≤ 1000) : Calls Tryz.prog 119 #[.agg (s.A (.slice a l.length c) T)] w fun r w' => r = .returned (.tuple #[.string (layI l (stepW (stepW (⟨#[]⟩, 0) s.kd 1) l.length 1)).1, .int .i64 (layI l (stepW (stepW (⟨#[]⟩, 0) s.kd 1) l.length 1)).2]) ∧ Below w.heap.size w w' := by
  have e1 : (s.kd == 1) = false := by rw [hk]; rfl
  have e2 : (s.kd == 2) = true := by rw [hk]; rfl
  clear hk
  go_enter Tryz.func119, Tryz.ntmps119
  go_wp2_with (first
    | (refine wpList_box_rc (s := s) (I := _) (T := _) _ rfl _ rfl rfl ?_; intro w0 b0 N0)
    | (refine wpList_new_wr _ rfl rfl ?_; intro w1 b1 N1; have H := LdS.start N0 N1; have hb1 : w.heap.size ≤ b1 := (Nat.le_trans N0.below.size (Nat.le_of_eq N1.eq.symm)); clear N0 N1; have k0 := H.rc.c0; have k9 := H.rc.c9)
    | (go_at_call 147; refine (H.num (by omega) _ _).mono ?_; clear H; rintro e w3 ⟨rfl, H⟩; have k0 := H.rc.c0; have k9 := H.rc.c9)
    | (go_at_call 148; refine (H.images (by omega) hn hcs hb1 ht).mono ?_; clear H; rintro e w3 ⟨rfl, H⟩)
    | (go_at_call 152; refine (H.all (by omega) hb1 (((bare0.stepW _ _).stepW _ _).layI _)).mono ?_; rintro e w9 ⟨rfl, b9⟩))
  go_ret2
  exact ⟨rfl, b9⟩
set_option maxHeartbeats 1000000 in
theorem laid_3 (hk : s.kd = 3) (hy : s.ky.size ≤ 1000) (ho : s.ol.size ≤ 1000) (hw : s.nw.size ≤ 1000) : Calls Tryz.prog 119 #[.agg (s.A I T)] w fun r w' => r = .returned (.tuple #[.string (layC s (layP [s.tx, s.pv] (stepW (⟨#[]⟩, 0) s.kd 1))).1, .int .i64 (layC s (layP [s.tx, s.pv] (stepW (⟨#[]⟩, 0) s.kd 1))).2]) ∧ Below w.heap.size w w' := by
  have e1 : (s.kd == 1) = false := by rw [hk]; rfl
  have e2 : (s.kd == 2) = false := by rw [hk]; rfl
  have e3 : (s.kd == 3) = true := by rw [hk]; rfl
  clear hk
  go_enter Tryz.func119, Tryz.ntmps119
  go_wp2_with (first
    | (refine wpList_box_rc (s := s) (I := _) (T := _) _ rfl _ rfl rfl ?_; intro w0 b0 N0)
    | (refine wpList_new_wr _ rfl rfl ?_; intro w1 b1 N1; have H := LdS.start N0 N1; have hb1 : w.heap.size ≤ b1 := (Nat.le_trans N0.below.size (Nat.le_of_eq N1.eq.symm)); clear N0 N1; have k0 := H.rc.c0; have k1 := H.rc.c1; have k2 := H.rc.c2)
    | (go_at_call 147; refine (H.num (by omega) _ _).mono ?_; clear H; rintro e w3 ⟨rfl, H⟩; have k0 := H.rc.c0; have k1 := H.rc.c1; have k2 := H.rc.c2)
    | (go_at_call 149; refine (H.places2 (by omega) _ _).mono ?_; clear H; rintro e w3 ⟨rfl, H⟩; have k0 := H.rc.c0; have k1 := H.rc.c1; have k2 := H.rc.c2)
    | (refine wpList_load_rc _ rfl _ rfl rfl H.rc ?_)
    | (go_at_call 150; refine (H.change (by omega) hy ho hw).mono ?_; clear H; rintro e w3 ⟨rfl, H⟩)
    | (go_at_call 152; refine (H.all (by omega) hb1 (((bare0.stepW _ _).layP _).layC _)).mono ?_; rintro e w9 ⟨rfl, b9⟩))
  go_ret2
  exact ⟨rfl, b9⟩
set_option maxHeartbeats 1000000 in
theorem laid_4 (hk : s.kd = 4) (hy : s.ky.size ≤ 1000) (ho : s.ol.size ≤ 1000) (hw : s.nw.size ≤ 1000) : Calls Tryz.prog 119 #[.agg (s.A I T)] w fun r w' => r = .returned (.tuple #[.string (layC s (layP [s.tx, s.pv] (stepW (⟨#[]⟩, 0) s.kd 1))).1, .int .i64 (layC s (layP [s.tx, s.pv] (stepW (⟨#[]⟩, 0) s.kd 1))).2]) ∧ Below w.heap.size w w' := by
  have e1 : (s.kd == 1) = false := by rw [hk]; rfl
  have e2 : (s.kd == 2) = false := by rw [hk]; rfl
  have e3 : (s.kd == 3) = false := by rw [hk]; rfl
  have e4 : (s.kd == 4) = true := by rw [hk]; rfl
  clear hk
  go_enter Tryz.func119, Tryz.ntmps119
  go_wp2_with (first
    | (refine wpList_box_rc (s := s) (I := _) (T := _) _ rfl _ rfl rfl ?_; intro w0 b0 N0)
    | (refine wpList_new_wr _ rfl rfl ?_; intro w1 b1 N1; have H := LdS.start N0 N1; have hb1 : w.heap.size ≤ b1 := (Nat.le_trans N0.below.size (Nat.le_of_eq N1.eq.symm)); clear N0 N1; have k0 := H.rc.c0; have k1 := H.rc.c1; have k2 := H.rc.c2)
    | (go_at_call 147; refine (H.num (by omega) _ _).mono ?_; clear H; rintro e w3 ⟨rfl, H⟩; have k0 := H.rc.c0; have k1 := H.rc.c1; have k2 := H.rc.c2)
    | (go_at_call 149; refine (H.places2 (by omega) _ _).mono ?_; clear H; rintro e w3 ⟨rfl, H⟩; have k0 := H.rc.c0; have k1 := H.rc.c1; have k2 := H.rc.c2)
    | (refine wpList_load_rc _ rfl _ rfl rfl H.rc ?_)
    | (go_at_call 150; refine (H.change (by omega) hy ho hw).mono ?_; clear H; rintro e w3 ⟨rfl, H⟩)
    | (go_at_call 152; refine (H.all (by omega) hb1 (((bare0.stepW _ _).layP _).layC _)).mono ?_; rintro e w9 ⟨rfl, b9⟩))
  go_ret2
  exact ⟨rfl, b9⟩
set_option maxHeartbeats 1000000 in
theorem laid_5 (hk : s.kd = 5) (hy : s.ky.size ≤ 1000) (ho : s.ol.size ≤ 1000) (hw : s.nw.size ≤ 1000) : Calls Tryz.prog 119 #[.agg (s.A I T)] w fun r w' => r = .returned (.tuple #[.string (layC s (layP [s.tx, s.pv] (stepW (⟨#[]⟩, 0) s.kd 1))).1, .int .i64 (layC s (layP [s.tx, s.pv] (stepW (⟨#[]⟩, 0) s.kd 1))).2]) ∧ Below w.heap.size w w' := by
  have e1 : (s.kd == 1) = false := by rw [hk]; rfl
  have e2 : (s.kd == 2) = false := by rw [hk]; rfl
  have e3 : (s.kd == 3) = false := by rw [hk]; rfl
  have e4 : (s.kd == 4) = false := by rw [hk]; rfl
  have e5 : (s.kd == 5) = true := by rw [hk]; rfl
  clear hk
  go_enter Tryz.func119, Tryz.ntmps119
  go_wp2_with (first
    | (refine wpList_box_rc (s := s) (I := _) (T := _) _ rfl _ rfl rfl ?_; intro w0 b0 N0)
    | (refine wpList_new_wr _ rfl rfl ?_; intro w1 b1 N1; have H := LdS.start N0 N1; have hb1 : w.heap.size ≤ b1 := (Nat.le_trans N0.below.size (Nat.le_of_eq N1.eq.symm)); clear N0 N1; have k0 := H.rc.c0; have k1 := H.rc.c1; have k2 := H.rc.c2)
    | (go_at_call 147; refine (H.num (by omega) _ _).mono ?_; clear H; rintro e w3 ⟨rfl, H⟩; have k0 := H.rc.c0; have k1 := H.rc.c1; have k2 := H.rc.c2)
    | (go_at_call 149; refine (H.places2 (by omega) _ _).mono ?_; clear H; rintro e w3 ⟨rfl, H⟩; have k0 := H.rc.c0; have k1 := H.rc.c1; have k2 := H.rc.c2)
    | (refine wpList_load_rc _ rfl _ rfl rfl H.rc ?_)
    | (go_at_call 150; refine (H.change (by omega) hy ho hw).mono ?_; clear H; rintro e w3 ⟨rfl, H⟩)
    | (go_at_call 152; refine (H.all (by omega) hb1 (((bare0.stepW _ _).layP _).layC _)).mono ?_; rintro e w9 ⟨rfl, b9⟩))
  go_ret2
  exact ⟨rfl, b9⟩
set_option maxHeartbeats 1000000 in
theorem laid_6 (hk : s.kd = 6) (hy : s.ky.size ≤ 1000) (ho : s.ol.size ≤ 1000) (hw : s.nw.size ≤ 1000) : Calls Tryz.prog 119 #[.agg (s.A I T)] w fun r w' => r = .returned (.tuple #[.string (layC s (stepW (layP [s.tx, s.pv, s.nx] (stepW (⟨#[]⟩, 0) s.kd 1)) s.ac 1)).1, .int .i64 (layC s (stepW (layP [s.tx, s.pv, s.nx] (stepW (⟨#[]⟩, 0) s.kd 1)) s.ac 1)).2]) ∧ Below w.heap.size w w' := by
  have e1 : (s.kd == 1) = false := by rw [hk]; rfl
  have e2 : (s.kd == 2) = false := by rw [hk]; rfl
  have e3 : (s.kd == 3) = false := by rw [hk]; rfl
  have e4 : (s.kd == 4) = false := by rw [hk]; rfl
  have e5 : (s.kd == 5) = false := by rw [hk]; rfl
  have e6 : (s.kd == 6) = true := by rw [hk]; rfl
  clear hk
  go_enter Tryz.func119, Tryz.ntmps119
  go_wp2_with (first
    | (refine wpList_box_rc (s := s) (I := _) (T := _) _ rfl _ rfl rfl ?_; intro w0 b0 N0)
    | (refine wpList_new_wr _ rfl rfl ?_; intro w1 b1 N1; have H := LdS.start N0 N1; have hb1 : w.heap.size ≤ b1 := (Nat.le_trans N0.below.size (Nat.le_of_eq N1.eq.symm)); clear N0 N1; have k0 := H.rc.c0; have k1 := H.rc.c1; have k2 := H.rc.c2; have k8 := H.rc.c8; have k4 := H.rc.c4)
    | (go_at_call 147; refine (H.num (by omega) _ _).mono ?_; clear H; rintro e w3 ⟨rfl, H⟩; have k0 := H.rc.c0; have k1 := H.rc.c1; have k2 := H.rc.c2; have k8 := H.rc.c8; have k4 := H.rc.c4)
    | (go_at_call 149; refine (H.places3 (by omega) _ _ _).mono ?_; clear H; rintro e w3 ⟨rfl, H⟩; have k0 := H.rc.c0; have k1 := H.rc.c1; have k2 := H.rc.c2; have k8 := H.rc.c8; have k4 := H.rc.c4)
    | (refine wpList_load_rc _ rfl _ rfl rfl H.rc ?_)
    | (go_at_call 150; refine (H.change (by omega) hy ho hw).mono ?_; clear H; rintro e w3 ⟨rfl, H⟩)
    | (go_at_call 152; refine (H.all (by omega) hb1 ((((bare0.stepW _ _).layP _).stepW _ _).layC _)).mono ?_; rintro e w9 ⟨rfl, b9⟩))
  go_ret2
  exact ⟨rfl, b9⟩
set_option maxHeartbeats 1000000 in
theorem laid_7 (hk : s.kd = 7)  : Calls Tryz.prog 119 #[.agg (s.A I T)] w fun r w' => r = .returned (.tuple #[.string (layP [s.tx, s.pv] (stepW (⟨#[]⟩, 0) s.kd 1)).1, .int .i64 (layP [s.tx, s.pv] (stepW (⟨#[]⟩, 0) s.kd 1)).2]) ∧ Below w.heap.size w w' := by
  have e1 : (s.kd == 1) = false := by rw [hk]; rfl
  have e2 : (s.kd == 2) = false := by rw [hk]; rfl
  have e3 : (s.kd == 3) = false := by rw [hk]; rfl
  have e4 : (s.kd == 4) = false := by rw [hk]; rfl
  have e5 : (s.kd == 5) = false := by rw [hk]; rfl
  have e6 : (s.kd == 6) = false := by rw [hk]; rfl
  have e7 : (s.kd == 7) = true := by rw [hk]; rfl
  clear hk
  go_enter Tryz.func119, Tryz.ntmps119
  go_wp2_with (first
    | (refine wpList_box_rc (s := s) (I := _) (T := _) _ rfl _ rfl rfl ?_; intro w0 b0 N0)
    | (refine wpList_new_wr _ rfl rfl ?_; intro w1 b1 N1; have H := LdS.start N0 N1; have hb1 : w.heap.size ≤ b1 := (Nat.le_trans N0.below.size (Nat.le_of_eq N1.eq.symm)); clear N0 N1; have k0 := H.rc.c0; have k1 := H.rc.c1; have k2 := H.rc.c2)
    | (go_at_call 147; refine (H.num (by omega) _ _).mono ?_; clear H; rintro e w3 ⟨rfl, H⟩; have k0 := H.rc.c0; have k1 := H.rc.c1; have k2 := H.rc.c2)
    | (go_at_call 149; refine (H.places2 (by omega) _ _).mono ?_; clear H; rintro e w3 ⟨rfl, H⟩; have k0 := H.rc.c0; have k1 := H.rc.c1; have k2 := H.rc.c2)
    | (go_at_call 152; refine (H.all (by omega) hb1 ((bare0.stepW _ _).layP _)).mono ?_; rintro e w9 ⟨rfl, b9⟩))
  go_ret2
  exact ⟨rfl, b9⟩
set_option maxHeartbeats 1000000 in
theorem laid_8 (hk : s.kd = 8)  : Calls Tryz.prog 119 #[.agg (s.A I T)] w fun r w' => r = .returned (.tuple #[.string (layP [s.tx, s.pv] (stepW (⟨#[]⟩, 0) s.kd 1)).1, .int .i64 (layP [s.tx, s.pv] (stepW (⟨#[]⟩, 0) s.kd 1)).2]) ∧ Below w.heap.size w w' := by
  have e1 : (s.kd == 1) = false := by rw [hk]; rfl
  have e2 : (s.kd == 2) = false := by rw [hk]; rfl
  have e3 : (s.kd == 3) = false := by rw [hk]; rfl
  have e4 : (s.kd == 4) = false := by rw [hk]; rfl
  have e5 : (s.kd == 5) = false := by rw [hk]; rfl
  have e6 : (s.kd == 6) = false := by rw [hk]; rfl
  have e7 : (s.kd == 7) = false := by rw [hk]; rfl
  have e8 : (s.kd == 8) = true := by rw [hk]; rfl
  clear hk
  go_enter Tryz.func119, Tryz.ntmps119
  go_wp2_with (first
    | (refine wpList_box_rc (s := s) (I := _) (T := _) _ rfl _ rfl rfl ?_; intro w0 b0 N0)
    | (refine wpList_new_wr _ rfl rfl ?_; intro w1 b1 N1; have H := LdS.start N0 N1; have hb1 : w.heap.size ≤ b1 := (Nat.le_trans N0.below.size (Nat.le_of_eq N1.eq.symm)); clear N0 N1; have k0 := H.rc.c0; have k1 := H.rc.c1; have k2 := H.rc.c2)
    | (go_at_call 147; refine (H.num (by omega) _ _).mono ?_; clear H; rintro e w3 ⟨rfl, H⟩; have k0 := H.rc.c0; have k1 := H.rc.c1; have k2 := H.rc.c2)
    | (go_at_call 149; refine (H.places2 (by omega) _ _).mono ?_; clear H; rintro e w3 ⟨rfl, H⟩; have k0 := H.rc.c0; have k1 := H.rc.c1; have k2 := H.rc.c2)
    | (go_at_call 152; refine (H.all (by omega) hb1 ((bare0.stepW _ _).layP _)).mono ?_; rintro e w9 ⟨rfl, b9⟩))
  go_ret2
  exact ⟨rfl, b9⟩
set_option maxHeartbeats 1000000 in
theorem laid_9 (hk : s.kd = 9) {a : Option Addr} {c : Nat} {l : List Tb} (hn : l.length ≤ 1000) (hcs : Cs w a (encT l)) : Calls Tryz.prog 119 #[.agg (s.A I (.slice a l.length c))] w fun r w' => r = .returned (.tuple #[.string (layB l (stepW (stepW (⟨#[]⟩, 0) s.kd 1) l.length 1)).1, .int .i64 (layB l (stepW (stepW (⟨#[]⟩, 0) s.kd 1) l.length 1)).2]) ∧ Below w.heap.size w w' := by
  have e1 : (s.kd == 1) = false := by rw [hk]; rfl
  have e2 : (s.kd == 2) = false := by rw [hk]; rfl
  have e3 : (s.kd == 3) = false := by rw [hk]; rfl
  have e4 : (s.kd == 4) = false := by rw [hk]; rfl
  have e5 : (s.kd == 5) = false := by rw [hk]; rfl
  have e6 : (s.kd == 6) = false := by rw [hk]; rfl
  have e7 : (s.kd == 7) = false := by rw [hk]; rfl
  have e8 : (s.kd == 8) = false := by rw [hk]; rfl
  have e9 : (s.kd == 9) = true := by rw [hk]; rfl
  clear hk
  go_enter Tryz.func119, Tryz.ntmps119
  go_wp2_with (first
    | (refine wpList_box_rc (s := s) (I := _) (T := _) _ rfl _ rfl rfl ?_; intro w0 b0 N0)
    | (refine wpList_new_wr _ rfl rfl ?_; intro w1 b1 N1; have H := LdS.start N0 N1; have hb1 : w.heap.size ≤ b1 := (Nat.le_trans N0.below.size (Nat.le_of_eq N1.eq.symm)); clear N0 N1; have k0 := H.rc.c0; have k10 := H.rc.c10)
    | (go_at_call 147; refine (H.num (by omega) _ _).mono ?_; clear H; rintro e w3 ⟨rfl, H⟩; have k0 := H.rc.c0; have k10 := H.rc.c10)
    | (go_at_call 151; refine (H.table (by omega) hn hcs hb1).mono ?_; clear H; rintro e w3 ⟨rfl, H⟩)
    | (go_at_call 152; refine (H.all (by omega) hb1 (((bare0.stepW _ _).stepW _ _).layB _)).mono ?_; rintro e w9 ⟨rfl, b9⟩))
  go_ret2
  exact ⟨rfl, b9⟩
set_option maxHeartbeats 1000000 in
theorem laid_10 (hk : s.kd = 10)  : Calls Tryz.prog 119 #[.agg (s.A I T)] w fun r w' => r = .returned (.tuple #[.string (stepW (stepW (stepW (⟨#[]⟩, 0) s.kd 1) s.ep 4) s.nd 1).1, .int .i64 (stepW (stepW (stepW (⟨#[]⟩, 0) s.kd 1) s.ep 4) s.nd 1).2]) ∧ Below w.heap.size w w' := by
  have e1 : (s.kd == 1) = false := by rw [hk]; rfl
  have e2 : (s.kd == 2) = false := by rw [hk]; rfl
  have e3 : (s.kd == 3) = false := by rw [hk]; rfl
  have e4 : (s.kd == 4) = false := by rw [hk]; rfl
  have e5 : (s.kd == 5) = false := by rw [hk]; rfl
  have e6 : (s.kd == 6) = false := by rw [hk]; rfl
  have e7 : (s.kd == 7) = false := by rw [hk]; rfl
  have e8 : (s.kd == 8) = false := by rw [hk]; rfl
  have e9 : (s.kd == 9) = false := by rw [hk]; rfl
  have e10 : (s.kd == 10) = true := by rw [hk]; rfl
  clear hk
  go_enter Tryz.func119, Tryz.ntmps119
  go_wp2_with (first
    | (refine wpList_box_rc (s := s) (I := _) (T := _) _ rfl _ rfl rfl ?_; intro w0 b0 N0)
    | (refine wpList_new_wr _ rfl rfl ?_; intro w1 b1 N1; have H := LdS.start N0 N1; have hb1 : w.heap.size ≤ b1 := (Nat.le_trans N0.below.size (Nat.le_of_eq N1.eq.symm)); clear N0 N1; have k0 := H.rc.c0; have k11 := H.rc.c11; have k12 := H.rc.c12)
    | (go_at_call 147; refine (H.num (by omega) _ _).mono ?_; clear H; rintro e w3 ⟨rfl, H⟩; have k0 := H.rc.c0; have k11 := H.rc.c11; have k12 := H.rc.c12)
    | (go_at_call 152; refine (H.all (by omega) hb1 (((bare0.stepW _ _).stepW _ _).stepW _ _)).mono ?_; rintro e w9 ⟨rfl, b9⟩))
  go_ret2
  exact ⟨rfl, b9⟩
end
end Go.Proofs.YtgodjnbbocnckaaGreat
