/- The walk of PageMakes. -/
import Derived.Test.YtmoognjegjeegaaWhy
import Derived.Test.YtmoognjegjeegaaLPk
import Derived.Deep.Slices
namespace Go.Proofs.Ytmoognjegjeegaa
open Go.RowKit
set_option linter.unusedVariables false
set_option linter.unusedSimpArgs false
set_option maxRecDepth 100000

def nilV : Value → Bool
  | .slice none 0 0 => true
  | _ => false
theorem makes_arg (w : World) (k l : Int) {a : Option Addr} {cap : Nat} {L : List Cl} (h : 90 < L.length → Sl w a cap L) (hf : fit k l = false) : Calls Try.prog 4 #[.int .i64 k, .int .i64 l, .slice a L.length cap] w fun e w' => e = .returned (.bool true) ∧ Below w.heap.size w w' := by
  obtain ⟨L2, hL2⟩ : ∃ L2, L2 = L.take 90 := ⟨_, rfl⟩
  have C0 : Hid (Calls Try.prog 22 #[.slice a L.length cap] w fun e w' => e = .returned (.slice a L2.length cap) ∧ w' = w) := few_any w h L2 hL2
  have C1 : Hid (∀ w v, Calls Try.prog 23 #[.int .i64 k, .int .i64 l, v] w fun e w' => e = .returned (.tuple #[.string ⟨#[]⟩, .int .i64 1]) ∧ Below w.heap.size w w') := fun w v => Make_arg w k l v hf
  have C2 : Hid (∀ w, Calls Try.prog 24 #[.int .i64 k, .int .i64 l] w fun e w' => e = .returned (.tuple #[.string ⟨#[]⟩, .int .i64 1]) ∧ Below w.heap.size w w') := fun w => New_arg w k l hf
  have C3 : Hid (∀ w v, Calls Try.prog 25 #[.int .i64 k, .int .i64 l, v] w fun e w' => e = .returned (.int .i64 1) ∧ Below w.heap.size w w') := fun w v => why_arg w k l v hf
  have C9 : Hid (∀ w, Calls Try.prog 18 #[] w fun e w' => e = .returned (.bool true) ∧ Below w.heap.size w w') := fun w => awake_any w
  clear h hf hL2
  go_enter Try.func4, Try.ntmps4
  go_wp2_with (first | (go_at_call 22; refine C0.out.mono ?_; rintro e w1 ⟨rfl, rfl⟩) | (go_at_call 23; refine (C1.out _ _).mono ?_; rintro e w2 ⟨rfl, hb2⟩) | (go_at_call 24; refine (C2.out _).mono ?_; rintro e w3 ⟨rfl, hb3⟩) | (go_at_call 25; refine (C3.out _ _).mono ?_; rintro e w4 ⟨rfl, hb4⟩) | (go_at_call 18; refine (C9.out _).mono ?_; rintro e w5 ⟨rfl, hb5⟩))
  go_ret
  exact ⟨rfl, thn (thn (thn hb2 hb3) hb4) hb5⟩
set_option maxHeartbeats 2000000 in
theorem makes_any (w : World) (k l : Nat) {a : Option Addr} {cap : Nat} {L : List Cl} (hc : Cs w a L) (h : 90 < L.length → Sl w a cap L) (h1 : k ≤ 2) (h2 : l ≤ 255) (h3 : k = 2 ∨ l = 0) : Calls Try.prog 4 #[.int .i64 (k : Int), .int .i64 (l : Int), .slice a L.length cap] w fun e w' => e = .returned (.bool true) ∧ Below w.heap.size w w' := by
  obtain ⟨L2, hL2⟩ : ∃ L2, L2 = L.take 90 := ⟨_, rfl⟩
  have hl2 : L2.length ≤ 90 := by rw [hL2, List.length_take]; omega
  have hC2 : Cs w a L2 := by rw [hL2]; exact hc.take 90
  have C0 : Hid (Calls Try.prog 22 #[.slice a L.length cap] w fun e w' => e = .returned (.slice a L2.length cap) ∧ w' = w) := few_any w h L2 hL2
  have C2 : Hid (∀ w, Calls Try.prog 24 #[.int .i64 (k : Int), .int .i64 (l : Int)] w fun e w' => e = .returned (.tuple #[.string (tx (packS k l [])), .int .i64 0]) ∧ Below w.heap.size w w') := fun w => New_any w k l h1 h2 h3
  have C9 : Hid (∀ w, Calls Try.prog 18 #[] w fun e w' => e = .returned (.bool true) ∧ Below w.heap.size w w') := fun w => awake_any w
  have C1 : Hid (∀ w, Cs w a L2 → Calls Try.prog 23 #[.int .i64 (k : Int), .int .i64 (l : Int), .slice a L2.length cap] w fun e w' => e = .returned (.tuple #[.string (if firstBad k L2 = 0 then tx (packS k l L2) else ⟨#[]⟩), .int .i64 (firstBad k L2)]) ∧ Below w.heap.size w w') := fun w hc => Make_any w k l cap hc h1 h2 h3 (by omega)
  have hcan0 : CanPack k l [] := ⟨h1, h2, h3, fun _ => rfl, fun c hc => (by cases hc), fun c hc => (by cases hc), List.Pairwise.nil, by simp [needs]⟩
  obtain ⟨Y, hY⟩ : ∃ Y : Value → Int, Y = fun v => if nilV v then 0 else firstBad k L2 := ⟨_, rfl⟩
  have hY0 : Y (.slice none 0 0) = 0 := by rw [hY]; rfl
  have hY2 : Y (.slice a L2.length cap) = firstBad k L2 := by
    rw [hY]
    by_cases e : nilV (Value.slice a L2.length cap) = true
    · have hz : L2 = [] := by
        have : L2.length = 0 := by
          cases hL : L2.length with
          | zero => rfl
          | succ n => rw [hL] at e; cases a <;> cases e
        exact List.eq_nil_of_length_eq_zero this
      simp only [e, if_true]
      rw [hz]; rfl
    · simp only [e, if_false, Bool.false_eq_true]
  have CY : Hid (∀ w v, (v = .slice none 0 0 ∨ v = .slice a L2.length cap) → Cs w a L2 → Calls Try.prog 25 #[.int .i64 (k : Int), .int .i64 (l : Int), v] w fun e w' => e = .returned (.int .i64 (Y v)) ∧ Below w.heap.size w w') := fun w v hv hc => by
    rcases hv with rfl | rfl
    · rw [hY0]
      exact why_any w k l 0 (Cs.nil w none) h1 h2 h3 (by simp)
    · rw [hY2]
      exact why_any w k l cap hc h1 h2 h3 (by omega)
  have hP0 := packS_lyt [] hcan0
  by_cases hfb : firstBad k L2 = 0
  · have hcan : CanPack k l L2 := by
      have := canPack_of (L := L2) (i := L2.length) h1 h2 h3 (Nat.le_refl _) (firstBad_no hfb)
      rwa [List.take_length] at this
    have hP2 := packS_lyt L2 hcan
    obtain ⟨Z, hZ⟩ : ∃ Z : Value → ByteArray, Z = fun v => if nilV v then tx (packS k l []) else tx (packS k l L2) := ⟨_, rfl⟩
    have hZ0 : Z (.slice none 0 0) = tx (packS k l []) := by rw [hZ]; rfl
    have hZ2 : Z (.slice a L2.length cap) = tx (packS k l L2) := by
      rw [hZ]
      by_cases e : nilV (Value.slice a L2.length cap) = true
      · have hz : L2 = [] := by
          have : L2.length = 0 := by
            cases hL : L2.length with
            | zero => rfl
            | succ n => rw [hL] at e; cases a <;> cases e
          exact List.eq_nil_of_length_eq_zero this
        simp only [e, if_true]
        rw [hz]
      · simp only [e, if_false, Bool.false_eq_true]
    have CZ : Hid (∀ w v, (v = .slice none 0 0 ∨ v = .slice a L2.length cap) → Cs w a L2 → Calls Try.prog 26 #[.int .i64 (k : Int), .int .i64 (l : Int), v] w fun e w' => e = .returned (.string (Z v)) ∧ Below w.heap.size w w') := fun w v hv hc => by
      rcases hv with rfl | rfl
      · rw [hZ0, hP0]
        exact lpacked_any w k l (by omega) (by omega) 0 (Cs.nil w none) ⟨by simp, fun c hc => (by cases hc), fun c hc => (by cases hc)⟩ (by simp [needs])
      · rw [hZ2, hP2]
        exact lpacked_any w k l (by omega) (by omega) cap hc hcan.small hcan.fit
    have CR : Hid (∀ w, Calls Try.prog 12 #[.string (tx (packS k l L2))] w fun e w' => e = .returned (.bool true) ∧ Below w.heap.size w w') := fun w => Right_right w _ (by rw [bts_tx]; exact (packed_all L2 hcan).right)
    rw [hfb] at C1 hY2
    simp only [if_true] at C1
    clear h hL2 hcan hP2 hZ hY hP0 hcan0 hfb
    generalize tx (packS k l L2) = PA at *
    generalize tx (packS k l []) = PB at *
    have ha : (PA.toList == PA.toList) = true := by simp
    have hb : (PB.toList == PB.toList) = true := by simp
    go_enter Try.func4, Try.ntmps4
    go_wp2_with (first | (go_at_call 22; refine C0.out.mono ?_; rintro e w1 ⟨rfl, rfl⟩) | (go_at_call 23; refine (C1.out _ hC2).mono ?_; rintro e w2 ⟨rfl, hb2⟩; have hC3 := hC2.below hb2) | (go_at_call 24; refine (C2.out _).mono ?_; rintro e w3 ⟨rfl, hb3⟩; have hC4 := hC3.below hb3) | (go_at_call 25; refine (CY.out _ _ ?_ ?_).mono ?_; (first | exact Or.inl rfl | exact Or.inr rfl); (first | exact hC6 | exact hC4); rintro e w4 ⟨rfl, hb4⟩; first | (have := hC6; have hb6 := hb4; have hC7 := hC6.below hb6) | (have hb5 := hb4; have hC5 := hC4.below hb5)) | (go_at_call 26; refine (CZ.out _ _ ?_ ?_).mono ?_; (first | exact Or.inl rfl | exact Or.inr rfl); (first | exact hC7 | exact hC5); rintro e w8 ⟨rfl, hb8⟩; first | (have := hC7; have hb9 := hb8) | (have hb7 := hb8; have hC6 := hC5.below hb7)) | (go_at_call 12; refine (CR.out _).mono ?_; rintro e w10 ⟨rfl, hb10⟩) | (go_at_call 18; refine (C9.out _).mono ?_; rintro e w11 ⟨rfl, hb11⟩))
    go_ret
    exact ⟨rfl, thn (thn (thn (thn (thn (thn (thn hb2 hb3) hb5) hb7) hb6) hb9) hb10) hb11⟩
  · have CZ : Hid (∀ w, Calls Try.prog 26 #[.int .i64 (k : Int), .int .i64 (l : Int), .slice none 0 0] w fun e w' => e = .returned (.string (tx (packS k l []))) ∧ Below w.heap.size w w') := fun w => by
      rw [hP0]
      exact lpacked_any w k l (by omega) (by omega) 0 (Cs.nil w none) ⟨by simp, fun c hc => (by cases hc), fun c hc => (by cases hc)⟩ (by simp [needs])
    rw [if_neg hfb] at C1
    have hfb' : (firstBad k L2 != 0) = true := by simpa using hfb
    have hff : (firstBad k L2 == firstBad k L2) = true := by simp
    clear h hL2 hY hP0 hcan0 hfb
    generalize firstBad k L2 = fb at *
    generalize tx (packS k l []) = PB at *
    have hb : (PB.toList == PB.toList) = true := by simp
    go_enter Try.func4, Try.ntmps4
    go_wp2_with (first | (go_at_call 22; refine C0.out.mono ?_; rintro e w1 ⟨rfl, rfl⟩) | (go_at_call 23; refine (C1.out _ hC2).mono ?_; rintro e w2 ⟨rfl, hb2⟩; have hC3 := hC2.below hb2) | (go_at_call 24; refine (C2.out _).mono ?_; rintro e w3 ⟨rfl, hb3⟩; have hC4 := hC3.below hb3) | (go_at_call 25; refine (CY.out _ _ ?_ ?_).mono ?_; (first | exact Or.inl rfl | exact Or.inr rfl); (first | exact hC7 | exact hC6 | exact hC4); rintro e w4 ⟨rfl, hb4⟩; first | (have := hC7; have hb9 := hb4) | (have := hC6; have hb6 := hb4; have hC7 := hC6.below hb6) | (have hb5 := hb4; have hC5 := hC4.below hb5)) | (go_at_call 26; refine (CZ.out _).mono ?_; rintro e w8 ⟨rfl, hb7⟩; have hC6 := hC5.below hb7) | (go_at_call 18; refine (C9.out _).mono ?_; rintro e w11 ⟨rfl, hb11⟩))
    go_ret
    exact ⟨rfl, thn (thn (thn (thn (thn (thn hb2 hb3) hb5) hb7) hb6) hb9) hb11⟩
theorem makes_walk (w : World) (k l : Int) (a : Option Addr) (len cap : Nat) (L : List Cl) (hl : L.length = len) (hc : Cs w a L) (h : 90 < L.length → Sl w a cap L) : Calls Try.prog 4 #[.int .i64 k, .int .i64 l, .slice a len cap] w fun e w' => e = .returned (.bool true) ∧ Below w.heap.size w w' := by
  subst hl
  cases hf : fit k l
  · exact makes_arg w k l h hf
  · have hy : 0 ≤ k ∧ k ≤ 2 ∧ 0 ≤ l ∧ l ≤ 255 ∧ (k = 2 ∨ l = 0) := by simpa [fit] using hf
    obtain ⟨kn, rfl⟩ : ∃ n : Nat, k = (n : Int) := ⟨k.toNat, by omega⟩
    obtain ⟨ln, rfl⟩ : ∃ n : Nat, l = (n : Int) := ⟨l.toNat, by omega⟩
    exact makes_any w kn ln hc h (by omega) (by omega) (by omega)
/-- The cells that the law is handed. -/
theorem open_cells {H : Type} {enc : TypeId × Value → H} {w : World} {fuel : Nat} {a : Option Addr} {len cap : Nat} {x : DataW H × List MemPlace}
    (h : DataW.trod enc Try.prog w 0 (fun _ => true) true fuel 22 [.slice a len cap] = some x) : ∃ L : List Cl, L.length = len ∧ Cs w a L ∧ (90 < L.length → Sl w a cap L) := by
  rcases Go.Deep.open_slice Try.underlying22 h with ⟨hcs, _⟩ | ⟨ad, l, c, m, n, D, Pl, hcs, _, hl, hm, hmm, _, hall⟩
  · simp at hcs
    obtain ⟨rfl, rfl, rfl⟩ := hcs
    exact ⟨[], rfl, Cs.nil _ _, fun e => absurd e (by simp)⟩
  · simp at hcs
    obtain ⟨rfl, rfl, rfl⟩ := hcs
    rw [if_pos rfl] at hmm
    subst hmm
    have h28 : Try.prog.cellsOf 28 = 2 := by kernel_rfl
    have h9 : Try.prog.cellsOf 9 = 1 := by kernel_rfl
    have each : ∀ i, i < m → ∃ q : Cl, w.cell? (ad.add (i * 2)) = some (.string q.k) ∧ w.cell? (ad.add (i * 2 + 1)) = some (.string q.v) := by
      intro i hi
      obtain ⟨cs', g1, g2⟩ := hall i (by omega)
      rw [h28] at g1
      obtain ⟨_, hlen, hcell⟩ := World.cells?_some g1
      obtain ⟨xs, k, hk, _, _, hxl, hf⟩ := DataW.trod_struct Try.underlying28 g2
      match xs, hxl, cs', hlen with
      | [y0, y1], _, [v0, v1], _ =>
        have e0 := hcell 0 (by omega)
        have e1 := hcell 1 (by omega)
        rw [Go.Deep.add_add] at e0 e1
        have f0 := hf 0 _ rfl
        have f1 := hf 1 _ rfl
        simp [h9] at f0 f1
        obtain ⟨s0, i0, _, _⟩ := DataW.trod_string Try.underlying9 f0
        obtain ⟨s1, i1, _, _⟩ := DataW.trod_string Try.underlying9 f1
        simp at i0 i1
        subst i0 i1
        exact ⟨⟨s0, s1⟩, by simpa using e0, by simpa using e1⟩
    haveI : Inhabited Cl := ⟨⟨⟨#[]⟩, ⟨#[]⟩⟩⟩
    obtain ⟨q, hq⟩ := Go.Deep.choose_lt each
    obtain ⟨b, off, spot⟩ := ad
    by_cases hm0 : m = 0
    · have hl0 : len = 0 := by omega
      subst hl0
      exact ⟨[], rfl, Cs.nil _ _, fun e => absurd e (by simp)⟩
    · have g0 := (hq 0 (by omega)).1
      have hspot : spot = none := by simpa [Addr.add] using World.cell?_spot g0
      subst hspot
      refine (fun hcs : Cs w (some ⟨b, off, none⟩) ((List.range len).map q) => ?_) ⟨fun i hi => ?_⟩
      · exact ⟨(List.range len).map q, by simp, hcs, fun _ => ⟨hcs, by simpa using hl, fun e => (by cases e), Or.inr ⟨b, off, rfl⟩⟩⟩
      · have hi' : i < len := by simpa using hi
        obtain ⟨g1, g2⟩ := hq i (by omega)
        rw [Addr.add_mid] at g1 g2
        simp only [List.getElem_map, List.getElem_range]
        refine ⟨b, off, rfl, ?_, g1, g2⟩
        rcases Nat.lt_or_ge b w.heap.size with h' | h'
        · exact h'
        · simp [World.cell?, Array.getElem?_eq_none h'] at g1
end Go.Proofs.Ytmoognjegjeegaa
