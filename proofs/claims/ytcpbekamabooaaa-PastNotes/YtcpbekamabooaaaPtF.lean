/- PastNotes: the walk. -/
import Derived.Test.YtcpbekamabooaaaPtE
import Derived.Test.YtcpbekamabooaaaPaV
import Derived.Test.YtcpbekamabooaaaPsW
import Derived.Test.YtcpbekamabooaaaPsE
namespace Go.Proofs.Ytcpbekamabooaaa.Pa
open Go.RowKit Gm Go.Maps
set_option linter.unusedVariables false
set_option linter.unusedSimpArgs false
set_option maxRecDepth 100000
/-- Bounds of the list behind i notes. -/
structure PiB (P : List Gn) (i : Nat) : Prop where
  wf : ∀ g ∈ P, wfT g.txn
  ks : ∀ g ∈ P, ∀ p ∈ g.ks, p.1.size ≤ 9223372036854775807
  le : P.length ≤ i
  kl : ∀ g ∈ P, g.ks.length ≤ i
theorem turn_b {g : Gn} {r : Rc} {n : Int} {i : Nat} (hs : r.ky.size ≤ 9223372036854775807) (h1 : ∀ p ∈ g.ks, p.1.size ≤ 9223372036854775807) (h2 : g.ks.length ≤ i) : (∀ p ∈ (g.turn r n).ks, p.1.size ≤ 9223372036854775807) ∧ (g.turn r n).ks.length ≤ i + 1 := by
  rw [turn_ks]
  unfold tks
  split
  · refine ⟨fun p hp => ?_, by simp; omega⟩
    rcases List.mem_append.1 hp with h | h
    · exact h1 p h
    · rw [List.mem_singleton] at h; subst h; exact hs
  · exact ⟨h1, by omega⟩
theorem PiB.note {P : List Gn} {i : Nat} {r : Rc} (h : PiB P i) (hw : wfT r.tx) (hs : r.ky.size ≤ 9223372036854775807) (n : Int) : PiB (noteM P r n) (i + 1) := by
  unfold noteM
  split
  · exact ⟨h.wf, h.ks, by have := h.le; omega, fun g hg => by have := h.kl g hg; omega⟩
  · split
    · have he : ∀ g ∈ P.eraseIdx (fnd P r.tx), g ∈ P := fun g hg => List.mem_of_mem_eraseIdx hg
      exact ⟨fun g hg => h.wf g (he g hg), fun g hg => h.ks g (he g hg), by have := h.le; have := List.length_eraseIdx_le P (fnd P r.tx); omega, fun g hg => by have := h.kl g (he g hg); omega⟩
    · split
      · rename_i hf
        have hm : ∀ g ∈ P.modify (fnd P r.tx) (·.turn r n), g ∈ P ∨ ∃ g' ∈ P, g = g'.turn r n := fun g hg => by
          obtain ⟨j, hj, rfl⟩ := List.getElem_of_mem hg
          rw [List.getElem_modify]
          have hj2 : j < P.length := by simpa using hj
          split
          · exact Or.inr ⟨_, List.getElem_mem hj2, rfl⟩
          · exact Or.inl (List.getElem_mem hj2)
        refine ⟨fun g hg => ?_, fun g hg => ?_, by rw [List.length_modify]; have := h.le; omega, fun g hg => ?_⟩
        · rcases hm g hg with h1 | ⟨g', h1, rfl⟩
          · exact h.wf g h1
          · rw [turn_txn]; exact h.wf g' h1
        · rcases hm g hg with h1 | ⟨g', h1, rfl⟩
          · exact h.ks g h1
          · exact (turn_b hs (h.ks g' h1) (h.kl g' h1)).1
        · rcases hm g hg with h1 | ⟨g', h1, rfl⟩
          · have := h.kl g h1; omega
          · exact (turn_b hs (h.ks g' h1) (h.kl g' h1)).2
      · have hz := turn_b (g := zG r.tx) (r := r) (n := n) (i := i) hs (fun p hp => by cases hp) (Nat.zero_le _)
        refine ⟨fun g hg => ?_, fun g hg => ?_, by rw [List.length_append]; have := h.le; simp; omega, fun g hg => ?_⟩
        · rcases List.mem_append.1 hg with h1 | h1
          · exact h.wf g h1
          · rw [List.mem_singleton] at h1; subst h1; rw [turn_txn]; exact hw
        · rcases List.mem_append.1 hg with h1 | h1
          · exact h.ks g h1
          · rw [List.mem_singleton] at h1; subst h1; exact hz.1
        · rcases List.mem_append.1 hg with h1 | h1
          · have := h.kl g h1; omega
          · rw [List.mem_singleton] at h1; subst h1; exact hz.2
/-- Both pasts, apart, and all that lay before stands. -/
structure Bz (w0 w : World) (xb pb : Nat) (P : List Gn) : Prop where
  ex : ∃ W V, Dp W w xb P ∧ Pl V w pb P ∧ (∀ j, W j → ¬ V j) ∧ (∀ j, W j → w0.heap.size ≤ j) ∧ ∀ j, V j → w0.heap.size ≤ j
  bel : Below w0.heap.size w0 w
section
variable {w0 w w' : World} {xb pb : Nat} {P : List Gn} {r : Rc} {I T : Value}
theorem Bz.bt (h : Bz w0 w xb pb P) : Bt w xb pb P := by
  obtain ⟨W, V, h1, h2, _⟩ := h.ex
  exact ⟨⟨W, h1⟩, ⟨V, h2⟩⟩
theorem Bz.below (h : Bz w0 w xb pb P) (hb : Below w.heap.size w w') : Bz w0 w' xb pb P := by
  obtain ⟨W, V, h1, h2, h3⟩ := h.ex
  exact ⟨⟨W, V, h1.bel hb, h2.bel hb, h3⟩, thn h.bel hb⟩
/-- x has noted; p will. -/
structure By (w0 w : World) (xb pb : Nat) (P P' : List Gn) : Prop where
  ex : ∃ W V, Dp W w xb P' ∧ Pl V w pb P ∧ (∀ j, W j → ¬ V j) ∧ (∀ j, W j → w0.heap.size ≤ j) ∧ ∀ j, V j → w0.heap.size ≤ j
  bel : Below w0.heap.size w0 w
theorem Bz.noteX (h : Bz w0 w xb pb P) {i : Nat} (hp : PiB P i) (hi : i ≤ 100) (hw : wfT r.tx) (hs : r.ky.size ≤ 9223372036854775807) (n : Int) : Calls Try.prog 7 #[.pointer (some ⟨xb, 0, none⟩), .agg (r.A I T), .int .i64 n] w fun e w' => e = .returned (.tuple #[]) ∧ By w0 w' xb pb P (noteM P r n) := by
  obtain ⟨W, V, h1, h2, h3, h4, h5⟩ := h.ex
  refine (Note_any h1 hw hs (by have := hp.le; omega) (fun g hg => by have := hp.kl g hg; omega) n).mono ?_
  rintro e w' ⟨rfl, ⟨W', g1, g2⟩⟩
  refine ⟨rfl, ⟨W', V, g1, h2.keep (fun j hj => g2.blk j (h2.lt j hj) (fun e => h3 j e hj)) g2.size, fun j hj hv => ?_, fun j hj => ?_, h5⟩, h.bel.trans (g2.bel h4 h.bel.size)⟩
  · rcases g2.sub j hj with h6 | h6
    · exact h3 j h6 hv
    · have := h2.lt j hv; omega
  · rcases g2.sub j hj with h6 | h6
    · exact h4 j h6
    · exact Nat.le_trans h.bel.size h6
theorem By.noteP {P' : List Gn} {n : Int} (h : By w0 w xb pb P P') {i : Nat} (hp : PiB P i) (hi : i ≤ 100) (he : P' = noteM P r n) : Calls Try.prog 8 #[.pointer (some ⟨pb, 0, none⟩), .agg (r.A I T), .int .i64 n] w fun e w' => e = .returned (.tuple #[]) ∧ Bz w0 w' xb pb P' := by
  obtain ⟨W, V, h1, h2, h3, h4, h5⟩ := h.ex
  refine (note_any h2 (by have := hp.le; omega) (fun g hg => by have := hp.kl g hg; omega) r n).mono ?_
  rintro e w' ⟨rfl, ⟨V', g1, g2⟩⟩
  rw [← he] at g1
  refine ⟨rfl, ⟨W, V', h1.keep (fun j hj => g2.blk j (h1.lt j hj) (h3 j hj)) g2.size, g1, fun j hj hv => ?_, h4, fun j hj => ?_⟩, h.bel.trans (g2.bel h5 h.bel.size)⟩
  · rcases g2.sub j hv with h6 | h6
    · exact h3 j hj h6
    · have := h1.lt j hj; omega
  · rcases g2.sub j hj with h6 | h6
    · exact h5 j h6
    · exact Nat.le_trans h.bel.size h6
theorem Pl.made {pb : Nat} (h : At w pb 28 #[.slice none 0 0]) : Pl (· = pb) w pb [] :=
  ⟨⟨.slice none 0 0, [], ⟨h, Row.nil _ _ _, (fun i hi => absurd hi (Nat.not_lt_zero _)), (fun i hi => absurd hi (Nat.not_lt_zero _)), (fun i j hi => absurd hi (Nat.not_lt_zero _)), (fun i j hi => absurd hi (Nat.not_lt_zero _)), rfl, (fun g e => by cases e), (fun i hi => absurd hi (Nat.not_lt_zero _)), fun i hi => absurd hi (Nat.not_lt_zero _)⟩, rfl, fun i hi => absurd hi (Nat.not_lt_zero _)⟩, fun j hj => by rw [hj]; exact h.lt⟩
set_option maxHeartbeats 2000000 in
theorem notes14_walk {a : Option Addr} {n cp : Nat} {L : List (List Value)} (hl : Sv w 13 RecL a n L) (key : ByteArray) (hs : key.size ≤ 9223372036854775807) : Calls Try.prog 3 #[.slice a n cp, .string key] w fun e w' => e = .returned (.bool true) ∧ Below w.heap.size w w' := by
  have HL : Hid (Sv w 13 RecL a n L) := hl
  have HS : Hid (key.size ≤ 9223372036854775807) := hs
  have hlen : L.length = n := hl.len
  have hn := hl.sz
  have CK : Hid (∀ wx, Calls Try.prog 10 #[] wx fun e w' => e = .returned (.bool true) ∧ Below wx.heap.size wx w') := fun wx => awake14 wx
  clear hl hs
  go_enter Try.func3, Try.ntmps3
  go_wp2_with first
    | (go_at_call 6; refine (New_ok _).mono ?_; rintro e w1 ⟨rfl, q1, n1⟩; obtain ⟨W1, D1, hW1⟩ := n1.ex)
    | (refine wpList_box_at (A := #[.slice none 0 0]) _ rfl _ rfl rfl ?_; intro w2 pb N2)
  obtain ⟨xb, hxb⟩ : ∃ x, x = w.heap.size + 2 := ⟨_, rfl⟩
  rw [← hxb] at D1 ⊢
  have Z0 : Hid (Bz w w2 xb pb []) := ⟨⟨W1, (· = pb), D1.bel N2.bel, Pl.made N2.is, fun j hj e => by have := D1.lt j hj; have := N2.eq; omega, hW1, fun j hj => by have := N2.eq; have := q1.size; omega⟩, q1.trans (N2.bel.mono q1.size)⟩
  clear q1 n1 D1 hW1 N2 hxb
  go_loopw [7] (fun s7 wr => ∃ (i : Nat) (P : List Gn), s7 = .int .i64 (i : Int) ∧ i ≤ n ∧ i ≤ 60 ∧ Bz w wr xb pb P ∧ PiB P i) (fun s7 _ => n - (intOf s7).toNat)
  case atStart => exact ⟨0, [], rfl, Nat.zero_le _, Nat.zero_le _, Z0.out, ⟨fun g hg => (by cases hg), fun g hg => (by cases hg), Nat.le_refl _, fun g hg => by cases hg⟩⟩
  case round =>
    obtain ⟨i, P, rfl, hi, hi6, hz, hp⟩ := hrel
    rename World => wo
    have ZB : Hid (Bz w wo xb pb P) := hz
    have HP : Hid (PiB P i) := hp
    clear hz hp Z0
    by_cases hlt : i < n ∧ i < 60
    · obtain ⟨h1, h2⟩ := hlt
      have hltI : (i : Int) < (n : Int) := by omega
      have h60 : (i : Int) < 60 := by omega
      obtain ⟨g, o, ea, hg, hk, hr, hra⟩ := HL.out.at_ i (by omega)
      obtain ⟨r, I, T, er, hw, hks, _⟩ := hr.ex
      rw [er] at hra
      subst ea
      have HRa : Hid (∀ wx, Below w.heap.size w wx → wx.rangeAt g (o + i * 13) (Rc.A r I T).toList) := fun wx hb => range_bel hra (hb.block g hg)
      have HW : Hid (wfT r.tx ∧ r.ky.size ≤ 9223372036854775807) := ⟨hw, hks⟩
      clear hra hw hks hr hk er hg
      go_wp2_with first
        | (have := Y1; refine wpList_load_in stRc (A := Rc.A r I T) _ rfl (.tmp 32) rfl rfl (HRa.out _ Y1.out.bel) rfl ?_)
        | (refine wpList_load_in stRc (A := Rc.A r I T) _ rfl (.tmp 24) rfl rfl (HRa.out _ ZB.out.bel) rfl ?_)
        | (go_at_call 7; refine (ZB.out.noteX HP.out (by omega) HW.out.1 HW.out.2 _).mono ?_; rintro e w3 ⟨rfl, y1⟩; have Y1 : Hid (By w w3 xb pb P (noteM P r ((i : Int) + 1))) := y1; clear y1)
        | (go_at_call 8; refine (Y1.out.noteP (r := r) (I := I) (T := T) (n := (i : Int) + 1) HP.out (by omega) rfl).mono ?_; rintro e w4 ⟨rfl, z4⟩; have Z4 : Hid (Bz w w4 xb pb (noteM P r ((i : Int) + 1))) := z4; have P4 : Hid (PiB (noteM P r ((i : Int) + 1)) (i + 1)) := HP.out.note HW.out.1 HW.out.2 _; clear z4)
        | (go_at_call 9; refine (stands_any Z4.out.bt (by obtain ⟨W, V, h1, _⟩ := Z4.out.ex; exact h1.pi P4.out.wf P4.out.ks (by have := P4.out.le; omega) (fun g hg => by have := P4.out.kl g hg; omega)) key HS.out).mono ?_; rintro e w5 ⟨rfl, q5⟩)
      have Z5 := Z4.out.below q5
      go_roundw
      case rel => exact ⟨i + 1, _, by rfl, by omega, by omega, Z5, P4.out⟩
      case measure => simp [intOf]; omega
    · by_cases hin : i < n
      · have hltI : (i : Int) < (n : Int) := by omega
        have h60 : ¬ (i : Int) < 60 := by omega
        go_wp2_with (go_at_call 10; refine (CK.out _).mono ?_; rintro e w5 ⟨rfl, q5⟩)
        go_ret
        exact ⟨rfl, thn ZB.out.bel q5⟩
      · have hltI : ¬ (i : Int) < (n : Int) := by omega
        go_wp2_with (go_at_call 10; refine (CK.out _).mono ?_; rintro e w5 ⟨rfl, q5⟩)
        go_ret
        exact ⟨rfl, thn ZB.out.bel q5⟩
end
end Go.Proofs.Ytcpbekamabooaaa.Pa
