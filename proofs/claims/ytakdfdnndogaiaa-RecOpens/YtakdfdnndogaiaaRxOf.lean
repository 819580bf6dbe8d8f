/- The program's read, Of, framed and Open, of any bytes. -/
import Derived.Test.YtakdfdnndogaiaaRxRdA
namespace Go.Proofs.Ytakdfdnndogaiaa
open Go.RowKit
set_option linter.unusedVariables false
set_option linter.unusedSimpArgs false
set_option maxRecDepth 100000

theorem read_any {w : World} (t : ByteArray) (ht : t.size ≤ 140737488351232) : Calls Try.prog 31 #[.string t] w fun e w' => (∃ v, e = .returned (.tuple #[v, .int .i64 (Pk.rdEnd (rdM t).2.1 (rdM t).2.2).2]) ∧ RecF w' v (rdM t).1 w.heap.size) ∧ Below w.heap.size w w' := by
  unfold rdM
  dsimp only
  by_cases h1 : nN (t, 0) 1 = 1
  · rw [if_pos (Or.inl h1)]; exact read_1 ht rfl rfl h1
  by_cases h2 : nN (t, 0) 1 = 2
  · rw [if_pos (Or.inr h2)]; exact read_2 ht rfl rfl h2
  rw [if_neg (by omega)]
  by_cases h3 : nN (t, 0) 1 = 3
  · rw [if_pos (by omega)]; exact read_3 ht rfl rfl h3
  by_cases h4 : nN (t, 0) 1 = 4
  · rw [if_pos (by omega)]; exact read_4 ht rfl rfl h4
  by_cases h5 : nN (t, 0) 1 = 5
  · rw [if_pos (by omega)]; exact read_5 ht rfl rfl h5
  rw [if_neg (by omega)]
  by_cases h6 : nN (t, 0) 1 = 6
  · rw [if_pos h6]; exact read_6 ht rfl rfl h6
  rw [if_neg h6]
  by_cases h7 : nN (t, 0) 1 = 7
  · rw [if_pos (by omega)]; exact read_7 ht rfl rfl h7
  by_cases h8 : nN (t, 0) 1 = 8
  · rw [if_pos (by omega)]; exact read_8 ht rfl rfl h8
  rw [if_neg (by omega)]
  by_cases h9 : nN (t, 0) 1 = 9
  · rw [if_pos h9]; exact read_9 ht rfl rfl h9
  rw [if_neg h9]
  by_cases h10 : nN (t, 0) 1 = 10
  · rw [if_pos h10]; exact read_10 ht rfl rfl h10
  rw [if_neg h10]
  exact read_o ht rfl rfl h1 h2 h3 h4 h5 h6 h7 h8 h9 h10
theorem nn255 (q : Lf) : (nN q 1).toNat ≤ 255 := by have := nN_one q; omega
theorem rdChg_size (act : Int) (s : Sc) (q : Lf) (B : Nat) (hq : q.1.size ≤ B) (h1 : s.ol.size ≤ B) (h2 : s.nw.size ≤ B) : (rdChg act s q).1.ky.size ≤ B ∧ (rdChg act s q).1.ol.size ≤ B ∧ (rdChg act s q).1.nw.size ≤ B := by
  have a1 := Nat.le_trans (tT_size (sN q 2) 16) (Nat.le_trans (sN_size q 2) hq)
  have a0 : (rq1 q).1.size ≤ B := Nat.le_trans (sT_size (sN q 2) 16) (Nat.le_trans (sN_size q 2) hq)
  have a2 := Nat.le_trans (tT_size (rq1 q) 32) a0
  have a3 := Nat.le_trans (tT_size (sT (rq1 q) 32) 32) (Nat.le_trans (sT_size (rq1 q) 32) a0)
  unfold rdChg
  split
  · exact ⟨a1, h1, a2⟩
  · split
    · exact ⟨a1, a2, h2⟩
    · exact ⟨a1, a2, a3⟩
theorem sN_le {q : Lf} {k : Int} {B : Nat} (h : q.1.size ≤ B) : (sN q k).1.size ≤ B := Nat.le_trans (sN_size q k) h
theorem rdM_small (t : ByteArray) (ht : t.size ≤ 140737488351232) : Small (rdM t).1 := by
  have hq : (sN (t, 0) 1).1.size ≤ 140737488351232 := sN_le (q := (t, 0)) ht
  have z : (⟨#[]⟩ : ByteArray).size ≤ 9223372036854775807 := Nat.zero_le _
  have z2 : (⟨#[]⟩ : ByteArray).size ≤ 140737488351232 := Nat.zero_le _
  have e0 : ([] : List Im).length ≤ 1000 := Nat.zero_le _
  have e1 : ([] : List Tb).length ≤ 1000 := Nat.zero_le _
  have e2 : ∀ p ∈ ([] : List Im), p.2.size ≤ 9223372036854775807 := fun p hp => by cases hp
  unfold rdM
  dsimp only
  generalize sN (t, 0) 1 = q at *
  split
  · refine ⟨?_, e1, ?_, z, z, z⟩
    · show (rdImL _ _).length ≤ 1000
      rw [rdImL_length]; have := nn255 q; omega
    · intro p hp
      obtain ⟨j, _, rfl⟩ := List.mem_map.1 hp
      have h1 := tT_size (sN (rdImS (sN q 1) j) 2) 224
      have h2 := sN_size (rdImS (sN q 1) j) 2
      have h3 := rdImS_size (sN q 1) j
      have h4 := sN_size q 1
      show (tT (sN (rdImS (sN q 1) j) 2) 224).size ≤ _
      omega
  · split
    · have := rdChg_size (nN (t, 0) 1) {kR (nN (t, 0) 1) with tx := nN q 6, pv := nN (sN q 6) 6} (sN (sN q 6) 6) 140737488351232 (sN_le (sN_le hq)) z2 z2
      exact ⟨e0, e1, e2, Nat.le_trans this.1 (by omega), Nat.le_trans this.2.1 (by omega), Nat.le_trans this.2.2 (by omega)⟩
    · split
      · have := rdChg_size (nN (sN (sN (sN q 6) 6) 6) 1) {kR (nN (t, 0) 1) with tx := nN q 6, pv := nN (sN q 6) 6, nx := nN (sN (sN q 6) 6) 6, ac := nN (sN (sN (sN q 6) 6) 6) 1} (sN (sN (sN (sN q 6) 6) 6) 1) 140737488351232 (sN_le (sN_le (sN_le (sN_le hq)))) z2 z2
        exact ⟨e0, e1, e2, Nat.le_trans this.1 (by omega), Nat.le_trans this.2.1 (by omega), Nat.le_trans this.2.2 (by omega)⟩
      · split
        · exact ⟨e0, e1, e2, z, z, z⟩
        · split
          · refine ⟨e0, ?_, e2, z, z, z⟩
            show (rdTbL _ _).length ≤ 1000
            rw [rdTbL_length]; have := nn255 q; omega
          · split
            · exact ⟨e0, e1, e2, z, z, z⟩
            · exact ⟨e0, e1, e2, z, z, z⟩
theorem bytes_ext {a b : ByteArray} (h : a.toList = b.toList) : a = b := by
  rw [ByteArray.toList_eq, ByteArray.toList_eq] at h
  exact ByteArray.ext (Array.ext' h)
/-- The result and the record that was read, behind the reading. -/
structure OfS (w wx : World) (b2 b4 B : Nat) (s : Sc) (I T : Value) (l : List Im) (g : List Tb) : Prop where
  r : RcAt wx b2 zS nilV nilV
  c : RcAt wx b4 s I T
  im : Fr wx I (encI l) B
  tb : Fr wx T (encT g) B
  bel : Below w.heap.size w wx
  hb2 : b2 < B
  lB : w.heap.size ≤ B
  l2 : w.heap.size ≤ b2
theorem OfS.mk' {w w1 w2 w3 w4 : World} {b2 b4 : Nat} {s : Sc} {I T : Value} {l : List Im} {g : List Tb} (N1 : NewR w w1 b2 zS nilV nilV) (hb : Below w1.heap.size w1 w2) (hI : Fr w2 I (encI l) w1.heap.size) (hT : Fr w2 T (encT g) w1.heap.size) (N4 : NewR w2 w3 b4 zS nilV nilV) (P : PutR w3 w4 b4 s I T) : OfS w w4 b2 b4 w1.heap.size s I T l g := by
  have e1 := N1.eq
  have e4 := N4.eq
  have z1 := N1.rc.lt
  have z2 := hb.size
  have z3 := N4.below.size
  have z5 := N1.below.size
  have b24 : Below w2.heap.size w2 w4 := N4.below.trans (P.below (by omega) z3)
  exact ⟨(N1.rc.below hb).below b24, P.rc, hI.below b24, hT.below b24, thn (thn N1.below hb) b24, z1, z5, by omega⟩
theorem OfS.below {w wx wq : World} {b2 b4 B : Nat} {s : Sc} {I T : Value} {l : List Im} {g : List Tb} (h : OfS w wx b2 b4 B s I T l g) (hb : Below wx.heap.size wx wq) : OfS w wq b2 b4 B s I T l g :=
  ⟨h.r.below hb, h.c.below hb, h.im.below hb, h.tb.below hb, thn h.bel hb, h.hb2, h.lB, h.l2⟩
set_option maxHeartbeats 1000000 in
theorem Of_any {w : World} (t : ByteArray) (ht : t.size ≤ 140737488351232) : Calls Try.prog 18 #[.string t] w fun e w' => (∃ v, e = .returned (.tuple #[v, .int .i64 (ofM t).2]) ∧ RecF w' v (ofM t).1 w.heap.size) ∧ Below w.heap.size w w' := by
  have CR : Hid (∀ wx, Calls Try.prog 31 #[.string t] wx fun e w' => (∃ v, e = .returned (.tuple #[v, .int .i64 (Pk.rdEnd (rdM t).2.1 (rdM t).2.2).2]) ∧ RecF w' v (rdM t).1 wx.heap.size) ∧ Below wx.heap.size wx w') := fun wx => read_any t ht
  have hsm := rdM_small t ht
  have CB : Hid (∀ wx v', RecV wx v' (rdM t).1 → Calls Try.prog 22 #[v'] wx fun r w' => r = .returned (.tuple #[.string (bodyM (rdM t).1).1, .int .i64 (bodyM (rdM t).1).2]) ∧ Below wx.heap.size wx w') := fun wx v' h' => body_any h' hsm
  unfold ofM
  generalize (Pk.rdEnd (rdM t).2.1 (rdM t).2.2).2 = E at *
  generalize (rdM t).1 = m at *
  obtain ⟨s, l, g⟩ := m
  by_cases hE : E = 0
  · subst hE
    rw [if_neg (by simp)]
    by_cases hb : (bodyM ⟨s, l, g⟩).2 = 0 ∧ (bodyM ⟨s, l, g⟩).1 = t
    · rw [if_pos hb]
      rw [hb.1, hb.2] at CB
      have htt : (t.toList != t.toList) = false := by simp
      clear hb hsm
      go_enter Try.func18, Try.ntmps18
      go_wp2_with (first
        | (have := N1; refine wpList_new_rc _ rfl rfl ?_; intro w3 b4 N4)
        | (refine wpList_new_rc _ rfl rfl ?_; intro w1 b2 N1)
        | (go_at_call 31; refine (CR.out _).mono ?_; rintro e w2 ⟨⟨v, rfl, hv⟩, b2'⟩; obtain ⟨I, T, rfl, hI, hT⟩ := hv.ex; dsimp only at hI hT)
        | (refine wpList_at (Op.store 25 (.tmp 4) (.tmp 11)) rfl ?_; refine wpList_put_rc (s' := s) (I' := I) (T' := T) _ rfl (.tmp 4) (.tmp 11) rfl rfl rfl N4.rc hI.slI.one hT.slT.one ?_; intro w4 P4; have H := OfS.mk' N1 b2' hI hT N4 P4; clear N1 N4 P4 hv hI hT this)
        | (refine wpList_load_rc _ rfl (.tmp 4) rfl rfl H.c ?_)
        | (go_at_call 22; refine (CB.out _ _ ⟨I, T, rfl, H.im.slI, H.tb.slT⟩).mono ?_; rintro e w5 ⟨rfl, b5⟩; have H1 := H.below b5; clear H; have H := H1; clear H1)
        | (refine wpList_at (Op.store 25 (.tmp 2) (.tmp 30)) rfl ?_; refine wpList_put_rc (s' := s) (I' := I) (T' := T) _ rfl (.tmp 2) (.tmp 30) rfl rfl rfl H.r H.im.slI.one H.tb.slT.one ?_; intro w6 P6))
      refine bodyPost_ret (results_rc2 rfl _ _ rfl P6.rc) rfl ?_
      exact ⟨⟨_, rfl, ⟨I, T, rfl, (H.im.off P6.off H.hb2).mono H.lB, (H.tb.off P6.off H.hb2).mono H.lB⟩⟩, H.bel.trans (P6.below H.l2 H.bel.size)⟩
    · rw [if_neg hb]
      generalize (bodyM ⟨s, l, g⟩).1 = Z at *
      generalize (bodyM ⟨s, l, g⟩).2 = E at *
      by_cases he : E = 0
      · have he' : (E != 0) = false := by simpa using he
        have hzt : (Z.toList == t.toList) = false := by
          rw [beq_eq_false_iff_ne]
          exact fun e => hb ⟨he, bytes_ext e⟩
        clear hb hsm he
        go_enter Try.func18, Try.ntmps18
        go_wp2_with (first
          | (have := N1; refine wpList_new_rc _ rfl rfl ?_; intro w3 b4 N4)
          | (refine wpList_new_rc _ rfl rfl ?_; intro w1 b2 N1)
          | (go_at_call 31; refine (CR.out _).mono ?_; rintro e w2 ⟨⟨v, rfl, hv⟩, b2'⟩; obtain ⟨I, T, rfl, hI, hT⟩ := hv.ex; dsimp only at hI hT)
          | (refine wpList_at (Op.store 25 (.tmp 4) (.tmp 11)) rfl ?_; refine wpList_put_rc (s' := s) (I' := I) (T' := T) _ rfl (.tmp 4) (.tmp 11) rfl rfl rfl N4.rc hI.slI.one hT.slT.one ?_; intro w4 P4; have H := OfS.mk' N1 b2' hI hT N4 P4; clear N1 N4 P4 hv hI hT this)
          | (refine wpList_load_rc _ rfl (.tmp 4) rfl rfl H.c ?_)
          | (go_at_call 22; refine (CB.out _ _ ⟨I, T, rfl, H.im.slI, H.tb.slT⟩).mono ?_; rintro e w5 ⟨rfl, b5⟩; have H1 := H.below b5; clear H; have H := H1; clear H1)
          | (refine wpList_at (Op.store 25 (.tmp 2) (.tmp 29)) rfl ?_; refine wpList_put_rc (s' := zS) (I' := nilV) (T' := nilV) _ rfl (.tmp 2) (.tmp 29) rfl rfl rfl H.r rfl rfl ?_; intro w6 P6))
        refine bodyPost_ret (results_rc2 rfl _ _ rfl P6.rc) rfl ?_
        exact ⟨⟨_, rfl, RecF.zero _ _⟩, H.bel.trans (P6.below H.l2 H.bel.size)⟩
      · have he' : (E != 0) = true := by simpa using he
        clear hb hsm he
        go_enter Try.func18, Try.ntmps18
        go_wp2_with (first
          | (have := N1; refine wpList_new_rc _ rfl rfl ?_; intro w3 b4 N4)
          | (refine wpList_new_rc _ rfl rfl ?_; intro w1 b2 N1)
          | (go_at_call 31; refine (CR.out _).mono ?_; rintro e w2 ⟨⟨v, rfl, hv⟩, b2'⟩; obtain ⟨I, T, rfl, hI, hT⟩ := hv.ex; dsimp only at hI hT)
          | (refine wpList_at (Op.store 25 (.tmp 4) (.tmp 11)) rfl ?_; refine wpList_put_rc (s' := s) (I' := I) (T' := T) _ rfl (.tmp 4) (.tmp 11) rfl rfl rfl N4.rc hI.slI.one hT.slT.one ?_; intro w4 P4; have H := OfS.mk' N1 b2' hI hT N4 P4; clear N1 N4 P4 hv hI hT this)
          | (refine wpList_load_rc _ rfl (.tmp 4) rfl rfl H.c ?_)
          | (go_at_call 22; refine (CB.out _ _ ⟨I, T, rfl, H.im.slI, H.tb.slT⟩).mono ?_; rintro e w5 ⟨rfl, b5⟩; have H1 := H.below b5; clear H; have H := H1; clear H1)
          | (refine wpList_at (Op.store 25 (.tmp 2) (.tmp 29)) rfl ?_; refine wpList_put_rc (s' := zS) (I' := nilV) (T' := nilV) _ rfl (.tmp 2) (.tmp 29) rfl rfl rfl H.r rfl rfl ?_; intro w6 P6))
        refine bodyPost_ret (results_rc2 rfl _ _ rfl P6.rc) rfl ?_
        exact ⟨⟨_, rfl, RecF.zero _ _⟩, H.bel.trans (P6.below H.l2 H.bel.size)⟩
  · rw [if_pos hE]
    have hE' : (E != 0) = true := by simpa using hE
    clear hsm hE
    skip
    go_enter Try.func18, Try.ntmps18
    go_wp2_with (first
      | (have := N1; refine wpList_new_rc _ rfl rfl ?_; intro w3 b4 N4)
      | (refine wpList_new_rc _ rfl rfl ?_; intro w1 b2 N1)
      | (go_at_call 31; refine (CR.out _).mono ?_; rintro e w2 ⟨⟨v, rfl, hv⟩, b2'⟩; obtain ⟨I, T, rfl, hI, hT⟩ := hv.ex; dsimp only at hI hT)
      | (refine wpList_at (Op.store 25 (.tmp 4) (.tmp 11)) rfl ?_; refine wpList_put_rc (s' := s) (I' := I) (T' := T) _ rfl (.tmp 4) (.tmp 11) rfl rfl rfl N4.rc hI.slI.one hT.slT.one ?_; intro w4 P4; have H := OfS.mk' N1 b2' hI hT N4 P4; clear N1 N4 P4 hv hI hT this)
      | (refine wpList_load_rc _ rfl (.tmp 4) rfl rfl H.c ?_)
      | (go_at_call 22; refine (CB.out _ _ ⟨I, T, rfl, H.im.slI, H.tb.slT⟩).mono ?_; rintro e w5 ⟨rfl, b5⟩; have H1 := H.below b5; clear H; have H := H1; clear H1)
      | (refine wpList_at (Op.store 25 (.tmp 2) (.tmp 15)) rfl ?_; refine wpList_put_rc (s' := zS) (I' := nilV) (T' := nilV) _ rfl (.tmp 2) (.tmp 15) rfl rfl rfl H.r rfl rfl ?_; intro w6 P6))
    refine bodyPost_ret (results_rc2 rfl _ _ rfl P6.rc) rfl ?_
    exact ⟨⟨_, rfl, RecF.zero _ _⟩, H.bel.trans (P6.below H.l2 H.bel.size)⟩
end Go.Proofs.Ytakdfdnndogaiaa
