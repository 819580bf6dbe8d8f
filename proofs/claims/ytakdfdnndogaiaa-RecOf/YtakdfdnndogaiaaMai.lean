/- The document's Body, of records with images and with a table. The document's ahead and change. -/
import Derived.Test.YtakdfdnndogaiaaMah
import Derived.Test.YtakdfdnndogaiaaMag
import Derived.Test.YtakdfdnndogaiaaMae
namespace Go.Proofs.Ytakdfdnndogaiaa
open Go.RowKit
set_option linter.unusedVariables false
set_option linter.unusedSimpArgs false
set_option maxRecDepth 100000

section
variable {w : World} {s s0 : Sc} {I0 T0 : Value} {l : List Im} {g : List Tb} {e0 : Int}
set_option maxHeartbeats 2000000 in
theorem rbody_1 (hk : s.kd = 1) (CC : Hid (∀ w', Below w.heap.size w w' → Calls Try.prog 16 #[.agg (s0.A I0 T0)] w' fun e w'' => (∃ v', e = .returned v' ∧ RecV w'' v' ⟨s, l, g⟩) ∧ Below w'.heap.size w' w''))
    (CA : Hid (∀ w' v', RecV w' v' ⟨s, l, g⟩ → Calls Try.prog 24 #[v'] w' fun r w'' => r = .returned (.int .i64 e0) ∧ Below w'.heap.size w' w''))
    (hy : e0 = 0 → s.ky.size ≤ 1000) (ho : e0 = 0 → s.ol.size ≤ 1000) (hw : e0 = 0 → s.nw.size ≤ 1000) (hn : l.length ≤ 1000) (ht : e0 = 0 → ∀ p ∈ l, p.2.size ≤ 1000) :
    Calls Try.prog 11 #[.agg (s0.A I0 T0)] w fun e w' => e = .returned (.tuple #[.string (finM (layI l (stepW (stepW (⟨#[]⟩, e0) s.kd 1) l.length 1))).1, .int .i64 (finM (layI l (stepW (stepW (⟨#[]⟩, e0) s.kd 1) l.length 1))).2]) ∧ Below w.heap.size w w' := by
  have e1 : (s.kd == 1) = true := by rw [hk]; rfl
  clear hk
  go_enter Try.func11, Try.ntmps11
  go_wp2_with (first
    | (refine wpList_box_rc (s := s0) (I := I0) (T := T0) _ rfl _ rfl rfl ?_; intro w0 b0 N0)
    | (refine wpList_load_rc _ rfl (.tmp 1) rfl rfl N0.rc ?_)
    | (go_at_call 16; refine (CC.out _ N0.below).mono ?_; rintro e w1 ⟨⟨v', rfl, h1⟩, b1⟩; obtain ⟨I, T, rfl, hI, hT⟩ := h1.ex; dsimp only at hI hT; have B1 := thn N0.below b1; clear N0 b1 h1; obtain ⟨a, c, rfl, hcs, hnil, hle, hsp⟩ := hI.ex)
    | (refine wpList_new_rc _ rfl rfl ?_; intro w2 b2 N2)
    | (refine wpList_put_rc (s' := s) (I' := _) (T' := _) _ rfl (.tmp 4) (.tmp 10) rfl rfl rfl N2.rc hI.one hT.one ?_; intro w3 P3; have H := BdS.mk' B1 hI hT N2 P3; clear N2 P3 B1)
    | (refine wpList_load_rc _ rfl (.tmp 4) rfl rfl H.rc ?_)
    | (go_at_call 24; refine (CA.out _ _ ⟨_, _, rfl, H.im, H.tb⟩).mono ?_; rintro e w1 ⟨rfl, b1⟩; have h := Stt.start e0; have H1 := H.below b1; clear H; have H := H1; clear H1 b1; have k0 := H.rc.c0; have k9 := H.rc.c9)
    | (go_at_call 25; refine (h.put (by omega) _ _ (by omega) (by omega) _).mono ?_; clear h; rintro e w1 ⟨rfl, h, b1⟩; have H1 := H.below b1; clear H; have H := H1; clear H1 b1; have k0 := H.rc.c0; have k9 := H.rc.c9))
  go_loopw [5, 6, 7] (fun ev sv iv wr => ∃ i : Nat, i ≤ l.length ∧ iv = .int .i64 (i : Int) ∧ ev = .int .i64 (layI (l.take i) (stepW (stepW (⟨#[]⟩, e0) s.kd 1) l.length 1)).2 ∧ sv = .string (layI (l.take i) (stepW (stepW (⟨#[]⟩, e0) s.kd 1) l.length 1)).1 ∧ Stt e0 (layI (l.take i) (stepW (stepW (⟨#[]⟩, e0) s.kd 1) l.length 1)) (12 + 65543 * i) ∧ BdS w wr b2 s (.slice a l.length c) T l g) (fun _ _ iv _ => l.length - (intOf iv).toNat)
  case atStart => exact ⟨0, Nat.zero_le _, rfl, rfl, rfl, h, H⟩
  case round =>
    clear h H CC CA
    obtain ⟨i, hi, rfl, rfl, rfl, h, H⟩ := hrel
    have k9 := H.rc.c9
    by_cases hlt : i < l.length
    · obtain ⟨_, _, he, hcs2, _⟩ := H.im.ex
      cases he
      obtain ⟨b', off, rfl, hb', HC0⟩ := csI_at hcs2 (i := i) (by omega)
      obtain ⟨q0, q1⟩ := HC0 wr (Below.refl _ _)
      have HC : Hid _ := HC0
      have HS : Hid (layI (l.take (i + 1)) (stepW (stepW (⟨#[]⟩, e0) s.kd 1) l.length 1) = stepT (stepW (layI (l.take i) (stepW (stepW (⟨#[]⟩, e0) s.kd 1) l.length 1)) (l[i]'(by omega)).1 2) (l[i]'(by omega)).2) := (by rw [List.take_succ_eq_append_getElem (by omega), layI_snoc] : layI (l.take (i + 1)) (stepW (stepW (⟨#[]⟩, e0) s.kd 1) l.length 1) = stepT (stepW (layI (l.take i) (stepW (stepW (⟨#[]⟩, e0) s.kd 1) l.length 1)) (l[i]'(by omega)).1 2) (l[i]'(by omega)).2)
      have hz : e0 = 0 → (l[i]'(by omega)).2.size ≤ 1000 := fun e => ht e (l[i]'(by omega)) (List.getElem_mem _)
      have hi2 : (i : Int) < (l.length : Int) := by omega
      clear HC0 hcs2 hcs
      generalize l[i]'(by omega) = p at *
      obtain ⟨p, t⟩ := p
      dsimp only at q0 q1 HS hz
      go_wp2_with (first
        | (go_at_call 25; refine (h.put (by omega) _ _ (by omega) (by omega) _).mono ?_; clear h; rintro e w1 ⟨rfl, h9, b1⟩; obtain ⟨q0, q1⟩ := HC.out _ b1; have H1 := H.below b1; clear H; have H := H1; clear H1; have k9 := H.rc.c9)
        | (go_at_call 26; refine (h9.text (by omega) _ hz _).mono ?_; clear h9; rintro e w2 ⟨rfl, h8, b2⟩; have H1 := H.below b2; clear H; have H := H1; clear H1))
      go_roundw
      case rel =>
        refine ⟨i + 1, by omega, by go_num, by rw [HS.out], by rw [HS.out], ?_, H⟩
        rw [HS.out]
        exact h8.mono (by omega)
      case measure => simp [intOf]; omega
    · have hi2 : ¬ (i : Int) < (l.length : Int) := by omega
      rw [List.take_of_length_le (by omega)] at h ⊢
      go_wp2
      · go_ret2
        rename_i h1 h2
        refine ⟨?_, H.bel⟩
        rw [finM_long h1 (by omega)]
        rfl
      · go_ret2
        rename_i h1 h2
        refine ⟨?_, H.bel⟩
        rw [finM_good (by omega), h1]
        rfl
      · go_ret2
        rename_i h1
        rw [finM_err h1]
        exact ⟨rfl, H.bel⟩
set_option maxHeartbeats 2000000 in
theorem rbody_2 (hk : s.kd = 2) (CC : Hid (∀ w', Below w.heap.size w w' → Calls Try.prog 16 #[.agg (s0.A I0 T0)] w' fun e w'' => (∃ v', e = .returned v' ∧ RecV w'' v' ⟨s, l, g⟩) ∧ Below w'.heap.size w' w''))
    (CA : Hid (∀ w' v', RecV w' v' ⟨s, l, g⟩ → Calls Try.prog 24 #[v'] w' fun r w'' => r = .returned (.int .i64 e0) ∧ Below w'.heap.size w' w''))
    (hy : e0 = 0 → s.ky.size ≤ 1000) (ho : e0 = 0 → s.ol.size ≤ 1000) (hw : e0 = 0 → s.nw.size ≤ 1000) (hn : l.length ≤ 1000) (ht : e0 = 0 → ∀ p ∈ l, p.2.size ≤ 1000) :
    Calls Try.prog 11 #[.agg (s0.A I0 T0)] w fun e w' => e = .returned (.tuple #[.string (finM (layI l (stepW (stepW (⟨#[]⟩, e0) s.kd 1) l.length 1))).1, .int .i64 (finM (layI l (stepW (stepW (⟨#[]⟩, e0) s.kd 1) l.length 1))).2]) ∧ Below w.heap.size w w' := by
  have e1 : (s.kd == 1) = false := by rw [hk]; rfl
  have e2 : (s.kd == 2) = true := by rw [hk]; rfl
  clear hk
  go_enter Try.func11, Try.ntmps11
  go_wp2_with (first
    | (refine wpList_box_rc (s := s0) (I := I0) (T := T0) _ rfl _ rfl rfl ?_; intro w0 b0 N0)
    | (refine wpList_load_rc _ rfl (.tmp 1) rfl rfl N0.rc ?_)
    | (go_at_call 16; refine (CC.out _ N0.below).mono ?_; rintro e w1 ⟨⟨v', rfl, h1⟩, b1⟩; obtain ⟨I, T, rfl, hI, hT⟩ := h1.ex; dsimp only at hI hT; have B1 := thn N0.below b1; clear N0 b1 h1; obtain ⟨a, c, rfl, hcs, hnil, hle, hsp⟩ := hI.ex)
    | (refine wpList_new_rc _ rfl rfl ?_; intro w2 b2 N2)
    | (refine wpList_put_rc (s' := s) (I' := _) (T' := _) _ rfl (.tmp 4) (.tmp 10) rfl rfl rfl N2.rc hI.one hT.one ?_; intro w3 P3; have H := BdS.mk' B1 hI hT N2 P3; clear N2 P3 B1)
    | (refine wpList_load_rc _ rfl (.tmp 4) rfl rfl H.rc ?_)
    | (go_at_call 24; refine (CA.out _ _ ⟨_, _, rfl, H.im, H.tb⟩).mono ?_; rintro e w1 ⟨rfl, b1⟩; have h := Stt.start e0; have H1 := H.below b1; clear H; have H := H1; clear H1 b1; have k0 := H.rc.c0; have k9 := H.rc.c9)
    | (go_at_call 25; refine (h.put (by omega) _ _ (by omega) (by omega) _).mono ?_; clear h; rintro e w1 ⟨rfl, h, b1⟩; have H1 := H.below b1; clear H; have H := H1; clear H1 b1; have k0 := H.rc.c0; have k9 := H.rc.c9))
  go_loopw [5, 6, 7] (fun ev sv iv wr => ∃ i : Nat, i ≤ l.length ∧ iv = .int .i64 (i : Int) ∧ ev = .int .i64 (layI (l.take i) (stepW (stepW (⟨#[]⟩, e0) s.kd 1) l.length 1)).2 ∧ sv = .string (layI (l.take i) (stepW (stepW (⟨#[]⟩, e0) s.kd 1) l.length 1)).1 ∧ Stt e0 (layI (l.take i) (stepW (stepW (⟨#[]⟩, e0) s.kd 1) l.length 1)) (12 + 65543 * i) ∧ BdS w wr b2 s (.slice a l.length c) T l g) (fun _ _ iv _ => l.length - (intOf iv).toNat)
  case atStart => exact ⟨0, Nat.zero_le _, rfl, rfl, rfl, h, H⟩
  case round =>
    clear h H CC CA
    obtain ⟨i, hi, rfl, rfl, rfl, h, H⟩ := hrel
    have k9 := H.rc.c9
    by_cases hlt : i < l.length
    · obtain ⟨_, _, he, hcs2, _⟩ := H.im.ex
      cases he
      obtain ⟨b', off, rfl, hb', HC0⟩ := csI_at hcs2 (i := i) (by omega)
      obtain ⟨q0, q1⟩ := HC0 wr (Below.refl _ _)
      have HC : Hid _ := HC0
      have HS : Hid (layI (l.take (i + 1)) (stepW (stepW (⟨#[]⟩, e0) s.kd 1) l.length 1) = stepT (stepW (layI (l.take i) (stepW (stepW (⟨#[]⟩, e0) s.kd 1) l.length 1)) (l[i]'(by omega)).1 2) (l[i]'(by omega)).2) := (by rw [List.take_succ_eq_append_getElem (by omega), layI_snoc] : layI (l.take (i + 1)) (stepW (stepW (⟨#[]⟩, e0) s.kd 1) l.length 1) = stepT (stepW (layI (l.take i) (stepW (stepW (⟨#[]⟩, e0) s.kd 1) l.length 1)) (l[i]'(by omega)).1 2) (l[i]'(by omega)).2)
      have hz : e0 = 0 → (l[i]'(by omega)).2.size ≤ 1000 := fun e => ht e (l[i]'(by omega)) (List.getElem_mem _)
      have hi2 : (i : Int) < (l.length : Int) := by omega
      clear HC0 hcs2 hcs
      generalize l[i]'(by omega) = p at *
      obtain ⟨p, t⟩ := p
      dsimp only at q0 q1 HS hz
      go_wp2_with (first
        | (go_at_call 25; refine (h.put (by omega) _ _ (by omega) (by omega) _).mono ?_; clear h; rintro e w1 ⟨rfl, h9, b1⟩; obtain ⟨q0, q1⟩ := HC.out _ b1; have H1 := H.below b1; clear H; have H := H1; clear H1; have k9 := H.rc.c9)
        | (go_at_call 26; refine (h9.text (by omega) _ hz _).mono ?_; clear h9; rintro e w2 ⟨rfl, h8, b2⟩; have H1 := H.below b2; clear H; have H := H1; clear H1))
      go_roundw
      case rel =>
        refine ⟨i + 1, by omega, by go_num, by rw [HS.out], by rw [HS.out], ?_, H⟩
        rw [HS.out]
        exact h8.mono (by omega)
      case measure => simp [intOf]; omega
    · have hi2 : ¬ (i : Int) < (l.length : Int) := by omega
      rw [List.take_of_length_le (by omega)] at h ⊢
      go_wp2
      · go_ret2
        rename_i h1 h2
        refine ⟨?_, H.bel⟩
        rw [finM_long h1 (by omega)]
        rfl
      · go_ret2
        rename_i h1 h2
        refine ⟨?_, H.bel⟩
        rw [finM_good (by omega), h1]
        rfl
      · go_ret2
        rename_i h1
        rw [finM_err h1]
        exact ⟨rfl, H.bel⟩
set_option maxHeartbeats 2000000 in
theorem rbody_9 (hk : s.kd = 9) (CC : Hid (∀ w', Below w.heap.size w w' → Calls Try.prog 16 #[.agg (s0.A I0 T0)] w' fun e w'' => (∃ v', e = .returned v' ∧ RecV w'' v' ⟨s, l, g⟩) ∧ Below w'.heap.size w' w''))
    (CA : Hid (∀ w' v', RecV w' v' ⟨s, l, g⟩ → Calls Try.prog 24 #[v'] w' fun r w'' => r = .returned (.int .i64 e0) ∧ Below w'.heap.size w' w''))
    (hy : e0 = 0 → s.ky.size ≤ 1000) (ho : e0 = 0 → s.ol.size ≤ 1000) (hw : e0 = 0 → s.nw.size ≤ 1000) (hn : g.length ≤ 1000) :
    Calls Try.prog 11 #[.agg (s0.A I0 T0)] w fun e w' => e = .returned (.tuple #[.string (finM (layB g (stepW (stepW (⟨#[]⟩, e0) s.kd 1) g.length 1))).1, .int .i64 (finM (layB g (stepW (stepW (⟨#[]⟩, e0) s.kd 1) g.length 1))).2]) ∧ Below w.heap.size w w' := by
  have e1 : (s.kd == 1) = false := by rw [hk]; rfl
  have e2 : (s.kd == 2) = false := by rw [hk]; rfl
  have e9 : (s.kd == 9) = true := by rw [hk]; rfl
  clear hk
  go_enter Try.func11, Try.ntmps11
  go_wp2_with (first
    | (refine wpList_box_rc (s := s0) (I := I0) (T := T0) _ rfl _ rfl rfl ?_; intro w0 b0 N0)
    | (refine wpList_load_rc _ rfl (.tmp 1) rfl rfl N0.rc ?_)
    | (go_at_call 16; refine (CC.out _ N0.below).mono ?_; rintro e w1 ⟨⟨v', rfl, h1⟩, b1⟩; obtain ⟨I, T, rfl, hI, hT⟩ := h1.ex; dsimp only at hI hT; have B1 := thn N0.below b1; clear N0 b1 h1; obtain ⟨a, c, rfl, hcs, hnil, hle, hsp⟩ := hT.ex)
    | (refine wpList_new_rc _ rfl rfl ?_; intro w2 b2 N2)
    | (refine wpList_put_rc (s' := s) (I' := _) (T' := _) _ rfl (.tmp 4) (.tmp 10) rfl rfl rfl N2.rc hI.one hT.one ?_; intro w3 P3; have H := BdS.mk' B1 hI hT N2 P3; clear N2 P3 B1)
    | (refine wpList_load_rc _ rfl (.tmp 4) rfl rfl H.rc ?_)
    | (go_at_call 24; refine (CA.out _ _ ⟨_, _, rfl, H.im, H.tb⟩).mono ?_; rintro e w1 ⟨rfl, b1⟩; have h := Stt.start e0; have H1 := H.below b1; clear H; have H := H1; clear H1 b1; have k0 := H.rc.c0; have k10 := H.rc.c10)
    | (go_at_call 25; refine (h.put (by omega) _ _ (by omega) (by omega) _).mono ?_; clear h; rintro e w1 ⟨rfl, h, b1⟩; have H1 := H.below b1; clear H; have H := H1; clear H1 b1; have k0 := H.rc.c0; have k10 := H.rc.c10))
  go_loopw [5, 6, 8] (fun ev sv iv wr => ∃ i : Nat, i ≤ g.length ∧ iv = .int .i64 (i : Int) ∧ ev = .int .i64 (layB (g.take i) (stepW (stepW (⟨#[]⟩, e0) s.kd 1) g.length 1)).2 ∧ sv = .string (layB (g.take i) (stepW (stepW (⟨#[]⟩, e0) s.kd 1) g.length 1)).1 ∧ Stt e0 (layB (g.take i) (stepW (stepW (⟨#[]⟩, e0) s.kd 1) g.length 1)) (12 + 12 * i) ∧ BdS w wr b2 s I (.slice a g.length c) l g) (fun _ _ iv _ => g.length - (intOf iv).toNat)
  case atStart => exact ⟨0, Nat.zero_le _, rfl, rfl, rfl, h, H⟩
  case round =>
    clear h H CC CA
    obtain ⟨i, hi, rfl, rfl, rfl, h, H⟩ := hrel
    have k9 := H.rc.c10
    by_cases hlt : i < g.length
    · obtain ⟨_, _, he, hcs2, _⟩ := H.tb.ex
      cases he
      obtain ⟨b', off, rfl, hb', HC0⟩ := csT_at hcs2 (i := i) (by omega)
      obtain ⟨q0, q1⟩ := HC0 wr (Below.refl _ _)
      have HC : Hid _ := HC0
      have HS : Hid (layB (g.take (i + 1)) (stepW (stepW (⟨#[]⟩, e0) s.kd 1) g.length 1) = stepW (stepW (layB (g.take i) (stepW (stepW (⟨#[]⟩, e0) s.kd 1) g.length 1)) (g[i]'(by omega)).1 6) (g[i]'(by omega)).2 6) := (by rw [List.take_succ_eq_append_getElem (by omega), layB_snoc] : layB (g.take (i + 1)) (stepW (stepW (⟨#[]⟩, e0) s.kd 1) g.length 1) = stepW (stepW (layB (g.take i) (stepW (stepW (⟨#[]⟩, e0) s.kd 1) g.length 1)) (g[i]'(by omega)).1 6) (g[i]'(by omega)).2 6)
      have hi2 : (i : Int) < (g.length : Int) := by omega
      clear HC0 hcs2 hcs
      generalize g[i]'(by omega) = p at *
      obtain ⟨p, t⟩ := p
      dsimp only at q0 q1 HS
      go_wp2_with (first
        | (have := h; go_at_call 25; refine (h.put (by omega) _ _ (by omega) (by omega) _).mono ?_; clear h this; rintro e w1 ⟨rfl, h9, b1⟩; obtain ⟨q0, q1⟩ := HC.out _ b1; have H1 := H.below b1; clear H; have H := H1; clear H1; have k9 := H.rc.c10)
        | (go_at_call 25; refine (h9.put (by omega) _ _ (by omega) (by omega) _).mono ?_; clear h9; rintro e w2 ⟨rfl, h8, b2⟩; have H1 := H.below b2; clear H; have H := H1; clear H1))
      go_roundw
      case rel =>
        refine ⟨i + 1, by omega, by go_num, by rw [HS.out], by rw [HS.out], ?_, H⟩
        rw [HS.out]
        exact h8.mono (by omega)
      case measure => simp [intOf]; omega
    · have hi2 : ¬ (i : Int) < (g.length : Int) := by omega
      rw [List.take_of_length_le (by omega)] at h ⊢
      go_wp2
      · go_ret2
        rename_i h1 h2
        refine ⟨?_, H.bel⟩
        rw [finM_long h1 (by omega)]
        rfl
      · go_ret2
        rename_i h1 h2
        refine ⟨?_, H.bel⟩
        rw [finM_good (by omega), h1]
        rfl
      · go_ret2
        rename_i h1
        rw [finM_err h1]
        exact ⟨rfl, H.bel⟩
set_option maxHeartbeats 2000000 in
theorem rbody_lo (hk : s.kd < 1) (CC : Hid (∀ w', Below w.heap.size w w' → Calls Try.prog 16 #[.agg (s0.A I0 T0)] w' fun e w'' => (∃ v', e = .returned v' ∧ RecV w'' v' ⟨s, l, g⟩) ∧ Below w'.heap.size w' w''))
    (CA : Hid (∀ w' v', RecV w' v' ⟨s, l, g⟩ → Calls Try.prog 24 #[v'] w' fun r w'' => r = .returned (.int .i64 e0) ∧ Below w'.heap.size w' w''))
    (hy : e0 = 0 → s.ky.size ≤ 1000) (ho : e0 = 0 → s.ol.size ≤ 1000) (hw : e0 = 0 → s.nw.size ≤ 1000) :
    Calls Try.prog 11 #[.agg (s0.A I0 T0)] w fun e w' => e = .returned (.tuple #[.string (finM (layC s (stepW (stepW (stepW (⟨#[]⟩, e0) s.kd 1) s.tx 6) s.pv 6))).1, .int .i64 (finM (layC s (stepW (stepW (stepW (⟨#[]⟩, e0) s.kd 1) s.tx 6) s.pv 6))).2]) ∧ Below w.heap.size w w' := by
  have e1 : (s.kd == 1) = false := by simp; omega
  have e2 : (s.kd == 2) = false := by simp; omega
  have e9 : (s.kd == 9) = false := by simp; omega
  have e10 : (s.kd == 10) = false := by simp; omega
  have e6 : (s.kd == 6) = false := by simp; omega
  have l6 : s.kd < 6 := by omega
  have ha : Hid (s.kd = actOf s) := (by unfold actOf; rw [if_neg (by omega)] : _ = actOf s)
  clear hk
  go_enter Try.func11, Try.ntmps11
  go_wp2_with (first
    | (refine wpList_box_rc (s := s0) (I := I0) (T := T0) _ rfl _ rfl rfl ?_; intro w0 b0 N0)
    | (refine wpList_load_rc _ rfl (.tmp 1) rfl rfl N0.rc ?_)
    | (go_at_call 16; refine (CC.out _ N0.below).mono ?_; rintro e w1 ⟨⟨v', rfl, h1⟩, b1⟩; obtain ⟨I, T, rfl, hI, hT⟩ := h1.ex; dsimp only at hI hT; have B1 := thn N0.below b1; clear N0 b1 h1)
    | (refine wpList_new_rc _ rfl rfl ?_; intro w2 b2 N2)
    | (refine wpList_put_rc (s' := s) (I' := _) (T' := _) _ rfl (.tmp 4) (.tmp 10) rfl rfl rfl N2.rc hI.one hT.one ?_; intro w3 P3; have H := BdS.mk' B1 hI hT N2 P3; clear N2 P3 B1)
    | (refine wpList_load_rc _ rfl (.tmp 4) rfl rfl H.rc ?_)
    | (go_at_call 24; refine (CA.out _ _ ⟨_, _, rfl, H.im, H.tb⟩).mono ?_; rintro e w1 ⟨rfl, b1⟩; have h := Stt.start e0; have H1 := H.below b1; clear H; have H := H1; clear H1 b1; have k0 := H.rc.c0; have k1 := H.rc.c1; have k2 := H.rc.c2)
    | (go_at_call 25; refine (h.put (by omega) _ _ (by omega) (by omega) _).mono ?_; clear h; rintro e w1 ⟨rfl, h, b1⟩; have H1 := H.below b1; clear H; have H := H1; clear H1 b1; have k0 := H.rc.c0; have k1 := H.rc.c1; have k2 := H.rc.c2)
    | (go_at_call 27; refine (rchange_any h (by omega) hy ho hw _ ha.out).mono ?_; clear h; rintro e w1 ⟨rfl, h, b1⟩; have H1 := H.below b1; clear H; have H := H1; clear H1 b1; have k0 := H.rc.c0; have k1 := H.rc.c1; have k2 := H.rc.c2))
  · go_ret2
    rename_i h1 h2
    refine ⟨?_, H.bel⟩
    rw [finM_long h1 (by omega)]
    rfl
  · go_ret2
    rename_i h1 h2
    refine ⟨?_, H.bel⟩
    rw [finM_good (by omega), h1]
    rfl
  · go_ret2
    rename_i h1
    rw [finM_err h1]
    exact ⟨rfl, H.bel⟩
set_option maxHeartbeats 2000000 in
theorem rbody_hi (hk : 10 < s.kd) (CC : Hid (∀ w', Below w.heap.size w w' → Calls Try.prog 16 #[.agg (s0.A I0 T0)] w' fun e w'' => (∃ v', e = .returned v' ∧ RecV w'' v' ⟨s, l, g⟩) ∧ Below w'.heap.size w' w''))
    (CA : Hid (∀ w' v', RecV w' v' ⟨s, l, g⟩ → Calls Try.prog 24 #[v'] w' fun r w'' => r = .returned (.int .i64 e0) ∧ Below w'.heap.size w' w''))
    (hy : e0 = 0 → s.ky.size ≤ 1000) (ho : e0 = 0 → s.ol.size ≤ 1000) (hw : e0 = 0 → s.nw.size ≤ 1000) :
    Calls Try.prog 11 #[.agg (s0.A I0 T0)] w fun e w' => e = .returned (.tuple #[.string (finM (stepW (stepW (stepW (⟨#[]⟩, e0) s.kd 1) s.tx 6) s.pv 6)).1, .int .i64 (finM (stepW (stepW (stepW (⟨#[]⟩, e0) s.kd 1) s.tx 6) s.pv 6)).2]) ∧ Below w.heap.size w w' := by
  have e1 : (s.kd == 1) = false := by simp; omega
  have e2 : (s.kd == 2) = false := by simp; omega
  have e9 : (s.kd == 9) = false := by simp; omega
  have e10 : (s.kd == 10) = false := by simp; omega
  have e6 : (s.kd == 6) = false := by simp; omega
  have l6 : ¬ s.kd < 6 := by omega
  clear hk
  go_enter Try.func11, Try.ntmps11
  go_wp2_with (first
    | (refine wpList_box_rc (s := s0) (I := I0) (T := T0) _ rfl _ rfl rfl ?_; intro w0 b0 N0)
    | (refine wpList_load_rc _ rfl (.tmp 1) rfl rfl N0.rc ?_)
    | (go_at_call 16; refine (CC.out _ N0.below).mono ?_; rintro e w1 ⟨⟨v', rfl, h1⟩, b1⟩; obtain ⟨I, T, rfl, hI, hT⟩ := h1.ex; dsimp only at hI hT; have B1 := thn N0.below b1; clear N0 b1 h1)
    | (refine wpList_new_rc _ rfl rfl ?_; intro w2 b2 N2)
    | (refine wpList_put_rc (s' := s) (I' := _) (T' := _) _ rfl (.tmp 4) (.tmp 10) rfl rfl rfl N2.rc hI.one hT.one ?_; intro w3 P3; have H := BdS.mk' B1 hI hT N2 P3; clear N2 P3 B1)
    | (refine wpList_load_rc _ rfl (.tmp 4) rfl rfl H.rc ?_)
    | (go_at_call 24; refine (CA.out _ _ ⟨_, _, rfl, H.im, H.tb⟩).mono ?_; rintro e w1 ⟨rfl, b1⟩; have h := Stt.start e0; have H1 := H.below b1; clear H; have H := H1; clear H1 b1; have k0 := H.rc.c0; have k1 := H.rc.c1; have k2 := H.rc.c2)
    | (go_at_call 25; refine (h.put (by omega) _ _ (by omega) (by omega) _).mono ?_; clear h; rintro e w1 ⟨rfl, h, b1⟩; have H1 := H.below b1; clear H; have H := H1; clear H1 b1; have k0 := H.rc.c0; have k1 := H.rc.c1; have k2 := H.rc.c2))
  · go_ret2
    rename_i h1 h2
    refine ⟨?_, H.bel⟩
    rw [finM_long h1 (by omega)]
    rfl
  · go_ret2
    rename_i h1 h2
    refine ⟨?_, H.bel⟩
    rw [finM_good (by omega), h1]
    rfl
  · go_ret2
    rename_i h1
    rw [finM_err h1]
    exact ⟨rfl, H.bel⟩
end
end Go.Proofs.Ytakdfdnndogaiaa

namespace Go.Proofs.Ytakdfdnndogaiaa
open Go.RowKit
set_option linter.unusedVariables false
set_option linter.unusedSimpArgs false
set_option maxRecDepth 100000

section
variable {w : World} {s : Sc} {T I : Value} {a : Option Addr} {c : Nat} {l : List Im} {g : List Tb}
def refI (l : List Im) : Int := if whole l then 0 else 4
set_option maxHeartbeats 1000000 in
theorem ahead_im (hk : s.kd = 1 ∨ s.kd = 2) (hf : s.kd = 1 → l.length = 1) (hn : l.length ≤ 1000) (hcs : Cs w a (encI l)) (ht : ∀ p ∈ l, p.2.size ≤ 9223372036854775807) :
    Calls Try.prog 24 #[.agg (s.A (.slice a l.length c) T)] w fun r w' => r = .returned (.int .i64 (refI l)) ∧ Below w.heap.size w w' := by
  obtain ⟨B1, hB1⟩ : ∃ q, q = (s.kd == 1) := ⟨_, rfl⟩
  have e1 := hB1.symm
  have e2 : B1 = false → (s.kd == 2) = true := by
    intro h; rw [h] at e1; simp at e1 ⊢; omega
  have e3 : B1 = true → ((l.length : Int) != 1) = false := by
    intro h; rw [h] at e1; simp at e1; have := hf e1; simp [this]
  clear hk hf hB1
  cases B1
  · replace e2 := e2 rfl
    clear e3
    go_enter Try.func24, Try.ntmps24
    go_wp2_with (refine wpList_box_rc (s := s) (I := _) (T := _) _ rfl _ rfl rfl ?_; intro w0 b0 N0; have k0 := N0.rc.c0; have k9 := N0.rc.c9)
    have hb0 := N0.below
    have hcs0 := hcs.below hb0
    go_loop [3] (fun ix => ∃ i : Nat, i ≤ l.length ∧ ix = .int .i64 (i : Int) ∧ whole (l.take i) = true) (fun ix => l.length - (intOf ix).toNat)
    case atStart => exact ⟨0, Nat.zero_le _, rfl, rfl⟩
    case round =>
      obtain ⟨i, hi, rfl, hw⟩ := hrel
      by_cases hlt : i < l.length
      · obtain ⟨b', off, rfl, hb', HC⟩ := csI_at hcs0 (i := i) (by omega)
        obtain ⟨q0, q1⟩ := HC w0 (Below.refl _ _)
        have hz := ht (l[i]'(by omega)) (List.getElem_mem _)
        have hi2 : (i : Int) < (l.length : Int) := by omega
        have HS : Hid _ := whole_take_succ (l := l) (i := i) (by omega)
        have HF : Hid _ := whole_false (l := l) (i := i) (by omega)
        have HW : Hid (whole (l.take i) = true) := hw
        clear HC hcs0 hcs ht hw
        generalize l[i]'(by omega) = p at *
        obtain ⟨p, t⟩ := p
        dsimp only at q0 q1 hz HS HF
        by_cases h2 : t.size = 224
        · have e : ((t.size : Int) != 224) = false := by simp [h2]
          go_wp2
          go_round
          case rel =>
            refine ⟨i + 1, by omega, by go_num, ?_⟩
            rw [HS.out, HW.out]; simp [h2]
          case measure => simp [intOf]; omega
        · have e : ((t.size : Int) != 224) = true := by simp; omega
          go_wp2
          go_ret
          rw [refI, HF.out h2]
          exact ⟨rfl, hb0⟩
      · have hin : i = l.length := by omega
        have hi2 : ¬ (i : Int) < (l.length : Int) := by omega
        go_wp2
        go_ret
        rw [List.take_of_length_le (by omega)] at hw
        rw [refI, hw]
        exact ⟨rfl, hb0⟩
  · replace e3 := e3 rfl
    clear e2
    go_enter Try.func24, Try.ntmps24
    go_wp2_with (refine wpList_box_rc (s := s) (I := _) (T := _) _ rfl _ rfl rfl ?_; intro w0 b0 N0; have k0 := N0.rc.c0; have k9 := N0.rc.c9)
    have hb0 := N0.below
    have hcs0 := hcs.below hb0
    go_loop [3] (fun ix => ∃ i : Nat, i ≤ l.length ∧ ix = .int .i64 (i : Int) ∧ whole (l.take i) = true) (fun ix => l.length - (intOf ix).toNat)
    case atStart => exact ⟨0, Nat.zero_le _, rfl, rfl⟩
    case round =>
      obtain ⟨i, hi, rfl, hw⟩ := hrel
      by_cases hlt : i < l.length
      · obtain ⟨b', off, rfl, hb', HC⟩ := csI_at hcs0 (i := i) (by omega)
        obtain ⟨q0, q1⟩ := HC w0 (Below.refl _ _)
        have hz := ht (l[i]'(by omega)) (List.getElem_mem _)
        have hi2 : (i : Int) < (l.length : Int) := by omega
        have HS : Hid _ := whole_take_succ (l := l) (i := i) (by omega)
        have HF : Hid _ := whole_false (l := l) (i := i) (by omega)
        have HW : Hid (whole (l.take i) = true) := hw
        clear HC hcs0 hcs ht hw
        generalize l[i]'(by omega) = p at *
        obtain ⟨p, t⟩ := p
        dsimp only at q0 q1 hz HS HF
        by_cases h2 : t.size = 224
        · have e : ((t.size : Int) != 224) = false := by simp [h2]
          go_wp2
          go_round
          case rel =>
            refine ⟨i + 1, by omega, by go_num, ?_⟩
            rw [HS.out, HW.out]; simp [h2]
          case measure => simp [intOf]; omega
        · have e : ((t.size : Int) != 224) = true := by simp; omega
          go_wp2
          go_ret
          rw [refI, HF.out h2]
          exact ⟨rfl, hb0⟩
      · have hin : i = l.length := by omega
        have hi2 : ¬ (i : Int) < (l.length : Int) := by omega
        go_wp2
        go_ret
        rw [List.take_of_length_le (by omega)] at hw
        rw [refI, hw]
        exact ⟨rfl, hb0⟩
end
end Go.Proofs.Ytakdfdnndogaiaa
