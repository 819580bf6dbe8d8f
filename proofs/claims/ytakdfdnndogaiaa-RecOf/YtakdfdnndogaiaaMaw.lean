/- The document's Of, of any bytes. RecOf: bytes are the record that the document says. -/
import Derived.Test.YtakdfdnndogaiaaMao
import Derived.Test.YtakdfdnndogaiaaMap
import Derived.Test.YtakdfdnndogaiaaMaq
import Derived.Test.YtakdfdnndogaiaaMar
import Derived.Test.YtakdfdnndogaiaaMas
import Derived.Test.YtakdfdnndogaiaaMat
import Derived.Test.YtakdfdnndogaiaaMau
import Derived.Test.YtakdfdnndogaiaaMav
import Derived.Test.YtakdfdnndogaiaaMan
import Derived.Test.YtakdfdnndogaiaaMal
namespace Go.Proofs.Ytakdfdnndogaiaa
open Go.RowKit
set_option linter.unusedVariables false
set_option linter.unusedSimpArgs false
set_option maxRecDepth 100000

/-- A record as a value that a store into an elder block leaves as it is. -/
structure RecN (w : World) (v : Value) (m : Rm) (B : Nat) : Prop where
  rv : RecV w v m
  off : ∀ b w', Pk.Off b w w' → b < B → RecV w' v m
theorem RecF.recN {w : World} {v : Value} {m : Rm} {B : Nat} (h : RecF w v m B) : RecN w v m B := ⟨h.recV, fun b w' o hb => (h.off o hb).recV⟩
theorem RecV.recN {w : World} {v : Value} {s : Sc} {B : Nat} (h : RecV w v ⟨s, [], []⟩) : RecN w v ⟨s, [], []⟩ B := by
  refine ⟨h, fun b w' o hb => ?_⟩
  obtain ⟨I, T, h0, h1, h2⟩ := h.ex
  obtain ⟨a, c, e0, e1, e2, e3, e4⟩ := h1.ex
  obtain ⟨a', c', f0, f1, f2, f3, f4⟩ := h2.ex
  exact ⟨I, T, h0, ⟨a, c, e0, Cs.nil _ _, e2, e3, e4⟩, ⟨a', c', f0, Cs.nil _ _, f2, f3, f4⟩⟩
theorem calls_recN {w : World} {t : ByteArray} {s : Sc} {E : Int} (h : Calls Try.prog 19 #[.string t] w fun e w' => (∃ v, e = .returned (.tuple #[v, .int .i64 E]) ∧ RecV w' v ⟨s, [], []⟩) ∧ Below w.heap.size w w') : Calls Try.prog 19 #[.string t] w fun e w' => (∃ v, e = .returned (.tuple #[v, .int .i64 E]) ∧ RecN w' v ⟨s, [], []⟩ w.heap.size) ∧ Below w.heap.size w w' := h.mono fun e w' h => ⟨⟨h.1.choose, h.1.choose_spec.1, h.1.choose_spec.2.recN⟩, h.2⟩
theorem calls_recF {w : World} {t : ByteArray} {m : Rm} {E : Int} (h : Calls Try.prog 19 #[.string t] w fun e w' => (∃ v, e = .returned (.tuple #[v, .int .i64 E]) ∧ RecF w' v m w.heap.size) ∧ Below w.heap.size w w') : Calls Try.prog 19 #[.string t] w fun e w' => (∃ v, e = .returned (.tuple #[v, .int .i64 E]) ∧ RecN w' v m w.heap.size) ∧ Below w.heap.size w w' := h.mono fun e w' h => ⟨⟨h.1.choose, h.1.choose_spec.1, h.1.choose_spec.2.recN⟩, h.2⟩
theorem rof_of {w : World} {t : ByteArray} {m : Rm} {Q : Lf} (hr : rdM t = (m, Q)) (hs : Small m)
    (E : Q.2 ≠ 0 → Calls Try.prog 19 #[.string t] w fun e w' => (∃ v, e = .returned (.tuple #[v, .int .i64 Q.2]) ∧ RecV w' v zM) ∧ Below w.heap.size w w')
    (G : Small m → Q.2 = 0 → bodyM (cleanM m) = (t, 0) → Calls Try.prog 19 #[.string t] w fun e w' => (∃ v, e = .returned (.tuple #[v, .int .i64 0]) ∧ RecN w' v m w.heap.size) ∧ Below w.heap.size w w')
    (B : Small m → Q.2 = 0 → (bodyM (cleanM m)).2 ≠ 0 → Calls Try.prog 19 #[.string t] w fun e w' => (∃ v, e = .returned (.tuple #[v, .int .i64 4]) ∧ RecV w' v zM) ∧ Below w.heap.size w w')
    (Z : Small m → Q.2 = 0 → (bodyM (cleanM m)).2 = 0 → (bodyM (cleanM m)).1 ≠ t → Calls Try.prog 19 #[.string t] w fun e w' => (∃ v, e = .returned (.tuple #[v, .int .i64 4]) ∧ RecV w' v zM) ∧ Below w.heap.size w w') :
    Calls Try.prog 19 #[.string t] w fun e w' => (∃ v, e = .returned (.tuple #[v, .int .i64 (ofM t).2]) ∧ RecN w' v (ofM t).1 w.heap.size) ∧ Below w.heap.size w w' := by
  have hc := cleanM_rdM t
  rw [← rofM_eq]
  unfold rofM
  rw [hr] at hc ⊢
  dsimp only at hc ⊢
  rw [hc] at G B Z
  by_cases he : Q.2 = 0
  · rw [if_neg (by simpa using he)]
    by_cases hE : (bodyM m).2 = 0
    · by_cases hZ : (bodyM m).1 = t
      · rw [if_pos ⟨hE, hZ⟩]
        exact G hs he (Prod.ext hZ hE)
      · rw [if_neg (fun h => hZ h.2)]
        exact calls_recN (Z hs he hE hZ)
    · rw [if_neg (fun h => hE h.1)]
      exact calls_recN (B hs he hE)
  · rw [if_pos he]
    exact calls_recN (E he)
theorem rof_all {w : World} (t : ByteArray) (ht : t.size ≤ 1000000) : Calls Try.prog 19 #[.string t] w fun e w' => (∃ v, e = .returned (.tuple #[v, .int .i64 (ofM t).2]) ∧ RecN w' v (ofM t).1 w.heap.size) ∧ Below w.heap.size w w' := by
  have hs := rdM_small t (by omega)
  obtain ⟨K, hK⟩ : ∃ K, nN (t, 0) 1 = K := ⟨_, rfl⟩
  obtain ⟨q, hq⟩ : ∃ q, sN (t, 0) 1 = q := ⟨_, rfl⟩
  by_cases h1 : K = 1
  · obtain ⟨R, hR⟩ : ∃ R, rdM t = R := ⟨_, rfl⟩
    have hr := hR
    unfold rdM at hr
    dsimp only at hr
    rw [hK, hq, if_pos (by omega)] at hr
    subst hr
    rw [hR] at hs
    exact rof_of hR hs (fun he => rof_1_e ht hK hq h1 he) (fun hs he hE => calls_recF (rof_1_g ht hK hq hs h1 he hE)) (fun hs he hE => rof_1_b ht hK hq hs h1 he hE) (fun hs he hE hZ => rof_1_z ht hK hq hs h1 he hE hZ)
  by_cases h2 : K = 2
  · obtain ⟨R, hR⟩ : ∃ R, rdM t = R := ⟨_, rfl⟩
    have hr := hR
    unfold rdM at hr
    dsimp only at hr
    rw [hK, hq, if_pos (by omega)] at hr
    subst hr
    rw [hR] at hs
    exact rof_of hR hs (fun he => rof_2_e ht hK hq h2 he) (fun hs he hE => calls_recF (rof_2_g ht hK hq hs h2 he hE)) (fun hs he hE => rof_2_b ht hK hq hs h2 he hE) (fun hs he hE hZ => rof_2_z ht hK hq hs h2 he hE hZ)
  by_cases h3 : K = 3
  · obtain ⟨R, hR⟩ : ∃ R, rdM t = R := ⟨_, rfl⟩
    have hr := hR
    unfold rdM at hr
    dsimp only at hr
    rw [hK, hq, if_neg (by omega), if_pos (by omega)] at hr
    subst hr
    rw [hR] at hs
    exact rof_of hR hs (fun he => rof_3_e ht hK hq h3 he) (fun hs he hE => calls_recN (rof_3_g ht hK hq hs h3 he hE)) (fun hs he hE => rof_3_b ht hK hq hs h3 he hE) (fun hs he hE hZ => rof_3_z ht hK hq hs h3 he hE hZ)
  by_cases h4 : K = 4
  · obtain ⟨R, hR⟩ : ∃ R, rdM t = R := ⟨_, rfl⟩
    have hr := hR
    unfold rdM at hr
    dsimp only at hr
    rw [hK, hq, if_neg (by omega), if_pos (by omega)] at hr
    subst hr
    rw [hR] at hs
    exact rof_of hR hs (fun he => rof_4_e ht hK hq h4 he) (fun hs he hE => calls_recN (rof_4_g ht hK hq hs h4 he hE)) (fun hs he hE => rof_4_b ht hK hq hs h4 he hE) (fun hs he hE hZ => rof_4_z ht hK hq hs h4 he hE hZ)
  by_cases h5 : K = 5
  · obtain ⟨R, hR⟩ : ∃ R, rdM t = R := ⟨_, rfl⟩
    have hr := hR
    unfold rdM at hr
    dsimp only at hr
    rw [hK, hq, if_neg (by omega), if_pos (by omega)] at hr
    subst hr
    rw [hR] at hs
    exact rof_of hR hs (fun he => rof_5_e ht hK hq h5 he) (fun hs he hE => calls_recN (rof_5_g ht hK hq hs h5 he hE)) (fun hs he hE => rof_5_b ht hK hq hs h5 he hE) (fun hs he hE hZ => rof_5_z ht hK hq hs h5 he hE hZ)
  by_cases h6 : K = 6
  · obtain ⟨R, hR⟩ : ∃ R, rdM t = R := ⟨_, rfl⟩
    have hr := hR
    unfold rdM at hr
    dsimp only at hr
    rw [hK, hq, if_neg (by omega), if_neg (by omega), if_pos (by omega)] at hr
    subst hr
    rw [hR] at hs
    exact rof_of hR hs (fun he => rof_6_e ht hK hq h6 he) (fun hs he hE => calls_recN (rof_6_g ht hK hq hs h6 he hE)) (fun hs he hE => rof_6_b ht hK hq hs h6 he hE) (fun hs he hE hZ => rof_6_z ht hK hq hs h6 he hE hZ)
  by_cases h7 : K = 7
  · obtain ⟨R, hR⟩ : ∃ R, rdM t = R := ⟨_, rfl⟩
    have hr := hR
    unfold rdM at hr
    dsimp only at hr
    rw [hK, hq, if_neg (by omega), if_neg (by omega), if_neg (by omega), if_pos (by omega)] at hr
    subst hr
    rw [hR] at hs
    exact rof_of hR hs (fun he => rof_7_e ht hK hq h7 he) (fun hs he hE => calls_recN (rof_7_g ht hK hq hs h7 he hE)) (fun hs he hE => rof_7_b ht hK hq hs h7 he hE) (fun hs he hE hZ => rof_7_z ht hK hq hs h7 he hE hZ)
  by_cases h8 : K = 8
  · obtain ⟨R, hR⟩ : ∃ R, rdM t = R := ⟨_, rfl⟩
    have hr := hR
    unfold rdM at hr
    dsimp only at hr
    rw [hK, hq, if_neg (by omega), if_neg (by omega), if_neg (by omega), if_pos (by omega)] at hr
    subst hr
    rw [hR] at hs
    exact rof_of hR hs (fun he => rof_8_e ht hK hq h8 he) (fun hs he hE => calls_recN (rof_8_g ht hK hq hs h8 he hE)) (fun hs he hE => rof_8_b ht hK hq hs h8 he hE) (fun hs he hE hZ => rof_8_z ht hK hq hs h8 he hE hZ)
  by_cases h9 : K = 9
  · obtain ⟨R, hR⟩ : ∃ R, rdM t = R := ⟨_, rfl⟩
    have hr := hR
    unfold rdM at hr
    dsimp only at hr
    rw [hK, hq, if_neg (by omega), if_neg (by omega), if_neg (by omega), if_neg (by omega), if_pos (by omega)] at hr
    subst hr
    rw [hR] at hs
    exact rof_of hR hs (fun he => rof_9_e ht hK hq h9 he) (fun hs he hE => calls_recF (rof_9_g ht hK hq hs h9 he hE)) (fun hs he hE => rof_9_b ht hK hq hs h9 he hE) (fun hs he hE hZ => rof_9_z ht hK hq hs h9 he hE hZ)
  by_cases h10 : K = 10
  · obtain ⟨R, hR⟩ : ∃ R, rdM t = R := ⟨_, rfl⟩
    have hr := hR
    unfold rdM at hr
    dsimp only at hr
    rw [hK, hq, if_neg (by omega), if_neg (by omega), if_neg (by omega), if_neg (by omega), if_neg (by omega), if_pos (by omega)] at hr
    subst hr
    rw [hR] at hs
    exact rof_of hR hs (fun he => rof_10_e ht hK hq h10 he) (fun hs he hE => calls_recN (rof_10_g ht hK hq hs h10 he hE)) (fun hs he hE => rof_10_b ht hK hq hs h10 he hE) (fun hs he hE hZ => rof_10_z ht hK hq hs h10 he hE hZ)
  obtain ⟨R, hR⟩ : ∃ R, rdM t = R := ⟨_, rfl⟩
  have hr := hR
  unfold rdM at hr
  dsimp only at hr
  rw [hK, hq, if_neg (by omega), if_neg (by omega), if_neg (by omega), if_neg (by omega), if_neg (by omega), if_neg (by omega)] at hr
  subst hr
  rw [hR] at hs
  exact rof_of hR hs (fun he => rof_o_e ht hK hq h1 h2 h3 h4 h5 h6 h7 h8 h9 h10 he) (fun hs he hE => calls_recN (rof_o_g ht hK hq hs h1 h2 h3 h4 h5 h6 h7 h8 h9 h10 he hE)) (fun hs he hE => rof_o_b ht hK hq hs h1 h2 h3 h4 h5 h6 h7 h8 h9 h10 he hE) (fun hs he hE hZ => rof_o_z ht hK hq hs h1 h2 h3 h4 h5 h6 h7 h8 h9 h10 he hE hZ)
theorem rof_any {w : World} (t : ByteArray) (ht : t.size ≤ 1000000) : Calls Try.prog 19 #[.string t] w fun e w' => (∃ v, e = .returned (.tuple #[v, .int .i64 (ofM t).2]) ∧ RecV w' v (ofM t).1) ∧ Below w.heap.size w w' := (rof_all t ht).mono fun e w' h => ⟨⟨h.1.choose, h.1.choose_spec.1, h.1.choose_spec.2.rv⟩, h.2⟩
end Go.Proofs.Ytakdfdnndogaiaa

namespace Go.Proofs.Ytakdfdnndogaiaa
open Go.RowKit
set_option linter.unusedVariables false
set_option linter.unusedSimpArgs false
set_option maxRecDepth 100000

theorem ofM_small (t : ByteArray) (ht : t.size ≤ 140737488351232) : Small (ofM t).1 := by
  have h := rdM_small t ht
  have z : Small zM := ⟨Nat.zero_le _, Nat.zero_le _, (fun p hp => by cases hp), Nat.zero_le _, Nat.zero_le _, Nat.zero_le _⟩
  unfold ofM
  repeat' split
  · exact z
  · exact h
  · exact z
theorem RecF.put {w w' : World} {v : Value} {m : Rm} {B b : Nat} (h : RecF w v m B) (o : Pk.Off b w w') (hb : ∀ g, B ≤ g → g < w.heap.size → g ≠ b) : RecV w' v m := by
  obtain ⟨I, T, h0, h1, h2⟩ := h.ex
  refine ⟨I, T, h0, ?_, ?_⟩
  · obtain ⟨a, c, e0, e1, e2, e3, e4, e5⟩ := h1.ex
    rw [encI_length] at e0 e3
    refine ⟨a, c, e0, ⟨fun i hi => ?_⟩, e2, e3, fun _ => e4⟩
    obtain ⟨g, off, g0, g1, g2, g3⟩ := e1.at_ i hi
    have e := o.block g g1 (hb g (e5 g off g0) g1)
    exact ⟨g, off, g0, Nat.lt_of_lt_of_le g1 o.size, (World.cell?_of_block e).trans g2, (World.cell?_of_block e).trans g3⟩
  · obtain ⟨a, c, e0, e1, e2, e3, e4, e5⟩ := h2.ex
    rw [encT_length] at e0 e3
    refine ⟨a, c, e0, ⟨fun i hi => ?_⟩, e2, e3, fun _ => e4⟩
    obtain ⟨g, off, g0, g1, g2, g3⟩ := e1.at_ i hi
    have e := o.block g g1 (hb g (e5 g off g0) g1)
    exact ⟨g, off, g0, Nat.lt_of_lt_of_le g1 o.size, (World.cell?_of_block e).trans g2, (World.cell?_of_block e).trans g3⟩
/-- A record that was made: a slice's block lies ahead of a new one. -/
theorem RecV.new {w w1 w2 : World} {v : Value} {m s : Rm} {b : Nat} {s0 s1 : Sc} {I T I' T' : Value} (h : RecV w v m) (N : NewR w w1 b s0 I T) (P : PutR w1 w2 b s1 I' T') : RecV w2 v m := by
  have hB : Below w.heap.size w w2 := N.below.trans (P.below (by have := N.eq; omega) N.below.size)
  exact h.below hB
section
variable {w : World} {t u : ByteArray}
set_option maxHeartbeats 2000000 in
theorem of_0 (ht : ¬ (1000 : Int) < t.size) (htz : t.size ≤ 1000) : Calls Try.prog 6 #[.string t] w fun e w' => e = .returned (.bool true) ∧ Below w.heap.size w w' := by
  have hsm := ofM_small t (by omega)
  have CO : Hid (∀ wx, Calls Try.prog 18 #[.string t] wx fun e w' => (∃ v, e = .returned (.tuple #[v, .int .i64 (ofM t).2]) ∧ RecV w' v (ofM t).1) ∧ Below wx.heap.size wx w') := fun wx => (Of_any (w := wx) t (by omega)).mono fun e w' h => ⟨⟨h.1.choose, h.1.choose_spec.1, h.1.choose_spec.2.recV⟩, h.2⟩
  have CR : Hid (∀ wx, Calls Try.prog 19 #[.string t] wx fun e w' => (∃ v, e = .returned (.tuple #[v, .int .i64 (ofM t).2]) ∧ RecV w' v (ofM t).1) ∧ Below wx.heap.size wx w') := fun wx => rof_any (w := wx) t (by omega)
  have CS : Hid (∀ wx v1 v2, RecV wx v1 (ofM t).1 → RecV wx v2 (ofM t).1 → Calls Try.prog 14 #[v1, v2] wx fun e w' => e = .returned (.bool true) ∧ Below wx.heap.size wx w') := fun wx v1 v2 h1 h2 => Same_any h1 h2 hsm.im hsm.tb
  have CK : Hid (∀ wx, Calls Try.prog 12 #[] wx fun e w' => e = .returned (.bool true) ∧ Below wx.heap.size wx w') := fun wx => awake_any wx
  clear hsm
  generalize (ofM t).2 = E at *
  generalize (ofM t).1 = m at *
  obtain ⟨s, l, g⟩ := m
  have hEE : (E == E) = true := by simp
  go_enter Try.func6, Try.ntmps6
  go_wp2_with (first
    | (go_at_call 18; refine (CO.out _).mono ?_; clear CO; rintro e w1 ⟨⟨v1, rfl, r1⟩, b1⟩; have r1' := r1; obtain ⟨I1, T1, rfl, hI1, hT1⟩ := r1'.ex; dsimp only at hI1 hT1; have oI1 := hI1.one; have oT1 := hT1.one; clear r1' hI1 hT1)
    | (go_at_call 19; refine (CR.out _).mono ?_; clear CR; rintro e w4 ⟨⟨v2, rfl, r2⟩, b4⟩; have r2' := r2; obtain ⟨I2, T2, rfl, hI2, hT2⟩ := r2'.ex; dsimp only at hI2 hT2; have oI2 := hI2.one; have oT2 := hT2.one; clear r2' hI2 hT2)
    | (have := r2; refine wpList_new_rc _ rfl rfl ?_; intro w5 c2 N2)
    | (refine wpList_new_rc _ rfl rfl ?_; intro w2 c1 N1)
    | (refine wpList_at (Op.store 25 (.tmp 3) (.tmp 15)) rfl ?_; refine wpList_put_rc (s' := s) (I' := I1) (T' := T1) _ rfl (.tmp 3) (.tmp 15) rfl rfl rfl N1.rc oI1 oT1 ?_; intro w3 P1; have B3 : Below w1.heap.size w1 w3 := N1.below.trans (P1.below (by have := N1.eq; omega) N1.below.size); have R1 := r1.below B3; have C1 := P1.rc; clear r1 N1 P1)
    | (refine wpList_at (Op.store 25 (.tmp 5) (.tmp 20)) rfl ?_; refine wpList_put_rc (s' := s) (I' := I2) (T' := T2) _ rfl (.tmp 5) (.tmp 20) rfl rfl rfl N2.rc oI2 oT2 ?_; intro w6 P2; have B6 : Below w4.heap.size w4 w6 := N2.below.trans (P2.below (by have := N2.eq; omega) N2.below.size); have R2 := r2.below B6; have R11 := (R1.below b4).below B6; have C11 := (C1.below b4).below B6; have C2 := P2.rc; clear r2 N2 P2 R1 C1 this; obtain ⟨p0, p1, p2, p3, p4, p5, p6, p7, p8, p9, p10, p11, p12⟩ := C11.row; obtain ⟨d0, d1, d2, d3, d4, d5, d6, d7, d8, d9, d10, d11, d12⟩ := C2.row)
    | (go_at_call 14; refine (CS.out _ _ _ R11 R2).mono ?_; clear CS; rintro e w7 ⟨rfl, b7⟩)
    | (go_at_call 12; refine (CK.out _).mono ?_; clear CK; rintro e w8 ⟨rfl, b8⟩))
  go_ret
  exact ⟨rfl, thn (thn (thn (thn (thn b1 B3) b4) B6) b7) b8⟩
set_option maxHeartbeats 2000000 in
theorem of_1 (ht : (1000 : Int) < t.size) (htz : t.size ≤ 140737488351232) (hu : t.extract 0 1000 = u) (huz : u.size ≤ 1000) : Calls Try.prog 6 #[.string t] w fun e w' => e = .returned (.bool true) ∧ Below w.heap.size w w' := by
  have hsl : ∀ W, (Instr.slice 9 (.string t) none (some (.int .i64 1000)) none).run Try.prog W = .ok (.string u) W := by
    intro W
    rw [← hu]
    have := run_slice_string_h (P := Try.prog) W 9 t Try.underlying9 .i64 1000 (by omega) (by omega)
    rw [show ((1000 : Int)).toNat = 1000 from rfl] at this
    exact this
  clear hu
  have hsm := ofM_small u (by omega)
  have CO : Hid (∀ wx, Calls Try.prog 18 #[.string u] wx fun e w' => (∃ v, e = .returned (.tuple #[v, .int .i64 (ofM u).2]) ∧ RecV w' v (ofM u).1) ∧ Below wx.heap.size wx w') := fun wx => (Of_any (w := wx) u (by omega)).mono fun e w' h => ⟨⟨h.1.choose, h.1.choose_spec.1, h.1.choose_spec.2.recV⟩, h.2⟩
  have CR : Hid (∀ wx, Calls Try.prog 19 #[.string u] wx fun e w' => (∃ v, e = .returned (.tuple #[v, .int .i64 (ofM u).2]) ∧ RecV w' v (ofM u).1) ∧ Below wx.heap.size wx w') := fun wx => rof_any (w := wx) u (by omega)
  have CS : Hid (∀ wx v1 v2, RecV wx v1 (ofM u).1 → RecV wx v2 (ofM u).1 → Calls Try.prog 14 #[v1, v2] wx fun e w' => e = .returned (.bool true) ∧ Below wx.heap.size wx w') := fun wx v1 v2 h1 h2 => Same_any h1 h2 hsm.im hsm.tb
  have CK : Hid (∀ wx, Calls Try.prog 12 #[] wx fun e w' => e = .returned (.bool true) ∧ Below wx.heap.size wx w') := fun wx => awake_any wx
  clear hsm
  generalize (ofM u).2 = E at *
  generalize (ofM u).1 = m at *
  obtain ⟨s, l, g⟩ := m
  have hEE : (E == E) = true := by simp
  go_enter Try.func6, Try.ntmps6
  go_wp2_with (first
    | (go_at_call 18; refine (CO.out _).mono ?_; clear CO; rintro e w1 ⟨⟨v1, rfl, r1⟩, b1⟩; have r1' := r1; obtain ⟨I1, T1, rfl, hI1, hT1⟩ := r1'.ex; dsimp only at hI1 hT1; have oI1 := hI1.one; have oT1 := hT1.one; clear r1' hI1 hT1)
    | (go_at_call 19; refine (CR.out _).mono ?_; clear CR; rintro e w4 ⟨⟨v2, rfl, r2⟩, b4⟩; have r2' := r2; obtain ⟨I2, T2, rfl, hI2, hT2⟩ := r2'.ex; dsimp only at hI2 hT2; have oI2 := hI2.one; have oT2 := hT2.one; clear r2' hI2 hT2)
    | (have := r2; refine wpList_new_rc _ rfl rfl ?_; intro w5 c2 N2)
    | (refine wpList_new_rc _ rfl rfl ?_; intro w2 c1 N1)
    | (refine wpList_at (Op.store 25 (.tmp 3) (.tmp 15)) rfl ?_; refine wpList_put_rc (s' := s) (I' := I1) (T' := T1) _ rfl (.tmp 3) (.tmp 15) rfl rfl rfl N1.rc oI1 oT1 ?_; intro w3 P1; have B3 : Below w1.heap.size w1 w3 := N1.below.trans (P1.below (by have := N1.eq; omega) N1.below.size); have R1 := r1.below B3; have C1 := P1.rc; clear r1 N1 P1)
    | (refine wpList_at (Op.store 25 (.tmp 5) (.tmp 20)) rfl ?_; refine wpList_put_rc (s' := s) (I' := I2) (T' := T2) _ rfl (.tmp 5) (.tmp 20) rfl rfl rfl N2.rc oI2 oT2 ?_; intro w6 P2; have B6 : Below w4.heap.size w4 w6 := N2.below.trans (P2.below (by have := N2.eq; omega) N2.below.size); have R2 := r2.below B6; have R11 := (R1.below b4).below B6; have C11 := (C1.below b4).below B6; have C2 := P2.rc; clear r2 N2 P2 R1 C1 this; obtain ⟨p0, p1, p2, p3, p4, p5, p6, p7, p8, p9, p10, p11, p12⟩ := C11.row; obtain ⟨d0, d1, d2, d3, d4, d5, d6, d7, d8, d9, d10, d11, d12⟩ := C2.row)
    | (go_at_call 14; refine (CS.out _ _ _ R11 R2).mono ?_; clear CS; rintro e w7 ⟨rfl, b7⟩)
    | (go_at_call 12; refine (CK.out _).mono ?_; clear CK; rintro e w8 ⟨rfl, b8⟩))
  go_ret
  exact ⟨rfl, thn (thn (thn (thn (thn b1 B3) b4) B6) b7) b8⟩
end
theorem of_walk (w : World) (t : ByteArray) (h : t.size ≤ 140737488351232) : Calls Try.prog 6 #[.string t] w fun e w' => e = .returned (.bool true) ∧ Below w.heap.size w w' := by
  by_cases hl : (1000 : Int) < t.size
  · exact of_1 hl h rfl (by rw [ByteArray.size_extract]; omega)
  · exact of_0 hl (by omega)
end Go.Proofs.Ytakdfdnndogaiaa
