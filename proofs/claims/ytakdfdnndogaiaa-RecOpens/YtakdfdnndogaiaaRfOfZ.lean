/- The document's Of, of any bytes. -/
import Derived.Test.YtakdfdnndogaiaaRfOfA
import Derived.Test.YtakdfdnndogaiaaRfOfB
import Derived.Test.YtakdfdnndogaiaaRfOfC
import Derived.Test.YtakdfdnndogaiaaRfOfD
import Derived.Test.YtakdfdnndogaiaaRfOfE
import Derived.Test.YtakdfdnndogaiaaRfOfF
import Derived.Test.YtakdfdnndogaiaaRfOfG
import Derived.Test.YtakdfdnndogaiaaRfOfH
import Derived.Test.YtakdfdnndogaiaaRxOf
namespace Go.Proofs.Ytakdfdnndogaiaa
open Go.RowKit
set_option linter.unusedVariables false
set_option linter.unusedSimpArgs false
set_option maxRecDepth 100000

/-- A record as a value that a store into an elder block leaves as it is. -/
structure RecN (w : World) (v : Value) (m : Rm) (B : Nat) : Prop where
  rv : RecV w v m
  off : ∀ b w', Pk.Off b w w' → b < B → RecV w' v m
theorem RecF.recN {w : World} {v : Value} {m : Rm} {B : Nat} (h : RecF w v m B) : RecN w v m B := ⟨h.recV, fun b w' o hb => (h.off o hb).recV⟩
theorem RecV.recN {w : World} {v : Value} {s : Sc} {B : Nat} (h : RecV w v ⟨s, [], []⟩) : RecN w v ⟨s, [], []⟩ B := by
  refine ⟨h, fun b w' o hb => ?_⟩
  obtain ⟨I, T, h0, h1, h2⟩ := h.ex
  obtain ⟨a, c, e0, e1, e2, e3, e4⟩ := h1.ex
  obtain ⟨a', c', f0, f1, f2, f3, f4⟩ := h2.ex
  exact ⟨I, T, h0, ⟨a, c, e0, Cs.nil _ _, e2, e3, e4⟩, ⟨a', c', f0, Cs.nil _ _, f2, f3, f4⟩⟩
theorem calls_recN {w : World} {t : ByteArray} {s : Sc} {E : Int} (h : Calls Try.prog 19 #[.string t] w fun e w' => (∃ v, e = .returned (.tuple #[v, .int .i64 E]) ∧ RecV w' v ⟨s, [], []⟩) ∧ Below w.heap.size w w') : Calls Try.prog 19 #[.string t] w fun e w' => (∃ v, e = .returned (.tuple #[v, .int .i64 E]) ∧ RecN w' v ⟨s, [], []⟩ w.heap.size) ∧ Below w.heap.size w w' := h.mono fun e w' h => ⟨⟨h.1.choose, h.1.choose_spec.1, h.1.choose_spec.2.recN⟩, h.2⟩
theorem calls_recF {w : World} {t : ByteArray} {m : Rm} {E : Int} (h : Calls Try.prog 19 #[.string t] w fun e w' => (∃ v, e = .returned (.tuple #[v, .int .i64 E]) ∧ RecF w' v m w.heap.size) ∧ Below w.heap.size w w') : Calls Try.prog 19 #[.string t] w fun e w' => (∃ v, e = .returned (.tuple #[v, .int .i64 E]) ∧ RecN w' v m w.heap.size) ∧ Below w.heap.size w w' := h.mono fun e w' h => ⟨⟨h.1.choose, h.1.choose_spec.1, h.1.choose_spec.2.recN⟩, h.2⟩
theorem rof_of {w : World} {t : ByteArray} {m : Rm} {Q : Lf} (hr : rdM t = (m, Q)) (hs : Small m)
    (E : Q.2 ≠ 0 → Calls Try.prog 19 #[.string t] w fun e w' => (∃ v, e = .returned (.tuple #[v, .int .i64 Q.2]) ∧ RecV w' v zM) ∧ Below w.heap.size w w')
    (G : Small m → Q.2 = 0 → bodyM (cleanM m) = (t, 0) → Calls Try.prog 19 #[.string t] w fun e w' => (∃ v, e = .returned (.tuple #[v, .int .i64 0]) ∧ RecN w' v m w.heap.size) ∧ Below w.heap.size w w')
    (B : Small m → Q.2 = 0 → (bodyM (cleanM m)).2 ≠ 0 → Calls Try.prog 19 #[.string t] w fun e w' => (∃ v, e = .returned (.tuple #[v, .int .i64 4]) ∧ RecV w' v zM) ∧ Below w.heap.size w w')
    (Z : Small m → Q.2 = 0 → (bodyM (cleanM m)).2 = 0 → (bodyM (cleanM m)).1 ≠ t → Calls Try.prog 19 #[.string t] w fun e w' => (∃ v, e = .returned (.tuple #[v, .int .i64 4]) ∧ RecV w' v zM) ∧ Below w.heap.size w w') :
    Calls Try.prog 19 #[.string t] w fun e w' => (∃ v, e = .returned (.tuple #[v, .int .i64 (ofM t).2]) ∧ RecN w' v (ofM t).1 w.heap.size) ∧ Below w.heap.size w w' := by
  have hc := cleanM_rdM t
  rw [← rofM_eq]
  unfold rofM
  rw [hr] at hc ⊢
  dsimp only at hc ⊢
  rw [hc] at G B Z
  by_cases he : Q.2 = 0
  · rw [if_neg (by simpa using he)]
    by_cases hE : (bodyM m).2 = 0
    · by_cases hZ : (bodyM m).1 = t
      · rw [if_pos ⟨hE, hZ⟩]
        exact G hs he (Prod.ext hZ hE)
      · rw [if_neg (fun h => hZ h.2)]
        exact calls_recN (Z hs he hE hZ)
    · rw [if_neg (fun h => hE h.1)]
      exact calls_recN (B hs he hE)
  · rw [if_pos he]
    exact calls_recN (E he)
theorem rof_all {w : World} (t : ByteArray) (ht : t.size ≤ 1000000) : Calls Try.prog 19 #[.string t] w fun e w' => (∃ v, e = .returned (.tuple #[v, .int .i64 (ofM t).2]) ∧ RecN w' v (ofM t).1 w.heap.size) ∧ Below w.heap.size w w' := by
  have hs := rdM_small t (by omega)
  obtain ⟨K, hK⟩ : ∃ K, nN (t, 0) 1 = K := ⟨_, rfl⟩
  obtain ⟨q, hq⟩ : ∃ q, sN (t, 0) 1 = q := ⟨_, rfl⟩
  by_cases h1 : K = 1
  · obtain ⟨R, hR⟩ : ∃ R, rdM t = R := ⟨_, rfl⟩
    have hr := hR
    unfold rdM at hr
    dsimp only at hr
    rw [hK, hq, if_pos (by omega)] at hr
    subst hr
    rw [hR] at hs
    exact rof_of hR hs (fun he => rof_1_e ht hK hq h1 he) (fun hs he hE => calls_recF (rof_1_g ht hK hq hs h1 he hE)) (fun hs he hE => rof_1_b ht hK hq hs h1 he hE) (fun hs he hE hZ => rof_1_z ht hK hq hs h1 he hE hZ)
  by_cases h2 : K = 2
  · obtain ⟨R, hR⟩ : ∃ R, rdM t = R := ⟨_, rfl⟩
    have hr := hR
    unfold rdM at hr
    dsimp only at hr
    rw [hK, hq, if_pos (by omega)] at hr
    subst hr
    rw [hR] at hs
    exact rof_of hR hs (fun he => rof_2_e ht hK hq h2 he) (fun hs he hE => calls_recF (rof_2_g ht hK hq hs h2 he hE)) (fun hs he hE => rof_2_b ht hK hq hs h2 he hE) (fun hs he hE hZ => rof_2_z ht hK hq hs h2 he hE hZ)
  by_cases h3 : K = 3
  · obtain ⟨R, hR⟩ : ∃ R, rdM t = R := ⟨_, rfl⟩
    have hr := hR
    unfold rdM at hr
    dsimp only at hr
    rw [hK, hq, if_neg (by omega), if_pos (by omega)] at hr
    subst hr
    rw [hR] at hs
    exact rof_of hR hs (fun he => rof_3_e ht hK hq h3 he) (fun hs he hE => calls_recN (rof_3_g ht hK hq hs h3 he hE)) (fun hs he hE => rof_3_b ht hK hq hs h3 he hE) (fun hs he hE hZ => rof_3_z ht hK hq hs h3 he hE hZ)
  by_cases h4 : K = 4
  · obtain ⟨R, hR⟩ : ∃ R, rdM t = R := ⟨_, rfl⟩
    have hr := hR
    unfold rdM at hr
    dsimp only at hr
    rw [hK, hq, if_neg (by omega), if_pos (by omega)] at hr
    subst hr
    rw [hR] at hs
    exact rof_of hR hs (fun he => rof_4_e ht hK hq h4 he) (fun hs he hE => calls_recN (rof_4_g ht hK hq hs h4 he hE)) (fun hs he hE => rof_4_b ht hK hq hs h4 he hE) (fun hs he hE hZ => rof_4_z ht hK hq hs h4 he hE hZ)
  by_cases h5 : K = 5
  · obtain ⟨R, hR⟩ : ∃ R, rdM t = R := ⟨_, rfl⟩
    have hr := hR
    unfold rdM at hr
    dsimp only at hr
    rw [hK, hq, if_neg (by omega), if_pos (by omega)] at hr
    subst hr
    rw [hR] at hs
    exact rof_of hR hs (fun he => rof_5_e ht hK hq h5 he) (fun hs he hE => calls_recN (rof_5_g ht hK hq hs h5 he hE)) (fun hs he hE => rof_5_b ht hK hq hs h5 he hE) (fun hs he hE hZ => rof_5_z ht hK hq hs h5 he hE hZ)
  by_cases h6 : K = 6
  · obtain ⟨R, hR⟩ : ∃ R, rdM t = R := ⟨_, rfl⟩
    have hr := hR
    unfold rdM at hr
    dsimp only at hr
    rw [hK, hq, if_neg (by omega), if_neg (by omega), if_pos (by omega)] at hr
    subst hr
    rw [hR] at hs
    exact rof_of hR hs (fun he => rof_6_e ht hK hq h6 he) (fun hs he hE => calls_recN (rof_6_g ht hK hq hs h6 he hE)) (fun hs he hE => rof_6_b ht hK hq hs h6 he hE) (fun hs he hE hZ => rof_6_z ht hK hq hs h6 he hE hZ)
  by_cases h7 : K = 7
  · obtain ⟨R, hR⟩ : ∃ R, rdM t = R := ⟨_, rfl⟩
    have hr := hR
    unfold rdM at hr
    dsimp only at hr
    rw [hK, hq, if_neg (by omega), if_neg (by omega), if_neg (by omega), if_pos (by omega)] at hr
    subst hr
    rw [hR] at hs
    exact rof_of hR hs (fun he => rof_7_e ht hK hq h7 he) (fun hs he hE => calls_recN (rof_7_g ht hK hq hs h7 he hE)) (fun hs he hE => rof_7_b ht hK hq hs h7 he hE) (fun hs he hE hZ => rof_7_z ht hK hq hs h7 he hE hZ)
  by_cases h8 : K = 8
  · obtain ⟨R, hR⟩ : ∃ R, rdM t = R := ⟨_, rfl⟩
    have hr := hR
    unfold rdM at hr
    dsimp only at hr
    rw [hK, hq, if_neg (by omega), if_neg (by omega), if_neg (by omega), if_pos (by omega)] at hr
    subst hr
    rw [hR] at hs
    exact rof_of hR hs (fun he => rof_8_e ht hK hq h8 he) (fun hs he hE => calls_recN (rof_8_g ht hK hq hs h8 he hE)) (fun hs he hE => rof_8_b ht hK hq hs h8 he hE) (fun hs he hE hZ => rof_8_z ht hK hq hs h8 he hE hZ)
  by_cases h9 : K = 9
  · obtain ⟨R, hR⟩ : ∃ R, rdM t = R := ⟨_, rfl⟩
    have hr := hR
    unfold rdM at hr
    dsimp only at hr
    rw [hK, hq, if_neg (by omega), if_neg (by omega), if_neg (by omega), if_neg (by omega), if_pos (by omega)] at hr
    subst hr
    rw [hR] at hs
    exact rof_of hR hs (fun he => rof_9_e ht hK hq h9 he) (fun hs he hE => calls_recF (rof_9_g ht hK hq hs h9 he hE)) (fun hs he hE => rof_9_b ht hK hq hs h9 he hE) (fun hs he hE hZ => rof_9_z ht hK hq hs h9 he hE hZ)
  by_cases h10 : K = 10
  · obtain ⟨R, hR⟩ : ∃ R, rdM t = R := ⟨_, rfl⟩
    have hr := hR
    unfold rdM at hr
    dsimp only at hr
    rw [hK, hq, if_neg (by omega), if_neg (by omega), if_neg (by omega), if_neg (by omega), if_neg (by omega), if_pos (by omega)] at hr
    subst hr
    rw [hR] at hs
    exact rof_of hR hs (fun he => rof_10_e ht hK hq h10 he) (fun hs he hE => calls_recN (rof_10_g ht hK hq hs h10 he hE)) (fun hs he hE => rof_10_b ht hK hq hs h10 he hE) (fun hs he hE hZ => rof_10_z ht hK hq hs h10 he hE hZ)
  obtain ⟨R, hR⟩ : ∃ R, rdM t = R := ⟨_, rfl⟩
  have hr := hR
  unfold rdM at hr
  dsimp only at hr
  rw [hK, hq, if_neg (by omega), if_neg (by omega), if_neg (by omega), if_neg (by omega), if_neg (by omega), if_neg (by omega)] at hr
  subst hr
  rw [hR] at hs
  exact rof_of hR hs (fun he => rof_o_e ht hK hq h1 h2 h3 h4 h5 h6 h7 h8 h9 h10 he) (fun hs he hE => calls_recN (rof_o_g ht hK hq hs h1 h2 h3 h4 h5 h6 h7 h8 h9 h10 he hE)) (fun hs he hE => rof_o_b ht hK hq hs h1 h2 h3 h4 h5 h6 h7 h8 h9 h10 he hE) (fun hs he hE hZ => rof_o_z ht hK hq hs h1 h2 h3 h4 h5 h6 h7 h8 h9 h10 he hE hZ)
theorem rof_any {w : World} (t : ByteArray) (ht : t.size ≤ 1000000) : Calls Try.prog 19 #[.string t] w fun e w' => (∃ v, e = .returned (.tuple #[v, .int .i64 (ofM t).2]) ∧ RecV w' v (ofM t).1) ∧ Below w.heap.size w w' := (rof_all t ht).mono fun e w' h => ⟨⟨h.1.choose, h.1.choose_spec.1, h.1.choose_spec.2.rv⟩, h.2⟩
end Go.Proofs.Ytakdfdnndogaiaa
