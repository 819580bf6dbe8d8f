/- What is laid is read again: mathematics of records' bytes. -/
import Derived.Test.YtakdfdnndogaiaaRxOpn
namespace Go.Proofs.Ytakdfdnndogaiaa
open Go.RowKit
set_option linter.unusedVariables false
set_option linter.unusedSimpArgs false
set_option maxRecDepth 100000

/-! ### Steps that went well -/
theorem stepW_inv {A : ByteArray × Int} {n k : Int} (hk : 1 ≤ k) (hk6 : k ≤ 6) (h : (stepW A n k).2 = 0) : A.2 = 0 ∧ 0 ≤ n ∧ n < Pk.limI k.toNat ∧ stepW A n k = (A.1 ++ Pk.beS n.toNat k.toNat, 0) := by
  obtain ⟨a, e⟩ := A
  by_cases he : e = 0
  · subst he
    by_cases hn : n < 0 ∨ Pk.limI k.toNat ≤ n
    · rw [stepW_bad hk hk6 hn] at h
      exact absurd h (by decide)
    · exact ⟨rfl, by omega, by omega, stepW_good hk hk6 (by omega) (by omega)⟩
  · rw [stepW_had he] at h
    exact absurd h he
theorem stepT_inv {A : ByteArray × Int} {t : ByteArray} (ht : t.size ≤ 65535) (h : (stepT A t).2 = 0) : A.2 = 0 ∧ stepT A t = (A.1 ++ (Pk.beS t.size 2 ++ t), 0) := by
  obtain ⟨a, e⟩ := A
  by_cases he : e = 0
  · subst he
    refine ⟨rfl, ?_⟩
    rw [stepT_good ht, ByteArray.append_assoc]
  · rw [stepT_had he] at h
    exact absurd h he
/-! ### Reading what was laid -/
theorem rd_num {n k : Int} {b : ByteArray} (h1 : 1 ≤ k) (h6 : k ≤ 6) (h0 : 0 ≤ n) (hn : n < Pk.limI k.toNat) : nN (Pk.beS n.toNat k.toNat ++ b, 0) k = n ∧ sN (Pk.beS n.toNat k.toNat ++ b, 0) k = (b, 0) := by
  obtain ⟨m, rfl⟩ : ∃ m : Nat, n = m := ⟨n.toNat, by omega⟩
  obtain ⟨j, rfl⟩ : ∃ j : Nat, k = j := ⟨k.toNat, by omega⟩
  rw [Int.toNat_natCast, Int.toNat_natCast] at *
  have := Pk.rdNum_app m j b (by omega) (by omega) (by rw [Pk.limI_nat] at hn; omega)
  unfold nN sN
  dsimp only
  rw [this]
  exact ⟨rfl, rfl⟩
theorem rd_text {t b : ByteArray} {M : Int} (h : t.size ≤ M) (hM : M ≤ 65535) : tT (Pk.beS t.size 2 ++ t ++ b, 0) M = t ∧ sT (Pk.beS t.size 2 ++ t ++ b, 0) M = (b, 0) := by
  have h2 := Pk.rdNum_app t.size 2 (t ++ b) (by omega) (by omega) (by have : 256 ^ 2 = 65536 := by decide
                                                                      omega)
  rw [← ByteArray.append_assoc] at h2
  have e : Pk.rdText (Pk.beS t.size 2 ++ t ++ b) 0 M = (t, b, 0) := by
    unfold Pk.rdText Pk.rdTextSt
    rw [show ((2 : Nat) : Int) = 2 from rfl] at h2
    rw [h2]
    dsimp only
    rw [if_neg (by omega)]
    exact Pk.rdRaw_app t b
  unfold tT sT
  dsimp only
  rw [e]
  exact ⟨rfl, rfl⟩
/-- The bytes of images, one behind the other; of who goes on. -/
def catI : List Im → ByteArray
  | [] => ⟨#[]⟩
  | p :: r => Pk.beS p.1.toNat 2 ++ (Pk.beS p.2.size 2 ++ p.2) ++ catI r
def catB : List Tb → ByteArray
  | [] => ⟨#[]⟩
  | p :: r => Pk.beS p.1.toNat 6 ++ Pk.beS p.2.toNat 6 ++ catB r
def goodI (p : Im) : Prop := 0 ≤ p.1 ∧ p.1 < 65536
def goodB (p : Tb) : Prop := 0 ≤ p.1 ∧ p.1 < 281474976710656 ∧ 0 ≤ p.2 ∧ p.2 < 281474976710656
theorem layI_err {l : List Im} {A : ByteArray × Int} (h : (layI l A).2 = 0) : A.2 = 0 := by
  induction l generalizing A with
  | nil => exact h
  | cons p r ih => exact stepW_err (stepT_err (ih h))
theorem layB_err {l : List Tb} {A : ByteArray × Int} (h : (layB l A).2 = 0) : A.2 = 0 := by
  induction l generalizing A with
  | nil => exact h
  | cons p r ih => exact stepW_err (stepW_err (ih h))
theorem layI_inv {l : List Im} {A : ByteArray × Int} (hl : ∀ p ∈ l, p.2.size ≤ 65535) (h : (layI l A).2 = 0) : (∀ p ∈ l, goodI p) ∧ layI l A = (A.1 ++ catI l, 0) := by
  induction l generalizing A with
  | nil =>
    refine ⟨(fun p hp => by cases hp), ?_⟩
    show A = (A.1 ++ ⟨#[]⟩, 0)
    rw [Pk.append_nil]
    exact Prod.ext rfl h
  | cons p r ih =>
    have h1 : (layI r (stepT (stepW A p.1 2) p.2)).2 = 0 := h
    obtain ⟨g, e⟩ := ih (fun x hx => hl x (List.mem_cons_of_mem _ hx)) h1
    obtain ⟨e1, e2⟩ := stepT_inv (hl p (List.mem_cons_self ..)) (layI_err h1)
    obtain ⟨f1, f2, f3, f4⟩ := stepW_inv (by omega) (by omega) e1
    rw [Pk.limI_2] at f3
    refine ⟨fun x hx => ?_, ?_⟩
    · rcases List.mem_cons.1 hx with rfl | hx
      · exact ⟨f2, f3⟩
      · exact g x hx
    · show layI r (stepT (stepW A p.1 2) p.2) = _
      rw [e, e2, f4]
      simp only [catI, ByteArray.append_assoc]
      rfl
theorem layB_inv {l : List Tb} {A : ByteArray × Int} (h : (layB l A).2 = 0) : (∀ p ∈ l, goodB p) ∧ layB l A = (A.1 ++ catB l, 0) := by
  induction l generalizing A with
  | nil =>
    refine ⟨(fun p hp => by cases hp), ?_⟩
    show A = (A.1 ++ ⟨#[]⟩, 0)
    rw [Pk.append_nil]
    exact Prod.ext rfl h
  | cons p r ih =>
    have h1 : (layB r (stepW (stepW A p.1 6) p.2 6)).2 = 0 := h
    obtain ⟨g, e⟩ := ih h1
    obtain ⟨e1, e2, e3, e4⟩ := stepW_inv (by omega) (by omega) (layB_err h1)
    obtain ⟨f1, f2, f3, f4⟩ := stepW_inv (by omega) (by omega) e1
    rw [Pk.limI_6] at f3 e3
    refine ⟨fun x hx => ?_, ?_⟩
    · rcases List.mem_cons.1 hx with rfl | hx
      · exact ⟨f2, f3, e2, e3⟩
      · exact g x hx
    · show layB r (stepW (stepW A p.1 6) p.2 6) = _
      rw [e, e4, f4]
      simp only [catB, ByteArray.append_assoc]
      rfl
theorem rdImS_shift (q : Lf) (n : Nat) : rdImS q (n + 1) = rdImS (sT (sN q 2) 224) n := by
  induction n with
  | zero => rfl
  | succ n ih => show sT (sN (rdImS q (n + 1)) 2) 224 = sT (sN (rdImS _ n) 2) 224; rw [ih]
theorem rdTbS_shift (q : Lf) (n : Nat) : rdTbS q (n + 1) = rdTbS (sN (sN q 6) 6) n := by
  induction n with
  | zero => rfl
  | succ n ih => show sN (sN (rdTbS q (n + 1)) 6) 6 = sN (sN (rdTbS _ n) 6) 6; rw [ih]
theorem rdImL_cons (q : Lf) (n : Nat) : rdImL q (n + 1) = rdImF q 0 :: rdImL (sT (sN q 2) 224) n := by
  unfold rdImL
  rw [List.range_succ_eq_map, List.map_cons, List.map_map]
  congr 1
  apply List.map_congr_left
  intro j _
  show rdImF q (j + 1) = rdImF _ j
  unfold rdImF
  rw [rdImS_shift]
theorem rdTbL_cons (q : Lf) (n : Nat) : rdTbL q (n + 1) = rdTbF q 0 :: rdTbL (sN (sN q 6) 6) n := by
  unfold rdTbL
  rw [List.range_succ_eq_map, List.map_cons, List.map_map]
  congr 1
  apply List.map_congr_left
  intro j _
  show rdTbF q (j + 1) = rdTbF _ j
  unfold rdTbF
  rw [rdTbS_shift]
theorem rdImF_zero (q : Lf) : rdImF q 0 = (nN q 2, tT (sN q 2) 224) := rfl
theorem rdTbF_zero (q : Lf) : rdTbF q 0 = (nN q 6, nN (sN q 6) 6) := rfl
theorem rd_images (l : List Im) (b : ByteArray) (hg : ∀ p ∈ l, goodI p) (ht : ∀ p ∈ l, p.2.size ≤ 224) : rdImL (catI l ++ b, 0) l.length = l ∧ rdImS (catI l ++ b, 0) l.length = (b, 0) := by
  induction l with
  | nil =>
    refine ⟨rfl, ?_⟩
    show (⟨#[]⟩ ++ b, (0 : Int)) = (b, 0)
    rw [nil_app]
  | cons p r ih =>
    obtain ⟨h1, h2⟩ := ih (fun x hx => hg x (List.mem_cons_of_mem _ hx)) (fun x hx => ht x (List.mem_cons_of_mem _ hx))
    obtain ⟨g1, g2⟩ := hg p (List.mem_cons_self ..)
    have ht' := ht p (List.mem_cons_self ..)
    have e : catI (p :: r) ++ b = Pk.beS p.1.toNat 2 ++ (Pk.beS p.2.size 2 ++ p.2 ++ (catI r ++ b)) := by simp only [catI, ByteArray.append_assoc]
    obtain ⟨n1, n2⟩ := rd_num (n := p.1) (k := 2) (b := Pk.beS p.2.size 2 ++ p.2 ++ (catI r ++ b)) (by omega) (by omega) g1 (by rw [Pk.limI_2]; exact g2)
    rw [show ((2 : Int)).toNat = 2 from rfl, ← e] at n1 n2
    obtain ⟨t1, t2⟩ := rd_text (t := p.2) (b := catI r ++ b) (M := 224) (by omega) (by omega)
    rw [← n2] at t1 t2
    rw [List.length_cons, rdImL_cons, rdImS_shift, t2, h1, h2, rdImF_zero, n1, t1]
    exact ⟨rfl, rfl⟩
theorem rd_table (l : List Tb) (b : ByteArray) (hg : ∀ p ∈ l, goodB p) : rdTbL (catB l ++ b, 0) l.length = l ∧ rdTbS (catB l ++ b, 0) l.length = (b, 0) := by
  induction l with
  | nil =>
    refine ⟨rfl, ?_⟩
    show (⟨#[]⟩ ++ b, (0 : Int)) = (b, 0)
    rw [nil_app]
  | cons p r ih =>
    obtain ⟨h1, h2⟩ := ih (fun x hx => hg x (List.mem_cons_of_mem _ hx))
    obtain ⟨g1, g2, g3, g4⟩ := hg p (List.mem_cons_self ..)
    have e : catB (p :: r) ++ b = Pk.beS p.1.toNat 6 ++ (Pk.beS p.2.toNat 6 ++ (catB r ++ b)) := by simp only [catB, ByteArray.append_assoc]
    obtain ⟨n1, n2⟩ := rd_num (n := p.1) (k := 6) (b := Pk.beS p.2.toNat 6 ++ (catB r ++ b)) (by omega) (by omega) g1 (by rw [Pk.limI_6]; exact g2)
    rw [show ((6 : Int)).toNat = 6 from rfl, ← e] at n1 n2
    obtain ⟨t1, t2⟩ := rd_num (n := p.2) (k := 6) (b := catB r ++ b) (by omega) (by omega) g3 (by rw [Pk.limI_6]; exact g4)
    rw [show ((6 : Int)).toNat = 6 from rfl, ← n2] at t1 t2
    rw [List.length_cons, rdTbL_cons, rdTbS_shift, t2, h1, h2, rdTbF_zero, n1, t1]
    exact ⟨rfl, rfl⟩
end Go.Proofs.Ytakdfdnndogaiaa
