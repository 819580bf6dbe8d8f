/- A packed page, written out: its head, its heap, noughts, its slots: mathematics, no Go. -/
import Derived.Test.YtmoognjegjeegaaMath
namespace Go.Proofs.Ytmoognjegjeegaa
set_option linter.unusedVariables false
set_option linter.unusedSimpArgs false

/-- A cell's bytes. -/
def cb (c : Cl) : List UInt8 := [UInt8.ofNat c.k.size, UInt8.ofNat c.v.size] ++ bts c.k ++ bts c.v
/-- The heap of cells. -/
def hp : List Cl → List UInt8
  | [] => []
  | c :: r => cb c ++ hp r
/-- The slots of cells, of which the first begins at e: the last one first. -/
def sl (e : Nat) : List Cl → List UInt8
  | [] => []
  | c :: r => sl (e + (cb c).length) r ++ [UInt8.ofNat e]
theorem cb_length (c : Cl) : (cb c).length = 2 + c.k.size + c.v.size := by
  simp only [cb, List.length_append, List.length_cons, List.length_nil, bts_length]
theorem hp_append : ∀ a b : List Cl, hp (a ++ b) = hp a ++ hp b
  | [], b => rfl
  | c :: a, b => by simp only [List.cons_append, hp, hp_append a b, List.append_assoc]
theorem hp_length : ∀ L : List Cl, (hp L).length + L.length = needs L
  | [] => rfl
  | c :: r => by
    have := hp_length r
    simp only [hp, List.length_append, List.length_cons, needs, need, cb_length]; omega
theorem sl_length : ∀ (L : List Cl) (e : Nat), (sl e L).length = L.length
  | [], _ => rfl
  | c :: r, e => by simp only [sl, List.length_append, sl_length r, List.length_cons, List.length_nil]
theorem sl_snoc (c : Cl) : ∀ (L : List Cl) (e : Nat), sl e (L ++ [c]) = [UInt8.ofNat (e + (hp L).length)] ++ sl e L
  | [], e => by simp [sl, hp]
  | d :: r, e => by
    simp only [List.cons_append, sl, hp, List.length_append]
    rw [sl_snoc c r, List.append_assoc, Nat.add_assoc]
    rfl
/-- The page. -/
def lyt (k l : Nat) (L : List Cl) : List UInt8 :=
  [UInt8.ofNat k, UInt8.ofNat l, UInt8.ofNat L.length, UInt8.ofNat (4 + (hp L).length)] ++ hp L ++ List.replicate (220 - (hp L).length - L.length) 0 ++ sl 4 L
theorem lyt_nil (k l : Nat) : lyt k l [] = blankS k l := by
  kernel_rfl
theorem lyt_length {k l : Nat} {L : List Cl} (h : needs L ≤ 220) : (lyt k l L).length = 224 := by
  have := hp_length L
  simp only [lyt, List.length_append, List.length_cons, List.length_nil, List.length_replicate, sl_length]
  omega
/-- Bytes by their places. -/
theorem lyt_get {k l : Nat} {L : List Cl} (h : needs L ≤ 220) (j : Nat) :
    (lyt k l L)[j]? = if j = 0 then some (UInt8.ofNat k) else if j = 1 then some (UInt8.ofNat l) else if j = 2 then some (UInt8.ofNat L.length) else if j = 3 then some (UInt8.ofNat (4 + (hp L).length)) else
      if j < 4 + (hp L).length then (hp L)[j - 4]? else if j < 224 - L.length then some 0 else (sl 4 L)[j - (224 - L.length)]? := by
  have hl := hp_length L
  have hs := sl_length L 4
  simp only [lyt, List.append_assoc]
  by_cases h4 : j < 4
  · rw [List.getElem?_append_left (by simpa using h4)]
    have : j = 0 ∨ j = 1 ∨ j = 2 ∨ j = 3 := by omega
    rcases this with rfl | rfl | rfl | rfl <;> rfl
  · rw [if_neg (by omega), if_neg (by omega), if_neg (by omega), if_neg (by omega), List.getElem?_append_right (by simp; omega)]
    simp only [List.length_cons, List.length_nil]
    by_cases h5 : j < 4 + (hp L).length
    · rw [if_pos h5, List.getElem?_append_left (by omega)]
    · rw [if_neg h5, List.getElem?_append_right (by omega)]
      by_cases h6 : j < 224 - L.length
      · rw [if_pos h6, List.getElem?_append_left (by simp; omega), List.getElem?_replicate, if_pos (by omega)]
      · rw [if_neg h6, List.getElem?_append_right (by simp; omega), List.length_replicate]
        congr 1; omega
theorem lyt_put {k l : Nat} {L : List Cl} {c : Cl} (hk : k < 256) (hl : l < 256) (hp' : CanPut (lyt k l L) L.length c) (h : needs L + need c ≤ 220) (hcnt : cnt (lyt k l L) = L.length) (hen : en (lyt k l L) = 4 + (hp L).length) : putS (lyt k l L) L.length c = lyt k l (L ++ [c]) := by
  have hl0 := hp_length L
  have h0 : needs L ≤ 220 := by omega
  have h1 : needs (L ++ [c]) ≤ 220 := by rw [needs_append]; simp only [needs]; omega
  have hh : (hp (L ++ [c])).length = (hp L).length + (2 + c.k.size + c.v.size) := by rw [hp_append, List.length_append]; simp only [hp, List.append_nil, cb_length]
  have hsz : need c = 3 + c.k.size + c.v.size := rfl
  apply List.ext_getElem?
  intro j
  rw [hp'.get, lyt_get h1, hcnt, hen, hh, List.length_append, List.length_singleton]
  by_cases j2 : j = 2
  · subst j2; rfl
  · rw [if_neg j2]
    by_cases js : j = 223 - L.length
    · rw [if_pos js, if_neg (by omega), if_neg (by omega), if_neg j2, if_neg (by omega), if_neg (by omega), if_neg (by omega), sl_snoc, show j - (224 - (L.length + 1)) = 0 by omega]
      rfl
    · rw [if_neg js, if_neg (by omega)]
      by_cases j3 : j = 3
      · subst j3
        rw [if_pos rfl, if_neg (by omega), if_neg (by omega), if_neg (by omega), if_pos rfl]
        congr 2; omega
      · rw [if_neg j3]
        by_cases jv : 4 + (hp L).length + 2 + c.k.size ≤ j ∧ j < 4 + (hp L).length + 2 + c.k.size + c.v.size
        · rw [if_pos jv, if_neg (by omega), if_neg (by omega), if_neg j2, if_neg j3, if_pos (by omega), hp_append, List.getElem?_append_right (by omega)]
          simp only [hp, List.append_nil, cb]
          rw [List.getElem?_append_right (by simp [bts_length]; omega)]
          congr 1; simp [bts_length]; omega
        · rw [if_neg jv]
          by_cases jk : 4 + (hp L).length + 2 ≤ j ∧ j < 4 + (hp L).length + 2 + c.k.size
          · rw [if_pos jk, if_neg (by omega), if_neg (by omega), if_neg j2, if_neg j3, if_pos (by omega), hp_append, List.getElem?_append_right (by omega)]
            simp only [hp, List.append_nil, cb]
            rw [List.getElem?_append_left (by simp [bts_length]; omega), List.getElem?_append_right (by simp; omega)]
            congr 1; simp; omega
          · rw [if_neg jk]
            by_cases ja : j = 4 + (hp L).length + 1
            · subst ja
              rw [if_pos rfl, if_neg (by omega), if_neg (by omega), if_neg j2, if_neg j3, if_pos (by omega), hp_append, List.getElem?_append_right (by omega), show 4 + (hp L).length + 1 - 4 - (hp L).length = 1 by omega]
              rfl
            · rw [if_neg ja]
              by_cases jb : j = 4 + (hp L).length
              · subst jb
                rw [if_pos rfl, if_neg (by omega), if_neg (by omega), if_neg j2, if_neg j3, if_pos (by omega), hp_append, List.getElem?_append_right (by omega), show 4 + (hp L).length - 4 - (hp L).length = 0 by omega]
                rfl
              · rw [if_neg jb, lyt_get h0]
                by_cases k0 : j = 0
                · subst k0; rfl
                · rw [if_neg k0, if_neg k0]
                  by_cases k1 : j = 1
                  · subst k1; rfl
                  · rw [if_neg k1, if_neg k1, if_neg j2, if_neg j2, if_neg j3, if_neg j3]
                    by_cases k4 : j < 4 + (hp L).length
                    · rw [if_pos k4, if_pos (by omega), hp_append, List.getElem?_append_left (by omega)]
                    · rw [if_neg k4, if_neg (show ¬ j < 4 + ((hp L).length + (2 + c.k.size + c.v.size)) by omega)]
                      by_cases k5 : j < 224 - (L.length + 1)
                      · rw [if_pos (by omega), if_pos k5]
                      · rw [if_neg (by omega), if_neg k5, sl_snoc, List.getElem?_append_right (by simp; omega)]
                        congr 1; simp; omega
theorem packS_lyt {k l : Nat} (L : List Cl) (h : CanPack k l L) : packS k l L = lyt k l L := by
  have hk := h.hk
  have hl := h.hl
  have : ∀ n, n ≤ L.length → packS k l (L.take n) = lyt k l (L.take n) := by
    intro n
    induction n with
    | zero => intro _; rw [List.take_zero, lyt_nil]; rfl
    | succ n ih =>
      intro hn
      have ih' := ih (by omega)
      have e : L.take (n + 1) = L.take n ++ [L[n]] := List.take_succ_eq_append_getElem (by omega)
      have hc : ∀ m, CanPack k l (L.take m) := fun m => ⟨h.hk, h.hl, h.kl, fun e => by rw [h.free e]; simp, fun c hc => h.ks c (List.mem_of_mem_take hc), fun c hc => h.vs c (List.mem_of_mem_take hc), List.Pairwise.sublist (List.take_sublist _ _) h.ris, Nat.le_trans (needs_take_le _ _) h.fit⟩
      have hp1 := packed_all _ (hc n)
      have hc1 := hc (n + 1)
      rw [e] at hc1
      have hcn : cnt (packS k l (L.take n)) = (L.take n).length := by rw [← cells_length, hp1.cells]
      have hcp := hp1.canPut hc1
      have hen := hp1.en
      have hhl := hp_length (L.take n)
      have hf := hc1.fit
      rw [needs_append] at hf
      simp only [needs] at hf
      rw [e, packS_snoc, hcn]
      rw [hcn] at hcp
      rw [ih'] at hcp hcn hen ⊢
      exact lyt_put (by omega) (by omega) hcp (by omega) hcn (by omega)
  have := this L.length (Nat.le_refl _)
  rwa [List.take_length] at this
end Go.Proofs.Ytmoognjegjeegaa
