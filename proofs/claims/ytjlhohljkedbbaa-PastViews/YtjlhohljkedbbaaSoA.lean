/- A stable sort, plain: ranges that change places, halves that are merged. -/
import Derived.Test.YtjlhohljkedbbaaProg
import Derived.Sort.LotA
namespace Go.Proofs.Ytjlhohljkedbbaa.So
open Go.Sort
set_option linter.unusedVariables false
variable {α : Type} [Inhabited α] {lt : α → α → Bool}
/-- Where the element at x comes from when n places from a and n from b change. -/
def swx (a b n x : Nat) : Nat := if a ≤ x ∧ x < a + n then x - a + b else if b ≤ x ∧ x < b + n then x - b + a else x
/-- .. when the parts [a, m) and [m, b) change sides. -/
def trn (a m b x : Nat) : Nat := if a ≤ x ∧ x < a + (b - m) then x - a + m else if a + (b - m) ≤ x ∧ x < b then x - (a + (b - m)) + a else x
/-- .. when a's goes behind what lies up to e. -/
def shl (a e x : Nat) : Nat := if a ≤ x ∧ x < e then x + 1 else if x = e then a else x
/-- .. when m's goes ahead of what lies from i on. -/
def shr (i m x : Nat) : Nat := if i < x ∧ x ≤ m then x - 1 else if x = i then m else x
structure Mv (lo hi : Nat) (f : Nat → Nat) (d d' : Array α) : Prop where
  perm : PermIn lo hi d d'
  at_ : ∀ x, d'[x]! = d[f x]!
theorem Mv.size {lo hi : Nat} {f : Nat → Nat} {d d' : Array α} (h : Mv lo hi f d d') : d'.size = d.size := h.perm.1
theorem Mv.refl (lo hi : Nat) {f : Nat → Nat} (hf : ∀ x, f x = x) (d : Array α) : Mv lo hi f d d := ⟨permIn_refl _ _ _, fun x => by rw [hf]⟩
theorem Mv.trans {lo hi : Nat} {f g k : Nat → Nat} {d d' d2 : Array α} (h : Mv lo hi f d d') (h2 : Mv lo hi g d' d2) (hk : ∀ x, f (g x) = k x) : Mv lo hi k d d2 := ⟨permIn_trans _ _ _ _ _ h.perm h2.perm, fun x => by rw [h2.at_, h.at_, hk]⟩
theorem Mv.wide {lo hi lo' hi' : Nat} {f : Nat → Nat} {d d' : Array α} (h : Mv lo hi f d d') (h1 : lo' ≤ lo) (h2 : hi ≤ hi') (h3 : hi' ≤ d.size) : Mv lo' hi' f d d' := ⟨permIn_mono _ _ _ _ _ _ h1 h2 h3 h.perm, h.at_⟩
theorem swx_step {d dk : Array α} {a b n i lo hi : Nat} (h : Mv lo hi (swx a b i) d dk) (hi' : i < n) (h1 : a + n ≤ b) (h2 : b + n ≤ hi) (h3 : lo ≤ a) (h4 : hi ≤ d.size) : Mv lo hi (swx a b (i + 1)) d (swp dk (a + i) (b + i)) := by
  have hs := h.size
  refine ⟨permIn_trans _ _ _ _ _ h.perm (swp_permIn _ _ _ _ _ (by omega) (by omega) (by omega) (by omega) (by omega)), fun x => ?_⟩
  rw [swp_get _ (by omega) (by omega)]
  split
  · rw [h.at_]; congr 1; unfold swx; (repeat' split) <;> omega
  · split
    · rw [h.at_]; congr 1; unfold swx; (repeat' split) <;> omega
    · rw [h.at_]; congr 1; unfold swx; (repeat' split) <;> omega
theorem trn_gt {m i j x : Nat} (h : j < i) (h0 : 0 < j) (hi : i ≤ m) : swx (m - i) m j (trn (m - (i - j)) m (m + j) x) = trn (m - i) m (m + j) x := by
  unfold swx trn; (repeat' split) <;> omega
theorem trn_lt {m i j x : Nat} (h : i < j) (h0 : 0 < i) (hi : i ≤ m) : swx (m - i) (m + j - i) i (trn (m - i) m (m + (j - i)) x) = trn (m - i) m (m + j) x := by
  unfold swx trn; (repeat' split) <;> omega
theorem trn_eq {m i x : Nat} (h0 : 0 < i) (hi : i ≤ m) : swx (m - i) m i x = trn (m - i) m (m + i) x := by
  unfold swx trn; (repeat' split) <;> omega
/-- Half turned: what lacks is to turn the parts [m - i, m) and [m, m + j). -/
structure Rt (a m b i j : Nat) (d dk : Array α) : Prop where
  perm : PermIn a b d dk
  at_ : ∀ x, dk[trn (m - i) m (m + j) x]! = d[trn a m b x]!
section
variable {a m b i j : Nat} {d dk d2 : Array α}
theorem Rt.refl (h1 : a ≤ m) (h2 : m ≤ b) (d : Array α) : Rt a m b (m - a) (b - m) d d := ⟨permIn_refl _ _ _, fun x => by rw [show m - (m - a) = a by omega, show m + (b - m) = b by omega]⟩
theorem Rt.gt (h : Rt a m b i j d dk) (hs : Mv a b (swx (m - i) m j) dk d2) (hij : j < i) (h0 : 0 < j) (hi : i ≤ m) : Rt a m b (i - j) j d d2 :=
  ⟨permIn_trans _ _ _ _ _ h.perm hs.perm, fun x => by rw [hs.at_, trn_gt hij h0 hi]; exact h.at_ x⟩
theorem Rt.ls (h : Rt a m b i j d dk) (hs : Mv a b (swx (m - i) (m + j - i) i) dk d2) (hij : i < j) (h0 : 0 < i) (hi : i ≤ m) : Rt a m b i (j - i) d d2 :=
  ⟨permIn_trans _ _ _ _ _ h.perm hs.perm, fun x => by rw [hs.at_, trn_lt hij h0 hi]; exact h.at_ x⟩
theorem Rt.end_ (h : Rt a m b i i d dk) (hs : Mv a b (swx (m - i) m i) dk d2) (h0 : 0 < i) (hi : i ≤ m) : Mv a b (trn a m b) d d2 :=
  ⟨permIn_trans _ _ _ _ _ h.perm hs.perm, fun x => by rw [hs.at_, trn_eq h0 hi]; exact h.at_ x⟩
end
section
variable {a m b i j e : Nat} {d dk : Array α}
theorem shl_step {lo hi : Nat} (h : Mv lo hi (shl a e) d dk) (hae : a ≤ e) (h1 : lo ≤ a) (h2 : e + 1 < hi) (h3 : hi ≤ d.size) : Mv lo hi (shl a (e + 1)) d (swp dk e (e + 1)) := by
  have hs := h.size
  refine ⟨permIn_trans _ _ _ _ _ h.perm (swp_permIn _ _ _ _ _ (by omega) (by omega) (by omega) (by omega) (by omega)), fun x => ?_⟩
  rw [swp_get _ (by omega) (by omega)]
  split
  · rw [h.at_]; congr 1; unfold shl; (repeat' split) <;> omega
  · split
    · rw [h.at_]; congr 1; unfold shl; (repeat' split) <;> omega
    · rw [h.at_]; congr 1; unfold shl; (repeat' split) <;> omega
theorem shr_step {lo hi : Nat} (h : Mv lo hi (shr (i + 1) m) d dk) (him : i + 1 ≤ m) (h1 : lo ≤ i) (h2 : m < hi) (h3 : hi ≤ d.size) : Mv lo hi (shr i m) d (swp dk (i + 1) i) := by
  have hs := h.size
  refine ⟨permIn_trans _ _ _ _ _ h.perm (swp_permIn _ _ _ _ _ (by omega) (by omega) (by omega) (by omega) (by omega)), fun x => ?_⟩
  rw [swp_get _ (by omega) (by omega)]
  split
  · rw [h.at_]; congr 1; unfold shr; (repeat' split) <;> omega
  · split
    · rw [h.at_]; congr 1; unfold shr; (repeat' split) <;> omega
    · rw [h.at_]; congr 1; unfold shr; (repeat' split) <;> omega
end
/-- The halves [a, m) and [m, b) are merged. -/
structure Mg (lt : α → α → Bool) (a m b : Nat) (d d' : Array α) : Prop where
  perm : PermIn a b d d'
  sor : SortedIn lt a m d → SortedIn lt m b d → SortedIn lt a b d'
/-- The search for the place of a's element among [m, b): all ahead of i are less, none from j on. -/
def SeL (lt : α → α → Bool) (a m b i j : Nat) (d : Array α) : Prop := SortedIn lt m b d → (∀ x, m ≤ x → x < i → lt d[x]! d[a]! = true) ∧ ∀ x, j ≤ x → x < b → lt d[x]! d[a]! = false
/-- .. for the place of m's among [a, m). -/
def SeR (lt : α → α → Bool) (a m i j : Nat) (d : Array α) : Prop := SortedIn lt a m d → (∀ x, a ≤ x → x < i → lt d[m]! d[x]! = false) ∧ ∀ x, j ≤ x → x < m → lt d[m]! d[x]! = true
/-- .. for the middle: p - c stands against c. -/
def SeM (lt : α → α → Bool) (a m b p s0 r0 s r : Nat) (d : Array α) : Prop := SortedIn lt a m d → SortedIn lt m b d → (∀ c, s0 ≤ c → c < s → lt d[p - c]! d[c]! = false) ∧ ∀ c, r ≤ c → c < r0 → lt d[p - c]! d[c]! = true
section
variable {a m b i j h p s0 r0 s r : Nat} {d : Array α} (hS : SWO lt)
include hS
omit [Inhabited α] in
theorem lt_of_le {x y z : α} (h1 : lt x y = false) (h2 : lt x z = true) : lt y z = true := by
  cases h : lt y z with
  | true => rfl
  | false => rw [hS.ntrans _ _ _ h1 h] at h2; cases h2
omit [Inhabited α] in
theorem le_of_lt' {x y z : α} (h1 : lt x y = true) (h2 : lt z y = false) : lt x z = true := by
  cases h : lt x z with
  | true => rfl
  | false => rw [hS.ntrans _ _ _ h h2] at h1; cases h1
omit hS in
theorem SeL.start : SeL lt a m b m b d := fun _ => ⟨fun x h1 h2 => by omega, fun x h1 h2 => by omega⟩
theorem SeL.up (H : SeL lt a m b i j d) (hh : h < b) (hl : lt d[h]! d[a]! = true) : SeL lt a m b (h + 1) j d := fun hs => by
  refine ⟨fun x h1 h2 => ?_, (H hs).2⟩
  rcases Nat.lt_or_ge x h with h3 | h3
  · exact lt_of_le hS (hs x h h1 h3 hh) hl
  · rw [show x = h by omega]; exact hl
theorem SeL.down (H : SeL lt a m b i j d) (hm : m ≤ h) (hl : lt d[h]! d[a]! = false) : SeL lt a m b i h d := fun hs => by
  refine ⟨(H hs).1, fun x h1 h2 => ?_⟩
  rcases Nat.lt_or_ge h x with h3 | h3
  · exact hS.ntrans _ _ _ (hs h x hm h3 h2) hl
  · rw [show x = h by omega]; exact hl
omit hS in
theorem SeR.start : SeR lt a m a m d := fun _ => ⟨fun x h1 h2 => by omega, fun x h1 h2 => by omega⟩
theorem SeR.up (H : SeR lt a m i j d) (hh : h < m) (hl : lt d[m]! d[h]! = false) : SeR lt a m (h + 1) j d := fun hs => by
  refine ⟨fun x h1 h2 => ?_, (H hs).2⟩
  rcases Nat.lt_or_ge x h with h3 | h3
  · exact hS.ntrans _ _ _ hl (hs x h h1 h3 hh)
  · rw [show x = h by omega]; exact hl
theorem SeR.down (H : SeR lt a m i j d) (ha : a ≤ h) (hl : lt d[m]! d[h]! = true) : SeR lt a m i h d := fun hs => by
  refine ⟨(H hs).1, fun x h1 h2 => ?_⟩
  rcases Nat.lt_or_ge h x with h3 | h3
  · exact le_of_lt' hS hl (hs h x ha h3 h2)
  · rw [show x = h by omega]; exact hl
omit hS in
theorem SeM.start : SeM lt a m b p s0 r0 s0 r0 d := fun _ _ => ⟨fun x h1 h2 => by omega, fun x h1 h2 => by omega⟩
theorem SeM.up (H : SeM lt a m b p s0 r0 s r d) (h0 : a ≤ s0) (h1 : h < m) (h2 : h ≤ p) (h3 : m ≤ p - h) (h4 : p < b + s0) (hl : lt d[p - h]! d[h]! = false) : SeM lt a m b p s0 r0 (h + 1) r d := fun hs ht => by
  refine ⟨fun x k1 k2 => ?_, (H hs ht).2⟩
  rcases Nat.lt_or_ge x h with k3 | k3
  · exact hS.ntrans _ _ _ (hS.ntrans _ _ _ (ht (p - h) (p - x) h3 (by omega) (by omega)) hl) (hs x h (by omega) k3 h1)
  · rw [show x = h by omega]; exact hl
theorem SeM.down (H : SeM lt a m b p s0 r0 s r d) (h0 : a ≤ h) (h1 : r0 ≤ m) (h2 : m + r0 ≤ p + 1) (h4 : p < b + h) (hl : lt d[p - h]! d[h]! = true) : SeM lt a m b p s0 r0 s h d := fun hs ht => by
  refine ⟨(H hs ht).1, fun x k1 k2 => ?_⟩
  rcases Nat.lt_or_ge h x with k3 | k3
  · exact le_of_lt' hS (lt_of_le hS (ht (p - x) (p - h) (by omega) (by omega) (by omega)) hl) (hs h x h0 k3 (by omega))
  · rw [show x = h by omega]; exact hl
end
section
variable {a m b i : Nat} {d d' : Array α} (hS : SWO lt)
include hS
theorem SeL.done (H : SeL lt a m b i i d) (hm : m = a + 1) (h1 : m ≤ i) (h2 : i ≤ b) (hv : Mv a b (shl a (i - 1)) d d') : Mg lt a m b d d' := ⟨hv.perm, fun _ hs => by
  obtain ⟨k1, k2⟩ := H hs
  intro p q hp hpq hq
  rw [hv.at_, hv.at_]
  rcases Nat.lt_or_ge p (i - 1) with hp1 | hp1
  · rw [show shl a (i - 1) p = p + 1 by unfold shl; rw [if_pos ⟨hp, hp1⟩]]
    rcases Nat.lt_trichotomy q (i - 1) with hq1 | hq1 | hq1
    · rw [show shl a (i - 1) q = q + 1 by unfold shl; rw [if_pos ⟨by omega, hq1⟩]]
      exact hs _ _ (by omega) (by omega) (by omega)
    · rw [show shl a (i - 1) q = a by unfold shl; rw [if_neg (by omega), if_pos hq1]]
      exact hS.asymmA (k1 _ (by omega) (by omega))
    · rw [show shl a (i - 1) q = q by unfold shl; rw [if_neg (by omega), if_neg (by omega)]]
      exact hs _ _ (by omega) (by omega) hq
  · rw [show shl a (i - 1) q = q by unfold shl; rw [if_neg (by omega), if_neg (by omega)]]
    by_cases hp2 : p = i - 1
    · rw [show shl a (i - 1) p = a by unfold shl; rw [if_neg (by omega), if_pos hp2]]
      exact k2 _ (by omega) hq
    · rw [show shl a (i - 1) p = p by unfold shl; rw [if_neg (by omega), if_neg hp2]]
      exact hs _ _ (by omega) hpq hq⟩
theorem SeR.done (H : SeR lt a m i i d) (hm : b = m + 1) (h1 : a ≤ i) (h2 : i ≤ m) (hv : Mv a b (shr i m) d d') : Mg lt a m b d d' := ⟨hv.perm, fun hs _ => by
  obtain ⟨k1, k2⟩ := H hs
  intro p q hp hpq hq
  rw [hv.at_, hv.at_]
  rcases Nat.lt_trichotomy p i with hp1 | hp1 | hp1
  · rw [show shr i m p = p by unfold shr; rw [if_neg (by omega), if_neg (by omega)]]
    rcases Nat.lt_trichotomy q i with hq1 | hq1 | hq1
    · rw [show shr i m q = q by unfold shr; rw [if_neg (by omega), if_neg (by omega)]]
      exact hs _ _ hp hpq (by omega)
    · rw [show shr i m q = m by unfold shr; rw [if_neg (by omega), if_pos hq1]]
      exact k1 _ hp hp1
    · rw [show shr i m q = q - 1 by unfold shr; rw [if_pos (by omega)]]
      exact hs _ _ hp (by omega) (by omega)
  · rw [show shr i m p = m by unfold shr; rw [if_neg (by omega), if_pos hp1], show shr i m q = q - 1 by unfold shr; rw [if_pos (by omega)]]
    exact hS.asymmA (k2 _ (by omega) (by omega))
  · rw [show shr i m p = p - 1 by unfold shr; rw [if_pos (by omega)], show shr i m q = q - 1 by unfold shr; rw [if_pos (by omega)]]
    exact hs _ _ (by omega) (by omega) (by omega)⟩
omit hS in
theorem Mg.none (h : a = m ∨ m = b) (d : Array α) : Mg lt a m b d d := ⟨permIn_refl _ _ _, fun h1 h2 => by rcases h with rfl | rfl <;> assumption⟩
theorem SeM.done {s e mid p s0 r0 : Nat} {d1 d2 d3 : Array α} (H : SeM lt a m b p s0 r0 s s d) (hsz : b ≤ d.size) (has : a ≤ s) (hsm : s ≤ m) (hme : m ≤ e) (heb : e ≤ b) (hmid : mid + m = s + e) (hp : p + 1 = mid + m)
    (hs0 : s0 ≤ s) (hr0 : s ≤ r0) (hlow : s = s0 → s = a ∨ e = b) (hup : s = r0 → s = m ∨ e = m)
    (hv : Mv a b (trn s m e) d d1) (h1 : Mg lt a s mid d1 d2) (h2 : Mg lt mid e b d2 d3) : Mg lt a m b d d3 := by
  have z1 := hv.size
  have z2 := h1.perm.1
  refine ⟨permIn_trans _ _ _ _ _ hv.perm (permIn_trans _ _ _ _ _ (permIn_mono _ _ _ _ _ _ (Nat.le_refl _) (by omega) (by omega) h1.perm) (permIn_mono _ _ _ _ _ _ (by omega) (Nat.le_refl _) (by omega) h2.perm)), fun hs ht => ?_⟩
  obtain ⟨k1, k2⟩ := H hs ht
  have g1 : ∀ x, x < s → d1[x]! = d[x]! := fun x hx => by rw [hv.at_]; congr 1; unfold trn; rw [if_neg (by omega), if_neg (by omega)]
  have g2 : ∀ x, s ≤ x → x < mid → d1[x]! = d[x - s + m]! := fun x hx hx2 => by rw [hv.at_]; congr 1; unfold trn; rw [if_pos (by omega)]
  have g3 : ∀ x, mid ≤ x → x < e → d1[x]! = d[x - mid + s]! := fun x hx hx2 => by rw [hv.at_]; congr 1; unfold trn; rw [if_neg (by omega), if_pos (by omega)]; omega
  have g4 : ∀ x, e ≤ x → d1[x]! = d[x]! := fun x hx => by rw [hv.at_]; congr 1; unfold trn; rw [if_neg (by omega), if_neg (by omega)]
  have s1 : SortedIn lt a mid d2 := h1.sor (fun p q hp hpq hq => by rw [g1 _ hq, g1 _ (by omega)]; exact hs _ _ hp hpq (by omega)) (fun p q hp hpq hq => by rw [g2 _ (by omega) hq, g2 _ hp (by omega)]; exact ht _ _ (by omega) (by omega) (by omega))
  have f2 : ∀ x, mid ≤ x → d2[x]! = d1[x]! := fun x hx => h1.perm.2.1 x (Or.inr hx)
  have s2 : SortedIn lt mid b d3 := h2.sor (fun p q hp hpq hq => by rw [f2 _ (by omega), f2 _ hp, g3 _ (by omega) hq, g3 _ hp (by omega)]; exact hs _ _ (by omega) (by omega) (by omega)) (fun p q hp hpq hq => by rw [f2 _ (by omega), f2 _ (by omega), g4 _ (by omega), g4 _ hp]; exact ht _ _ (by omega) hpq hq)
  -- the left ones are not greater than the right ones
  have c1 : ∀ q, mid ≤ q → q < b → ∀ x, a ≤ x → x < mid → lt d1[q]! d1[x]! = false := by
    intro q hq1 hq2 x hx1 hx2
    rcases Nat.lt_or_ge x s with hx | hx
    · rw [g1 _ hx]
      rcases Nat.lt_or_ge q e with hq | hq
      · rw [g3 _ hq1 hq]; exact hs _ _ hx1 (by omega) (by omega)
      · rw [g4 _ hq]
        have hss : s0 < s := by
          rcases Nat.lt_or_ge s0 s with h | h
          · exact h
          · rcases hlow (by omega) with h' | h' <;> omega
        have t1 := k1 (s - 1) (by omega) (by omega)
        rw [show p - (s - 1) = e by omega] at t1
        have t2 : lt d[e]! d[x]! = false := by
          rcases Nat.lt_or_ge x (s - 1) with h | h
          · exact hS.ntrans _ _ _ t1 (hs _ _ hx1 h (by omega))
          · rw [show x = s - 1 by omega]; exact t1
        rcases Nat.lt_or_ge e q with h | h
        · exact hS.ntrans _ _ _ (ht _ _ hme h hq2) t2
        · rw [show q = e by omega]; exact t2
    · rw [g2 _ hx hx2]
      rcases Nat.lt_or_ge q e with hq | hq
      · rw [g3 _ hq1 hq]
        have hss : s < r0 := by
          rcases Nat.lt_or_ge s r0 with h | h
          · exact h
          · rcases hup (by omega) with h' | h' <;> omega
        have t1 := hS.asymmA (k2 s (Nat.le_refl _) hss)
        rw [show p - s = e - 1 by omega] at t1
        have t2 : lt d[s]! d[x - s + m]! = false := by
          rcases Nat.lt_or_ge (x - s + m) (e - 1) with h | h
          · exact hS.ntrans _ _ _ t1 (ht _ _ (by omega) h (by omega))
          · rw [show x - s + m = e - 1 by omega]; exact t1
        rcases Nat.lt_or_ge s (q - mid + s) with h | h
        · exact hS.ntrans _ _ _ (hs _ _ has h (by omega)) t2
        · rw [show q - mid + s = s by omega]; exact t2
      · rw [g4 _ hq]; exact ht _ _ (by omega) (by omega) hq2
  have c2 : ∀ x, a ≤ x → x < mid → ∀ q, mid ≤ q → q < b → lt d1[q]! d2[x]! = false :=
    permIn_all d1 d2 a mid (fun y => ∀ q, mid ≤ q → q < b → lt d1[q]! y = false) (by omega) h1.perm (fun x hx1 hx2 q hq1 hq2 => c1 q hq1 hq2 x hx1 hx2)
  have c3 : ∀ q, mid ≤ q → q < b → ∀ x, a ≤ x → x < mid → lt d3[q]! d2[x]! = false :=
    permIn_all d2 d3 mid b (fun y => ∀ x, a ≤ x → x < mid → lt y d2[x]! = false) (by omega) h2.perm (fun q hq1 hq2 x hx1 hx2 => by rw [f2 _ hq1]; exact c2 x hx1 hx2 q hq1 hq2)
  intro x q hx hxq hq
  rcases Nat.lt_or_ge q mid with h | h
  · rw [h2.perm.2.1 q (Or.inl h), h2.perm.2.1 x (Or.inl (by omega))]; exact s1 _ _ hx hxq h
  · rcases Nat.lt_or_ge x mid with h' | h'
    · rw [h2.perm.2.1 x (Or.inl h')]; exact c3 q h hq x hx h'
    · exact s2 _ _ h' hxq hq
end
/-! ### Blocks -/
/-- From a on, each run of k up to n is sorted. -/
def SB (lt : α → α → Bool) (k a n : Nat) (d : Array α) : Prop := ∀ q, SortedIn lt (a + q * k) (min (a + q * k + k) n) d
/-- Each run of k that ends at a or ahead of it is sorted. -/
def SD (lt : α → α → Bool) (k Q : Nat) (d : Array α) : Prop := ∀ q, q < Q → SortedIn lt (q * k) (q * k + k) d
section
variable {k a b n Q : Nat} {d d' : Array α}
theorem sin_same {lt : α → α → Bool} (h : SortedIn lt a b d) (he : ∀ x, a ≤ x → x < b → d'[x]! = d[x]!) : SortedIn lt a b d' := fun p q hp hpq hq => by rw [he q (by omega) hq, he p hp (by omega)]; exact h p q hp hpq hq
theorem sin_sub {lt : α → α → Bool} {a' b' : Nat} (h : SortedIn lt a b d) (h1 : a ≤ a') (h2 : b' ≤ b) : SortedIn lt a' b' d := fun p q hp hpq hq => h p q (by omega) hpq (by omega)
theorem sin_nil {lt : α → α → Bool} (h : b ≤ a) : SortedIn lt a b d := fun p q hp hpq hq => by omega
theorem SD.zero : SD lt k 0 d := fun q h => by omega
/-- One more. -/
theorem SD.add (h : SD lt k Q d) (hk : 0 < k) (hp : PermIn (Q * k) (Q * k + k) d d') (hs : SortedIn lt (Q * k) (Q * k + k) d') : SD lt k (Q + 1) d' := fun q hq => by
  rcases Nat.lt_or_ge q Q with h1 | h1
  · have : q * k + k ≤ Q * k := by have := Nat.mul_le_mul_right k (show q + 1 ≤ Q from h1); rwa [Nat.add_mul, Nat.one_mul] at this
    exact sin_same (h q h1) fun x hx1 hx2 => hp.2.1 x (Or.inl (by omega))
  · rw [show q = Q by omega]; exact hs
/-- The last, which is shorter. -/
theorem SD.all (h : SD lt k Q d) (hk : 0 < k) (hn : n < Q * k + k) (hp : PermIn (Q * k) n d d') (hs : SortedIn lt (Q * k) n d') : SB lt k 0 n d' := fun q => by
  rw [Nat.zero_add]
  rcases Nat.lt_trichotomy q Q with h1 | h1 | h1
  · have : q * k + k ≤ Q * k := by have := Nat.mul_le_mul_right k (show q + 1 ≤ Q from h1); rwa [Nat.add_mul, Nat.one_mul] at this
    exact sin_sub (sin_same (d' := d') (h q h1) fun x hx1 hx2 => hp.2.1 x (Or.inl (by omega))) (Nat.le_refl _) (Nat.min_le_left _ _)
  · rw [h1, Nat.min_eq_right (by omega)]; exact hs
  · have : Q * k + k ≤ q * k := by have := Nat.mul_le_mul_right k (show Q + 1 ≤ q from h1); rwa [Nat.add_mul, Nat.one_mul] at this
    exact sin_nil (by omega)
theorem SB.fst (h : SB lt k a n d) : SortedIn lt a (min (a + k) n) d := by have := h 0; rwa [Nat.zero_mul, Nat.add_zero] at this
theorem SB.snd (h : SB lt k a n d) : SortedIn lt (a + k) (min (a + k + k) n) d := by have := h 1; rwa [Nat.one_mul] at this
theorem SB.tail (h : SB lt k a n d) (hp : ∀ x, a + 2 * k ≤ x → d'[x]! = d[x]!) : SB lt k (a + 2 * k) n d' := fun q => by
  have := h (q + 2)
  rw [show a + (q + 2) * k = a + 2 * k + q * k by rw [Nat.add_mul]; omega] at this
  exact sin_same this fun x hx1 hx2 => hp x (by omega)
end
end Go.Proofs.Ytjlhohljkedbbaa.So
