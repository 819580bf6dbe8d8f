/- Views, plain: how many; what Get tells. -/
import Derived.Test.YtjlhohljkedbbaaSvJ
import Derived.Test.YtjlhohljkedbbaaPtP
namespace Go.Proofs.Ytjlhohljkedbbaa.Pa
open Go.RowKit Gm Go.Maps Go.Sort
open Go.Proofs.Ytjlhohljkedbbaa.So (CL encC encL encO cfC)
set_option linter.unusedVariables false
set_option linter.unusedSimpArgs false
set_option maxRecDepth 100000
section
variable {P : List Gn} {F G : Lit → Option Value} {C D M2 : List CL} {lo hi : ByteArray} {k : List UInt8} {x : Ws} {is : Bool}
/-- What Get tells is what all keys had. -/
structure GfV (F : Lit → Option Value) (k : List UInt8) (x : Ws) (is : Bool) : Prop where
  no : is = false → F (.string k) = none
  yes : is = true → F (.string k) = some (.agg x.A)
theorem GtO.fv (hn : P.Pairwise fun a b => a.txn ≠ b.txn) (hA : Al P F) (h : GtO P k x is) : GfV F k x is := by
  refine ⟨fun e => (hA.no k).2 (h.no e).2, fun e => ?_⟩
  obtain ⟨g, hg, p, q1, q2, q3⟩ := h.yes e
  cases hF : F (.string k) with
  | none =>
    have := (hA.no k).1 hF g hg
    rw [q1] at this
    cases this
  | some v =>
    obtain ⟨k1, y, e1, rfl⟩ := hA.vs _ _ hF
    cases e1
    obtain ⟨g', hg', p', r1, r2, r3⟩ := hA.yes k y hF
    have a := q3 g' hg' (by rw [r1]; simp)
    have b := r3 g hg (by rw [q1]; simp)
    have e2 := gn_eq hn hg hg' (Int.le_antisymm a b)
    subst e2
    rw [q1] at r1
    cases r1
    rw [q2, r2]
theorem len_sub {α : Type} [DecidableEq α] : ∀ {l1 l2 : List α}, l1.Nodup → (∀ x ∈ l1, x ∈ l2) → l1.length ≤ l2.length
  | [], _, _, _ => Nat.zero_le _
  | a :: l, l2, hn, hs => by
    rw [List.nodup_cons] at hn
    have ha := hs a (List.mem_cons_self ..)
    have := len_sub (l1 := l) (l2 := l2.erase a) hn.2 (fun x hx => (List.mem_erase_of_ne (fun e => hn.1 (by rw [← e]; exact hx))).2 (hs x (List.mem_cons_of_mem _ hx)))
    rw [List.length_erase_of_mem ha] at this
    have := List.length_pos_of_mem ha
    simp only [List.length_cons]
    omega
def keysP (P : List Gn) : List (List UInt8) := P.flatMap fun g => g.ks.map fun p => p.1.data.toList
theorem keysP_len : (keysP P).length = actsM P := by
  unfold keysP actsM
  rw [List.length_flatMap]
  simp
theorem mem_keysP : k ∈ keysP P ↔ ∃ g ∈ P, lkK g.ks k ≠ none := by
  unfold keysP
  rw [List.mem_flatMap]
  refine ⟨fun ⟨g, hg, h⟩ => ⟨g, hg, fun e => ?_⟩, fun ⟨g, hg, h⟩ => ⟨g, hg, ?_⟩⟩
  · obtain ⟨p, hp, e2⟩ := List.mem_map.1 h
    exact lkK_none.1 e p hp e2
  · rcases Classical.em (∃ p ∈ g.ks, p.1.data.toList = k) with ⟨p, hp, e⟩ | hno
    · exact List.mem_map.2 ⟨p, hp, e⟩
    · exact absurd (lkK_none.2 fun p hp e => hno ⟨p, hp, e⟩) h
theorem M2I.in_keys (hA : Al P F) (hM : M2I F lo hi (fun _ => false) M2) {c : CL} (hc : c ∈ M2) : ∃ g ∈ P, lkK g.ks c.1.data.toList ≠ none := by
  obtain ⟨ws, h1, _⟩ := (hM.mem c).1 hc
  obtain ⟨g, hg, p, q1, _⟩ := hA.yes _ _ h1
  exact ⟨g, hg, by rw [q1]; simp⟩
theorem M2I.nodup (hM : M2I F lo hi (fun _ => false) M2) : (M2.map fun c => c.1.data.toList).Nodup :=
  List.pairwise_map.2 (hM.nd.imp fun h e => h (ba_ext e))
theorem M2I.len (hA : Al P F) (hM : M2I F lo hi (fun _ => false) M2) : M2.length ≤ actsM P := by
  have := len_sub hM.nodup (l2 := keysP P) (fun k hk => by
    obtain ⟨c, hc, rfl⟩ := List.mem_map.1 hk
    exact mem_keysP.2 (hM.in_keys hA hc))
  rw [List.length_map, keysP_len] at this
  exact this
/-- How many of them have one of these keys. -/
def cq (M2 : List CL) (K : List (List UInt8)) : Nat := M2.countP fun c => decide (c.1.data.toList ∈ K)
theorem cq_nil : cq M2 [] = 0 := by
  unfold cq
  rw [List.countP_eq_zero]
  simp
theorem cq_miss {K : List (List UInt8)} (h : ∀ c ∈ M2, c.1.data.toList ≠ k) : cq M2 (K ++ [k]) = cq M2 K := by
  unfold cq
  refine List.countP_congr fun c hc => ?_
  have := h c hc
  simp [this]
theorem cq_hit {K : List (List UInt8)} : ∀ {M2 : List CL}, (M2.Pairwise fun a b => a.1 ≠ b.1) → (∃ c ∈ M2, c.1.data.toList = k) → k ∉ K → cq M2 (K ++ [k]) = cq M2 K + 1
  | [], _, ⟨c, hc, _⟩, _ => by cases hc
  | c :: M, hn, hex, hk => by
    rw [List.pairwise_cons] at hn
    unfold cq
    rw [List.countP_cons, List.countP_cons]
    by_cases e : c.1.data.toList = k
    · have hm := cq_miss (M2 := M) (K := K) (k := k) (fun d hd e2 => hn.1 d hd (ba_ext (e.trans e2.symm)))
      unfold cq at hm
      rw [hm]
      simp [e, hk]
    · obtain ⟨d, hd, e2⟩ := hex
      rcases List.mem_cons.1 hd with rfl | hd
      · exact absurd e2 e
      · have ih := cq_hit (K := K) hn.2 ⟨d, hd, e2⟩ hk
        unfold cq at ih
        rw [ih]
        simp [e]
        omega
theorem cq_all {K : List (List UInt8)} (h : ∀ c ∈ M2, c.1.data.toList ∈ K) : cq M2 K = M2.length := by
  unfold cq
  rw [List.countP_eq_length]
  intro c hc
  simpa using h c hc
/-- Acts after a note: one more at most. -/
theorem acts_turn {g : Gn} {r : Rc} {n : Int} : (g.turn r n).ks.length ≤ g.ks.length + 1 := by
  rw [turn_ks]
  unfold tks
  split
  · simp
  · omega
theorem sum_erase : ∀ (l : List Nat) (i : Nat), (l.eraseIdx i).sum ≤ l.sum
  | [], _ => by simp
  | a :: l, 0 => by simp
  | a :: l, i + 1 => by have := sum_erase l i; simp only [List.eraseIdx_cons_succ, List.sum_cons]; omega
theorem acts_erase : ∀ (P : List Gn) (i : Nat), actsM (P.eraseIdx i) ≤ actsM P
  | [], _ => by simp [actsM]
  | a :: l, 0 => by simp [actsM]
  | a :: l, i + 1 => by have := acts_erase l i; unfold actsM at *; simp only [List.eraseIdx_cons_succ, List.map_cons, List.sum_cons]; omega
theorem acts_modify (r : Rc) (n : Int) : ∀ (P : List Gn) (i : Nat), actsM (P.modify i (·.turn r n)) ≤ actsM P + 1
  | [], i => by simp [actsM]
  | a :: l, 0 => by have := acts_turn (g := a) (r := r) (n := n); simp only [actsM, List.modify_zero_cons, List.map_cons, List.sum_cons]; omega
  | a :: l, i + 1 => by have := acts_modify r n l i; unfold actsM at *; simp only [List.modify_succ_cons, List.map_cons, List.sum_cons]; omega
theorem acts_note (r : Rc) (n : Int) : actsM (noteM P r n) ≤ actsM P + 1 := by
  unfold noteM
  split
  · omega
  · split
    · have := acts_erase P (fnd P r.tx); omega
    · split
      · exact acts_modify r n P _
      · have := acts_turn (g := zG r.tx) (r := r) (n := n)
        unfold actsM
        rw [List.map_append, List.sum_append_nat]
        simp only [List.map_cons, List.map_nil, List.sum_cons, List.sum_nil]
        have h0 : (zG r.tx).ks.length = 0 := rfl
        omega
end
end Go.Proofs.Ytjlhohljkedbbaa.Pa
