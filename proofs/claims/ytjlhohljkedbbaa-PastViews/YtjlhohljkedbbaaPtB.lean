/- Keys. -/
import Derived.Test.YtjlhohljkedbbaaPtA
namespace Go.Proofs.Ytjlhohljkedbbaa.Pa
open Go.RowKit Gm Go.Maps Go.Sort Go.Shelf
set_option linter.unusedVariables false
set_option linter.unusedSimpArgs false
set_option maxRecDepth 100000
/-- The keys of a map, rising. -/
structure Kys (f : Lit → Option Value) (ks : List (List UInt8)) : Prop where
  up : ks.Pairwise fun a b => a < b
  mem : ∀ x, x ∈ ks ↔ (f (.string x)).isSome = true
  le : ∀ x ∈ ks, x.length ≤ 9223372036854775807
structure KyO (w : World) (n : Nat) (f : Lit → Option Value) (e : Ending) (w' : World) : Prop where
  ex : ∃ v ks, e = .returned v ∧ Kys f ks ∧ Row w' 9 1 v (sC ks) ∧ (∀ g, v.ownBlock = some g → w.heap.size ≤ g) ∧ ks.length ≤ n
  bel : Below w.heap.size w w'
section
variable {W : Nat → Prop} {w w' : World} {pb bl bw b n : Nat} {L : List Dv} {P : List Gn} {f : Lit → Option Value}
theorem strKeys_facts (h : Mp w 9 b n f) (hf : ∀ l v, f l = some v → ∃ x, l = .string x) : ∃ D, w.ownsMap Try.prog 9 hdR b n D ∧ Maps.size D = n ∧ (strKeys D).Nodup ∧ (∀ x, x ∈ strKeys D ↔ (f (.string x)).isSome = true) ∧ ∀ x ∈ strKeys D, x.length ≤ maxLen := by
  obtain ⟨D, ho, hn, hv⟩ := h.ex
  have hle := strKeys_le ho Try.underlying9
  obtain ⟨es, rfl, hp, hk⟩ := ho.entries KS
  have hks : ∀ p ∈ es, ∃ x, p.1 = .string x := fun p hp2 => by
    have : Maps.has (.map es) p.1 = true := List.any_eq_true.2 ⟨p, hp2, WideAt.sameKey_self (hk p hp2)⟩
    rw [hv.has] at this
    obtain ⟨v, e⟩ := Option.isSome_iff_exists.1 this
    exact hf _ _ e
  refine ⟨_, ho, hn, ?_, fun x => ?_, hle⟩
  · show (es.map fun p => strOf p.1).Nodup
    refine List.pairwise_map.2 (hp.imp_of_mem fun {p q} hp' hq' hne e => hne ?_)
    obtain ⟨a, ha⟩ := hks p hp'
    obtain ⟨b, hb⟩ := hks q hq'
    rw [ha, hb] at e ⊢
    exact congrArg _ e
  · rw [← hv.has]
    show x ∈ (es.map fun p => strOf p.1) ↔ es.any _ = true
    rw [List.mem_map, List.any_eq_true]
    constructor
    · rintro ⟨p, hp', rfl⟩
      obtain ⟨a, ha⟩ := hks p hp'
      exact ⟨p, hp', by rw [ha]; exact WideAt.sameKey_self (kS _)⟩
    · rintro ⟨p, hp', hs⟩
      have := WideAt.sameKey_eq hs
      exact ⟨p, hp', by rw [this]; rfl⟩
theorem srtS_up {l : List (List UInt8)} (h : l.Nodup) : (srtS l).Pairwise fun a b => a < b := by
  have tr : ∀ a b c : List UInt8, decide (a ≤ b) = true → decide (b ≤ c) = true → decide (a ≤ c) = true := fun a b c h1 h2 => by simp only [decide_eq_true_eq] at *; exact List.le_trans h1 h2
  have to : ∀ a b : List UInt8, (decide (a ≤ b) || decide (b ≤ a)) = true := fun a b => by simp only [Bool.or_eq_true, decide_eq_true_eq]; exact List.le_total a b
  have hs := List.pairwise_mergeSort tr to l
  have hn : (srtS l).Nodup := (List.mergeSort_perm l _).nodup_iff.2 h
  refine (hs.and hn).imp fun {a b} h => ?_
  have h1 : a ≤ b := by simpa using h.1
  exact Classical.byContradiction fun h2 => h.2 (List.le_antisymm h1 (List.not_lt.1 h2))
set_option maxHeartbeats 1000000 in
theorem sortedKeys_any (h : Mp w 9 b n f) (hf : ∀ l v, f l = some v → ∃ x, l = .string x) (hn : n ≤ 1000000) : CallsIn Fence.wide 5 Try.prog 31 #[.func (.func 41) #[] #[.pointer (some ⟨w.heap.size, 0, none⟩)]] (w.alloc (.cells #[.map (some b)] 52)) fun e w' => KyO w n f e w' := by
  obtain ⟨D0, hown, hsz, hnd, hmem, hle⟩ := strKeys_facts h hf
  have hbl := hown.lt
  have hseq : SeqGives Fence.wide 2 Try.prog 41 #[.pointer (some ⟨w.heap.size, 0, none⟩)] encStr (fun ss => ss.Perm (strKeys D0)) (Maps.size D0) (w.alloc (.cells #[.map (some b)] 52)) :=
    AnyZ.keys_gives (ρ := Try.keysS_ren) { Try.keysS with } Fence.wide _ trivial rfl (by omega) w.heap.size b n D0 _ (by simp) (by simp) (by
      obtain ⟨es, clock, hb, Ft, hs, hD⟩ := hown
      exact ⟨es, clock, (Below.heap_alloc _ _ b hbl).trans hb, Ft, hs, hD⟩)
  have cS := AnyZ.sorted_in Try.sortedS Fence.wide 5 trivial trivial trivial trivial rfl (by omega) (sortsS _) (enters_of Try.func40 (by kernel_rfl) rfl) 41 #[.pointer (some ⟨w.heap.size, 0, none⟩)] trivial (enters_of Try.func41 (by kernel_rfl) rfl) _ _ (by rw [hsz]; unfold maxLen; omega) (by rw [hsz]; omega) _ hseq
  change CallsIn _ _ Try.prog 31 _ _ _ at cS
  refine cS.mono ?_
  rintro e w' ⟨v, ss, rfl, hS, hrow, hnil, hb⟩
  have e : ss.mergeSort (fun x y => decide (x ≤ y)) = srtS (strKeys D0) := mergeSort_of_perm hS
  rw [e] at hrow
  have hlen : ss.length = (srtS (strKeys D0)).length := by rw [hS.length_eq]; unfold srtS; rw [List.length_mergeSort]
  obtain ⟨r1, r2⟩ := row_of hrow hlen
  refine ⟨⟨v, srtS (strKeys D0), rfl, ⟨srtS_up hnd, fun x => ?_, fun x hx => ?_⟩, r1, fun g e => Nat.le_trans (by simp) (r2 g e), ?_⟩, ((Below.refl _ w).alloc (Nat.le_refl _) _).trans (hb.mono (by simp))⟩
  · rw [← hmem]; unfold srtS; exact List.mem_mergeSort
  · exact hle x (List.mem_mergeSort.1 hx)
  · unfold srtS
    rw [List.length_mergeSort, ← hsz]
    cases D0 <;> simp [strKeys, Maps.size]
theorem tgM_str (ts : List Int) : ∀ (f : Lit → Option Value), (∀ l v, f l = some v → ∃ x, l = .string x) → ∀ l v, (ts.foldl (tgS L) f) l = some v → ∃ x, l = .string x := by
  induction ts with
  | nil => intro f hf; exact hf
  | cons t ts ih =>
    intro f hf
    refine ih _ fun l v h => ?_
    unfold tgS at h
    cases l <;> first | exact ⟨_, rfl⟩ | (simp only [fK, Option.none_or] at h; exact hf _ _ h)
set_option maxHeartbeats 1000000 in
theorem Keys_any {K : Nat} (h : DpI W w pb bl bw L) (hlt : ∀ j, W j → j < w.heap.size) (hl : L.length ≤ 1000) (hK : ∀ d ∈ L, d.g.ks.length ≤ K) (hK2 : K ≤ 1000) (hw : ∀ d ∈ L, wfT d.g.txn) : Calls Try.prog 23 #[.pointer (some ⟨pb, 0, none⟩)] w fun e w' => ∃ n, n ≤ L.length * K ∧ KyO w n (tgM L (srtI (L.map fun d => d.g.txn)).reverse) e w' := by
  have HA : Hid (At w pb 51 #[.map (some bl), .map (some bw)]) := h.is
  have CT : Hid (Calls Try.prog 18 #[.pointer (some ⟨pb, 0, none⟩)] w fun e w' => TgO w L K (srtI (L.map fun d => d.g.txn)).reverse e w') := together_any h hlt hl hK hK2 hw
  have HL2 : Hid ((srtI (L.map fun d => d.g.txn)).reverse.length = L.length ∧ L.length * K ≤ 1000000) := ⟨by unfold srtI; rw [List.length_reverse, List.length_mergeSort, List.length_map], by have := Nat.mul_le_mul hl hK2; omega⟩
  clear h hlt hl hK hK2 hw
  generalize (srtI (L.map fun d => d.g.txn)).reverse = ts at *
  have cK : ∀ mb W, CallsIn Fence.wide 5 Try.prog 32 #[.map mb] W fun e w' => e = .returned (.func (.func 41) #[] #[.pointer (some ⟨W.heap.size, 0, none⟩)]) ∧ w' = W.alloc (.cells #[.map mb] 52) := fun mb W => AnyZ.keys_in Try.keysS Fence.wide 5 trivial rfl mb W
  refine (callsIn_wide (n := 6)).1 ?_
  have f1 : Fence.wide.fn 32 := trivial
  have f2 : Fence.wide.fn 31 := trivial
  have f3 : Fence.wide.fn 18 := trivial
  have f4 : Fence.wide.fn 14 := trivial
  refine callsIn_of_wp Try.func23 rfl trivial ?_ rfl
  simp only [Try.ntmps23, List.size_toArray, List.length_cons, List.length_nil, Nat.reduceAdd, Nat.reduceSub, Array.replicate_succ, Array.replicate_zero, List.push_toArray, List.append_toArray, List.nil_append, List.cons_append]
  gi_wp2_with (first
    | (gi_at_call 14; refine (callsIn_wide.2 (isMade_ok HA.out)).mono ?_; rintro e w ⟨rfl, rfl⟩)
    | (gi_at_call 18; refine (callsIn_wide.2 CT.out).mono ?_; rintro e w3 ⟨⟨b, n, rfl, hb, hm, hle⟩, q3⟩)
    | (gi_at_call 32; refine (cK _ _).mono ?_; rintro e w' ⟨rfl, rfl⟩)
    | (gi_at_call 31; refine (sortedKeys_any hm (tgM_str ts _ (fun l v h => by cases h)) (by have := HL2.out.1; have := HL2.out.2; rw [HL2.out.1] at hle; omega)).mono ?_; rintro e w5 ⟨⟨v, ks, rfl, hk, hr, ho, hlen⟩, q5⟩))
  go_ret
  exact ⟨n, by rw [← HL2.out.1]; exact hle, ⟨v, ks, rfl, hk, hr, fun g e => Nat.le_trans q3.size (ho g e), hlen⟩, q3.trans (q5.mono q3.size)⟩
end
end Go.Proofs.Ytjlhohljkedbbaa.Pa
