/- slices.Sorted(maps.Keys(m)) of maps with int and with string keys; numbers. -/
import Derived.Test.YtjlhohljkedbbaaPsI
import Derived.Test.YtjlhohljkedbbaaShelfP
namespace Go.Proofs.Ytjlhohljkedbbaa.Pa
open Go.RowKit Gm Go.Maps Go.Sort Go.Shelf
set_option linter.unusedVariables false
set_option linter.unusedSimpArgs false
set_option maxRecDepth 100000
theorem sortsI (m : Nat) : AnyZI.SortsIn Try.prog Try.sortedI_ren Fence.wide m :=
  ⟨fun blk off cap ss W hH hblk hsz => callsIn_wide.2 (AnyM.slices_Sort_int Try.sortI blk off cap ss W hH hblk hsz),
   fun p cap W => callsIn_wide.2 (AnyM.slices_Sort_int_none Try.sortI p cap W)⟩
theorem sortsS (m : Nat) : AnyZ.SortsIn Try.prog Try.sortedS_ren Fence.wide m :=
  ⟨fun blk off cap ss W hH hblk hsz => callsIn_wide.2 (AnyM.slices_Sort_string Try.sortS blk off cap ss W hH hblk hsz),
   fun p cap W => callsIn_wide.2 (AnyM.slices_Sort_string_none Try.sortS p cap W)⟩
def iC (l : List Int) : List (List Value) := l.map fun x => [.int .i64 x]
def sC (l : List (List UInt8)) : List (List Value) := l.map fun x => [encStr x]
def srtI (l : List Int) : List Int := l.mergeSort fun x y => decide (x ≤ y)
def srtS (l : List (List UInt8)) : List (List UInt8) := l.mergeSort fun x y => decide (x ≤ y)
theorem mem_srtI {l : List Int} {x : Int} : x ∈ srtI l ↔ x ∈ l := by unfold srtI; exact List.mem_mergeSort
theorem flat1 {α : Type} (f : α → Value) (l : List α) : (l.map fun x => [f x]).flatten = l.map f := by
  induction l with
  | nil => rfl
  | cons a l ih => simp [ih]
/-- A new row. -/
structure RwN (w w' : World) (t : TypeId) (e : Ending) (M : List (List Value)) : Prop where
  ex : ∃ v, e = .returned v ∧ Row w' t 1 v M ∧ ∀ g, v.ownBlock = some g → w.heap.size ≤ g
  bel : Below w.heap.size w w'
section
variable {w w' : World} {b n : Nat} {f : Lit → Option Value}
theorem row_of {B : Nat} {t : TypeId} {v : Value} {α : Type} {F : α → Value} {l : List α} {m : Nat} (h : w.ownsRow B t 1 v m (l.map F)) (hm : m = l.length) : Row w t 1 v (l.map fun x => [F x]) ∧ ∀ g, v.ownBlock = some g → B ≤ g := by
  subst hm
  refine ⟨⟨fun c hc => ?_, ?_⟩, fun g e => ?_⟩
  · obtain ⟨x, _, rfl⟩ := List.mem_map.1 hc; rfl
  · rw [flat1, List.length_map]
    exact ownsRow_base_a h (Nat.zero_le _)
  · rcases h.2 with ⟨e2, _⟩ | ⟨g', cap, cur, e2, hB, _⟩
    · rw [e2] at e; cases e
    · rw [e2] at e; cases e; exact hB
theorem keysI_perm (h : Mp w 3 b n f) {ts : List Int} (hnd : ts.Nodup) (hf : ∀ l, (f l).isSome = true ↔ ∃ t ∈ ts, l = .int .i64 t) : ∃ D, w.ownsMap Try.prog 3 hdR b n D ∧ Maps.size D = n ∧ ts.Perm (intKeys D) := by
  obtain ⟨D, ho, hn, hv⟩ := h.ex
  refine ⟨D, ho, hn, ?_⟩
  obtain ⟨es, rfl, hp, hk⟩ := ho.entries KI
  refine perm_intKeys hp (fun p hp2 => ?_) hnd (fun x => ?_)
  · have : Maps.has (.map es) p.1 = true := List.any_eq_true.2 ⟨p, hp2, WideAt.sameKey_self (hk p hp2)⟩
    rw [hv.has, hf] at this
    obtain ⟨t, _, e⟩ := this
    exact ⟨t, e⟩
  · rw [hv.has, hf]
    exact ⟨fun h => ⟨x, h, rfl⟩, fun ⟨t, h, e⟩ => by cases e; exact h⟩
theorem keysS_perm (h : Mp w 9 b n f) {ts : List (List UInt8)} (hnd : ts.Nodup) (hf : ∀ l, (f l).isSome = true ↔ ∃ t ∈ ts, l = .string t) : ∃ D, w.ownsMap Try.prog 9 hdR b n D ∧ Maps.size D = n ∧ ts.Perm (strKeys D) := by
  obtain ⟨D, ho, hn, hv⟩ := h.ex
  refine ⟨D, ho, hn, ?_⟩
  obtain ⟨es, rfl, hp, hk⟩ := ho.entries KS
  refine perm_strKeys hp (fun p hp2 => ?_) hnd (fun x => ?_)
  · have : Maps.has (.map es) p.1 = true := List.any_eq_true.2 ⟨p, hp2, WideAt.sameKey_self (hk p hp2)⟩
    rw [hv.has, hf] at this
    obtain ⟨t, _, e⟩ := this
    exact ⟨t, e⟩
  · rw [hv.has, hf]
    exact ⟨fun h => ⟨x, h, rfl⟩, fun ⟨t, h, e⟩ => by cases e; exact h⟩
theorem nd_txn {L : List Dv} (h : L.Pairwise fun a b => a.g.txn ≠ b.g.txn ∧ a.b ≠ b.b) : (L.map fun d => d.g.txn).Nodup := List.pairwise_map.2 (h.imp fun h => h.1)
theorem fL_some {L : List Dv} (l : Lit) : (fL L l).isSome = true ↔ ∃ t ∈ L.map (fun d => d.g.txn), l = .int .i64 t := by
  constructor
  · intro h
    cases l <;> try (cases h; done)
    rename_i q a
    cases q <;> try (cases h; done)
    rw [fL_at, Option.isSome_map, lkD, List.find?_isSome] at h
    obtain ⟨d, hd, e⟩ := h
    exact ⟨a, List.mem_map.2 ⟨d, hd, by simpa using e⟩, rfl⟩
  · rintro ⟨t, ht, rfl⟩
    obtain ⟨d, hd, rfl⟩ := List.mem_map.1 ht
    rw [fL_at, Option.isSome_map, lkD, List.find?_isSome]
    exact ⟨d, hd, by simp⟩
set_option maxHeartbeats 1000000 in
theorem numbers_any {W : Nat → Prop} {pb bl bw : Nat} {L : List Dv} (h : DpI W w pb bl bw L) (hl : L.length ≤ 100000) : Calls Try.prog 27 #[.pointer (some ⟨pb, 0, none⟩)] w fun e w' => RwN w w' 3 e (iC (srtI (L.map fun d => d.g.txn))) := by
  obtain ⟨D0, hown, hsz, hperm⟩ := keysI_perm h.la (nd_txn h.nd) fL_some
  have c0 : w.cell? ⟨pb, 0, none⟩ = some (.map (some bl)) := h.is.c 0
  have hlm : L.length = (L.map fun d => d.g.txn).length := by rw [List.length_map]
  clear h
  generalize (L.map fun d => d.g.txn) = ts at *
  refine (callsIn_wide (n := 6)).1 ?_
  have hbl := hown.lt
  have hseq : SeqGives Fence.wide 2 Try.prog 44 #[.pointer (some ⟨w.heap.size, 0, none⟩)] encZ (fun ss => ss.Perm (intKeys D0)) (Maps.size D0) (w.alloc (.cells #[.map (some bl)] 48)) :=
    AnyZI.keys_gives (ρ := Try.keysI_ren) { Try.keysI with } Fence.wide _ trivial rfl (by omega) w.heap.size bl L.length D0 _ (by simp) (by simp) (by
      obtain ⟨es, clock, hb, Ft, hs, hD⟩ := hown
      exact ⟨es, clock, (Below.heap_alloc _ _ bl hbl).trans hb, Ft, hs, hD⟩)
  have cK : ∀ mb W, CallsIn Fence.wide 5 Try.prog 35 #[.map mb] W fun e w' => e = .returned (.func (.func 44) #[] #[.pointer (some ⟨W.heap.size, 0, none⟩)]) ∧ w' = W.alloc (.cells #[.map mb] 48) := fun mb W => AnyZI.keys_in Try.keysI Fence.wide 5 trivial rfl mb W
  have cS := AnyZI.sorted_in Try.sortedI Fence.wide 5 trivial trivial trivial trivial rfl (by omega) (sortsI _) (enters_of Try.func43 (by kernel_rfl) rfl) 44 #[.pointer (some ⟨w.heap.size, 0, none⟩)] trivial (enters_of Try.func44 (by kernel_rfl) rfl) _ _ (by rw [hsz]; unfold maxLen; omega) (by rw [hsz]; omega) _ hseq
  change CallsIn _ _ Try.prog 34 _ _ _ at cS
  have hfK : Fence.wide.fn 35 := trivial
  have hfS : Fence.wide.fn 34 := trivial
  refine callsIn_of_wp Try.func27 rfl trivial ?_ rfl
  simp only [Try.ntmps27, List.size_toArray, List.length_cons, List.length_nil, Nat.reduceAdd, Nat.reduceSub, Array.replicate_succ, Array.replicate_zero, List.push_toArray, List.append_toArray, List.nil_append, List.cons_append]
  gi_wp2_with (first
    | (gi_at_call 35; refine (cK _ _).mono ?_; rintro e w' ⟨rfl, rfl⟩)
    | (gi_at_call 34; refine cS.mono ?_; rintro e w' ⟨v, ss, rfl, hS, hrow, hnil, hb⟩))
  go_ret
  have e : ss.mergeSort (fun x y => decide (x ≤ y)) = srtI ts := mergeSort_of_perm_i (hS.trans hperm.symm)
  rw [e] at hrow
  obtain ⟨r1, r2⟩ := row_of hrow (by rw [(hS.trans hperm.symm).length_eq]; unfold srtI; rw [List.length_mergeSort])
  exact ⟨⟨v, rfl, r1, fun g e => Nat.le_trans (by simp) (r2 g e)⟩, ((Below.refl _ w).alloc (Nat.le_refl _) _).trans (hb.mono (by simp))⟩
end
end Go.Proofs.Ytjlhohljkedbbaa.Pa
