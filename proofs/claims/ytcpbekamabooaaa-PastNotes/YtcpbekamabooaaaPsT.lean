/- Table. -/
import Derived.Test.YtcpbekamabooaaaPsK
namespace Go.Proofs.Ytcpbekamabooaaa.Pa
open Go.RowKit Gm Go.Maps
set_option linter.unusedVariables false
set_option linter.unusedSimpArgs false
set_option maxRecDepth 100000
theorem elA : El 31 64 2 (.agg #[.int .i64 0, .int .i64 0]) := ⟨Try.underlying31, by
  obtain ⟨i, h1, h2, h3, h4⟩ := info_parts (show (Try.prog.info? 64).map (fun i => (i.zero, i.size, i.bytes)) = some (some (.agg #[.int .i64 0, .int .i64 0]), 2, 16) by kernel_rfl)
  exact ⟨i, h1, h2, h3, by omega⟩, rfl, by omega⟩
def lastL (L : List Dv) (t : Int) : Int := ((lkD L t).map fun d => d.g.last).getD 0
def tabC (L : List Dv) (ts : List Int) : List (List Value) := ts.map fun t => [.int .i64 t, .int .i64 (lastL L t)]
/-- A new row of elements of k cells. -/
structure RwK (w w' : World) (t : TypeId) (k : Nat) (e : Ending) (M : List (List Value)) : Prop where
  ex : ∃ v, e = .returned v ∧ Row w' t k v M ∧ ∀ g, v.ownBlock = some g → w.heap.size ≤ g
  bel : Below w.heap.size w w'
section
variable {W : Nat → Prop} {w w' : World} {pb bl bw : Nat} {L : List Dv} {P : List Gn}
theorem Row.ne2 {t t' : TypeId} {k k' : Nat} {v v' : Value} {M M' : List (List Value)} (h : Row w t k v M) (h' : Row w t' k' v' M') (ht : t ≠ t') {g : Nat} (e : v.ownBlock = some g) : v'.ownBlock ≠ some g := fun e' => by
  obtain ⟨c, hc⟩ := h.blkAt e
  obtain ⟨c', hc'⟩ := h'.blkAt e'
  rw [hc] at hc'
  simp at hc'
  exact ht hc'.2
/-- Table's memory in its loop. -/
structure TaM (w wr : World) (v0 v : Value) (L : List Dv) (ts : List Int) (i : Nat) : Prop where
  bel : Below w.heap.size w wr
  r0 : Row wr 3 1 v0 (iC ts)
  rw : Row wr 64 2 v (tabC L (ts.take i))
  own : ∀ g, v.ownBlock = some g → w.heap.size ≤ g
theorem lookL {t : Int} (h : DpI W w pb bl bw L) (hw : wfT t) : (Instr.lookup 48 (.map (some bl)) (.int .i64 t) false).run Try.prog w = .ok (.int .i64 (lastL L t)) w := by
  have := h.la.look1 KI uL (zLv _) (keyI hw)
  rw [this, fL_at]
  unfold lastL
  cases lkD L t <;> rfl
theorem Table_zero {z : Nat} {y : Option Nat} (h : At w z 51 #[.map y, .map none]) : Calls Try.prog 15 #[.pointer (some ⟨z, 0, none⟩)] w fun e w' => e = .returned (.slice none 0 0) ∧ w' = w := by
  have H : Hid (At w z 51 #[.map y, .map none]) := h
  clear h
  go_enter Try.func15, Try.ntmps15
  go_wp2_with (go_at_call 18; refine (isMade_zero H.out).mono ?_; rintro e w2 ⟨rfl, rfl⟩)
  go_ret
  exact ⟨rfl, rfl⟩
set_option maxHeartbeats 1000000 in
theorem Table_any (h : DpI W w pb bl bw L) (hlt : ∀ j, W j → j < w.heap.size) (hl : L.length ≤ 80000) (hw : ∀ d ∈ L, wfT d.g.txn) : Calls Try.prog 15 #[.pointer (some ⟨pb, 0, none⟩)] w fun e w' => RwK w w' 64 2 e (tabC L (srtI (L.map fun d => d.g.txn))) := by
  have H : Hid (DpI W w pb bl bw L) := h
  have HL : Hid (∀ j, W j → j < w.heap.size) := hlt
  have HT : Hid (∀ t ∈ srtI (L.map fun d => d.g.txn), wfT t) := fun t ht => by
    obtain ⟨d, hd, rfl⟩ := List.mem_map.1 (mem_srtI.1 ht)
    exact hw d hd
  have C : Hid (Calls Try.prog 28 #[.pointer (some ⟨pb, 0, none⟩)] w fun e w' => RwN w w' 3 e (iC (srtI (L.map fun d => d.g.txn)))) := numbers_any h (by omega)
  have HN : Hid ((srtI (L.map fun d => d.g.txn)).length ≤ 80000) := by unfold srtI; rw [List.length_mergeSort, List.length_map]; exact hl
  clear h hlt hw hl
  generalize srtI (L.map fun d => d.g.txn) = ts at *
  go_enter Try.func15, Try.ntmps15
  go_wp2_with first
    | (go_at_call 18; refine (isMade_ok H.out.is).mono ?_; rintro e w ⟨rfl, rfl⟩)
    | (go_at_call 28; refine C.out.mono ?_; rintro e w2 ⟨⟨v0, rfl, r0, o0⟩, q2⟩; obtain ⟨a0, c0, ev, hc0⟩ := r0.sl; subst ev)
  have hlen : (iC ts).length = ts.length := by simp [iC]
  rw [hlen]
  have HR0 : Hid (Row w2 3 1 (.slice a0 ts.length c0) (iC ts)) := (by rw [hlen] at r0; exact r0)
  clear r0 o0 hc0 hlen C
  generalize hm : ts.length = m at *
  have Hm : Hid (ts.length = m) := hm
  clear hm
  have hm8 : m ≤ 80000 := by have := HN.out; have := Hm.out; omega
  go_loopw [3, 12] (fun s3 s12 wr => ∃ (i : Nat) (a : Option Addr) (c : Nat), s12 = .int .i64 (i : Int) ∧ s3 = .slice a i c ∧ i ≤ m ∧ TaM w wr (.slice a0 m c0) (.slice a i c) L ts i) (fun s3 s12 _ => m - (intOf s12).toNat)
  case atStart => exact ⟨0, none, 0, rfl, rfl, Nat.zero_le _, q2, HR0.out, Row.nil _ _ _, fun g e => by cases e⟩
  case round =>
    obtain ⟨i, a, c, rfl, rfl, hi, hM⟩ := hrel
    rename World => wo
    have HM : Hid (TaM w wo (.slice a0 m c0) (.slice a i c) L ts i) := hM
    clear hM
    by_cases hlt : i < m
    · have hltI : (i : Int) < (m : Int) := by omega
      have hit : i < ts.length := by have := Hm.out; omega
      obtain ⟨g0, ea, hg0, hat⟩ := HM.out.r0.at_ (i := i) (by simp only [iC, List.length_map]; exact hit)
      have k0 : wo.cell? ⟨g0, i, none⟩ = some (.int .i64 ts[i]) := (by
        have := (hat wo rfl).1 0 (.int .i64 ts[i]) (by simp [iC])
        simpa using this)
      clear hat
      subst ea
      have HI : Hid (DpI W wo pb bl bw L) := H.out.keep fun j hj => HM.out.bel.block j (HL.out j hj)
      have p0 : wo.cell? ⟨pb, 0, none⟩ = some (.map (some bl)) := HI.out.is.c 0
      have hlk := lookL HI.out (HT.out _ (List.getElem_mem hit))
      have HE : Hid (tabC L (ts.take (i + 1)) = tabC L (ts.take i) ++ [[.int .i64 ts[i], .int .i64 (lastL L ts[i])]]) := (by
        unfold tabC
        rw [List.take_succ_eq_append_getElem hit, List.map_append]
        rfl)
      have HL2 : Hid ((tabC L (ts.take i)).length = i) := (by unfold tabC; rw [List.length_map, List.length_take]; exact Nat.min_eq_left (Nat.le_of_lt hit))
      generalize ts[i] = t at *
      generalize lastL L t = la at *
      go_wp2_with first
        | (refine wpList_push elA (A := #[.int .i64 t, .int .i64 la]) rfl _ _ rfl rfl (HM.out.rw.bel (bl1 _)) rfl (At.new _ _ _) rfl (by intro u hu; simp at hu; rcases hu with rfl | rfl <;> rfl) (by rw [HL2.out]; omega) ?_; intro a2 c2 w5 A5; rw [HL2.out] at A5 ⊢)
      have B5 : Below w.heap.size w w5 := (HM.out.bel.trans ((bl1 (w := wo) (.cells #[.int .i64 t, .int .i64 la] 64)).mono HM.out.bel.size)).trans (A5.bel (fun g e => HM.out.own g e) (by simp; exact Nat.le_succ_of_le HM.out.bel.size))
      have R5 : Row w5 3 1 (.slice (some ⟨g0, 0, none⟩) m c0) (iC ts) := (HM.out.r0.bel (bl1 (.cells #[.int .i64 t, .int .i64 la] 64))).keep fun g e => A5.grow.block g (by have := HM.out.r0.lt e; simp; omega) (fun e2 => Row.ne2 HM.out.r0 HM.out.rw (by decide) e e2.symm)
      go_roundw
      case rel => exact ⟨i + 1, a2, c2, by rfl, rfl, by omega, B5, R5, by rw [HE.out]; exact A5.row, fun g e => A5.own.elim (fun h => HM.out.own g (h.symm.trans e)) (fun h => by rw [h] at e; cases e; simp; exact Nat.le_succ_of_le HM.out.bel.size)⟩
      case measure => simp [intOf]; omega
    · have hltI : ¬ (i : Int) < (m : Int) := by omega
      have HE : Hid (ts.take i = ts) := List.take_of_length_le (by have := Hm.out; omega)
      go_wp2
      go_ret
      have := HM.out.rw
      rw [HE.out] at this
      exact ⟨⟨_, rfl, this, HM.out.own⟩, HM.out.bel⟩
end
end Go.Proofs.Ytcpbekamabooaaa.Pa
