/- together: all keys that somebody turned, with the word of the least number. -/
import Derived.Test.YtjlhohljkedbbaaPsZ
namespace Go.Proofs.Ytjlhohljkedbbaa.Pa
open Go.RowKit Gm Go.Maps Go.Shelf
set_option linter.unusedVariables false
set_option linter.unusedSimpArgs false
set_option maxRecDepth 100000
attribute [local go_sem] Oper.semAt_some
def ksL (L : List Dv) (t : Int) : List (ByteArray × Ws) := ((lkD L t).map fun d => d.g.ks).getD []
def tgS (L : List Dv) (f : Lit → Option Value) (t : Int) : Lit → Option Value := fun l => (fK (ksL L t) l).or (f l)
def tgM (L : List Dv) (ts : List Int) : Lit → Option Value := ts.foldl (tgS L) fun _ => none
section
variable {W : Nat → Prop} {w w' wL : World} {pb bl bw : Nat} {L : List Dv} {P : List Gn}
/-- The loop's memory. -/
structure TgI (w : World) (b1 ba b3 pb K B0 : Nat) (L : List Dv) (pre : List Int) (wr : World) : Prop where
  sz : B0 ≤ wr.heap.size
  bel : Below w.heap.size w wr
  p1 : At wr b1 24 #[.pointer (some ⟨pb, 0, none⟩)]
  p3 : At wr b3 52 #[.map (some ba)]
  mp : ∃ n, Mp wr 9 ba n (tgM L pre) ∧ n ≤ pre.length * K
theorem TgI.own {B b1 ba b3 pb K B0 : Nat} (h1 : b1 < B) (ha : ba < B) (h3 : b3 < B) (hB : w.heap.size ≤ B) : OwnFrom B (fun (pre : List Int) wr => TgI w b1 ba b3 pb K B0 L pre wr) := fun pre X Y row hs hg hr => by
  have hn : ∀ j, j < B → some j ≠ row := fun j hj e => by have := (hr j e.symm).1; omega
  obtain ⟨n, hm, hle⟩ := hs.mp
  exact ⟨Nat.le_trans hs.sz hg.size, hs.bel.grown hg hs.bel.size (fun k e => Nat.le_trans hB (hr k e).1), hs.p1.keep (hg.block _ hs.p1.lt (hn _ h1)), hs.p3.keep (hg.block _ hs.p3.lt (hn _ h3)), ⟨n, hm.keep (hg.block _ hm.lt (hn _ ha)), hle⟩⟩
theorem tgM_snoc (ts : List Int) (t : Int) : tgM L (ts ++ [t]) = tgS L (tgM L ts) t := by unfold tgM; rw [List.foldl_append]; rfl
/-- What together leaves. -/
structure TgO (w : World) (L : List Dv) (K : Nat) (ts : List Int) (e : Ending) (w' : World) : Prop where
  ex : ∃ b n, e = .returned (.map (some b)) ∧ w.heap.size ≤ b ∧ Mp w' 9 b n (tgM L ts) ∧ n ≤ ts.length * K
  bel : Below w.heap.size w w'
theorem ksL_some {d : Dv} {t : Int} (h : lkD L t = some d) : ksL L t = d.g.ks := by unfold ksL; rw [h]; rfl
set_option maxHeartbeats 4000000 in
theorem together_any {K : Nat} (h : DpI W w pb bl bw L) (hlt : ∀ j, W j → j < w.heap.size) (hl : L.length ≤ 1000) (hK : ∀ d ∈ L, d.g.ks.length ≤ K) (hK2 : K ≤ 1000) (hw : ∀ d ∈ L, wfT d.g.txn) : Calls Try.prog 18 #[.pointer (some ⟨pb, 0, none⟩)] w fun e w' => TgO w L K (srtI (L.map fun d => d.g.txn)).reverse e w' := by
  have H : Hid (DpI W w pb bl bw L) := h
  have HL : Hid (∀ j, W j → j < w.heap.size) := hlt
  have HKs : Hid (K ≤ 1000 ∧ ∀ d ∈ L, d.g.ks.length ≤ K) := ⟨hK2, hK⟩
  have HT : Hid (∀ t ∈ srtI (L.map fun d => d.g.txn), wfT t ∧ ∃ d, lkD L t = some d) := fun t ht => by
    obtain ⟨d, hd, rfl⟩ := List.mem_map.1 (mem_srtI.1 ht)
    exact ⟨hw d hd, d, lkD_of h.nd hd⟩
  have C : Hid (∀ wx, Below w.heap.size w wx → Calls Try.prog 27 #[.pointer (some ⟨pb, 0, none⟩)] wx fun e w' => RwN wx w' 3 e (iC (srtI (L.map fun d => d.g.txn)))) := fun wx hb => numbers_any (h.keep (fun j hj => hb.block j (hlt j hj))) (by omega)
  have HN : Hid ((srtI (L.map fun d => d.g.txn)).length ≤ 1000) := by unfold srtI; rw [List.length_mergeSort, List.length_map]; exact hl
  clear h hlt hw hl hK hK2
  generalize srtI (L.map fun d => d.g.txn) = ts at *
  refine (callsIn_wide (n := 6)).1 ?_
  have hmm := @run_makeMap Try.prog
  have hfol : Try.prog.follows .mixedOrders = true := by kernel_rfl
  refine callsIn_of_wp_marks Try.func18 rfl trivial ?_ rfl
  simp only [Try.ntmps18, List.size_toArray, List.length_cons, List.length_nil, Nat.reduceAdd, Nat.reduceSub, Array.replicate_succ, Array.replicate_zero, List.push_toArray, List.append_toArray, List.nil_append, List.cons_append]
  have hfn : Fence.wide.fn 27 := trivial
  have hfb : Fence.wide.fn 26 := trivial
  have B3 : Hid (Below w.heap.size w (((w.alloc (.cells #[.pointer (some ⟨pb, 0, none⟩)] 24)).alloc (.map #[] 0)).alloc (.cells #[.map (some (w.heap.size + 1))] 52))) := ((((Below.refl _ w).alloc (Nat.le_refl _) _).alloc (by simp) _).alloc (by simp; omega) _)
  gi_wp2_with (first
    | (gi_at_call 27; refine (callsIn_wide.2 (C.out _ B3.out)).mono ?_; rintro e w2 ⟨⟨v0, rfl, r0, o0⟩, q2⟩; obtain ⟨a0, c0, ev, hc0⟩ := r0.sl; subst ev)
    | (gi_at_call 26; refine (bwd_in Fence.wide 5 hfb rfl _ _ _ _).mono ?_; rintro e w3 ⟨rfl, rfl⟩))
  have hlen : (iC ts).length = ts.length := by simp [iC]
  rw [hlen] at r0 hc0 o0 ⊢
  have s3 : (((w.alloc (.cells #[.pointer (some ⟨pb, 0, none⟩)] 24)).alloc (.map #[] 0)).alloc (.cells #[.map (some (w.heap.size + 1))] 52)).heap.size = w.heap.size + 3 := by simp
  have s2 : w.heap.size + 3 ≤ w2.heap.size := s3 ▸ q2.size
  have P1 : At w2 w.heap.size 24 #[.pointer (some ⟨pb, 0, none⟩)] := (((At.new w #[.pointer (some ⟨pb, 0, none⟩)] 24).bel (bl1 _)).bel (bl1 _)).bel q2
  have P3 : At w2 (w.heap.size + 1 + 1) 52 #[.map (some (w.heap.size + 1))] := (by
    have := At.new ((w.alloc (.cells #[.pointer (some ⟨pb, 0, none⟩)] 24)).alloc (.map #[] 0)) #[.map (some (w.heap.size + 1))] 52
    exact (by simpa using this : At _ (w.heap.size + 1 + 1) _ _).bel q2)
  have PM : Mp w2 9 (w.heap.size + 1) 0 (fun _ => none) := (by
    have := Mp.made (w.alloc (.cells #[.pointer (some ⟨pb, 0, none⟩)] 24)) 9
    exact ((by simpa using this : Mp _ _ (w.heap.size + 1) 0 _).bel (bl1 _)).bel q2)
  have BL : Below w.heap.size w w2 := B3.out.trans (q2.mono (by rw [s3]; omega))
  obtain ⟨g, hg⟩ : ∃ g, 0 < ts.length → a0 = some ⟨g, 0, none⟩ ∧ g < w2.heap.size ∧ g ≠ w.heap.size + 1 ∧ ∀ j (hj : j < ts.length), w2.cell? ⟨g, j, none⟩ = some (.int .i64 ts[j]) := (by
    rcases Nat.eq_zero_or_pos ts.length with h0 | h0
    · exact ⟨0, fun h => absurd h (by omega)⟩
    · obtain ⟨g, e, hlt, _⟩ := r0.at_ (i := 0) (by rw [hlen]; exact h0)
      refine ⟨g, fun _ => ⟨e, hlt, fun e2 => ?_, fun j hj => ?_⟩⟩
      · have := o0 g (by rw [e]; rfl)
        rw [s3] at this
        omega
      · obtain ⟨g', e', _, hat⟩ := r0.at_ (i := j) (by rw [hlen]; exact hj)
        rw [e] at e'
        cases e'
        have := (hat w2 rfl).1 0 (.int .i64 ts[j]) (by simp [iC])
        simpa using this)
  obtain ⟨wL, hwL⟩ : ∃ x : World, x = w2.alloc (.cells #[.slice a0 ts.length c0] 67) := ⟨_, rfl⟩
  have q4 : Below w2.heap.size w2 wL := hwL ▸ bl1 _
  have sL : w2.heap.size < wL.heap.size := by rw [hwL]; simp
  have cB : wL.cell? ⟨w2.heap.size, 0, none⟩ = some (.slice a0 ts.length c0) := by rw [hwL]; exact (At.new w2 #[.slice a0 ts.length c0] 67).c 0
  rw [← hwL]
  have HI0 : Hid (TgI w w.heap.size (w.heap.size + 1) (w.heap.size + 1 + 1) pb K wL.heap.size L [] wL) := ⟨Nat.le_refl _, BL.trans (q4.mono BL.size), P1.bel q4, P3.bel q4, ⟨0, PM.bel q4, Nat.zero_le _⟩⟩
  have HSZ : Hid (w.heap.size + 3 ≤ wL.heap.size) := by show w.heap.size + 3 ≤ wL.heap.size; omega
  have hseq := bwd_stops (n₀ := wL.heap.size) (ba := w.heap.size + 1) (Bs := w2.heap.size) (g := g) (m := ts.length) (a := a0) (c := c0) (ts := ts) Fence.wide 5 trivial rfl (by omega) rfl (by have := HN.out; omega) ⟨sL, by omega⟩ (Nat.le_refl _) cB (fun h => by
    obtain ⟨h1, h2, h3, h4⟩ := hg h
    exact ⟨h1, by omega, h3, fun j hj => (q4.cell (p := ⟨g, j, none⟩) h2).trans (h4 j hj)⟩)
  clear hg cB P1 P3 PM BL B3 r0 o0 hc0 q2 s3 C hwL q4 hlen
  refine wpIn_rangeFunc_ownG (α := BwT ts) rfl (by omega) (gf := 33) (lb := #[.pointer (some ⟨w2.heap.size, 0, none⟩)]) rfl trivial (enters_of Try.func33 (by kernel_rfl) rfl) hseq
    KpB.trans (fun W l o o' hl _ _ _ => KpB.put W l o' hl) (Below.refl _ _) (fun _ => rfl)
    (fun pre W => TgI w w.heap.size (w.heap.size + 1) (w.heap.size + 1 + 1) pb K wL.heap.size L (bwL pre) W)
    (fun _ _ _ => False)
    (fun pre X Y row hs hg hr => TgI.own (by have := HSZ.out; omega) (by have := HSZ.out; omega) (by have := HSZ.out; omega) (by have := HSZ.out; omega) (bwL pre) X Y row hs hg hr)
    (fun _ _ _ _ _ hs _ _ => hs)
    HI0.out
    (fun x => { tmps := #[.pointer (some ⟨pb, 0, none⟩), .pointer (some ⟨w.heap.size, 0, none⟩), .map none, .pointer (some ⟨w.heap.size + 1 + 1, 0, none⟩), undef, .int .i64 x.1.2, .map (some (w.heap.size + 1)), .pointer (some ⟨pb, 0, none⟩), .slice a0 ts.length c0, .func (.func 33) #[] #[.pointer (some ⟨w2.heap.size, 0, none⟩)], .int .i64 x.1.1, .int .i64 x.1.2, undef, undef, undef, undef, undef, undef, undef, undef, undef], defers := [] }) ?assign ?body ?done ?stop
  case assign =>
    intro l x W K hK
    gi_wp2
    exact hK
  case body =>
    rintro l pre ⟨⟨xi, t⟩, ht⟩ Wr hI hlt
    have HI : Hid (TgI w w.heap.size (w.heap.size + 1) (w.heap.size + 1 + 1) pb K wL.heap.size L (bwL pre) Wr) := hI
    obtain ⟨hwf, d, hd⟩ := HT.out t ht
    have HDd : Hid (lkD L t = some d) := hd
    have HDp : Hid (DpI W Wr pb bl bw L) := H.out.keep fun j hj => hI.bel.block j (HL.out j hj)
    have BD : Below Wr.heap.size Wr Wr.drew := bdr (Below.refl _ _) 1
    have c1 : Wr.drew.cell? ⟨w.heap.size, 0, none⟩ = some (.pointer (some ⟨pb, 0, none⟩)) := (hI.p1.bel BD).c 0
    have c3 : Wr.drew.cell? ⟨w.heap.size + 1 + 1, 0, none⟩ = some (.map (some (w.heap.size + 1))) := (hI.p3.bel BD).c 0
    have cp : Wr.drew.cell? ⟨pb, 1, none⟩ = some (.map (some bw)) := (HDp.out.is.bel BD).c 1
    have hlk : (Instr.lookup 49 (.map (some bw)) (.int .i64 t) false).run Try.prog Wr.drew = .ok (.map (some d.b)) Wr.drew := (by
      have := (HDp.out.wa.bel BD).look1 KI uW (zWv _) (keyI hwf)
      rw [fW_at, hd] at this
      exact this)
    obtain ⟨n, hm, hle⟩ := hI.mp
    have HMn : Hid (Mp Wr 9 (w.heap.size + 1) n (tgM L (bwL pre)) ∧ n ≤ (bwL pre).length * K) := ⟨hm, hle⟩
    have hmem := (lkD_mem hd).1
    have hlen2 : (bwL pre).length ≤ 1000 := by have := HN.out; simp only [bwL, List.length_map]; omega
    have hks := HKs.out.2 d hmem
    have CC : Hid (Calls Try.prog 28 #[.map (some (w.heap.size + 1)), .map (some d.b)] Wr.drew fun e w' => e = .returned (.tuple #[]) ∧ CpO Wr.drew w' (w.heap.size + 1) n d.g.ks.length (tgM L (bwL pre)) (fK d.g.ks)) :=
      Copy_any (hm.bel BD) ((HDp.out.ks d hmem).bel BD) (fun e => by have := HL.out _ (H.out.w2 d hmem); omega) (by have := HKs.out.1; have := Nat.mul_le_mul hlen2 HKs.out.1; omega) (fun l v hv => by
        cases l <;> try (cases hv; done)
        rw [fK_at] at hv
        cases h0 : lkK d.g.ks _ with
        | none => rw [h0] at hv; cases hv
        | some p => rw [h0] at hv; cases hv; exact ⟨p.2, rfl⟩)
    have hfc : Fence.wide.fn 28 := trivial
    clear hI hm hle hd hmem hlen2 hks hwf
    gi_wp2
    gi_region_with_o (first
      | (refine ⟨trivial, ?_⟩; gi_at_call 28; refine (CallsIn.inRound l (callsIn_wide.2 CC.out)).mono ?_; rintro e w5 ⟨rfl, o5⟩)
      | (gi_at_call 28; refine (CallsIn.inRound l (callsIn_wide.2 CC.out)).mono ?_; rintro e w5 ⟨rfl, o5⟩))
    all_goals gi_wp2
    all_goals
      obtain ⟨n5, hm5, hle5⟩ := o5.ex
      have hI2 := HI.out
      have g5 : Wr.grownBy w5 (some (w.heap.size + 1)) := ⟨o5.grow.os, o5.grow.tape, o5.grow.output, o5.grow.size, o5.grow.block⟩
      refine ⟨KeepsFrom.of_grownBy g5 (fun j e => by cases e; have := HSZ.out; omega), ⟨g5.size, fun k hk hne => ?_⟩, ⟨Nat.le_trans hI2.sz g5.size, hI2.bel.grown g5 hI2.bel.size (fun k e => by cases e; omega), hI2.p1.keep (g5.block _ hI2.p1.lt (by simp)), hI2.p3.keep (g5.block _ hI2.p3.lt (by simp)), n5, ?_, ?_⟩⟩
      · exact g5.block k (Nat.lt_of_lt_of_le hk hI2.sz) (fun e => hne (by cases e; rfl))
      · rw [bwL_snoc, tgM_snoc]
        have : tgS L (tgM L (bwL pre)) t = fun l => (fK d.g.ks l).or (tgM L (bwL pre) l) := by
          unfold tgS
          rw [ksL_some HDd.out]
        rw [this]
        exact hm5
      · rw [bwL_snoc, List.length_append, Nat.add_mul]
        have := HMn.out.2
        have := HKs.out.2 d (lkD_mem HDd.out).1
        simp only [List.length_singleton, Nat.one_mul]
        omega
  case done =>
    rintro D ys W hD hys hI hK
    have c3 : W.cell? ⟨w.heap.size + 1 + 1, 0, none⟩ = some (.map (some (w.heap.size + 1))) := hI.p3.c 0
    gi_wp2
    refine ⟨by simp, .inl ⟨_, _, rfl, run_takeDeferred hK, ?_⟩⟩
    obtain ⟨n, hm, hle⟩ := hI.mp
    have hsz := HSZ.out
    have hgr := grownBy_putObj' W D (.deferred none)
    refine ⟨_, results_tmp rfl _ _ _, ⟨w.heap.size + 1, n, rfl, by omega, ?_, ?_⟩, hI.bel.grown hgr hI.bel.size (fun k e => by cases e; omega)⟩
    · rw [← hys]
      exact hm.keep (hgr.block _ hm.lt (fun e => by cases e; omega))
    · rw [← hys]; exact hle
  case stop =>
    rintro D c pre W _ _ h _
    exact h.elim
end
end Go.Proofs.Ytjlhohljkedbbaa.Pa
