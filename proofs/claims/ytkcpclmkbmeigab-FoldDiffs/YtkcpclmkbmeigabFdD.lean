/- The developers' fold: rows of cells, one out and one in; commit's parts. -/
import Derived.Test.YtkcpclmkbmeigabFdC
namespace Go.Proofs.Ytkcpclmkbmeigab.Fd
open Go.RowKit Gm Go.Maps
set_option linter.unusedVariables false
set_option linter.unusedSimpArgs false
set_option maxRecDepth 100000
theorem flat_take : ∀ (K : List CL) (i : Nat), (K.map encC).flatten.take (i * 2) = ((K.take i).map encC).flatten
  | [], i => by simp
  | c :: K, 0 => by simp
  | c :: K, i + 1 => by
    have := flat_take K i
    simp only [List.map_cons, List.flatten_cons, List.take_succ_cons]
    rw [show (i + 1) * 2 = 2 + i * 2 by omega, List.take_append, show (encC c).length = 2 from rfl, show 2 + i * 2 - 2 = i * 2 by omega, this, List.take_of_length_le (by show 2 ≤ 2 + i * 2; omega)]
theorem flat_drop : ∀ (K : List CL) (i : Nat), (K.map encC).flatten.drop (i * 2) = ((K.drop i).map encC).flatten
  | [], i => by simp
  | c :: K, 0 => by simp
  | c :: K, i + 1 => by
    have := flat_drop K i
    simp only [List.map_cons, List.flatten_cons, List.drop_succ_cons]
    rw [show (i + 1) * 2 = 2 + i * 2 by omega, List.drop_append, show (encC c).length = 2 from rfl, show 2 + i * 2 - 2 = i * 2 by omega, this, List.drop_of_length_le (by show 2 ≤ 2 + i * 2; omega)]
    rfl
theorem flat_one (K : List CL) : ∀ u ∈ (K.map encC).flatten, u.oneCell' = true := by
  intro u hu
  obtain ⟨l, hl, hu⟩ := List.mem_flatten.1 hu
  obtain ⟨c, _, rfl⟩ := List.mem_map.1 hl
  simp only [encC, List.mem_cons, List.not_mem_nil, or_false] at hu
  rcases hu with rfl | rfl <;> rfl
theorem enc_len (K : List CL) : ∀ c ∈ K.map encC, c.length = 2 := by
  intro c hc
  obtain ⟨x, _, rfl⟩ := List.mem_map.1 hc
  rfl
theorem flat_ln (K : List CL) : (K.map encC).flatten.length = K.length * 2 := by rw [flat_len (enc_len K), List.length_map]
/-- What a call leaves that turns a row. -/
structure RwO (w w' : World) (v v' : Value) (K : List CL) : Prop where
  row : Row w' 41 2 v' (K.map encC)
  gr : w.grownBy w' v.ownBlock
  own : v'.ownBlock = v.ownBlock ∨ ∃ g, v'.ownBlock = some g ∧ w.heap.size ≤ g
section
variable {w w' : World} {v : Value} {K : List CL}
theorem Delete_row {a : Option Addr} {c i : Nat} (h : Row w 41 2 (.slice a K.length c) (K.map encC)) (hi : i < K.length) (hn : K.length ≤ 1000) :
    Calls Try.prog 28 #[.slice a K.length c, .int .i64 (i : Int), .int .i64 ((i : Int) + 1)] w fun e w' => e = .returned (.slice a (K.length - 1) c) ∧ RwO w w' (.slice a K.length c) (.slice a (K.length - 1) c) (K.take i ++ K.drop (i + 1)) := by
  rcases h.row.2 with ⟨_, h0⟩ | ⟨g, cap, cur, e, hB, hg, h3, h4, h5, h6⟩
  · rw [List.length_map] at h0; omega
  · rw [List.length_map] at h3 h6 e
    injection e with e1 e2 e3
    subst e1 e3
    refine (Delete_any (i := i) hg h4 h5 h6 (flat_ln K) (flat_one K) hi h3 hn).mono ?_
    rintro e w' ⟨rfl, r1, r2⟩
    refine ⟨rfl, ⟨enc_len _, ?_⟩, r2, Or.inl rfl⟩
    have e9 : del2 (K.map encC).flatten i = ((K.take i ++ K.drop (i + 1)).map encC).flatten := by
      unfold del2
      rw [flat_take, flat_drop, List.map_append, List.flatten_append]
    rw [e9] at r1
    rw [List.length_map, List.length_append, List.length_take, List.length_drop, show min i K.length + (K.length - (i + 1)) = K.length - 1 by omega]
    exact r1
theorem Insert_row {i vb : Nat} {p t : ByteArray} (h : Row w 41 2 v (K.map encC)) (hi : i ≤ K.length) (hn : K.length ≤ 1000) (hb : At w vb 41 #[.string p, .string t]) (hne : v.ownBlock ≠ some vb) :
    Calls Try.prog 29 #[v, .int .i64 (i : Int), .slice (some ⟨vb, 0, none⟩) 1 1] w fun e w' => ∃ v', e = .returned v' ∧ RwO w w' v v' (K.take i ++ [(p, t)] ++ K.drop i) := by
  have hr := h.row
  rw [List.length_map] at hr
  refine (Insert_any hr (flat_one K) hi hn vb p t hb.blk hne).mono ?_
  rintro e w' ⟨v', rfl, r1, r2, r3⟩
  refine ⟨v', rfl, ⟨enc_len _, ?_⟩, r2, r3⟩
  have e9 : ins2 (K.map encC).flatten i (.string p) (.string t) = ((K.take i ++ [(p, t)] ++ K.drop i).map encC).flatten := by
    unfold ins2
    rw [flat_take, flat_drop, List.map_append, List.map_append, List.flatten_append, List.flatten_append]
    rfl
  rw [e9] at r1
  rw [List.length_map, List.length_append, List.length_append, List.length_take, List.length_drop, List.length_singleton, show min i K.length + 1 + (K.length - i) = K.length + 1 by omega]
  exact r1
end
/-! ### What is committed, plain -/
def mt (o : Option Hs) (q : CL) (K : List CL) : Prop := match o with
  | some h => h.is = true ∧ q.2 = h.v
  | none => q ∈ K
def dnK (ks : List (ByteArray × Hs)) (left : Lit → Bool) (k : ByteArray) : Option Hs := cond (left (.string k.data.toList)) none ((lkK ks k.data.toList).map (·.2))
/-- How far a commit has come. -/
structure CmP (K K' : List CL) (ks : List (ByteArray × Hs)) (left : Lit → Bool) (cnt B : Nat) : Prop where
  up : Ris K'
  mem : ∀ q, q ∈ K' ↔ mt (dnK ks left q.1) q K
  le : K'.length + cnt ≤ B
def cmsK (K : List CL) (ks : List (ByteArray × Hs)) : List CL := ks.foldl (fun K p => comK K p.1 p.2) K
theorem cmsK_ris {ks : List (ByteArray × Hs)} : ∀ {K : List CL}, Ris K → Ris (cmsK K ks) := by
  induction ks with
  | nil => intro K h; exact h
  | cons p ks ih => intro K h; exact ih (comK_ris h p.1 p.2)
theorem lk_key {ks : List (ByteArray × Hs)} {k : ByteArray} {p : ByteArray × Hs} (h : lkK ks k.data.toList = some p) : p ∈ ks ∧ p.1 = k := ⟨(lkK_mem h).1, ba_eq (lkK_mem h).2⟩
theorem cmsK_mem {ks : List (ByteArray × Hs)} : ∀ {K : List CL}, Ris K → (ks.Pairwise fun a b => a.1.data.toList ≠ b.1.data.toList) → ∀ q, q ∈ cmsK K ks ↔ mt ((lkK ks q.1.data.toList).map (·.2)) q K := by
  induction ks with
  | nil => intro K h _ q; rfl
  | cons p ks ih =>
    intro K h hp q
    rw [List.pairwise_cons] at hp
    show q ∈ cmsK (comK K p.1 p.2) ks ↔ _
    rw [ih (comK_ris h p.1 p.2) hp.2 q]
    by_cases e : p.1.data.toList = q.1.data.toList
    · have h0 : lkK ks q.1.data.toList = none := lkK_none.2 fun x hx e2 => hp.1 x hx (e.trans e2.symm)
      have h1 : lkK (p :: ks) q.1.data.toList = some p := by simp only [lkK, List.find?_cons, e, beq_self_eq_true]
      rw [h0, h1]
      show q ∈ comK K p.1 p.2 ↔ _
      rw [comK_mem h, if_pos (ba_eq e).symm]
      rfl
    · have h1 : lkK (p :: ks) q.1.data.toList = lkK ks q.1.data.toList := by
        have : (p.1.data.toList == q.1.data.toList) = false := by simpa using e
        simp only [lkK, List.find?_cons, this]
      rw [h1]
      cases lkK ks q.1.data.toList with
      | some x => rfl
      | none =>
        show q ∈ comK K p.1 p.2 ↔ q ∈ K
        rw [comK_mem h, if_neg (fun e2 => e (by rw [e2]))]
section
variable {K K' : List CL} {ks : List (ByteArray × Hs)} {left : Lit → Bool} {cnt B : Nat}
theorem CmP.start (h : Ris K) (hB : K.length + cnt ≤ B) : CmP K K ks (fun l => (fK ks l).isSome) cnt B := by
  refine ⟨h, fun q => ?_, hB⟩
  have : dnK ks (fun l => (fK ks l).isSome) q.1 = none := by
    unfold dnK
    dsimp only
    rw [fK_at, Option.isSome_map]
    cases lkK ks q.1.data.toList <;> rfl
  rw [this]
  rfl
theorem CmP.step {p : ByteArray × Hs} {cnt2 : Nat} (h : CmP K K' ks left cnt B) (hp : lkK ks p.1.data.toList = some p) (hc : cnt2 < cnt) : CmP K (comK K' p.1 p.2) ks (fun z => left z && !z.sameKey (.string p.1.data.toList)) cnt2 B := by
  refine ⟨comK_ris h.up _ _, fun q => ?_, by have := comK_len K' p.1 p.2; have := h.le; omega⟩
  rw [comK_mem h.up]
  by_cases e : q.1 = p.1
  · rw [if_pos e]
    have e3 : (Lit.string p.1.data.toList).sameKey (.string p.1.data.toList) = true := WideAt.sameKey_self (kS _)
    have : dnK ks (fun z => left z && !z.sameKey (.string p.1.data.toList)) q.1 = some p.2 := by
      unfold dnK
      dsimp only
      rw [e, e3, hp]
      simp
    rw [this]
    rfl
  · rw [if_neg e]
    have e3 : (Lit.string q.1.data.toList).sameKey (.string p.1.data.toList) = false := sameKey_ne (fun e2 => e (ba_eq (by injection e2)))
    have : dnK ks (fun z => left z && !z.sameKey (.string p.1.data.toList)) q.1 = dnK ks left q.1 := by
      unfold dnK
      dsimp only
      rw [e3]
      simp
    rw [this]
    exact h.mem q
theorem CmP.done (h : CmP K K' ks left cnt B) (hl : ∀ l, left l = false) (hk : ks.Pairwise fun a b => a.1.data.toList ≠ b.1.data.toList) (hr : Ris K) : K' = cmsK K ks := by
  refine ris_uniq h.up (cmsK_ris hr) fun q => ?_
  rw [h.mem q, cmsK_mem hr hk q]
  have : dnK ks left q.1 = (lkK ks q.1.data.toList).map (·.2) := by
    unfold dnK
    rw [hl]
    simp
  rw [this]
end
/-! ### Memory within a commit -/
structure CmM (w0 wr : World) (fb bw db rb m : Nat) (v v1 : Value) (K1 : List CL) (f : Lit → Option Value) (left : Lit → Bool) (cnt : Nat) (n : Int) : Prop where
  is : At wr fb 48 #[v1, .map (some bw), .int .i64 n]
  row : Row wr 41 2 v1 (K1.map encC)
  r : Mr wr 9 db rb m f left cnt
  fr : Fr (fun j => j = fb ∨ v.ownBlock = some j) (fun j => j = fb ∨ v1.ownBlock = some j ∨ j = rb) w0 wr
section
variable {w0 wr w2 w3 w' : World} {fb bw db rb m cnt cnt2 : Nat} {v v1 v2 : Value} {K1 K2 : List CL} {f : Lit → Option Value} {left l2 : Lit → Bool} {n : Int}
theorem Mr.blkR (h : Mr wr 9 db rb m f left cnt) : ∃ x y z u, wr.heap[rb]? = some (.mapIter x y z u) := by
  obtain ⟨D, ⟨es, cl, si, se, c0, h1, h2, h3, h4, h5, h6⟩, hv⟩ := h.ex
  exact ⟨_, _, _, _, h5⟩
theorem CmM.rf (h : CmM w0 wr fb bw db rb m v v1 K1 f left cnt n) : rb ≠ fb ∧ v1.ownBlock ≠ some rb ∧ db ≠ fb ∧ v1.ownBlock ≠ some db ∧ v1.ownBlock ≠ some fb ∧ rb ≠ db := by
  obtain ⟨x, y, z, u, hb⟩ := Mr.blkR h.r
  refine ⟨fun e => ?_, fun e => ?_, h.r.mp.ne h.is, row_neMp h.row h.r.mp, h.row.ne (g := 0) h.is (by decide), h.r.ne⟩
  · rw [e, h.is.blk] at hb; cases hb
  · obtain ⟨cur, hc⟩ := h.row.blkAt e
    rw [hc] at hb; cases hb
theorem CmM.below (h : CmM w0 wr fb bw db rb m v v1 K1 f left cnt n) (hb : Below wr.heap.size wr w') : CmM w0 w' fb bw db rb m v v1 K1 f left cnt n :=
  ⟨h.is.bel hb, h.row.bel hb, h.r.bel hb, h.fr.below hb⟩
theorem CmM.next (h : CmM w0 wr fb bw db rb m v v1 K1 f left cnt n) (hr : Mr w2 9 db rb m f l2 cnt2) (ho : ∀ j, j ≠ rb → w2.heap[j]? = wr.heap[j]?) (hf : Fr (· = rb) (· = rb) wr w2) : CmM w0 w2 fb bw db rb m v v1 K1 f l2 cnt2 n := by
  obtain ⟨n1, n2, _⟩ := h.rf
  refine ⟨h.is.keep (ho fb n1.symm), h.row.keep (fun g e => ho g (fun e2 => n2 (by rw [← e2]; exact e))), hr, h.fr.trans ((hf.wide (V := fun j => j = fb ∨ v1.ownBlock = some j ∨ j = rb) (fun j hj => Or.inr (Or.inr hj))).more (fun j hj => Or.inl hj))⟩
/-- The row turned, and laid into the fold. -/
theorem CmM.kept (h : CmM w0 wr fb bw db rb m v v1 K1 f left cnt n) (o : RwO wr w2 v1 v2 K2) (e3 : w3 = w2.setCell ⟨fb, 0, none⟩ v2) : CmM w0 w3 fb bw db rb m v v2 K2 f left cnt n := by
  obtain ⟨n1, n2, n3, n4, n5, n6⟩ := h.rf
  have k : ∀ j, j < wr.heap.size → v1.ownBlock ≠ some j → w2.heap[j]? = wr.heap[j]? := fun j hj hn => o.gr.block j hj (fun e => hn e.symm)
  have hsz : wr.heap.size ≤ w2.heap.size := o.gr.size
  have off : ∀ j, j ≠ fb → w3.heap[j]? = w2.heap[j]? := fun j hj => by rw [e3]; exact Below.heap_setCell w2 _ v2 j hj
  have o2 : v2.ownBlock ≠ some fb := fun e => by
    rcases o.own with h1 | ⟨g, h1, h2⟩
    · exact n5 (h1.symm.trans e)
    · rw [h1] at e; cases e; have := h.is.lt; omega
  have f2 : At w2 fb 48 #[v1, .map (some bw), .int .i64 n] := h.is.keep (k fb h.is.lt n5)
  refine ⟨?_, o.row.keep (fun g e => off g (fun e2 => o2 (by rw [← e2]; exact e))), (h.r.keep (k db h.r.mp.lt n4) (k rb h.r.lt n2)).keep (off db n3) (off rb n1), h.fr.trans ?_⟩
  · rw [e3]
    have := f2.set 0 v2
    simpa using this
  · have h1 : Fr (fun j => j = fb ∨ v1.ownBlock = some j ∨ j = rb) (fun j => j = fb ∨ v1.ownBlock = some j ∨ j = rb) wr w2 := Fr.grown o.gr (fun g e => Or.inr (Or.inl e))
    rw [e3]
    refine (h1.set (Or.inl rfl) 0 v2).more fun j hj => ?_
    rcases hj with e | e | e
    · exact Or.inl (Or.inl e)
    · rcases o.own with h5 | ⟨g, h5, h6⟩
      · exact Or.inl (Or.inr (Or.inl (h5.symm.trans e)))
      · rw [h5] at e; cases e; exact Or.inr h6
    · exact Or.inl (Or.inr (Or.inr e))
end
end Go.Proofs.Ytkcpclmkbmeigab.Fd
