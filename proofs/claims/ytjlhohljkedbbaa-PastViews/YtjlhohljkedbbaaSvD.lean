/- View. -/
import Derived.Test.YtjlhohljkedbbaaSvF
namespace Go.Proofs.Ytjlhohljkedbbaa.Pa
open Go.RowKit Gm Go.Maps Go.Sort
open Go.Proofs.Ytjlhohljkedbbaa.So (CL encC encL encO cfC)
set_option linter.unusedVariables false
set_option linter.unusedSimpArgs false
set_option maxRecDepth 100000
structure TgF (w : World) (F : Lit → Option Value) (e : Ending) (w' : World) : Prop where
  ex : ∃ b n, e = .returned (.map (some b)) ∧ w.heap.size ≤ b ∧ Mp w' 9 b n F ∧ n ≤ 20000
  bel : Below w.heap.size w w'
def leB (a b : ByteArray) : Bool := Op.bytesLess a.toList b.toList || a.toList == b.toList
theorem run_leB (a b : ByteArray) (w : World) : (binOp .leq 9 (.string a) (.string b)).run Try.prog w = .ok (.bool (leB a b)) w := by
  simp [binOp, Op.stringOp, leB]
/-- Does a key lie in the range? -/
def inR (lo hi k : ByteArray) : Bool := leB lo k && (hi.size == 0 || leB k hi)
/-- What the range has found: of the keys that came already, what they had. -/
structure M2I (F : Lit → Option Value) (lo hi : ByteArray) (left : Lit → Bool) (M2 : List CL) : Prop where
  mem : ∀ c : CL, c ∈ M2 ↔ ∃ ws : Ws, F (.string c.1.data.toList) = some (.agg ws.A) ∧ left (.string c.1.data.toList) = false ∧ ws.is = true ∧ c.2 = ws.v ∧ inR lo hi c.1 = true
  nd : M2.Pairwise fun a b => a.1 ≠ b.1
theorem ba_ext {a b : ByteArray} (h : a.data.toList = b.data.toList) : a = b := by
  obtain ⟨⟨a⟩⟩ := a
  obtain ⟨⟨b⟩⟩ := b
  simp at h
  rw [h]
theorem wsA_inj {x y : Ws} (h : (Value.agg x.A) = .agg y.A) : x = y := by
  obtain ⟨a, b⟩ := x
  obtain ⟨c, d⟩ := y
  simp [Ws.A, Ws.c] at h
  rw [h.1, h.2]
section
variable {F : Lit → Option Value} {lo hi : ByteArray} {left : Lit → Bool} {M2 : List CL} {kb : ByteArray} {ws : Ws}
theorem M2I.start : M2I F lo hi (fun l => (F l).isSome) [] := ⟨fun c => ⟨fun h => (by cases h), fun ⟨ws, h1, h2, _⟩ => by rw [h1] at h2; cases h2⟩, List.Pairwise.nil⟩
theorem left_iff {x : List UInt8} {l : List UInt8} : (left (.string x) && !(Lit.string x).sameKey (.string l)) = false ↔ left (.string x) = false ∨ x = l := by
  by_cases h : x = l
  · subst h
    have : (Lit.string x).sameKey (.string x) = true := by simp [Lit.sameKey]
    simp [this]
  · have : (Lit.string x).sameKey (.string l) = false := by simp [Lit.sameKey, h]
    simp [this, h]
theorem M2I.add (h : M2I F lo hi left M2) (hF : F (.string kb.data.toList) = some (.agg ws.A)) (hl : left (.string kb.data.toList) = true) (h1 : ws.is = true) (h2 : inR lo hi kb = true) : M2I F lo hi (fun z => left z && !z.sameKey (.string kb.data.toList)) (M2 ++ [(kb, ws.v)]) := by
  refine ⟨fun c => ?_, ?_⟩
  · rw [List.mem_append, List.mem_singleton, h.mem]
    constructor
    · rintro (⟨x, k1, k2, k3⟩ | rfl)
      · exact ⟨x, k1, left_iff.2 (Or.inl k2), k3⟩
      · exact ⟨ws, hF, left_iff.2 (Or.inr rfl), h1, rfl, h2⟩
    · rintro ⟨x, k1, k2, k3, k4, k5⟩
      rcases left_iff.1 k2 with k2 | k2
      · exact Or.inl ⟨x, k1, k2, k3, k4, k5⟩
      · refine Or.inr ?_
        rw [k2, hF] at k1
        have := wsA_inj (Option.some.inj k1)
        subst this
        exact Prod.ext (ba_ext k2) k4
  · rw [List.pairwise_append]
    refine ⟨h.nd, List.pairwise_singleton _ _, fun a ha b hb e => ?_⟩
    rw [List.mem_singleton] at hb
    subst hb
    obtain ⟨x, _, k2, _⟩ := (h.mem a).1 ha
    rw [e, hl] at k2
    cases k2
theorem M2I.skip (h : M2I F lo hi left M2) (hF : F (.string kb.data.toList) = some (.agg ws.A)) (hno : ws.is = false ∨ inR lo hi kb = false) : M2I F lo hi (fun z => left z && !z.sameKey (.string kb.data.toList)) M2 := by
  refine ⟨fun c => ?_, h.nd⟩
  rw [h.mem]
  constructor
  · rintro ⟨x, k1, k2, k3⟩
    exact ⟨x, k1, left_iff.2 (Or.inl k2), k3⟩
  · rintro ⟨x, k1, k2, k3, k4, k5⟩
    rcases left_iff.1 k2 with k2 | k2
    · exact ⟨x, k1, k2, k3, k4, k5⟩
    · exfalso
      have ec := ba_ext k2
      rw [k2, hF] at k1
      have := wsA_inj (Option.some.inj k1)
      subst this
      rw [ec] at k5
      rcases hno with h | h
      · rw [h] at k3; cases k3
      · rw [h] at k5; cases k5
end
/-- .. in the range over the map. -/
structure V2 (w1 wr : World) (v : Value) (M : List CL) (mb rb n : Nat) (F : Lit → Option Value) (left : Lit → Bool) (cnt : Nat) : Prop where
  v1 : V1 w1 wr v M
  r : Mr wr 9 mb rb n F left cnt
  ne : ∀ g, v.ownBlock = some g → g ≠ rb ∧ g ≠ mb
  ge : w1.heap.size ≤ rb
theorem V2.next {w1 wr w2 : World} {v : Value} {M : List CL} {mb rb n cnt cnt2 : Nat} {F : Lit → Option Value} {left l2 : Lit → Bool} (h : V2 w1 wr v M mb rb n F left cnt) (hr : Mr w2 9 mb rb n F l2 cnt2) (ho : ∀ j, j ≠ rb → w2.heap[j]? = wr.heap[j]?) (hf : Fr (· = rb) (· = rb) wr w2) : V2 w1 w2 v M mb rb n F l2 cnt2 :=
  ⟨⟨h.v1.bel.trans (hf.bel (fun j hj => by rw [hj]; exact h.ge) h.v1.bel.size), h.v1.rw.keep fun g e => ho g (h.ne g e).1, h.v1.own⟩, hr, h.ne, h.ge⟩
theorem V2.below {w1 wr w2 : World} {v : Value} {M : List CL} {mb rb n cnt : Nat} {F : Lit → Option Value} {left : Lit → Bool} (h : V2 w1 wr v M mb rb n F left cnt) (hb : Below wr.heap.size wr w2) : V2 w1 w2 v M mb rb n F left cnt :=
  ⟨h.v1.more hb, h.r.bel hb, h.ne, h.ge⟩
theorem V2.push {w1 wr w2 : World} {v v2 : Value} {M : List CL} {mb rb n cnt : Nat} {F : Lit → Option Value} {left : Lit → Bool} {k x : ByteArray} (h : V2 w1 wr v M mb rb n F left cnt) (hA : App wr w2 39 2 v v2 (M.map encC ++ [(#[.string k, .string x] : Array Value).toList])) : V2 w1 w2 v2 (M ++ [(k, x)]) mb rb n F left cnt :=
  ⟨h.v1.push hA, h.r.keep (hA.grow.block _ h.r.mp.lt (fun e => (h.ne _ e.symm).2 rfl)) (hA.grow.block _ h.r.lt (fun e => (h.ne _ e.symm).1 rfl)), fun g e => hA.own.elim (fun e2 => h.ne g (e2.symm.trans e)) (fun e2 => by
    rw [e2] at e; cases e
    exact ⟨by have := h.r.lt; omega, by have := h.r.mp.lt; omega⟩), h.ge⟩
theorem oneF (D : List CL) : ∀ u ∈ (D.map encC).flatten, u.oneCell' = true := fun u hu => by
  obtain ⟨e, he, hu2⟩ := List.mem_flatten.1 hu
  obtain ⟨x, _, rfl⟩ := List.mem_map.1 he
  exact encO x u hu2
/-- What a view is, ahead of its cut. -/
structure Vs (F : Lit → Option Value) (C : List CL) (lo hi : ByteArray) (D : List CL) : Prop where
  ex : ∃ M2, M2I F lo hi (fun _ => false) M2 ∧ D.Perm (C.filter (keepC F) ++ M2) ∧ M2.length ≤ 20000
  up : D.Pairwise fun a b => ltOf cfC b a = false
structure VwO (w : World) (F : Lit → Option Value) (C : List CL) (lo hi : ByteArray) (most : Int) (e : Ending) (w' : World) : Prop where
  ex : ∃ D, Vs F C lo hi D ∧ ClE w e w' ((D.map encC).take (mostN most D.length))
theorem M2I.all {F : Lit → Option Value} {lo hi : ByteArray} {left : Lit → Bool} {M2 : List CL} (h : M2I F lo hi left M2) (hl : ∀ l, left l = false) : M2I F lo hi (fun _ => false) M2 :=
  ⟨fun c => by rw [h.mem]; exact ⟨fun ⟨x, k1, _, k3⟩ => ⟨x, k1, rfl, k3⟩, fun ⟨x, k1, _, k3⟩ => ⟨x, k1, hl _, k3⟩⟩, h.nd⟩
section
variable {W : Nat → Prop} {w : World} {pb bl bw : Nat} {F : Lit → Option Value} {v : Value} {C : List CL} {lo hi : ByteArray} {most : Int}
set_option maxHeartbeats 4000000 in
theorem View_any (hA : At w pb 51 #[.map (some bl), .map (some bw)]) (hT : Calls Try.prog 18 #[.pointer (some ⟨pb, 0, none⟩)] w fun e w' => TgF w F e w') (hF : Fv F) (hv : Rv w v C) (hn : C.length ≤ 1000) (hks : ∀ c ∈ C, c.1.size ≤ 9223372036854775807) :
    Calls Try.prog 10 #[.pointer (some ⟨pb, 0, none⟩), v, .string lo, .string hi, .int .i64 most] w fun e w' => VwO w F C lo hi most e w' := by
  have HA : Hid (At w pb 51 #[.map (some bl), .map (some bw)]) := hA
  have HT : Hid (Calls Try.prog 18 #[.pointer (some ⟨pb, 0, none⟩)] w fun e w' => TgF w F e w') := hT
  have HF : Hid (Fv F) := hF
  have HKs : Hid (∀ c ∈ C, c.1.size ≤ 9223372036854775807) := hks
  obtain ⟨m, hm⟩ : ∃ m, C.length = m := ⟨_, rfl⟩
  obtain ⟨a0, c0, rfl, _⟩ := hv.ex
  rw [hm] at hv ⊢
  have HV : Hid (Rv w (.slice a0 m c0) C) := hv
  have Hm : Hid (C.length = m) := hm
  have hm2 : m ≤ 1000 := by omega
  clear hA hT hF hks hv hm hn
  have h2 := stW
  have h3 := stC
  go_enter Try.func10, Try.ntmps10
  go_wp2_with first
    | (go_at_call 14; refine (isMade_ok HA.out).mono ?_; rintro e w ⟨rfl, rfl⟩)
    | (go_at_call 18; refine HT.out.mono ?_; rintro e w1 ⟨⟨mb, n, rfl, hmb, hMp, hn2⟩, hB1⟩)
  have HB1 : Hid (Below w.heap.size w w1) := hB1
  have HMp : Hid (Mp w1 9 mb n F) := hMp
  have R1 : Hid (Rv w1 (.slice a0 m c0) C) := HV.out.bel hB1
  clear hB1 hMp
  go_loopw [12, 29] (fun s12 s29 wr => ∃ (i : Nat) (a : Option Addr) (c : Nat) (M : List CL), s29 = .int .i64 (i : Int) ∧ s12 = .slice a M.length c ∧ i ≤ m ∧ Hid (M = (C.take i).filter (keepC F)) ∧ V1 w1 wr (.slice a M.length c) M) (fun s12 s29 _ => m - (intOf s29).toNat)
  case atStart => exact ⟨0, none, 0, [], rfl, rfl, Nat.zero_le _, rfl, Below.refl _ _, Row.nil _ _ _, fun g e => by cases e⟩
  case round =>
    obtain ⟨i, a, c, M, rfl, rfl, him, HM, hV⟩ := hrel
    rename World => wo
    have HV1 : Hid (V1 w1 wo (.slice a M.length c) M) := hV
    clear hV
    by_cases hlt : i < m
    · have hltI : (i : Int) < (m : Int) := by omega
      have hit : i < C.length := by have := Hm.out; omega
      obtain ⟨g0, o0, ea, hg0, k0, k1⟩ := (R1.out.bel HV1.out.bel).at_ hit
      subst ea
      obtain ⟨kc, vc, hkc⟩ : ∃ k x, C[i] = (k, x) := ⟨_, _, rfl⟩
      rw [hkc] at k0 k1
      have HMem : Hid ((kc, vc) ∈ C) := by
        show _ ∈ _
        rw [← hkc]; exact List.getElem_mem hit
      have HE : Hid ((C.take (i + 1)).filter (keepC F) = (C.take i).filter (keepC F) ++ (if keepC F (kc, vc) then [(kc, vc)] else [])) := by
        show _ = _
        rw [List.take_succ_eq_append_getElem hit, List.filter_append, hkc, List.filter_cons, List.filter_nil]
      have HS : Hid (keyOf Try.prog 9 (.string kc) = some (.string kc.data.toList)) := keyS (by have := HKs.out _ (List.getElem_mem hit); rw [hkc] at this; exact this)
      have HLen : Hid (M.length ≤ m) := by
        show M.length ≤ m
        rw [HM.out]
        exact Nat.le_trans (List.length_filter_le _ _) (by rw [List.length_take]; omega)
      clear hkc hit
      have LK : Hid (∀ wx, Below wo.heap.size wo wx → (Instr.lookup 52 (.map (some mb)) (.string kc) true).run Try.prog wx = .ok (.tuple #[((F (.string kc.data.toList)).getD (.agg zW.A)), .bool (F (.string kc.data.toList)).isSome]) wx) := fun wx hb => (HMp.out.bel (thn HV1.out.bel hb)).look KS uK (zKv _) HS.out
      cases hf : F (.string kc.data.toList) with
      | none =>
        rw [hf] at LK
        simp only [Option.getD_none, Option.isSome_none] at LK
        have HFk : Hid ((if keepC F (kc, vc) then [(kc, vc)] else []) = [(kc, vc)]) := by
          show _ = _
          unfold keepC
          rw [hf]
          rfl
        clear hf
        go_wp2_with first
          | (refine wpList_new_at (A := #[.string ⟨#[]⟩, .string ⟨#[]⟩]) _ zCv rfl rfl ?_; intro w5 b5 N5)
          | (refine wpList_put_at (A := #[.string ⟨#[]⟩, .string ⟨#[]⟩]) (A' := #[.string kc, .string vc]) h3 _ rfl _ _ rfl rfl rfl N5.is rfl rfl (oneA _ _) ?_; intro w6 P6; have B6 : Below wo.heap.size wo w6 := np_bel N5 P6; have c6 : w6.cell? ⟨b5, 0, none⟩ = some (.string kc) := P6.is.c 0; have hlk := LK.out w6 B6)
          | (refine wpList_new_at (A := zW.A) _ zKv rfl rfl ?_; intro w7 b7 N7)
          | (refine wpList_put_at (A := zW.A) (A' := zW.A) h2 _ rfl _ _ rfl rfl rfl N7.is rfl rfl (oneW _) ?_; intro w8 P8; have B8 : Below w6.heap.size w6 w8 := np_bel N7 P8; have At8 : Hid (At w8 b5 39 #[.string kc, .string vc]) := P6.is.bel B8; have V8 : Hid (V1 w1 w8 (.slice a M.length c) M) := HV1.out.more (thn B6 B8))
          | (refine wpList_load_at h3 (A := #[.string kc, .string vc]) _ rfl (.tmp 14) rfl rfl At8.out rfl ?_)
          | (refine wpList_push elC (A := #[.string kc, .string vc]) rfl _ _ rfl rfl (V8.out.rw.bel (bl1 _)) rfl (At.new _ _ _) rfl (oneA _ _) (by rw [List.length_map]; have := HLen.out; omega) ?_; intro a2 c2 w9 A9; rw [List.length_map] at A9 ⊢)
        have V9 := (V8.out.more (bl1 _)).push A9
        go_roundw
        case rel => exact ⟨i + 1, a2, c2, M ++ [(kc, vc)], by rfl, by rw [List.length_append]; rfl, by omega, (show _ = _ by rw [HE.out, HFk.out, ← HM.out]), by rw [List.length_append]; exact V9⟩
        case measure => simp [intOf]; omega
      | some x =>
        obtain ⟨_, ws, _, rfl⟩ := HF.out.vs _ _ hf
        rw [hf] at LK
        simp only [Option.getD_some, Option.isSome_some] at LK
        have HFk : Hid ((if keepC F (kc, vc) then [(kc, vc)] else []) = []) := by
          show _ = _
          unfold keepC
          rw [hf]
          rfl
        clear hf
        go_wp2_with first
          | (refine wpList_new_at (A := #[.string ⟨#[]⟩, .string ⟨#[]⟩]) _ zCv rfl rfl ?_; intro w5 b5 N5)
          | (refine wpList_put_at (A := #[.string ⟨#[]⟩, .string ⟨#[]⟩]) (A' := #[.string kc, .string vc]) h3 _ rfl _ _ rfl rfl rfl N5.is rfl rfl (oneA _ _) ?_; intro w6 P6; have B6 : Below wo.heap.size wo w6 := np_bel N5 P6; have c6 : w6.cell? ⟨b5, 0, none⟩ = some (.string kc) := P6.is.c 0; have hlk := LK.out w6 B6)
          | (refine wpList_new_at (A := zW.A) _ zKv rfl rfl ?_; intro w7 b7 N7)
          | (refine wpList_put_at (A := zW.A) (A' := Ws.A ws) h2 _ rfl _ _ rfl rfl rfl N7.is rfl rfl (oneW _) ?_; intro w8 P8; have B8 : Below w6.heap.size w6 w8 := np_bel N7 P8; have At8 : Hid (At w8 b5 39 #[.string kc, .string vc]) := P6.is.bel B8; have V8 : Hid (V1 w1 w8 (.slice a M.length c) M) := HV1.out.more (thn B6 B8))
        go_roundw
        case rel => exact ⟨i + 1, a, c, M, by rfl, rfl, by omega, (show _ = _ by rw [HE.out, HFk.out, List.append_nil, ← HM.out]), V8.out⟩
        case measure => simp [intOf]; omega
    · have hltI : ¬ (i : Int) < (m : Int) := by omega
      have HMC : Hid (M = C.filter (keepC F)) := by
        show M = _
        rw [HM.out, List.take_of_length_le (by have := Hm.out; omega)]
      clear hlt
      go_wp2_with (at_range; refine wpList_range_mp _ rfl _ rfl KS uK rfl (HMp.out.bel HV1.out.bel) ?_; intro w4 rb hrb0 R4 B4; have hrb : Hid (rb = wo.heap.size) := hrb0; clear hrb0)
      have HML : Hid (M.length ≤ 1000) := by
        show M.length ≤ 1000
        rw [HMC.out]; exact Nat.le_trans (List.length_filter_le _ _) (by have := Hm.out; omega)
      have G0 : Hid (V2 w1 w4 (.slice a M.length c) M mb rb n F (fun l => (F l).isSome) n) := by
        have hmp := (HMp.out.bel HV1.out.bel)
        refine ⟨HV1.out.more B4, R4, fun g e => ⟨?_, ?_⟩, ?_⟩
        · have := HV1.out.rw.lt e; have := hrb.out; omega
        · have := HV1.out.own g e; have := HMp.out.lt; omega
        · rw [hrb.out]; exact HV1.out.bel.size
      clear R4 B4 hrb
      go_loopw [12] (fun s12 wr => ∃ (a : Option Addr) (c q : Nat) (M2 : List CL) (left : Lit → Bool) (cnt : Nat), s12 = .slice a q c ∧ Hid ((M ++ M2).length = q) ∧ V2 w1 wr (.slice a q c) (M ++ M2) mb rb n F left cnt ∧ M2I F lo hi left M2 ∧ M2.length + cnt ≤ n) (fun s12 wr => wr.rangeLeft mb rb)
      case atStart => exact ⟨a, c, M.length, [], _, _, rfl, (show _ = _ by rw [List.append_nil]), by rw [List.append_nil]; exact G0.out, M2I.start, by simp⟩
      case round =>
        obtain ⟨a, c, q, M2, left, cnt, rfl, HQ, hG, hI2, hln⟩ := hrel
        have HI2 : Hid (M2I F lo hi left M2) := hI2
        clear hI2
        rename World => wo
        have HG : Hid (V2 w1 wo (.slice a q c) (M ++ M2) mb rb n F left cnt) := hG
        clear hG G0
        go_wp2_with (first
          | (at_next; refine wpList_next_mp encStr Lit.string _ rfl _ rfl KS (fun key l => invS) rfl HG.out.r ?_ ?_)
          | go_in)
        · intro hc0 hl0
          have HA2 : Hid (M2I F lo hi (fun _ => false) M2) := HI2.out.all hl0
          have hq : (M ++ M2).length ≤ 90000 := by have := HML.out; rw [List.length_append]; omega
          have HQ2 : Hid ((M ++ M2).length ≤ 90000 ∧ M2.length ≤ 20000) := ⟨hq, by omega⟩
          have SO : Hid (Calls Try.prog 19 #[.slice a q c, .func (.func 20) #[] #[]] wo fun e w' => e = .returned (.tuple #[]) ∧ ∃ D', StO wo w' (.slice a q c) (M ++ M2) D') := sort_any HG.out.v1.rw (by omega)
          clear hq hl0 hc0
          go_wp2_with first
            | (go_at_call 19; go_must (refine SO.out.mono ?_); rintro e w5 ⟨rfl, D', s5⟩; have FO : Hid (Calls Try.prog 17 #[.slice a q c, .int .i64 most] w5 fun e w' => ClE w5 e w' ((D'.map encC).take (mostN most (D'.map encC).length))) := first_any s5.row (oneF _) (by rw [List.length_map, s5.perm.length_eq]; exact HQ2.out.1) most)
            | (go_at_call 17; refine FO.out.mono ?_; rintro e w6 ⟨u, rfl, hu⟩)
          go_ret
          refine ⟨D', ⟨⟨M2, HA2.out, by rw [← HMC.out]; exact s5.perm, HQ2.out.2⟩, s5.up⟩, u, rfl, ?_⟩
          rw [List.length_map] at hu
          have b1 : Below w.heap.size w wo := HB1.out.trans (HG.out.v1.bel.mono HB1.out.size)
          have b2 : Below w.heap.size w w5 := b1.grown s5.grow b1.size (fun g e => Nat.le_trans HB1.out.size (HG.out.v1.own g e))
          exact ⟨hu.row, b2.trans (hu.bel.mono b2.size), fun g e => Nat.le_trans b2.size (hu.own g e)⟩
        · intro tx vv w5 cnt2 hk hl hv2 hr5 hlt ho hf hen
          obtain ⟨_, ws, _, rfl⟩ := HF.out.vs _ _ hv2
          obtain ⟨kb, hkb⟩ : ∃ kb : ByteArray, kb = ⟨tx.toArray⟩ := ⟨_, rfl⟩
          have ekb : encStr tx = .string kb := by subst hkb; rfl
          rw [ekb] at hen hk ⊢
          have G5 : Hid (V2 w1 w5 (.slice a q c) (M ++ M2) mb rb n F _ cnt2) := HG.out.next hr5 ho hf
          have HC : Hid (cnt2 < cnt ∧ wo.rangeLeft mb rb = cnt) := ⟨hlt, HG.out.r.left_eq⟩
          clear hr5 ho hf
          have hle1 : ∀ wx, (binOp .leq 9 (.string lo) (.string kb)).run Try.prog wx = .ok (.bool (leB lo kb)) wx := fun wx => run_leB _ _ wx
          have hle2 : ∀ wx, (binOp .leq 9 (.string kb) (.string hi)).run Try.prog wx = .ok (.bool (leB kb hi)) wx := fun wx => run_leB _ _ wx
          have ekt : tx = kb.data.toList := by rw [hkb]
          have HFk : Hid (F (.string kb.data.toList) = some (.agg ws.A)) := by rw [← ekt]; exact hv2
          have HLk : Hid (left (.string kb.data.toList) = true) := by rw [← ekt]; exact hl
          have HTX : Hid (tx = kb.data.toList) := ekt
          have hMn : (M ++ M2).length ≤ 80000 := by have := HML.out; have := hn2; rw [List.length_append]; omega
          have HMn : Hid ((M ++ M2).length ≤ 80000) := hMn
          clear hl hlt hkb ekb hv2 hMn ekt
          obtain ⟨vv, is⟩ := ws
          have SK : (is = false ∨ inR lo hi kb = false) → M2I F lo hi (fun z => left z && !z.sameKey (.string tx)) M2 := fun h => by
            rw [HTX.out]; exact HI2.out.skip HFk.out h
          have SK : Hid _ := SK
          have AD : is = true → inR lo hi kb = true → M2I F lo hi (fun z => left z && !z.sameKey (.string tx)) (M2 ++ [(kb, vv)]) := fun h h' => by
            rw [HTX.out]; exact HI2.out.add HFk.out HLk.out h h'
          have AD : Hid _ := AD
          cases is with
          | false =>
            go_wp2_with first
              | (refine wpList_new_at (A := zW.A) _ zKv rfl rfl ?_; intro w7 b7 N7)
              | (refine wpList_put_at (A := zW.A) (A' := Ws.A ⟨vv, false⟩) h2 _ rfl _ _ rfl rfl rfl N7.is rfl rfl (oneW _) ?_; intro w8 P8; have c80 : w8.cell? ⟨b7, 0, none⟩ = some (.string vv) := P8.is.c 0; have c81 : w8.cell? ⟨b7, 1, none⟩ = some (.bool false) := P8.is.c 1; have G8 := G5.out.below (np_bel N7 P8); have G8 : Hid _ := G8)
            go_roundw
            case rel => exact ⟨a, c, q, M2, _, cnt2, rfl, HQ, G8.out, SK.out (Or.inl rfl), by have := HC.out.1; omega⟩
            case measure => rw [G8.out.r.left_eq, HC.out.2]; exact HC.out.1
          | true =>
            cases hlo : leB lo kb with
            | false =>
              rw [hlo] at hle1
              have HRg : Hid (inR lo hi kb = false) := by show inR lo hi kb = false; unfold inR; rw [hlo]; rfl
              clear hlo
              go_wp2_with first
                | (refine wpList_new_at (A := zW.A) _ zKv rfl rfl ?_; intro w7 b7 N7)
                | (refine wpList_put_at (A := zW.A) (A' := Ws.A ⟨vv, true⟩) h2 _ rfl _ _ rfl rfl rfl N7.is rfl rfl (oneW _) ?_; intro w8 P8; have c80 : w8.cell? ⟨b7, 0, none⟩ = some (.string vv) := P8.is.c 0; have c81 : w8.cell? ⟨b7, 1, none⟩ = some (.bool true) := P8.is.c 1; have G8 := G5.out.below (np_bel N7 P8); have G8 : Hid _ := G8)
              go_roundw
              case rel => exact ⟨a, c, q, M2, _, cnt2, rfl, HQ, G8.out, SK.out (Or.inr HRg.out), by have := HC.out.1; omega⟩
              case measure => rw [G8.out.r.left_eq, HC.out.2]; exact HC.out.1
            | true =>
              rw [hlo] at hle1
              by_cases hem : hi = ⟨#[]⟩
              · subst hem
                have HRg : Hid (inR lo ⟨#[]⟩ kb = true) := by show inR lo ⟨#[]⟩ kb = true; unfold inR; rw [hlo]; rfl
                clear hlo
                go_wp2_with first
                  | (refine wpList_new_at (A := zW.A) _ zKv rfl rfl ?_; intro w7 b7 N7)
                  | (refine wpList_put_at (A := zW.A) (A' := Ws.A ⟨vv, true⟩) h2 _ rfl _ _ rfl rfl rfl N7.is rfl rfl (oneW _) ?_; intro w8 P8; have c80 : w8.cell? ⟨b7, 0, none⟩ = some (.string vv) := P8.is.c 0; have c81 : w8.cell? ⟨b7, 1, none⟩ = some (.bool true) := P8.is.c 1; have G8 := G5.out.below (np_bel N7 P8); have G8 : Hid _ := G8)
                  | (refine wpList_push elC (A := #[.string kb, .string vv]) rfl _ _ rfl rfl (G8.out.v1.rw.bel (bl1 _)) rfl (At.new _ _ _) rfl (oneA _ _) (by rw [List.length_map]; have := HMn.out; omega) ?_; intro a2 c2 w9 A9; rw [List.length_map, HQ.out] at A9 ⊢)
                have V9 := (G8.out.below (bl1 _)).push A9
                have V9 : Hid _ := V9
                go_roundw
                case rel => exact ⟨a2, c2, q + 1, M2 ++ [(kb, vv)], _, cnt2, rfl, (show _ = _ by rw [← List.append_assoc, List.length_append, HQ.out]; rfl), by rw [← List.append_assoc]; exact V9.out, AD.out rfl HRg.out, by have := HC.out.1; rw [List.length_append, List.length_singleton]; omega⟩
                case measure => rw [V9.out.r.left_eq, HC.out.2]; exact HC.out.1
              · have hemb : (hi.size == 0) = false := by
                  rw [beq_eq_false_iff_ne]
                  intro h0
                  apply hem
                  obtain ⟨⟨l⟩⟩ := hi
                  have : l = [] := List.eq_nil_of_length_eq_zero h0
                  rw [this]
                have hem4 : ¬ hi.toList = [] := fun h0 => hem (by
                  rw [Lib.toList_data] at h0
                  exact ba_ext h0)
                have hem3 : (hi.toList == []) = false := beq_eq_false_iff_ne.2 hem4
                have hem5 : (hi.toList == (⟨#[]⟩ : ByteArray).toList) = false := by
                  rw [show (⟨#[]⟩ : ByteArray).toList = [] from by rw [Lib.toList_data]]
                  exact hem3
                cases hhi : leB kb hi with
                | false =>
                  rw [hhi] at hle2
                  have HRg : Hid (inR lo hi kb = false) := by show inR lo hi kb = false; unfold inR; rw [hlo, hemb, hhi]; rfl
                  clear hlo hhi
                  go_wp2_with first
                    | (refine wpList_new_at (A := zW.A) _ zKv rfl rfl ?_; intro w7 b7 N7)
                    | (refine wpList_put_at (A := zW.A) (A' := Ws.A ⟨vv, true⟩) h2 _ rfl _ _ rfl rfl rfl N7.is rfl rfl (oneW _) ?_; intro w8 P8; have c80 : w8.cell? ⟨b7, 0, none⟩ = some (.string vv) := P8.is.c 0; have c81 : w8.cell? ⟨b7, 1, none⟩ = some (.bool true) := P8.is.c 1; have G8 := G5.out.below (np_bel N7 P8); have G8 : Hid _ := G8)
                  go_roundw
                  case rel => exact ⟨a, c, q, M2, _, cnt2, rfl, HQ, G8.out, SK.out (Or.inr HRg.out), by have := HC.out.1; omega⟩
                  case measure => rw [G8.out.r.left_eq, HC.out.2]; exact HC.out.1
                | true =>
                  rw [hhi] at hle2
                  have HRg : Hid (inR lo hi kb = true) := by show inR lo hi kb = true; unfold inR; rw [hlo, hemb, hhi]; rfl
                  clear hlo hhi
                  go_wp2_with first
                    | (refine wpList_new_at (A := zW.A) _ zKv rfl rfl ?_; intro w7 b7 N7)
                    | (refine wpList_put_at (A := zW.A) (A' := Ws.A ⟨vv, true⟩) h2 _ rfl _ _ rfl rfl rfl N7.is rfl rfl (oneW _) ?_; intro w8 P8; have c80 : w8.cell? ⟨b7, 0, none⟩ = some (.string vv) := P8.is.c 0; have c81 : w8.cell? ⟨b7, 1, none⟩ = some (.bool true) := P8.is.c 1; have G8 := G5.out.below (np_bel N7 P8); have G8 : Hid _ := G8)
                    | (refine wpList_push elC (A := #[.string kb, .string vv]) rfl _ _ rfl rfl (G8.out.v1.rw.bel (bl1 _)) rfl (At.new _ _ _) rfl (oneA _ _) (by rw [List.length_map]; have := HMn.out; omega) ?_; intro a2 c2 w9 A9; rw [List.length_map, HQ.out] at A9 ⊢)
                  have V9 := (G8.out.below (bl1 _)).push A9
                  have V9 : Hid _ := V9
                  go_roundw
                  case rel => exact ⟨a2, c2, q + 1, M2 ++ [(kb, vv)], _, cnt2, rfl, (show _ = _ by rw [← List.append_assoc, List.length_append, HQ.out]; rfl), by rw [← List.append_assoc]; exact V9.out, AD.out rfl HRg.out, by have := HC.out.1; rw [List.length_append, List.length_singleton]; omega⟩
                  case measure => rw [V9.out.r.left_eq, HC.out.2]; exact HC.out.1
end
end Go.Proofs.Ytjlhohljkedbbaa.Pa
