/- The developers' fold: commit. -/
import Derived.Test.YtkcpclmkbmeigabFdD
namespace Go.Proofs.Ytkcpclmkbmeigab.Fd
open Go.RowKit Gm Go.Maps
set_option linter.unusedVariables false
set_option linter.unusedSimpArgs false
set_option maxRecDepth 100000
theorem bC1 (p t : ByteArray) (w : World) : (Instr.buildSlice 35 1 #[(0, .agg #[.string p, .string t])]).run Try.prog w = .ok (.slice (some ⟨w.heap.size, 0, none⟩) 1 1) (w.alloc (.cells #[.string p, .string t] 41)) := by kernel_rfl
theorem i1C : (Try.prog.info? 35).map (·.size) = some 1 := by kernel_rfl
theorem i1I : (Try.prog.info? 3).map (·.size) = some 1 := by kernel_rfl
theorem fK_inv {ks : List (ByteArray × Hs)} {x : List UInt8} {v : Value} (h : fK ks (.string x) = some v) : ∃ p, lkK ks p.1.data.toList = some p ∧ x = p.1.data.toList ∧ v = .agg p.2.A := by
  rw [fK_at] at h
  cases hk : lkK ks x with
  | none => rw [hk] at h; cases h
  | some p =>
    rw [hk] at h; cases h
    have := (lkK_mem hk).2
    subst this
    exact ⟨p, hk, rfl, rfl⟩
theorem encS (k : ByteArray) : encStr k.data.toList = .string k := by
  unfold encStr
  congr 1
theorem putK_no {K : List CL} {c : CL} (h : isK K c.1 = false) : K.take (plc K c.1) ++ [c] ++ K.drop (plc K c.1) = putK K c := by
  unfold putK
  rw [h]
  simp
theorem putK_yes {K : List CL} {c : CL} (h : isK K c.1 = true) : (K.take (plc K c.1) ++ K.drop (plc K c.1 + 1)).take (plc K c.1) ++ [c] ++ (K.take (plc K c.1) ++ K.drop (plc K c.1 + 1)).drop (plc K c.1) = putK K c := by
  have hl : (K.take (plc K c.1)).length = plc K c.1 := by rw [List.length_take]; have := plc_le K c.1; omega
  unfold putK
  rw [h, if_pos rfl, List.take_left' hl, List.drop_left' hl]
section
variable {W W' : Nat → Prop} {w w' : World} {fb bw : Nat} {v : Value} {K : List CL} {L : List Dv} {G : List Gt} {n t : Int}
/-- What a commit leaves. -/
structure CoO (w w' : World) (fb bw : Nat) (v : Value) (K : List CL) (n : Int) : Prop where
  ex : ∃ v', At w' fb 48 #[v', .map (some bw), .int .i64 n] ∧ Row w' 41 2 v' (K.map encC) ∧ Fr (fun j => j = fb ∨ v.ownBlock = some j) (fun j => j = fb ∨ v'.ownBlock = some j) w w'
set_option maxHeartbeats 2000000 in
theorem commit_on {d : Dv} (h : FoI W w fb v bw K L n) (hlt : ∀ j, W j → j < w.heap.size) (hw : wfT t) (hd : lkD L t = some d) (hn : K.length + d.g.ks.length ≤ 1000) (hc : 0 ≤ n ∧ n < 1000000) :
    Calls Try.prog 18 #[.pointer (some ⟨fb, 0, none⟩), .int .i64 t] w fun e w' => e = .returned (.tuple #[]) ∧ CoO w w' fb bw v (cmsK K d.g.ks) (n + 1) := by
  have H : Hid (FoI W w fb v bw K L n) := h
  have HL : Hid (∀ j, W j → j < w.heap.size) := hlt
  have HK : Hid (keyOf Try.prog 3 (.int .i64 t) = some (.int .i64 t)) := keyI hw
  have HD : Hid (lkD L t = some d) := hd
  have HDm : Hid (d ∈ L) := (lkD_mem hd).1
  have HN : Hid (K.length + d.g.ks.length ≤ 1000) := hn
  have d1 : w.cell? ⟨fb, 1, none⟩ = some (.map (some bw)) := h.is.c 1
  have d2 : w.cell? ⟨fb, 2, none⟩ = some (.int .i64 n) := h.is.c 2
  have hwn : IntKind.i64.wrap (n + 1) = n + 1 := by rw [IntKind.wrap_i64]; omega
  have h2 := stH
  have f2 : w.frozen? ⟨fb, 2, none⟩ = false := h.is.f 2
  obtain ⟨w1, hw1⟩ : ∃ w1, w1 = w.setCell ⟨fb, 2, none⟩ (.int .i64 (n + 1)) := ⟨_, rfl⟩
  have I1 : Hid (At w1 fb 48 #[v, .map (some bw), .int .i64 (n + 1)]) := (by rw [hw1]; have := H.out.is.set 2 (.int .i64 (n + 1)); simp at this; exact this)
  have O1 : Hid (∀ j, j ≠ fb → w1.heap[j]? = w.heap[j]?) := (fun j hj => by rw [hw1]; exact Below.heap_setCell w _ _ j hj)
  have F1 : Hid (Fr (fun j => j = fb ∨ v.ownBlock = some j) (fun j => j = fb ∨ v.ownBlock = some j) w w1) := (by rw [hw1]; exact (Fr.refl _ w).set (Or.inl rfl) 2 _)
  have hl6 : (Instr.lookup 46 (.map (some bw)) (.int .i64 t) false).run Try.prog w1 = .ok (.map (some d.b)) w1 := (by have := (H.out.wa.keep (w' := w1) (O1.out bw (H.out.wa.ne H.out.is))).look1 KI uW (zWv _) HK.out; rw [fW_at, HD.out] at this; exact this)
  have M1 : Hid (Mp w1 9 d.b d.g.ks.length (fK d.g.ks)) := (H.out.ks d HDm.out).keep (O1.out d.b ((H.out.ks d HDm.out).ne H.out.is))
  clear h hlt hw hd hn
  go_enter Try.func18, Try.ntmps18
  go_wp2_with fail
  rw [← hw1]
  rw [hl6]
  simp only [Result.andThen]
  rw [Oper.upon_value]
  go_wp2_with (at_range; refine wpList_range_mp _ rfl _ rfl KS uK rfl M1.out ?_; intro w4 rb hr R4 B4)
  have M4 : Hid (CmM w w4 fb bw d.b rb d.g.ks.length v v K (fK d.g.ks) (fun l => (fK d.g.ks l).isSome) d.g.ks.length (n + 1)) := (by
    have hrow := (H.out.row.keep (w' := w1) (fun g e => O1.out g (fun e2 => H.out.row.ne (g := g) H.out.is (by decide) (by rw [← e2]; exact e))))
    refine ⟨I1.out.bel B4, hrow.bel B4, R4, (F1.out.below B4).more (fun j hj => ?_)⟩
    rcases hj with e | e | e
    · exact Or.inl (Or.inl e)
    · exact Or.inl (Or.inr e)
    · exact Or.inr (by rw [e, hr]; exact F1.out.size))
  have P4 : Hid (CmP K K d.g.ks (fun l => (fK d.g.ks l).isSome) d.g.ks.length (K.length + d.g.ks.length)) := CmP.start H.out.up (Nat.le_refl _)
  clear R4 B4 hr hl6 d1 d2 f2 I1 O1 F1 M1 hwn hw1
  go_frame
  go_loopw [6, 7] (fun _ _ wr => ∃ (left : Lit → Bool) (cnt : Nat) (v1 : Value) (K1 : List CL), CmM w wr fb bw d.b rb d.g.ks.length v v1 K1 (fK d.g.ks) left cnt (n + 1) ∧ CmP K K1 d.g.ks left cnt (K.length + d.g.ks.length)) (fun _ _ wr => wr.rangeLeft d.b rb)
  case atStart => exact ⟨_, _, _, _, M4.out, P4.out⟩
  case round =>
    obtain ⟨left, cnt, v1, K1, hM, hP⟩ := hrel
    rename World => wo
    have HM : Hid (CmM w wo fb bw d.b rb d.g.ks.length v v1 K1 (fK d.g.ks) left cnt (n + 1)) := hM
    have HP : Hid (CmP K K1 d.g.ks left cnt (K.length + d.g.ks.length)) := hP
    clear hM hP M4 P4
    go_wp2_with (first
      | (at_next; refine wpList_next_mp encStr Lit.string _ rfl _ rfl KS (fun key l => invS) rfl HM.out.r ?_ ?_)
      | go_in)
    · intro hc0 hl0
      go_wp2
      go_end0
      have e9 := HP.out.done hl0 (H.out.kn d HDm.out) H.out.up
      have n2 := HM.out.rf.1
      refine ⟨rfl, v1, HM.out.is, by rw [← e9]; exact HM.out.row, HM.out.fr.more fun j hj => ?_⟩
      rcases hj with e | e
      · exact Or.inl (Or.inl e)
      · rcases HM.out.fr.sub j (Or.inr (Or.inl e)) with h1 | h1
        · exact Or.inl h1
        · exact Or.inr h1
    · intro x vx w5 cnt2 hk hl hv hr5 hlt ho hf hen
      obtain ⟨p, hp, rfl, rfl⟩ := fK_inv hv
      obtain ⟨kb, xv, xi⟩ := p
      dsimp only at hp hk hl hv hr5 hlt hen ⊢
      rw [encS] at hen ⊢
      obtain ⟨a, c, ea, _⟩ := HM.out.row.sl
      rw [List.length_map] at ea
      subst ea
      have M5 : Hid (CmM w w5 fb bw d.b rb d.g.ks.length v (.slice a K1.length c) K1 (fK d.g.ks) (fun z => left z && !z.sameKey (.string kb.data.toList)) cnt2 (n + 1)) := HM.out.next hr5 ho hf
      have P5 : Hid (CmP K (comK K1 kb ⟨xv, xi⟩) d.g.ks (fun z => left z && !z.sameKey (.string kb.data.toList)) cnt2 (K.length + d.g.ks.length)) := HP.out.step (p := (kb, ⟨xv, xi⟩)) hp hlt
      have HC : Hid (cnt2 < cnt ∧ wo.rangeLeft d.b rb = cnt) := ⟨hlt, HM.out.r.left_eq⟩
      have HU : Hid (Ris K1 ∧ K1.length ≤ 1000) := ⟨HP.out.up, by have := HP.out.le; have := HN.out; omega⟩
      clear hr5 ho hf hv hl hlt hk hp
      cases hB : isK K1 kb with
      | true =>
        cases xi with
        | true =>
          have HE : Hid (comK K1 kb ⟨xv, true⟩ = ((K1.take (plc K1 kb) ++ K1.drop (plc K1 kb + 1)).take (plc K1 kb) ++ [(kb, xv)] ++ (K1.take (plc K1 kb) ++ K1.drop (plc K1 kb + 1)).drop (plc K1 kb))) := (by unfold comK; rw [if_pos rfl] : comK K1 kb ⟨xv, true⟩ = putK K1 (kb, xv)).trans (putK_yes (c := (kb, xv)) hB).symm
          have CF : Hid (∀ wx, CmM w wx fb bw d.b rb d.g.ks.length v (.slice a K1.length c) K1 (fK d.g.ks) (fun z => left z && !z.sameKey (.string kb.data.toList)) cnt2 (n + 1) → Calls Try.prog 20 #[.pointer (some ⟨fb, 0, none⟩), .string kb] wx fun e w' => e = .returned (.tuple #[.int .i64 (plc K1 kb : Nat), .bool true]) ∧ Below wx.heap.size wx w') := fun wx hx => by have := find_any HU.out.1 HU.out.2 hx.is hx.row kb; rw [hB] at this; exact this
          have HPl : Hid (plc K1 kb ≤ K1.length) := plc_le K1 kb
          have HPt : Hid (plc K1 kb < K1.length) := (isK_at hB).1
          have CD : Hid (∀ wx, Row wx 41 2 (.slice a K1.length c) (K1.map encC) → Calls Try.prog 28 #[.slice a K1.length c, .int .i64 (plc K1 kb : Int), .int .i64 ((plc K1 kb : Int) + 1)] wx fun e w' => e = .returned (.slice a (K1.length - 1) c) ∧ RwO wx w' (.slice a K1.length c) (.slice a (K1.length - 1) c) (K1.take (plc K1 kb) ++ K1.drop (plc K1 kb + 1))) := fun wx hx => Delete_row hx HPt.out HU.out.2
          have HLd : Hid ((K1.take (plc K1 kb) ++ K1.drop (plc K1 kb + 1)).length = K1.length - 1) := (by rw [List.length_append, List.length_take, List.length_drop]; have := HPt.out; omega : (K1.take (plc K1 kb) ++ K1.drop (plc K1 kb + 1)).length = K1.length - 1)
          have hwp : IntKind.i64.wrap ((plc K1 kb : Int) + 1) = (plc K1 kb : Int) + 1 := by rw [IntKind.wrap_i64]; have := HPt.out; have := HU.out.2; omega
          obtain ⟨Kd, hKd⟩ : ∃ Kd, Kd = K1.take (plc K1 kb) ++ K1.drop (plc K1 kb + 1) := ⟨_, rfl⟩
          rw [← hKd] at CD HLd HE
          have CI : Hid (∀ wx vb, Row wx 41 2 (.slice a (K1.length - 1) c) (Kd.map encC) → At wx vb 41 #[.string kb, .string xv] → (Value.ownBlock (.slice a (K1.length - 1) c)) ≠ some vb → Calls Try.prog 29 #[.slice a (K1.length - 1) c, .int .i64 (plc K1 kb : Int), .slice (some ⟨vb, 0, none⟩) 1 1] wx fun e w' => ∃ v', e = .returned v' ∧ RwO wx w' (.slice a (K1.length - 1) c) v' (Kd.take (plc K1 kb) ++ [(kb, xv)] ++ Kd.drop (plc K1 kb))) := fun wx vb hx hb hne => Insert_row hx (by rw [HLd.out]; have := HPt.out; omega) (by rw [HLd.out]; have := HU.out.2; omega) hb hne
          obtain ⟨Kn, hKn⟩ : ∃ Kn, Kn = Kd.take (plc K1 kb) ++ [(kb, xv)] ++ Kd.drop (plc K1 kb) := ⟨_, rfl⟩
          rw [← hKn] at CI HE
          clear hB hKd hKn
          generalize plc K1 kb = pl at *
          go_wp2_with first
            | (refine wpList_new_at (A := zH.A) _ zKv rfl rfl ?_; intro w6 b6 N6)
            | (refine wpList_put_at (A := zH.A) (A' := Hs.A ⟨xv, true⟩) h2 _ rfl _ _ rfl rfl rfl N6.is rfl rfl (oneH _) ?_; intro w7 P7; have M7 : Hid (CmM w w7 fb bw d.b rb d.g.ks.length v (.slice a K1.length c) K1 (fK d.g.ks) (fun z => left z && !z.sameKey (.string kb.data.toList)) cnt2 (n + 1)) := M5.out.below (np_bel N6 P7))
            | (go_at_call 20; refine (CF.out _ M7.out).mono ?_; rintro e w8 ⟨rfl, b2⟩; have M8 : Hid (CmM w w8 fb bw d.b rb d.g.ks.length v (.slice a K1.length c) K1 (fK d.g.ks) (fun z => left z && !z.sameKey (.string kb.data.toList)) cnt2 (n + 1)) := M7.out.below b2; have A8 : Hid (At w8 b6 60 (Hs.A ⟨xv, true⟩)) := P7.is.bel b2; have k8 : w8.cell? ⟨fb, 0, none⟩ = some (.slice a K1.length c) := M8.out.is.c 0; have f8 : w8.frozen? ⟨fb, 0, none⟩ = false := M8.out.is.f 0; have x0 : w8.cell? ⟨b6, 0, none⟩ = some (.string xv) := A8.out.c 0; have x1 : w8.cell? ⟨b6, 1, none⟩ = some (.bool true) := A8.out.c 1)
            | (go_at_call 28; refine (CD.out _ M8.out.row).mono ?_; rintro e w9 ⟨rfl, o9⟩; have M10 : Hid (CmM w (w9.setCell ⟨fb, 0, none⟩ (.slice a (K1.length - 1) c)) fb bw d.b rb d.g.ks.length v (.slice a (K1.length - 1) c) Kd (fK d.g.ks) (fun z => left z && !z.sameKey (.string kb.data.toList)) cnt2 (n + 1)) := M8.out.kept o9 rfl; have I9 := M8.out.is.keep (w' := w9) (o9.gr.block fb M8.out.is.lt (fun e => M8.out.rf.2.2.2.2.1 e.symm)); have A9 := A8.out.keep (w' := w9) (o9.gr.block b6 A8.out.lt (fun e => M8.out.row.ne (g := b6) A8.out (by decide) e.symm)); have k9 : w9.cell? ⟨fb, 0, none⟩ = some (.slice a K1.length c) := I9.c 0; have f9 : w9.frozen? ⟨fb, 0, none⟩ = false := I9.f 0; have A10 : Hid (At (w9.setCell ⟨fb, 0, none⟩ (.slice a (K1.length - 1) c)) b6 60 (Hs.A ⟨xv, true⟩)) := A9.keep (Below.heap_setCell w9 _ _ b6 (fun e => absurd (I9.tag (e ▸ A9.blk)) (by decide))); have y0 : (w9.setCell ⟨fb, 0, none⟩ (.slice a (K1.length - 1) c)).cell? ⟨b6, 0, none⟩ = some (.string xv) := A10.out.c 0; have y1 : (w9.setCell ⟨fb, 0, none⟩ (.slice a (K1.length - 1) c)).cell? ⟨b6, 1, none⟩ = some (.bool true) := A10.out.c 1; have k10 : (w9.setCell ⟨fb, 0, none⟩ (.slice a (K1.length - 1) c)).cell? ⟨fb, 0, none⟩ = some (.slice a (K1.length - 1) c) := M10.out.is.c 0; have f10 : (w9.setCell ⟨fb, 0, none⟩ (.slice a (K1.length - 1) c)).frozen? ⟨fb, 0, none⟩ = false := M10.out.is.f 0; clear k8 f8 x0 x1 I9 o9 A9)
          have MB0 := M10
          generalize (w9.setCell ⟨fb, 0, none⟩ (.slice a (K1.length - 1) c)) = wB at *
          have MB : Hid (CmM w wB fb bw d.b rb d.g.ks.length v (.slice a (K1.length - 1) c) Kd (fK d.g.ks) (fun z => left z && !z.sameKey (.string kb.data.toList)) cnt2 (n + 1)) := MB0
          have AB : Hid (At wB b6 60 (Hs.A ⟨xv, true⟩)) := A10
          have BD : Hid (Below wB.heap.size wB (wB.alloc (.cells #[.string kb, .string xv] 41)).drew) := bdr (bl1 _) 1
          have kD : wB.drew.cell? ⟨fb, 0, none⟩ = some (.slice a (K1.length - 1) c) := MB.out.is.c 0
          have xD : wB.drew.cell? ⟨b6, 0, none⟩ = some (.string xv) := AB.out.c 0
          have kA : (wB.alloc (.cells #[.string kb, .string xv] 41)).drew.cell? ⟨fb, 0, none⟩ = some (.slice a (K1.length - 1) c) := (MB.out.is.bel BD.out).c 0
          have xA : (wB.alloc (.cells #[.string kb, .string xv] 41)).drew.cell? ⟨b6, 0, none⟩ = some (.string xv) := (AB.out.bel BD.out).c 0
          clear MB0 M7 A8 M8 A10 M10 k9 f9 y0 y1 k10 f10
          have CI2 := CI.out _ wB.heap.size (MB.out.row.bel BD.out) ((At.new wB #[.string kb, .string xv] 41).keep rfl) (fun e => by have := MB.out.row.lt e; omega)
          go_region_with (go_at_call 29; refine CI2.mono ?_; rintro e w12 ⟨v2, rfl, o12⟩; have M11 : Hid (CmM w (wB.alloc (.cells #[.string kb, .string xv] 41)).drew fb bw d.b rb d.g.ks.length v (.slice a (K1.length - 1) c) Kd (fK d.g.ks) (fun z => left z && !z.sameKey (.string kb.data.toList)) cnt2 (n + 1)) := MB.out.below BD.out; have I12 := M11.out.is.keep (w' := w12) (o12.gr.block fb M11.out.is.lt (fun e => M11.out.rf.2.2.2.2.1 e.symm)); have k12 : w12.cell? ⟨fb, 0, none⟩ = some (.slice a (K1.length - 1) c) := I12.c 0; have f12 : w12.frozen? ⟨fb, 0, none⟩ = false := I12.f 0; obtain ⟨a2, c2, e2, _⟩ := o12.row.sl; rw [List.length_map] at e2; subst e2; have M13 : Hid (CmM w (w12.setCell ⟨fb, 0, none⟩ (.slice a2 Kn.length c2)) fb bw d.b rb d.g.ks.length v (.slice a2 Kn.length c2) Kn (fK d.g.ks) (fun z => left z && !z.sameKey (.string kb.data.toList)) cnt2 (n + 1)) := M11.out.kept o12 rfl)
          all_goals
            go_wp2
            go_roundw
            case rel => exact ⟨_, cnt2, _, Kn, M13.out, by rw [← HE.out]; exact P5.out⟩
            case measure => rw [M13.out.r.left_eq, HC.out.2]; exact HC.out.1
        | false =>
          have HE : Hid (comK K1 kb ⟨xv, false⟩ = (K1.take (plc K1 kb) ++ K1.drop (plc K1 kb + 1))) := (by unfold comK delK; rw [if_neg (by simp), if_pos hB] : comK K1 kb ⟨xv, false⟩ = K1.take (plc K1 kb) ++ K1.drop (plc K1 kb + 1))
          have CF : Hid (∀ wx, CmM w wx fb bw d.b rb d.g.ks.length v (.slice a K1.length c) K1 (fK d.g.ks) (fun z => left z && !z.sameKey (.string kb.data.toList)) cnt2 (n + 1) → Calls Try.prog 20 #[.pointer (some ⟨fb, 0, none⟩), .string kb] wx fun e w' => e = .returned (.tuple #[.int .i64 (plc K1 kb : Nat), .bool true]) ∧ Below wx.heap.size wx w') := fun wx hx => by have := find_any HU.out.1 HU.out.2 hx.is hx.row kb; rw [hB] at this; exact this
          have HPl : Hid (plc K1 kb ≤ K1.length) := plc_le K1 kb
          have HPt : Hid (plc K1 kb < K1.length) := (isK_at hB).1
          have CD : Hid (∀ wx, Row wx 41 2 (.slice a K1.length c) (K1.map encC) → Calls Try.prog 28 #[.slice a K1.length c, .int .i64 (plc K1 kb : Int), .int .i64 ((plc K1 kb : Int) + 1)] wx fun e w' => e = .returned (.slice a (K1.length - 1) c) ∧ RwO wx w' (.slice a K1.length c) (.slice a (K1.length - 1) c) (K1.take (plc K1 kb) ++ K1.drop (plc K1 kb + 1))) := fun wx hx => Delete_row hx HPt.out HU.out.2
          have HLd : Hid ((K1.take (plc K1 kb) ++ K1.drop (plc K1 kb + 1)).length = K1.length - 1) := (by rw [List.length_append, List.length_take, List.length_drop]; have := HPt.out; omega : (K1.take (plc K1 kb) ++ K1.drop (plc K1 kb + 1)).length = K1.length - 1)
          have hwp : IntKind.i64.wrap ((plc K1 kb : Int) + 1) = (plc K1 kb : Int) + 1 := by rw [IntKind.wrap_i64]; have := HPt.out; have := HU.out.2; omega
          obtain ⟨Kd, hKd⟩ : ∃ Kd, Kd = K1.take (plc K1 kb) ++ K1.drop (plc K1 kb + 1) := ⟨_, rfl⟩
          rw [← hKd] at CD HLd HE
          clear hB hKd
          generalize plc K1 kb = pl at *
          go_wp2_with first
            | (refine wpList_new_at (A := zH.A) _ zKv rfl rfl ?_; intro w6 b6 N6)
            | (refine wpList_put_at (A := zH.A) (A' := Hs.A ⟨xv, false⟩) h2 _ rfl _ _ rfl rfl rfl N6.is rfl rfl (oneH _) ?_; intro w7 P7; have M7 : Hid (CmM w w7 fb bw d.b rb d.g.ks.length v (.slice a K1.length c) K1 (fK d.g.ks) (fun z => left z && !z.sameKey (.string kb.data.toList)) cnt2 (n + 1)) := M5.out.below (np_bel N6 P7))
            | (go_at_call 20; refine (CF.out _ M7.out).mono ?_; rintro e w8 ⟨rfl, b2⟩; have M8 : Hid (CmM w w8 fb bw d.b rb d.g.ks.length v (.slice a K1.length c) K1 (fK d.g.ks) (fun z => left z && !z.sameKey (.string kb.data.toList)) cnt2 (n + 1)) := M7.out.below b2; have A8 : Hid (At w8 b6 60 (Hs.A ⟨xv, false⟩)) := P7.is.bel b2; have k8 : w8.cell? ⟨fb, 0, none⟩ = some (.slice a K1.length c) := M8.out.is.c 0; have f8 : w8.frozen? ⟨fb, 0, none⟩ = false := M8.out.is.f 0; have x0 : w8.cell? ⟨b6, 0, none⟩ = some (.string xv) := A8.out.c 0; have x1 : w8.cell? ⟨b6, 1, none⟩ = some (.bool false) := A8.out.c 1)
            | (go_at_call 28; refine (CD.out _ M8.out.row).mono ?_; rintro e w9 ⟨rfl, o9⟩; have M10 : Hid (CmM w (w9.setCell ⟨fb, 0, none⟩ (.slice a (K1.length - 1) c)) fb bw d.b rb d.g.ks.length v (.slice a (K1.length - 1) c) Kd (fK d.g.ks) (fun z => left z && !z.sameKey (.string kb.data.toList)) cnt2 (n + 1)) := M8.out.kept o9 rfl; have I9 := M8.out.is.keep (w' := w9) (o9.gr.block fb M8.out.is.lt (fun e => M8.out.rf.2.2.2.2.1 e.symm)); have A9 := A8.out.keep (w' := w9) (o9.gr.block b6 A8.out.lt (fun e => M8.out.row.ne (g := b6) A8.out (by decide) e.symm)); have k9 : w9.cell? ⟨fb, 0, none⟩ = some (.slice a K1.length c) := I9.c 0; have f9 : w9.frozen? ⟨fb, 0, none⟩ = false := I9.f 0; have A10 : Hid (At (w9.setCell ⟨fb, 0, none⟩ (.slice a (K1.length - 1) c)) b6 60 (Hs.A ⟨xv, false⟩)) := A9.keep (Below.heap_setCell w9 _ _ b6 (fun e => absurd (I9.tag (e ▸ A9.blk)) (by decide))); have y0 : (w9.setCell ⟨fb, 0, none⟩ (.slice a (K1.length - 1) c)).cell? ⟨b6, 0, none⟩ = some (.string xv) := A10.out.c 0; have y1 : (w9.setCell ⟨fb, 0, none⟩ (.slice a (K1.length - 1) c)).cell? ⟨b6, 1, none⟩ = some (.bool false) := A10.out.c 1; have k10 : (w9.setCell ⟨fb, 0, none⟩ (.slice a (K1.length - 1) c)).cell? ⟨fb, 0, none⟩ = some (.slice a (K1.length - 1) c) := M10.out.is.c 0; have f10 : (w9.setCell ⟨fb, 0, none⟩ (.slice a (K1.length - 1) c)).frozen? ⟨fb, 0, none⟩ = false := M10.out.is.f 0; clear k8 f8 x0 x1 I9 o9 A9)
          go_roundw
          case rel => exact ⟨_, cnt2, _, Kd, M10.out, by rw [← HE.out]; exact P5.out⟩
          case measure => rw [M10.out.r.left_eq, HC.out.2]; exact HC.out.1
      | false =>
        cases xi with
        | true =>
          have HE : Hid (comK K1 kb ⟨xv, true⟩ = (K1.take (plc K1 kb) ++ [(kb, xv)] ++ K1.drop (plc K1 kb))) := (by unfold comK; rw [if_pos rfl] : comK K1 kb ⟨xv, true⟩ = putK K1 (kb, xv)).trans (putK_no (c := (kb, xv)) hB).symm
          have CF : Hid (∀ wx, CmM w wx fb bw d.b rb d.g.ks.length v (.slice a K1.length c) K1 (fK d.g.ks) (fun z => left z && !z.sameKey (.string kb.data.toList)) cnt2 (n + 1) → Calls Try.prog 20 #[.pointer (some ⟨fb, 0, none⟩), .string kb] wx fun e w' => e = .returned (.tuple #[.int .i64 (plc K1 kb : Nat), .bool false]) ∧ Below wx.heap.size wx w') := fun wx hx => by have := find_any HU.out.1 HU.out.2 hx.is hx.row kb; rw [hB] at this; exact this
          have HPl : Hid (plc K1 kb ≤ K1.length) := plc_le K1 kb
          have CI : Hid (∀ wx vb, Row wx 41 2 (.slice a K1.length c) (K1.map encC) → At wx vb 41 #[.string kb, .string xv] → (Value.ownBlock (.slice a K1.length c)) ≠ some vb → Calls Try.prog 29 #[.slice a K1.length c, .int .i64 (plc K1 kb : Int), .slice (some ⟨vb, 0, none⟩) 1 1] wx fun e w' => ∃ v', e = .returned v' ∧ RwO wx w' (.slice a K1.length c) v' (K1.take (plc K1 kb) ++ [(kb, xv)] ++ K1.drop (plc K1 kb))) := fun wx vb hx hb hne => Insert_row hx HPl.out HU.out.2 hb hne
          obtain ⟨Kn, hKn⟩ : ∃ Kn, Kn = K1.take (plc K1 kb) ++ [(kb, xv)] ++ K1.drop (plc K1 kb) := ⟨_, rfl⟩
          rw [← hKn] at CI HE
          clear hB hKn
          generalize plc K1 kb = pl at *
          go_wp2_with first
            | (refine wpList_new_at (A := zH.A) _ zKv rfl rfl ?_; intro w6 b6 N6)
            | (refine wpList_put_at (A := zH.A) (A' := Hs.A ⟨xv, true⟩) h2 _ rfl _ _ rfl rfl rfl N6.is rfl rfl (oneH _) ?_; intro w7 P7; have M7 : Hid (CmM w w7 fb bw d.b rb d.g.ks.length v (.slice a K1.length c) K1 (fK d.g.ks) (fun z => left z && !z.sameKey (.string kb.data.toList)) cnt2 (n + 1)) := M5.out.below (np_bel N6 P7))
            | (go_at_call 20; refine (CF.out _ M7.out).mono ?_; rintro e w8 ⟨rfl, b2⟩; have M8 : Hid (CmM w w8 fb bw d.b rb d.g.ks.length v (.slice a K1.length c) K1 (fK d.g.ks) (fun z => left z && !z.sameKey (.string kb.data.toList)) cnt2 (n + 1)) := M7.out.below b2; have A8 : Hid (At w8 b6 60 (Hs.A ⟨xv, true⟩)) := P7.is.bel b2; have k8 : w8.cell? ⟨fb, 0, none⟩ = some (.slice a K1.length c) := M8.out.is.c 0; have f8 : w8.frozen? ⟨fb, 0, none⟩ = false := M8.out.is.f 0; have x0 : w8.cell? ⟨b6, 0, none⟩ = some (.string xv) := A8.out.c 0; have x1 : w8.cell? ⟨b6, 1, none⟩ = some (.bool true) := A8.out.c 1)
          have MB0 := M8
          generalize w8 = wB at *
          have MB : Hid (CmM w wB fb bw d.b rb d.g.ks.length v (.slice a K1.length c) K1 (fK d.g.ks) (fun z => left z && !z.sameKey (.string kb.data.toList)) cnt2 (n + 1)) := MB0
          have AB : Hid (At wB b6 60 (Hs.A ⟨xv, true⟩)) := A8
          have BD : Hid (Below wB.heap.size wB (wB.alloc (.cells #[.string kb, .string xv] 41)).drew) := bdr (bl1 _) 1
          have kD : wB.drew.cell? ⟨fb, 0, none⟩ = some (.slice a K1.length c) := MB.out.is.c 0
          have xD : wB.drew.cell? ⟨b6, 0, none⟩ = some (.string xv) := AB.out.c 0
          have kA : (wB.alloc (.cells #[.string kb, .string xv] 41)).drew.cell? ⟨fb, 0, none⟩ = some (.slice a K1.length c) := (MB.out.is.bel BD.out).c 0
          have xA : (wB.alloc (.cells #[.string kb, .string xv] 41)).drew.cell? ⟨b6, 0, none⟩ = some (.string xv) := (AB.out.bel BD.out).c 0
          clear MB0 M7 A8 M8 k8 f8 x0 x1
          have CI2 := CI.out _ wB.heap.size (MB.out.row.bel BD.out) ((At.new wB #[.string kb, .string xv] 41).keep rfl) (fun e => by have := MB.out.row.lt e; omega)
          go_region_with (go_at_call 29; refine CI2.mono ?_; rintro e w12 ⟨v2, rfl, o12⟩; have M11 : Hid (CmM w (wB.alloc (.cells #[.string kb, .string xv] 41)).drew fb bw d.b rb d.g.ks.length v (.slice a K1.length c) K1 (fK d.g.ks) (fun z => left z && !z.sameKey (.string kb.data.toList)) cnt2 (n + 1)) := MB.out.below BD.out; have I12 := M11.out.is.keep (w' := w12) (o12.gr.block fb M11.out.is.lt (fun e => M11.out.rf.2.2.2.2.1 e.symm)); have k12 : w12.cell? ⟨fb, 0, none⟩ = some (.slice a K1.length c) := I12.c 0; have f12 : w12.frozen? ⟨fb, 0, none⟩ = false := I12.f 0; obtain ⟨a2, c2, e2, _⟩ := o12.row.sl; rw [List.length_map] at e2; subst e2; have M13 : Hid (CmM w (w12.setCell ⟨fb, 0, none⟩ (.slice a2 Kn.length c2)) fb bw d.b rb d.g.ks.length v (.slice a2 Kn.length c2) Kn (fK d.g.ks) (fun z => left z && !z.sameKey (.string kb.data.toList)) cnt2 (n + 1)) := M11.out.kept o12 rfl)
          all_goals
            go_wp2
            go_roundw
            case rel => exact ⟨_, cnt2, _, Kn, M13.out, by rw [← HE.out]; exact P5.out⟩
            case measure => rw [M13.out.r.left_eq, HC.out.2]; exact HC.out.1
        | false =>
          have HE : Hid (comK K1 kb ⟨xv, false⟩ = K1) := (by unfold comK delK; rw [if_neg (by simp), if_neg (by rw [hB]; simp)] : comK K1 kb ⟨xv, false⟩ = K1)
          have CF : Hid (∀ wx, CmM w wx fb bw d.b rb d.g.ks.length v (.slice a K1.length c) K1 (fK d.g.ks) (fun z => left z && !z.sameKey (.string kb.data.toList)) cnt2 (n + 1) → Calls Try.prog 20 #[.pointer (some ⟨fb, 0, none⟩), .string kb] wx fun e w' => e = .returned (.tuple #[.int .i64 (plc K1 kb : Nat), .bool false]) ∧ Below wx.heap.size wx w') := fun wx hx => by have := find_any HU.out.1 HU.out.2 hx.is hx.row kb; rw [hB] at this; exact this
          have HPl : Hid (plc K1 kb ≤ K1.length) := plc_le K1 kb
          clear hB
          generalize plc K1 kb = pl at *
          go_wp2_with first
            | (refine wpList_new_at (A := zH.A) _ zKv rfl rfl ?_; intro w6 b6 N6)
            | (refine wpList_put_at (A := zH.A) (A' := Hs.A ⟨xv, false⟩) h2 _ rfl _ _ rfl rfl rfl N6.is rfl rfl (oneH _) ?_; intro w7 P7; have M7 : Hid (CmM w w7 fb bw d.b rb d.g.ks.length v (.slice a K1.length c) K1 (fK d.g.ks) (fun z => left z && !z.sameKey (.string kb.data.toList)) cnt2 (n + 1)) := M5.out.below (np_bel N6 P7))
            | (go_at_call 20; refine (CF.out _ M7.out).mono ?_; rintro e w8 ⟨rfl, b2⟩; have M8 : Hid (CmM w w8 fb bw d.b rb d.g.ks.length v (.slice a K1.length c) K1 (fK d.g.ks) (fun z => left z && !z.sameKey (.string kb.data.toList)) cnt2 (n + 1)) := M7.out.below b2; have A8 : Hid (At w8 b6 60 (Hs.A ⟨xv, false⟩)) := P7.is.bel b2; have k8 : w8.cell? ⟨fb, 0, none⟩ = some (.slice a K1.length c) := M8.out.is.c 0; have f8 : w8.frozen? ⟨fb, 0, none⟩ = false := M8.out.is.f 0; have x0 : w8.cell? ⟨b6, 0, none⟩ = some (.string xv) := A8.out.c 0; have x1 : w8.cell? ⟨b6, 1, none⟩ = some (.bool false) := A8.out.c 1)
          go_roundw
          case rel => exact ⟨_, cnt2, _, K1, M8.out, by rw [← HE.out]; exact P5.out⟩
          case measure => rw [M8.out.r.left_eq, HC.out.2]; exact HC.out.1
end
end Go.Proofs.Ytkcpclmkbmeigab.Fd
