/- The law's viewed: the walk. -/
import Derived.Test.YtjlhohljkedbbaaSvL
import Derived.Deep.RegionHeld3
import Derived.BigQuiet
namespace Go.Proofs.Ytjlhohljkedbbaa.Pa
open Go.RowKit Gm Go.Maps Go.Sort
open Go.Proofs.Ytjlhohljkedbbaa.So (CL encC encL encO cfC)
set_option linter.unusedVariables false
set_option linter.unusedSimpArgs false
set_option maxRecDepth 100000
section
variable {W : Nat → Prop} {w : World} {xb n c n2 c2 : Nat} {a a2 : Option Addr} {P : List Gn} {F : Lit → Option Value} {C D : List CL} {lo hi : ByteArray}
set_option maxHeartbeats 4000000 in
theorem viewed_any (hD : Dp W w xb P) (hP : Pi P) (hA : Al P F) (hm : C.length ≤ 1000) (hks : ∀ x ∈ C, x.1.size ≤ 9223372036854775807) (hv : Rv w (.slice a n c) C) (hn : C.length = n) (hd : Rv w (.slice a2 n2 c2) D) (hn2 : D.length = n2) (hS : Vs F C lo hi D) (hDl : D.length ≤ 30000) :
    Calls Try.prog 11 #[.pointer (some ⟨xb, 0, none⟩), .slice a n c, .slice a2 n2 c2, .string lo, .string hi] w fun e w' => e = .returned (.bool true) ∧ Below w.heap.size w w' := by
  obtain ⟨M2, hM, hp, hM2⟩ := hS.ex
  have HM : Hid (M2I F lo hi (fun _ => false) M2) := hM
  have HIn : Hid (∀ x, x ∈ C → keepC F x = true → x ∈ D) := fun x h1 h2 => hp.mem_iff.2 (List.mem_append_left _ (List.mem_filter.2 ⟨h1, h2⟩))
  have HIm : Hid (∀ x, x ∈ M2 → x ∈ D) := fun x h1 => hp.mem_iff.2 (List.mem_append_right _ h1)
  have HDn : Hid (n2 = (C.filter (keepC F)).length + M2.length) := by
    show _ = _
    rw [← hn2, hp.length_eq, List.length_append]
  have HMn : Hid (M2.length ≤ 20000) := hM2
  have HX : Hid (∀ wx, Below w.heap.size w wx → Dp W wx xb P) := fun wx hb => hD.bel hb
  have HP : Hid (Pi P) := hP
  have HA : Hid (Al P F) := hA
  have HKs : Hid (∀ x ∈ C, x.1.size ≤ 9223372036854775807) := hks
  have HV : Hid (Rv w (.slice a n c) C) := hv
  have HE : Hid (∀ wx x, Below w.heap.size w wx → x ∈ D → Calls Try.prog 22 #[.slice a2 n2 c2, .agg #[.string x.1, .string x.2]] wx fun e w' => e = .returned (.bool true) ∧ Below wx.heap.size wx w') := fun wx x hb hx => holds_in (hd.bel hb) (by omega) hx
  have Hn : Hid (C.length = n ∧ n ≤ 1000) := ⟨hn, by omega⟩
  have h2 := stW
  clear hD hP hA hm hks hv hn hd hn2 hS hDl hM hp hM2
  go_enter Try.func11, Try.ntmps11
  go_wp2
  go_loopw [11, 12] (fun s11 s12 wr => ∃ i u : Nat, s12 = .int .i64 (i : Int) ∧ s11 = .int .i64 (u : Int) ∧ i ≤ n ∧ Hid (u = ((C.take i).filter (keepC F)).length) ∧ u ≤ i ∧ Below w.heap.size w wr) (fun s11 s12 _ => n - (intOf s12).toNat)
  case atStart => exact ⟨0, 0, rfl, rfl, Nat.zero_le _, rfl, Nat.le_refl _, Below.refl _ _⟩
  case round =>
    obtain ⟨i, u, rfl, rfl, hin, HU, hui, hB⟩ := hrel
    rename World => wo
    have HB : Hid (Below w.heap.size w wo) := hB
    clear hB
    have hn1 : n ≤ 1000 := Hn.out.2
    by_cases hlt : i < n
    · have hltI : (i : Int) < (n : Int) := by omega
      have hit : i < C.length := by have := Hn.out.1; omega
      obtain ⟨g, o, rfl, -, k0, k1⟩ := (HV.out.bel HB.out).at_ hit
      have HRd : Hid (∀ wx, Below w.heap.size w wx → wx.cell? ⟨g, o + i * 2, none⟩ = some (.string C[i].1) ∧ wx.cell? ⟨g, o + i * 2 + 1, none⟩ = some (.string C[i].2)) := fun wx hb => by
        obtain ⟨g', o', e, -, k0, k1⟩ := (HV.out.bel hb).at_ hit
        cases e
        exact ⟨k0, k1⟩
      obtain ⟨kc, vc, hkc⟩ : ∃ k x, C[i] = (k, x) := ⟨_, _, rfl⟩
      rw [hkc] at k0 k1 HRd
      have HMem : Hid ((kc, vc) ∈ C) := by
        show _ ∈ _
        rw [← hkc]; exact List.getElem_mem hit
      have HS : Hid (kc.size ≤ 9223372036854775807) := HKs.out _ HMem.out
      have HEq : Hid (((C.take (i + 1)).filter (keepC F)).length = ((C.take i).filter (keepC F)).length + (if keepC F (kc, vc) then 1 else 0)) := by
        show _ = _
        rw [List.take_succ_eq_append_getElem hit, List.filter_append, List.length_append, hkc, List.filter_cons, List.filter_nil]
        split <;> rfl
      clear hkc hit
      cases hf : F (.string kc.data.toList) with
      | none =>
        have GC : Hid (∀ wx, Below w.heap.size w wx → Calls Try.prog 6 #[.pointer (some ⟨xb, 0, none⟩), .string kc] wx fun e w' => e = .returned (.tuple #[.agg zW.A, .bool false]) ∧ Below wx.heap.size wx w') := fun wx hb => Get_no (HX.out _ hb) HP.out.nd HA.out HS.out hf
        have hkeep : keepC F (kc, vc) = true := by unfold keepC; rw [hf]; rfl
        have HU1 : Hid (u + 1 = ((C.take (i + 1)).filter (keepC F)).length) := by
          show _ = _
          rw [HEq.out, ← HU.out, hkeep]; rfl
        have HI : Hid (∀ wx, Below w.heap.size w wx → Calls Try.prog 22 #[.slice a2 n2 c2, .agg #[.string kc, .string vc]] wx fun e w' => e = .returned (.bool true) ∧ Below wx.heap.size wx w') := fun wx hb => HE.out wx (kc, vc) hb (HIn.out _ HMem.out hkeep)
        clear hf hkeep
        go_wp2_with first
          | (go_at_call 6; refine (GC.out _ HB.out).mono ?_; rintro e w3 ⟨rfl, q3⟩)
          | (refine wpList_new_at (A := zW.A) _ zKv rfl rfl ?_; intro w4 b4 N4)
          | (refine wpList_put_at (A := zW.A) (A' := zW.A) h2 _ rfl _ _ rfl rfl rfl N4.is rfl rfl (oneW _) ?_; intro w5 P5; have B5 : Hid (Below w.heap.size w w5) := thn (thn HB.out q3) (np_bel N4 P5); obtain ⟨k50, k51⟩ := HRd.out _ B5.out)
          | (go_at_call 22; refine (HI.out _ B5.out).mono ?_; rintro e w6 ⟨rfl, q6⟩)
        go_roundw
        case rel => exact ⟨i + 1, u + 1, by rfl, by rfl, by omega, HU1.out, by omega, thn B5.out q6⟩
        case measure => simp [intOf]; omega
      | some v =>
        obtain ⟨_, ws, _, rfl⟩ := HA.out.vs _ _ hf
        have GC : Hid (∀ wx, Below w.heap.size w wx → Calls Try.prog 6 #[.pointer (some ⟨xb, 0, none⟩), .string kc] wx fun e w' => e = .returned (.tuple #[.agg ws.A, .bool true]) ∧ Below wx.heap.size wx w') := fun wx hb => Get_yes (HX.out _ hb) HP.out.nd HA.out HS.out hf
        have hkeep : keepC F (kc, vc) = false := by unfold keepC; rw [hf]; rfl
        have HU1 : Hid (u = ((C.take (i + 1)).filter (keepC F)).length) := by
          show _ = _
          rw [HEq.out, ← HU.out, hkeep]; rfl
        clear hf hkeep
        go_wp2_with first
          | (go_at_call 6; refine (GC.out _ HB.out).mono ?_; rintro e w3 ⟨rfl, q3⟩)
          | (refine wpList_new_at (A := zW.A) _ zKv rfl rfl ?_; intro w4 b4 N4)
          | (refine wpList_put_at (A := zW.A) (A' := ws.A) h2 _ rfl _ _ rfl rfl rfl N4.is rfl rfl (oneW _) ?_; intro w5 P5; have B5 : Hid (Below w.heap.size w w5) := thn (thn HB.out q3) (np_bel N4 P5))
        go_roundw
        case rel => exact ⟨i + 1, u, by rfl, by rfl, by omega, HU1.out, by omega, B5.out⟩
        case measure => simp [intOf]; omega
    · have hltI : ¬ (i : Int) < (n : Int) := by omega
      have HN1 : Hid (u = (C.filter (keepC F)).length) := by
        show _ = _
        rw [HU.out, List.take_of_length_le (by have := Hn.out.1; omega)]
      have hu1 : u ≤ 1000 := by omega
      clear HU hui hlt
      go_wp2_with (go_at_call 23; refine (Keys_P (HX.out _ HB.out) HP.out).mono ?_; rintro e w2 ⟨⟨v, ks, rfl, hk, hr, ho, hlen⟩, q2⟩; obtain ⟨a3, c3, rfl, -⟩ := hr.sl)
      obtain ⟨n3, hn3⟩ : ∃ n3, ks.length = n3 := ⟨_, rfl⟩
      have hsl : (sC ks).length = n3 := by unfold sC; rw [List.length_map]; exact hn3
      rw [hsl] at hr ⊢
      have HK : Hid (KyP P ks) := hk
      have HR : Hid (Row w2 9 1 (.slice a3 n3 c3) (sC ks)) := hr
      have HB2 : Hid (Below w.heap.size w w2) := thn HB.out q2
      have Hn3 : Hid (ks.length = n3) := hn3
      have hn3b : n3 ≤ 100000 := by omega
      clear hk hr ho q2 hsl hn3 hlen
      obtain ⟨u0, hu0⟩ : ∃ u0, u = u0 := ⟨_, rfl⟩
      have HN0 : Hid (u0 = (C.filter (keepC F)).length) := by show _ = _; rw [← hu0]; exact HN1.out
      go_loopw [11, 16] (fun s11 s16 wr => ∃ i u : Nat, s16 = .int .i64 (i : Int) ∧ s11 = .int .i64 (u : Int) ∧ i ≤ n3 ∧ Hid (u = u0 + cq M2 (ks.take i)) ∧ u ≤ 1000 + i ∧ Below w.heap.size w wr ∧ Below w2.heap.size w2 wr) (fun s11 s16 _ => n3 - (intOf s16).toNat)
      case atStart => exact ⟨0, u, rfl, rfl, Nat.zero_le _, (show _ = _ by rw [List.take_zero, cq_nil]; exact hu0), by omega, HB2.out, Below.refl _ _⟩
      case round =>
        clear hu0 HN1 hu1 hin hltI HB
        obtain ⟨i, u, rfl, rfl, hin, HU, hui, hB, hB2⟩ := hrel
        rename World => wo
        have HB : Hid (Below w.heap.size w wo) := hB
        have HW2 : Hid (Below w2.heap.size w2 wo) := hB2
        clear hB hB2
        by_cases hlt : i < n3
        · have hltI : (i : Int) < (n3 : Int) := by omega
          have hit : i < ks.length := by have := Hn3.out; omega
          obtain ⟨g3, rfl, -, hat⟩ := HR.out.at_ (i := i) (by unfold sC; rw [List.length_map]; exact hit)
          obtain ⟨kb, hkb⟩ : ∃ kb : ByteArray, kb = ⟨(ks[i]).toArray⟩ := ⟨_, rfl⟩
          have ekt : ks[i] = kb.data.toList := by rw [hkb]
          have HK5 : Hid (∀ wx, Below w.heap.size w wx ∧ Below w2.heap.size w2 wx → wx.cell? ⟨g3, i, none⟩ = some (.string kb)) := fun wx hb => by
            have h0 := (hat w2 rfl).1 0 (.string kb) (by unfold sC; rw [List.getElem_map, hkb]; rfl)
            have hg : g3 < w2.heap.size := HR.out.lt rfl
            rw [World.cell?_of_block (hb.2.block g3 hg)]
            simpa using h0
          have ck0 : wo.cell? ⟨g3, i, none⟩ = some (.string kb) := HK5.out _ ⟨HB.out, HW2.out⟩
          have HS : Hid (kb.size ≤ 9223372036854775807) := by
            show kb.size ≤ _
            have := HK.out.le _ (List.getElem_mem hit)
            rw [hkb]; simpa [ByteArray.size] using this
          obtain ⟨ws, hf⟩ : ∃ ws : Ws, F (.string kb.data.toList) = some (.agg ws.A) := by
            obtain ⟨g, hg, hne⟩ := (HK.out.mem _).1 (List.getElem_mem hit)
            cases hf : F (.string kb.data.toList) with
            | none => rw [ekt, (HA.out.no _).1 hf g hg] at hne; exact absurd rfl hne
            | some v => obtain ⟨_, ws, _, rfl⟩ := HA.out.vs _ _ hf; exact ⟨ws, rfl⟩
          have GC : Hid (∀ wx, Below w.heap.size w wx → Calls Try.prog 6 #[.pointer (some ⟨xb, 0, none⟩), .string kb] wx fun e w' => e = .returned (.tuple #[.agg ws.A, .bool true]) ∧ Below wx.heap.size wx w') := fun wx hb => Get_yes (HX.out _ hb) HP.out.nd HA.out HS.out hf
          have HO : Hid (One F lo hi M2 (ks.take i) kb ws) := one_of HM.out hf (by
            intro hmem
            obtain ⟨j, hj, e⟩ := List.getElem_of_mem hmem
            rw [List.getElem_take] at e
            rw [List.length_take] at hj
            have := (List.pairwise_iff_getElem.1 HK.out.up) j i (by omega) hit (by omega)
            rw [e, ekt] at this
            exact List.lt_irrefl _ this)
          have HT : Hid (ks.take (i + 1) = ks.take i ++ [kb.data.toList]) := by
            show _ = _
            rw [List.take_succ_eq_append_getElem hit, ekt]
          have hge : ∀ wx, (binOp .geq 9 (.string kb) (.string lo)).run Try.prog wx = .ok (.bool (leB lo kb)) wx := fun wx => by rw [run_geB, geB_leB]
          have hle2 : ∀ wx, (binOp .leq 9 (.string kb) (.string hi)).run Try.prog wx = .ok (.bool (leB kb hi)) wx := fun wx => run_leB _ _ wx
          have HNO : Hid (ws.is = false ∨ inR lo hi kb = false → u = u0 + cq M2 (ks.take (i + 1))) := fun h => by rw [HT.out, HO.out.no h]; exact HU.out
          have HYE : Hid (ws.is = true → inR lo hi kb = true → (kb, ws.v) ∈ M2 ∧ u + 1 = u0 + cq M2 (ks.take (i + 1))) := fun h h' => ⟨(HO.out.yes h h').1, by rw [HT.out, (HO.out.yes h h').2, HU.out]; omega⟩
          clear hf hkb ekt hit hat HO HT HU
          obtain ⟨vv, is⟩ := ws
          cases is with
          | false =>
            have HU1 : Hid (u = u0 + cq M2 (ks.take (i + 1))) := HNO.out (Or.inl rfl)
            clear HNO HYE
            go_wp2_with first
              | (go_at_call 6; refine (GC.out _ HB.out).mono ?_; rintro e w3 ⟨rfl, q3⟩)
              | (refine wpList_new_at (A := zW.A) _ zKv rfl rfl ?_; intro w4 b4 N4)
              | (refine wpList_put_at (A := zW.A) (A' := Ws.A ⟨vv, false⟩) h2 _ rfl _ _ rfl rfl rfl N4.is rfl rfl (oneW _) ?_; intro w5 P5; have B5 : Hid (Below w.heap.size w w5) := thn (thn HB.out q3) (np_bel N4 P5); have c50 : w5.cell? ⟨b4, 0, none⟩ = some (.string vv) := P5.is.c 0; have c51 : w5.cell? ⟨b4, 1, none⟩ = some (.bool false) := P5.is.c 1; have ck5 : w5.cell? ⟨g3, i, none⟩ = some (.string kb) := HK5.out _ ⟨B5.out, thn HW2.out (thn q3 (np_bel N4 P5))⟩)
            go_roundw
            case rel => exact ⟨i + 1, u, by rfl, by rfl, by omega, HU1.out, by omega, B5.out, thn HW2.out (thn q3 (np_bel N4 P5))⟩
            case measure => simp [intOf]; omega
          | true =>
            cases hlo : leB lo kb with
            | false =>
              rw [hlo] at hge
              have HU1 : Hid (u = u0 + cq M2 (ks.take (i + 1))) := HNO.out (Or.inr (by unfold inR; rw [hlo]; rfl))
              clear hlo HNO HYE
              go_wp2_with first
                | (go_at_call 6; refine (GC.out _ HB.out).mono ?_; rintro e w3 ⟨rfl, q3⟩)
                | (refine wpList_new_at (A := zW.A) _ zKv rfl rfl ?_; intro w4 b4 N4)
                | (refine wpList_put_at (A := zW.A) (A' := Ws.A ⟨vv, true⟩) h2 _ rfl _ _ rfl rfl rfl N4.is rfl rfl (oneW _) ?_; intro w5 P5; have B5 : Hid (Below w.heap.size w w5) := thn (thn HB.out q3) (np_bel N4 P5); have c50 : w5.cell? ⟨b4, 0, none⟩ = some (.string vv) := P5.is.c 0; have c51 : w5.cell? ⟨b4, 1, none⟩ = some (.bool true) := P5.is.c 1; have ck5 : w5.cell? ⟨g3, i, none⟩ = some (.string kb) := HK5.out _ ⟨B5.out, thn HW2.out (thn q3 (np_bel N4 P5))⟩)
              go_roundw
              case rel => exact ⟨i + 1, u, by rfl, by rfl, by omega, HU1.out, by omega, B5.out, thn HW2.out (thn q3 (np_bel N4 P5))⟩
              case measure => simp [intOf]; omega
            | true =>
              rw [hlo] at hge
              by_cases hem : hi = ⟨#[]⟩
              · subst hem
                obtain ⟨hmm, hu1⟩ := HYE.out rfl (show inR lo ⟨#[]⟩ kb = true by unfold inR; rw [hlo]; rfl)
                have HU1 : Hid (u + 1 = u0 + cq M2 (ks.take (i + 1))) := hu1
                have HI : Hid (∀ wx, Below w.heap.size w wx → Calls Try.prog 22 #[.slice a2 n2 c2, .agg #[.string kb, .string vv]] wx fun e w' => e = .returned (.bool true) ∧ Below wx.heap.size wx w') := fun wx hb => HE.out wx (kb, vv) hb (HIm.out _ hmm)
                clear hlo HNO HYE hu1 hmm
                go_wp2_with first
                  | (go_at_call 6; refine (GC.out _ HB.out).mono ?_; rintro e w3 ⟨rfl, q3⟩)
                  | (refine wpList_new_at (A := zW.A) _ zKv rfl rfl ?_; intro w4 b4 N4)
                  | (refine wpList_put_at (A := zW.A) (A' := Ws.A ⟨vv, true⟩) h2 _ rfl _ _ rfl rfl rfl N4.is rfl rfl (oneW _) ?_; intro w5 P5; have B5 : Hid (Below w.heap.size w w5) := thn (thn HB.out q3) (np_bel N4 P5); have c50 : w5.cell? ⟨b4, 0, none⟩ = some (.string vv) := P5.is.c 0; have c51 : w5.cell? ⟨b4, 1, none⟩ = some (.bool true) := P5.is.c 1; have ck5 : w5.cell? ⟨g3, i, none⟩ = some (.string kb) := HK5.out _ ⟨B5.out, thn HW2.out (thn q3 (np_bel N4 P5))⟩)
                go_region_held3 (fun W => W.cell? ⟨g3, i, none⟩ = some (.string kb) ∧ W.cell? ⟨b4, 0, none⟩ = some (.string vv)) (first | exact keep1 | exact ⟨ck5, c50⟩ | go_keep) ((go_at_call 22; refine (HI.out _ (bdr B5.out 1)).mono ?_; rintro e w6 ⟨rfl, q6⟩; have keep1 : w6.cell? ⟨g3, i, none⟩ = some (.string kb) ∧ w6.cell? ⟨b4, 0, none⟩ = some (.string vv) := ⟨HK5.out _ ⟨thn (bdr B5.out 1) q6, thn (bdr (thn HW2.out (thn q3 (np_bel N4 P5))) 1) q6⟩, (P5.is.bel (thn (bdr (Below.refl _ _) 1) q6)).c 0⟩))
                all_goals go_wp2
                go_roundw
                case rel => exact ⟨i + 1, u + 1, by rfl, by rfl, by omega, HU1.out, by omega, thn (bdr B5.out 1) q6, thn (bdr (thn HW2.out (thn q3 (np_bel N4 P5))) 1) q6⟩
                case measure => simp [intOf]; omega
              · have hemb : (hi.size == 0) = false := by
                  rw [beq_eq_false_iff_ne]
                  intro h0
                  apply hem
                  obtain ⟨⟨l⟩⟩ := hi
                  have : l = [] := List.eq_nil_of_length_eq_zero h0
                  rw [this]
                have hem4 : ¬ hi.toList = [] := fun h0 => hem (by
                  rw [Lib.toList_data] at h0
                  exact ba_ext h0)
                have hem3 : (hi.toList == []) = false := beq_eq_false_iff_ne.2 hem4
                have hem5 : (hi.toList == (⟨#[]⟩ : ByteArray).toList) = false := by
                  rw [show (⟨#[]⟩ : ByteArray).toList = [] from by rw [Lib.toList_data]]
                  exact hem3
                cases hhi : leB kb hi with
                | false =>
                  rw [hhi] at hle2
                  have HU1 : Hid (u = u0 + cq M2 (ks.take (i + 1))) := HNO.out (Or.inr (by unfold inR; rw [hlo, hemb, hhi]; rfl))
                  clear hlo hhi HNO HYE
                  go_wp2_with first
                    | (go_at_call 6; refine (GC.out _ HB.out).mono ?_; rintro e w3 ⟨rfl, q3⟩)
                    | (refine wpList_new_at (A := zW.A) _ zKv rfl rfl ?_; intro w4 b4 N4)
                    | (refine wpList_put_at (A := zW.A) (A' := Ws.A ⟨vv, true⟩) h2 _ rfl _ _ rfl rfl rfl N4.is rfl rfl (oneW _) ?_; intro w5 P5; have B5 : Hid (Below w.heap.size w w5) := thn (thn HB.out q3) (np_bel N4 P5); have c50 : w5.cell? ⟨b4, 0, none⟩ = some (.string vv) := P5.is.c 0; have c51 : w5.cell? ⟨b4, 1, none⟩ = some (.bool true) := P5.is.c 1; have ck5 : w5.cell? ⟨g3, i, none⟩ = some (.string kb) := HK5.out _ ⟨B5.out, thn HW2.out (thn q3 (np_bel N4 P5))⟩)
                  go_roundw
                  case rel => exact ⟨i + 1, u, by rfl, by rfl, by omega, HU1.out, by omega, B5.out, thn HW2.out (thn q3 (np_bel N4 P5))⟩
                  case measure => simp [intOf]; omega
                | true =>
                  rw [hhi] at hle2
                  obtain ⟨hmm, hu1⟩ := HYE.out rfl (by unfold inR; rw [hlo, hemb, hhi]; rfl)
                  have HU1 : Hid (u + 1 = u0 + cq M2 (ks.take (i + 1))) := hu1
                  have HI : Hid (∀ wx, Below w.heap.size w wx → Calls Try.prog 22 #[.slice a2 n2 c2, .agg #[.string kb, .string vv]] wx fun e w' => e = .returned (.bool true) ∧ Below wx.heap.size wx w') := fun wx hb => HE.out wx (kb, vv) hb (HIm.out _ hmm)
                  clear hlo hhi HNO HYE hu1 hmm
                  go_wp2_with first
                    | (go_at_call 6; refine (GC.out _ HB.out).mono ?_; rintro e w3 ⟨rfl, q3⟩)
                    | (refine wpList_new_at (A := zW.A) _ zKv rfl rfl ?_; intro w4 b4 N4)
                    | (refine wpList_put_at (A := zW.A) (A' := Ws.A ⟨vv, true⟩) h2 _ rfl _ _ rfl rfl rfl N4.is rfl rfl (oneW _) ?_; intro w5 P5; have B5 : Hid (Below w.heap.size w w5) := thn (thn HB.out q3) (np_bel N4 P5); have c50 : w5.cell? ⟨b4, 0, none⟩ = some (.string vv) := P5.is.c 0; have c51 : w5.cell? ⟨b4, 1, none⟩ = some (.bool true) := P5.is.c 1; have ck5 : w5.cell? ⟨g3, i, none⟩ = some (.string kb) := HK5.out _ ⟨B5.out, thn HW2.out (thn q3 (np_bel N4 P5))⟩)
                  go_region_held3 (fun W => W.cell? ⟨g3, i, none⟩ = some (.string kb) ∧ W.cell? ⟨b4, 0, none⟩ = some (.string vv)) (first | exact keep1 | exact ⟨ck5, c50⟩ | go_keep) ((go_at_call 22; refine (HI.out _ (bdr B5.out 1)).mono ?_; rintro e w6 ⟨rfl, q6⟩; have keep1 : w6.cell? ⟨g3, i, none⟩ = some (.string kb) ∧ w6.cell? ⟨b4, 0, none⟩ = some (.string vv) := ⟨HK5.out _ ⟨thn (bdr B5.out 1) q6, thn (bdr (thn HW2.out (thn q3 (np_bel N4 P5))) 1) q6⟩, (P5.is.bel (thn (bdr (Below.refl _ _) 1) q6)).c 0⟩))
                  all_goals go_wp2
                  go_roundw
                  case rel => exact ⟨i + 1, u + 1, by rfl, by rfl, by omega, HU1.out, by omega, thn (bdr B5.out 1) q6, thn (bdr (thn HW2.out (thn q3 (np_bel N4 P5))) 1) q6⟩
                  case measure => simp [intOf]; omega
        · have hltI : ¬ (i : Int) < (n3 : Int) := by omega
          have HF : Hid (u = n2) := by
            show u = n2
            rw [HU.out, HDn.out, HN0.out, List.take_of_length_le (by have := Hn3.out; omega), cq_all (fun x hx => (HK.out.mem _).2 (HM.out.in_keys HA.out hx))]
          have hun : (u : Int) = (n2 : Int) := by rw [HF.out]
          clear HU HF
          go_wp2
          go_ret
          exact ⟨rfl, HB.out⟩
end
end Go.Proofs.Ytjlhohljkedbbaa.Pa
