/- The law's place, Lay, Gone. -/
import Derived.Test.YtkcpclmkbmeigabFdG
import Derived.Test.YtkcpclmkbmeigabFdJ
import Derived.Test.YtkcpclmkbmeigabFdE
import Derived.BigRegion
namespace Go.Proofs.Ytkcpclmkbmeigab.Fd
open Go.RowKit Gm Go.Maps
set_option linter.unusedVariables false
set_option linter.unusedSimpArgs false
set_option maxRecDepth 100000
theorem run_ltB (a b : ByteArray) (w : World) : (binOp .lss 9 (.string a) (.string b)).run Try.prog w = .ok (.bool (Op.bytesLess a.toList b.toList)) w := by
  simp [binOp, Op.stringOp]
theorem ltB_b (a b : ByteArray) : Op.bytesLess a.toList b.toList = true ↔ blt a b := by
  rw [Proofs.bytesLess_eq, Lib.toList_data, Lib.toList_data]
  exact decide_eq_true_iff
section
variable {w : World} {K : List CL}
set_option maxHeartbeats 1000000 in
theorem place_any {a : Option Addr} {c : Nat} (h : Rv w (.slice a K.length c) K) (hn : K.length ≤ 100000) (key : ByteArray) : Calls Try.prog 24 #[.slice a K.length c, .string key] w fun e w' => e = .returned (.tuple #[.int .i64 (plc K key : Nat), .bool (isK K key)]) ∧ Below w.heap.size w w' := by
  have HV : Hid (Rv w (.slice a K.length c) K) := h
  have hx := plc_le K key
  clear h
  go_enter Try.func24, Try.ntmps24
  go_wp2
  go_loopw [6] (fun vi wr => ∃ i : Nat, vi = .int .i64 (i : Int) ∧ i ≤ plc K key ∧ Below w.heap.size w wr) (fun vi _ => plc K key - (intOf vi).toNat)
  case atStart => exact ⟨0, rfl, Nat.zero_le _, Below.refl _ _⟩
  case round =>
    obtain ⟨i, rfl, hi, hB⟩ := hrel
    rename World => wo
    have HB : Hid (Below w.heap.size w wo) := hB
    clear hB
    by_cases hlt : i < plc K key
    · have hltI : (i : Int) < (K.length : Int) := by omega
      have hi1 : i < K.length := by omega
      obtain ⟨g, o, rfl, _, c0, c1⟩ := (HV.out.bel HB.out).at_ hi1
      have hls : Op.bytesLess K[i].1.toList key.toList = true := (ltB_b _ _).2 (plc_lt hlt)
      generalize K[i].1 = ka at *
      clear c1
      go_wp2
      go_roundw
      case rel => exact ⟨i + 1, by go_num, by omega, HB.out⟩
      case measure => simp [intOf]; omega
    · obtain rfl : i = plc K key := by omega
      by_cases hp : plc K key < K.length
      · have hpI : ((plc K key : Nat) : Int) < (K.length : Int) := by omega
        obtain ⟨g, o, rfl, _, c0, c1⟩ := (HV.out.bel HB.out).at_ hp
        have c0' : wo.drew.cell? ⟨g, o + plc K key * 2, none⟩ = some (.string K[plc K key].1) := c0
        have hnl : ¬ blt K[plc K key].1 key := by
          have h2 : (!decide (blt (K[plc K key]'hp).1 key)) = true := List.findIdx_getElem (w := hp)
          simpa using h2
        have hls : Op.bytesLess K[plc K key].1.toList key.toList = false := by
          cases e : Op.bytesLess K[plc K key].1.toList key.toList with
          | false => rfl
          | true => exact absurd ((ltB_b _ _).1 e) hnl
        have hi2 : Hid (isK K key = (K[plc K key].1.toList == key.toList)) := by
          show _ = _
          unfold isK
          rw [List.getElem?_eq_getElem hp]
          by_cases e : K[plc K key].1 = key
          · rw [tl_eq.2 e]; simp [e]
          · have : (K[plc K key].1.toList == key.toList) = false := by
              cases e2 : (K[plc K key].1.toList == key.toList) with
              | false => rfl
              | true => exact absurd (tl_eq.1 e2) e
            rw [this]; simp [e]
        clear c1 hnl
        generalize K[plc K key].1 = ka at *
        generalize hbb : (ka.toList == key.toList) = bb at *
        go_wp2_with fail
        go_big_region
        all_goals go_wp2
        all_goals go_ret2
        all_goals exact ⟨by rw [hi2.out]; rfl, bdr HB.out 1⟩
      · have hpI : ¬ ((plc K key : Nat) : Int) < (K.length : Int) := by omega
        have hi2 : Hid (isK K key = false) := by show _ = _; unfold isK; rw [List.getElem?_eq_none (by omega)]
        go_wp2_with fail
        go_big_region
        all_goals go_wp2
        all_goals go_ret2
        all_goals exact ⟨by rw [hi2.out]; rfl, bdr HB.out 1⟩
theorem seg_at {a : Option Addr} {c : Nat} (h : Row w 41 2 (.slice a K.length c) (K.map encC)) (i k : Nat) (hi : i + k ≤ K.length) (hk : 0 < k) : ∃ g, a = some ⟨g, 0, none⟩ ∧ ∀ wx, Below w.heap.size w wx → ∀ j u, (((K.drop i).take k).map encC).flatten[j]? = some u → wx.cell? ⟨g, i * 2 + j, none⟩ = some u := by
  obtain ⟨g, ea, _⟩ := h.at_ (i := i) (by rw [List.length_map]; omega)
  subst ea
  refine ⟨g, rfl, fun wx hb j u hu => ?_⟩
  have e : K.map encC = (K.take i).map encC ++ ((K.drop i).take k).map encC ++ (K.drop (i + k)).map encC := by
    rw [← List.map_append, ← List.map_append]
    congr 1
    conv => lhs; rw [← List.take_append_drop i K]
    rw [List.append_assoc]
    congr 1
    conv => lhs; rw [← List.take_append_drop k (K.drop i)]
    rw [List.drop_drop]
  have := (h.bel hb).seg e j u hu
  rw [List.length_map, List.length_take, show min i K.length = i by omega] at this
  exact this
theorem run_app0 (w : World) (ty : TypeId) (b : Option Addr) (n cap : Nat) (x : Option Addr) (cx : Nat) (hn : n ≤ cap) : (Builtin.append_ #[35, 35] ty #[.slice b n cap, .slice x 0 cx]).run Try.prog w = .ok (.slice b n cap) w := by
  obtain ⟨i, hi, hz0, hz1, hz2⟩ := (elC).info
  have hf : (Builtin.firstCells i.size 0 (.slice x 0 cx)).run Try.prog w = .ok #[] w := by
    cases x with
    | none => rfl
    | some ad => exact run_firstCells_some (P := Try.prog) w i.size 0 ad 0 cx [] (by simp) (fun j u hu => by simp at hu)
  cases b <;> simp [Builtin.append_, run_underlying Try.underlying35, sizeOf, typeInfo, hi, Builtin.lenOf, hn, hf, storeCells]
theorem wpList_app0 {ops : Array Oper} {rest : List Oper} {o : Oper} {act : Act} {Q : Exit → Act → World → Prop} {w : World} (hgd : o.guard = none) (s x : Operand) (ho : o.op = .call { callee := .builtin .append, args := #[s, x], argTypes := #[35, 35] }) {b xa : Option Addr} {n cap cx : Nat}
    (hs : act.eval s = .slice b n cap) (hx : act.eval x = .slice xa 0 cx) (hn : n ≤ cap) (K : wpList Try.prog ops Q rest (act.put o.dst (.slice b n cap)) w) : wpList Try.prog ops Q (o :: rest) act w := by
  refine wpList_plain hgd fun K' hK => ?_
  unfold Oper.wp execOp
  simp only [ho, resolve, invoke, builtin, Sem.run_bind, Sem.run_pure, Result.andThen_ok, List.map_toArray, List.map_cons, List.map_nil, hs, hx, run_app0 w o.type b n cap xa cx hn]
  exact hK _ _ K
/-- A list, gathered from parts: a new row. -/
structure Gat (w wx : World) (v : Value) (M : List CL) : Prop where
  row : Row wx 41 2 v (M.map encC)
  bel : Below w.heap.size w wx
  own : ∀ g, v.ownBlock = some g → w.heap.size ≤ g
theorem Gat.push {w wx wy : World} {v v' : Value} {M M2 : List CL} (h : Gat w wx v M) (A : App wx wy 41 2 v v' (M.map encC ++ M2.map encC)) : Gat w wy v' (M ++ M2) :=
  ⟨by rw [List.map_append]; exact A.row, h.bel.trans (A.bel (fun g e => h.own g e) h.bel.size), fun g e => A.own.elim (fun e2 => h.own g (e2.symm.trans e)) (fun e2 => by rw [e2] at e; cases e; exact h.bel.size)⟩
theorem Gat.below {w wx wy : World} {v : Value} {M : List CL} (h : Gat w wx v M) (hb : Below wx.heap.size wx wy) : Gat w wy v M := ⟨h.row.bel hb, thn h.bel hb, h.own⟩
theorem Gat.start {w w2 w3 : World} {b : Nat} (hb : Below w.heap.size w w2) (N : New w2 w3 b 41 #[]) : Gat w w3 (.slice (some ⟨b, 0, none⟩) 0 0) [] :=
  ⟨Row.empty N.is, thn hb N.bel, fun g e => by cases e; rw [N.eq]; exact hb.size⟩
set_option maxHeartbeats 2000000 in
theorem Lay_nil (w : World) (p t : ByteArray) : Calls Try.prog 13 #[.slice none 0 0, .agg #[.string p, .string t]] w fun e w' => ClE w e w' [(p, t)] := by
  have CP : Hid (∀ wx, Calls Try.prog 24 #[.slice none 0 0, .string p] wx fun e w' => e = .returned (.tuple #[.int .i64 0, .bool false]) ∧ Below wx.heap.size wx w') := fun wx => place_any (K := []) (a := none) (c := 0) (Rv.of_row (C := []) (Row.nil _ _ _)) (by decide) p
  go_enter Try.func13, Try.ntmps13
  go_wp2_with first
    | (refine wpList_box_at (A := #[.string p, .string t]) _ rfl _ rfl rfl ?_; intro w1 b1 N1; have k1 : w1.cell? ⟨b1, 0, none⟩ = some (.string p) := N1.is.c 0)
    | (go_at_call 24; refine (CP.out _).mono ?_; rintro e w2 ⟨rfl, b2⟩; have X2 : Hid (Below w.heap.size w w2 ∧ At w2 b1 41 #[.string p, .string t]) := ⟨thn N1.bel b2, N1.is.bel b2⟩; clear b2)
    | (refine wpList_build0 _ rfl rfl bC0 ?_; intro w3 b3 N3; have G3 : Hid (Gat w w3 (.slice (some ⟨b3, 0, none⟩) 0 0) []) := Gat.start X2.out.1 N3; have A3 : Hid (At w3 b1 41 #[.string p, .string t]) := X2.out.2.bel N3.bel)
    | (refine wpList_app0 rfl _ _ rfl rfl rfl (by omega) ?_)
    | (refine wpList_load_at stC (A := #[.string p, .string t]) _ rfl _ rfl rfl A3.out rfl ?_)
    | (refine wpList_build1 (u := .agg #[.string p, .string t]) (A := #[.string p, .string t]) _ rfl _ rfl rfl (bC1 p t) ?_; intro w4 b4 N4; have G4 : Hid (Gat w w4 (.slice (some ⟨b3, 0, none⟩) 0 0) []) := G3.out.below N4.bel)
    | (refine wpList_push elC (A := #[.string p, .string t]) (L := List.map encC []) rfl _ _ rfl rfl G4.out.row rfl N4.is rfl (by intro u hu; simp at hu; rcases hu with rfl | rfl <;> rfl) (by simp) ?_; intro a5 c5 w5 A5; have G5 : Hid (Gat w w5 (.slice a5 1 c5) [(p, t)]) := G4.out.push (M2 := [(p, t)]) A5; have hc5 : 1 ≤ c5 := (by obtain ⟨a6, c6, e6, h6⟩ := G5.out.row.sl; injection e6 with _ _ e7; rw [e7]; exact h6))
  go_ret
  exact ⟨⟨_, rfl, G5.out.row, G5.out.own⟩, G5.out.bel⟩
set_option maxHeartbeats 4000000 in
theorem Lay_some {g c : Nat} (h : Row w 41 2 (.slice (some ⟨g, 0, none⟩) K.length c) (K.map encC)) (hn : K.length ≤ 1000) (p t : ByteArray) : Calls Try.prog 13 #[.slice (some ⟨g, 0, none⟩) K.length c, .agg #[.string p, .string t]] w fun e w' => ClE w e w' (putK K (p, t)) := by
  have HR : Hid (Row w 41 2 (.slice (some ⟨g, 0, none⟩) K.length c) (K.map encC)) := h
  obtain ⟨hkc, hcm⟩ : K.length ≤ c ∧ c ≤ 9223372036854775807 := by
    rcases h.row.2 with ⟨e, h0⟩ | ⟨g', cap, cur, e, _, _, h3, h4, _⟩
    · injection e with e1 e2 e3
      cases e1
    · injection e with e1 e2 e3
      rw [List.length_map] at h3
      unfold maxLen at h4
      omega
  have hx := plc_le K p
  have CP : Hid (∀ wx, Below w.heap.size w wx → Calls Try.prog 24 #[.slice (some ⟨g, 0, none⟩) K.length c, .string p] wx fun e w' => e = .returned (.tuple #[.int .i64 (plc K p : Nat), .bool (isK K p)]) ∧ Below wx.heap.size wx w') := fun wx hb => place_any (Rv.of_row (h.bel hb)) (by omega) p
  have HS : Hid (∀ i k, i + k ≤ K.length → 0 < k → ∀ wx, Below w.heap.size w wx → ∀ j u, (((K.drop i).take k).map encC).flatten[j]? = some u → wx.cell? ⟨g, i * 2 + j, none⟩ = some u) := fun i k h1 h2 wx hb => by
    obtain ⟨g', e, hh⟩ := seg_at h i k h1 h2
    cases e
    exact hh wx hb
  have HPu : Hid (putK K (p, t) = K.take (plc K p) ++ [(p, t)] ++ K.drop (plc K p + if isK K p then 1 else 0)) := rfl
  have HT : Hid ((K.take (plc K p)).length = plc K p ∧ ((K.take (plc K p)).map encC).length = plc K p) := ⟨by rw [List.length_take]; omega, by rw [List.length_map, List.length_take]; omega⟩
  clear h
  cases hb : isK K p with
  | false =>
    rw [hb] at CP HPu
    rw [if_neg (by simp), Nat.add_zero] at HPu
    clear hb
    generalize plc K p = pl at *
    by_cases hcq : c = pl
    · skip
      have hKl : K.length = pl := by omega
      subst c
      rw [hKl] at CP ⊢
      have HD : Hid ((K.drop (pl)).length = K.length - (pl)) := List.length_drop
      have H1 : Hid (∀ wx, Below w.heap.size w wx → ∀ j u, ((K.take pl).map encC).flatten[j]? = some u → wx.cell? ⟨g, 0 + j, none⟩ = some u) := fun wx hb j u hu => by
        rcases Nat.eq_zero_or_pos pl with h0 | h0
        · rw [h0] at hu; simp at hu
        · have := HS.out 0 pl (by omega) h0 wx hb j u (by simpa using hu)
          simpa using this
      have H2 : Hid (∀ wx, Below w.heap.size w wx → ∀ j u, ((K.drop (pl)).map encC).flatten[j]? = some u → wx.cell? ⟨g, (pl) * 2 + j, none⟩ = some u) := fun wx hb j u hu => by
        rcases Nat.lt_or_ge (pl) K.length with h0 | h0
        · refine HS.out (pl) (K.length - (pl)) (by omega) (by omega) wx hb j u ?_
          rw [List.take_of_length_le (by rw [List.length_drop]; omega)]
          exact hu
        · rw [List.drop_of_length_le h0] at hu; simp at hu
      have hb2 : (pl : Int) ≤ (K.length : Int) := by omega
      have hb4 : (pl : Int) ≤ ((pl : Nat) : Int) := by omega
      have hb5 : pl ≤ pl := by omega
      have hb6 : K.length ≤ pl := hkc
      have hb7 : (K.length : Int) ≤ ((pl : Nat) : Int) := by omega
      go_enter Try.func13, Try.ntmps13
      go_wp2_with first
        | (refine wpList_box_at (A := #[.string p, .string t]) _ rfl _ rfl rfl ?_; intro w1 b1 N1; have k1 : w1.cell? ⟨b1, 0, none⟩ = some (.string p) := N1.is.c 0)
        | (go_at_call 24; refine (CP.out _ N1.bel).mono ?_; rintro e w2 ⟨rfl, b2⟩; have X2 : Hid (Below w.heap.size w w2 ∧ At w2 b1 41 #[.string p, .string t]) := ⟨thn N1.bel b2, N1.is.bel b2⟩; clear b2)
        | (refine wpList_build0 _ rfl rfl bC0 ?_; intro w3 b3 N3; have G3 : Hid (Gat w w3 (.slice (some ⟨b3, 0, none⟩) 0 0) []) := Gat.start X2.out.1 N3; have A3 : Hid (At w3 b1 41 #[.string p, .string t]) := X2.out.2.bel N3.bel)
        | (have := G5.out; refine wpList_app0 rfl _ _ rfl rfl rfl (by have := HC5.out; omega) ?_)
        | (refine wpList_push elC (A := #[.string p, .string t]) (L := List.map encC (K.take pl)) rfl _ _ rfl rfl G4b.out.row rfl N4.is rfl (by intro u hu; simp at hu; rcases hu with rfl | rfl <;> rfl) (by rw [HT.out.2]; omega) ?_; intro a5 c5 w5 A5; rw [HT.out.2] at A5 ⊢; have G5 : Hid (Gat w w5 (.slice a5 (pl + 1) c5) (K.take pl ++ [(p, t)])) := G4b.out.push (M2 := [(p, t)]) A5; have HC5 : Hid (pl + 1 ≤ c5) := (by obtain ⟨a7, c7, e7, h7⟩ := G5.out.row.sl; injection e7 with _ _ e8; rw [e8]; rw [List.length_map, List.length_append, HT.out.1] at h7; exact h7))
        | (refine wpList_load_at stC (A := #[.string p, .string t]) _ rfl _ rfl rfl A4.out rfl ?_)
        | (refine wpList_build1 (u := .agg #[.string p, .string t]) (A := #[.string p, .string t]) _ rfl _ rfl rfl (bC1 p t) ?_; intro w4b b4 N4; have G4b : Hid (Gat w w4b (.slice a4 pl c4) (K.take pl)) := G4.out.below N4.bel)
        | (refine wpList_append elC (L := []) (M := (K.take pl).map encC) (g := g) (of := 0) (m := pl) rfl _ _ rfl rfl (Row.empty N3.is) rfl HT.out.2 (enc_len _) (H1.out _ G3.out.bel) (flat_one _) (by have h1 := HT.out.2; simp only [List.length_nil]; omega) ?_; intro a4 c4 w4 A4'; rw [show ([] : List (List Value)).length + pl = pl from Nat.zero_add pl] at A4' ⊢; have G4 : Hid (Gat w w4 (.slice a4 pl c4) (K.take pl)) := G3.out.push (M2 := K.take pl) A4'; have A4 : Hid (At w4 b1 41 #[.string p, .string t]) := A3.out.keep (A4'.grow.block b1 A3.out.lt (fun e => by have e2 : some b1 = some b3 := e; injection e2 with e2; have := X2.out.2.lt; have := N3.eq; omega)))
      go_ret
      exact ⟨⟨_, rfl, by rw [HPu.out, List.drop_of_length_le (by omega), List.append_nil]; exact G5.out.row, G5.out.own⟩, G5.out.bel⟩
    · skip
      have HD : Hid ((K.drop (pl)).length = K.length - (pl)) := List.length_drop
      have H1 : Hid (∀ wx, Below w.heap.size w wx → ∀ j u, ((K.take pl).map encC).flatten[j]? = some u → wx.cell? ⟨g, 0 + j, none⟩ = some u) := fun wx hb j u hu => by
        rcases Nat.eq_zero_or_pos pl with h0 | h0
        · rw [h0] at hu; simp at hu
        · have := HS.out 0 pl (by omega) h0 wx hb j u (by simpa using hu)
          simpa using this
      have H2 : Hid (∀ wx, Below w.heap.size w wx → ∀ j u, ((K.drop (pl)).map encC).flatten[j]? = some u → wx.cell? ⟨g, (pl) * 2 + j, none⟩ = some u) := fun wx hb j u hu => by
        rcases Nat.lt_or_ge (pl) K.length with h0 | h0
        · refine HS.out (pl) (K.length - (pl)) (by omega) (by omega) wx hb j u ?_
          rw [List.take_of_length_le (by rw [List.length_drop]; omega)]
          exact hu
        · rw [List.drop_of_length_le h0] at hu; simp at hu
      have hb2 : (pl : Int) ≤ (K.length : Int) := by omega
      have hb4 : (pl : Int) ≤ (c : Int) := by omega
      have hb5 : pl ≤ c := by omega
      have hb6 : K.length ≤ c := hkc
      have hb7 : (K.length : Int) ≤ (c : Int) := by omega
      go_enter Try.func13, Try.ntmps13
      go_wp2_with first
        | (refine wpList_box_at (A := #[.string p, .string t]) _ rfl _ rfl rfl ?_; intro w1 b1 N1; have k1 : w1.cell? ⟨b1, 0, none⟩ = some (.string p) := N1.is.c 0)
        | (go_at_call 24; refine (CP.out _ N1.bel).mono ?_; rintro e w2 ⟨rfl, b2⟩; have X2 : Hid (Below w.heap.size w w2 ∧ At w2 b1 41 #[.string p, .string t]) := ⟨thn N1.bel b2, N1.is.bel b2⟩; clear b2)
        | (refine wpList_build0 _ rfl rfl bC0 ?_; intro w3 b3 N3; have G3 : Hid (Gat w w3 (.slice (some ⟨b3, 0, none⟩) 0 0) []) := Gat.start X2.out.1 N3; have A3 : Hid (At w3 b1 41 #[.string p, .string t]) := X2.out.2.bel N3.bel)
        | (have := G5.out; refine wpList_append elC (L := List.map encC (K.take pl ++ [(p, t)])) (M := (K.drop (pl)).map encC) (g := g) (of := (pl) * 2) (m := K.length - (pl)) rfl _ _ rfl rfl G5.out.row rfl (by rw [List.length_map]; exact HD.out) (enc_len _) (H2.out _ G5.out.bel) (flat_one _) (by have h1 := HT.out.1; have h2 := HD.out; simp only [List.length_map, List.length_append, List.length_singleton]; omega) ?_; intro a6 c6 w6 A6; have hl6 : (List.map encC (K.take pl ++ [(p, t)])).length = pl + 1 := (by have h1 := HT.out.1; simp only [List.length_map, List.length_append, List.length_singleton]; omega); rw [hl6] at A6 ⊢; have G6 := G5.out.push A6)
        | (refine wpList_push elC (A := #[.string p, .string t]) (L := List.map encC (K.take pl)) rfl _ _ rfl rfl G4b.out.row rfl N4.is rfl (by intro u hu; simp at hu; rcases hu with rfl | rfl <;> rfl) (by rw [HT.out.2]; omega) ?_; intro a5 c5 w5 A5; rw [HT.out.2] at A5 ⊢; have G5 : Hid (Gat w w5 (.slice a5 (pl + 1) c5) (K.take pl ++ [(p, t)])) := G4b.out.push (M2 := [(p, t)]) A5; have HC5 : Hid (pl + 1 ≤ c5) := (by obtain ⟨a7, c7, e7, h7⟩ := G5.out.row.sl; injection e7 with _ _ e8; rw [e8]; rw [List.length_map, List.length_append, HT.out.1] at h7; exact h7))
        | (refine wpList_load_at stC (A := #[.string p, .string t]) _ rfl _ rfl rfl A4.out rfl ?_)
        | (refine wpList_build1 (u := .agg #[.string p, .string t]) (A := #[.string p, .string t]) _ rfl _ rfl rfl (bC1 p t) ?_; intro w4b b4 N4; have G4b : Hid (Gat w w4b (.slice a4 pl c4) (K.take pl)) := G4.out.below N4.bel)
        | (refine wpList_append elC (L := []) (M := (K.take pl).map encC) (g := g) (of := 0) (m := pl) rfl _ _ rfl rfl (Row.empty N3.is) rfl HT.out.2 (enc_len _) (H1.out _ G3.out.bel) (flat_one _) (by have h1 := HT.out.2; simp only [List.length_nil]; omega) ?_; intro a4 c4 w4 A4'; rw [show ([] : List (List Value)).length + pl = pl from Nat.zero_add pl] at A4' ⊢; have G4 : Hid (Gat w w4 (.slice a4 pl c4) (K.take pl)) := G3.out.push (M2 := K.take pl) A4'; have A4 : Hid (At w4 b1 41 #[.string p, .string t]) := A3.out.keep (A4'.grow.block b1 A3.out.lt (fun e => by have e2 : some b1 = some b3 := e; injection e2 with e2; have := X2.out.2.lt; have := N3.eq; omega)))
      go_ret
      exact ⟨⟨_, rfl, by rw [HPu.out]; exact G6.row, G6.own⟩, G6.bel⟩
  | true =>
    rw [hb] at CP HPu
    have hpt : plc K p < K.length := (isK_at hb).1
    rw [if_pos rfl] at HPu
    clear hb
    generalize plc K p = pl at *
    by_cases hcq : c = pl + 1
    · skip
      have hKl : K.length = pl + 1 := by omega
      subst c
      rw [hKl] at CP ⊢
      have HD : Hid ((K.drop (pl + 1)).length = K.length - (pl + 1)) := List.length_drop
      have H1 : Hid (∀ wx, Below w.heap.size w wx → ∀ j u, ((K.take pl).map encC).flatten[j]? = some u → wx.cell? ⟨g, 0 + j, none⟩ = some u) := fun wx hb j u hu => by
        rcases Nat.eq_zero_or_pos pl with h0 | h0
        · rw [h0] at hu; simp at hu
        · have := HS.out 0 pl (by omega) h0 wx hb j u (by simpa using hu)
          simpa using this
      have H2 : Hid (∀ wx, Below w.heap.size w wx → ∀ j u, ((K.drop (pl + 1)).map encC).flatten[j]? = some u → wx.cell? ⟨g, (pl + 1) * 2 + j, none⟩ = some u) := fun wx hb j u hu => by
        rcases Nat.lt_or_ge (pl + 1) K.length with h0 | h0
        · refine HS.out (pl + 1) (K.length - (pl + 1)) (by omega) (by omega) wx hb j u ?_
          rw [List.take_of_length_le (by rw [List.length_drop]; omega)]
          exact hu
        · rw [List.drop_of_length_le h0] at hu; simp at hu
      have hw1 : IntKind.i64.wrap ((pl : Int) + 1) = (pl : Int) + 1 := by rw [IntKind.wrap_i64]; omega
      have htn : ((pl : Int) + 1).toNat = pl + 1 := by omega
      have hb1 : (0 : Int) ≤ (pl : Int) + 1 := by omega
      have hb2 : (pl : Int) + 1 ≤ (K.length : Int) := by omega
      have hb3 : pl + 1 ≤ K.length := by omega
      have hb4 : (pl : Int) ≤ ((pl + 1 : Nat) : Int) := by omega
      have hb5 : pl ≤ pl + 1 := by omega
      have hb6 : K.length ≤ pl + 1 := hkc
      have hb7 : (K.length : Int) ≤ ((pl + 1 : Nat) : Int) := by omega
      go_enter Try.func13, Try.ntmps13
      go_wp2_with first
        | (refine wpList_box_at (A := #[.string p, .string t]) _ rfl _ rfl rfl ?_; intro w1 b1 N1; have k1 : w1.cell? ⟨b1, 0, none⟩ = some (.string p) := N1.is.c 0)
        | (go_at_call 24; refine (CP.out _ N1.bel).mono ?_; rintro e w2 ⟨rfl, b2⟩; have X2 : Hid (Below w.heap.size w w2 ∧ At w2 b1 41 #[.string p, .string t]) := ⟨thn N1.bel b2, N1.is.bel b2⟩; clear b2)
        | (refine wpList_build0 _ rfl rfl bC0 ?_; intro w3 b3 N3; have G3 : Hid (Gat w w3 (.slice (some ⟨b3, 0, none⟩) 0 0) []) := Gat.start X2.out.1 N3; have A3 : Hid (At w3 b1 41 #[.string p, .string t]) := X2.out.2.bel N3.bel)
        | (have := G5.out; refine wpList_app0 rfl _ _ rfl rfl rfl (by have := HC5.out; omega) ?_)
        | (refine wpList_push elC (A := #[.string p, .string t]) (L := List.map encC (K.take pl)) rfl _ _ rfl rfl G4b.out.row rfl N4.is rfl (by intro u hu; simp at hu; rcases hu with rfl | rfl <;> rfl) (by rw [HT.out.2]; omega) ?_; intro a5 c5 w5 A5; rw [HT.out.2] at A5 ⊢; have G5 : Hid (Gat w w5 (.slice a5 (pl + 1) c5) (K.take pl ++ [(p, t)])) := G4b.out.push (M2 := [(p, t)]) A5; have HC5 : Hid (pl + 1 ≤ c5) := (by obtain ⟨a7, c7, e7, h7⟩ := G5.out.row.sl; injection e7 with _ _ e8; rw [e8]; rw [List.length_map, List.length_append, HT.out.1] at h7; exact h7))
        | (refine wpList_load_at stC (A := #[.string p, .string t]) _ rfl _ rfl rfl A4.out rfl ?_)
        | (refine wpList_build1 (u := .agg #[.string p, .string t]) (A := #[.string p, .string t]) _ rfl _ rfl rfl (bC1 p t) ?_; intro w4b b4 N4; have G4b : Hid (Gat w w4b (.slice a4 pl c4) (K.take pl)) := G4.out.below N4.bel)
        | (refine wpList_append elC (L := []) (M := (K.take pl).map encC) (g := g) (of := 0) (m := pl) rfl _ _ rfl rfl (Row.empty N3.is) rfl HT.out.2 (enc_len _) (H1.out _ G3.out.bel) (flat_one _) (by have h1 := HT.out.2; simp only [List.length_nil]; omega) ?_; intro a4 c4 w4 A4'; rw [show ([] : List (List Value)).length + pl = pl from Nat.zero_add pl] at A4' ⊢; have G4 : Hid (Gat w w4 (.slice a4 pl c4) (K.take pl)) := G3.out.push (M2 := K.take pl) A4'; have A4 : Hid (At w4 b1 41 #[.string p, .string t]) := A3.out.keep (A4'.grow.block b1 A3.out.lt (fun e => by have e2 : some b1 = some b3 := e; injection e2 with e2; have := X2.out.2.lt; have := N3.eq; omega)))
      go_ret
      exact ⟨⟨_, rfl, by rw [HPu.out, List.drop_of_length_le (by omega), List.append_nil]; exact G5.out.row, G5.out.own⟩, G5.out.bel⟩
    · skip
      have HD : Hid ((K.drop (pl + 1)).length = K.length - (pl + 1)) := List.length_drop
      have H1 : Hid (∀ wx, Below w.heap.size w wx → ∀ j u, ((K.take pl).map encC).flatten[j]? = some u → wx.cell? ⟨g, 0 + j, none⟩ = some u) := fun wx hb j u hu => by
        rcases Nat.eq_zero_or_pos pl with h0 | h0
        · rw [h0] at hu; simp at hu
        · have := HS.out 0 pl (by omega) h0 wx hb j u (by simpa using hu)
          simpa using this
      have H2 : Hid (∀ wx, Below w.heap.size w wx → ∀ j u, ((K.drop (pl + 1)).map encC).flatten[j]? = some u → wx.cell? ⟨g, (pl + 1) * 2 + j, none⟩ = some u) := fun wx hb j u hu => by
        rcases Nat.lt_or_ge (pl + 1) K.length with h0 | h0
        · refine HS.out (pl + 1) (K.length - (pl + 1)) (by omega) (by omega) wx hb j u ?_
          rw [List.take_of_length_le (by rw [List.length_drop]; omega)]
          exact hu
        · rw [List.drop_of_length_le h0] at hu; simp at hu
      have hw1 : IntKind.i64.wrap ((pl : Int) + 1) = (pl : Int) + 1 := by rw [IntKind.wrap_i64]; omega
      have htn : ((pl : Int) + 1).toNat = pl + 1 := by omega
      have hb1 : (0 : Int) ≤ (pl : Int) + 1 := by omega
      have hb2 : (pl : Int) + 1 ≤ (K.length : Int) := by omega
      have hb3 : pl + 1 ≤ K.length := by omega
      have hb4 : (pl : Int) ≤ (c : Int) := by omega
      have hb5 : pl ≤ c := by omega
      have hb6 : K.length ≤ c := hkc
      have hb7 : (K.length : Int) ≤ (c : Int) := by omega
      go_enter Try.func13, Try.ntmps13
      go_wp2_with first
        | (refine wpList_box_at (A := #[.string p, .string t]) _ rfl _ rfl rfl ?_; intro w1 b1 N1; have k1 : w1.cell? ⟨b1, 0, none⟩ = some (.string p) := N1.is.c 0)
        | (go_at_call 24; refine (CP.out _ N1.bel).mono ?_; rintro e w2 ⟨rfl, b2⟩; have X2 : Hid (Below w.heap.size w w2 ∧ At w2 b1 41 #[.string p, .string t]) := ⟨thn N1.bel b2, N1.is.bel b2⟩; clear b2)
        | (refine wpList_build0 _ rfl rfl bC0 ?_; intro w3 b3 N3; have G3 : Hid (Gat w w3 (.slice (some ⟨b3, 0, none⟩) 0 0) []) := Gat.start X2.out.1 N3; have A3 : Hid (At w3 b1 41 #[.string p, .string t]) := X2.out.2.bel N3.bel)
        | (have := G5.out; refine wpList_append elC (L := List.map encC (K.take pl ++ [(p, t)])) (M := (K.drop (pl + 1)).map encC) (g := g) (of := (pl + 1) * 2) (m := K.length - (pl + 1)) rfl _ _ rfl rfl G5.out.row rfl (by rw [List.length_map]; exact HD.out) (enc_len _) (H2.out _ G5.out.bel) (flat_one _) (by have h1 := HT.out.1; have h2 := HD.out; simp only [List.length_map, List.length_append, List.length_singleton]; omega) ?_; intro a6 c6 w6 A6; have hl6 : (List.map encC (K.take pl ++ [(p, t)])).length = pl + 1 := (by have h1 := HT.out.1; simp only [List.length_map, List.length_append, List.length_singleton]; omega); rw [hl6] at A6 ⊢; rw [show pl + 1 + (K.length - (pl + 1)) = K.length by omega] at A6 ⊢; have G6 := G5.out.push A6)
        | (refine wpList_push elC (A := #[.string p, .string t]) (L := List.map encC (K.take pl)) rfl _ _ rfl rfl G4b.out.row rfl N4.is rfl (by intro u hu; simp at hu; rcases hu with rfl | rfl <;> rfl) (by rw [HT.out.2]; omega) ?_; intro a5 c5 w5 A5; rw [HT.out.2] at A5 ⊢; have G5 : Hid (Gat w w5 (.slice a5 (pl + 1) c5) (K.take pl ++ [(p, t)])) := G4b.out.push (M2 := [(p, t)]) A5; have HC5 : Hid (pl + 1 ≤ c5) := (by obtain ⟨a7, c7, e7, h7⟩ := G5.out.row.sl; injection e7 with _ _ e8; rw [e8]; rw [List.length_map, List.length_append, HT.out.1] at h7; exact h7))
        | (refine wpList_load_at stC (A := #[.string p, .string t]) _ rfl _ rfl rfl A4.out rfl ?_)
        | (refine wpList_build1 (u := .agg #[.string p, .string t]) (A := #[.string p, .string t]) _ rfl _ rfl rfl (bC1 p t) ?_; intro w4b b4 N4; have G4b : Hid (Gat w w4b (.slice a4 pl c4) (K.take pl)) := G4.out.below N4.bel)
        | (refine wpList_append elC (L := []) (M := (K.take pl).map encC) (g := g) (of := 0) (m := pl) rfl _ _ rfl rfl (Row.empty N3.is) rfl HT.out.2 (enc_len _) (H1.out _ G3.out.bel) (flat_one _) (by have h1 := HT.out.2; simp only [List.length_nil]; omega) ?_; intro a4 c4 w4 A4'; rw [show ([] : List (List Value)).length + pl = pl from Nat.zero_add pl] at A4' ⊢; have G4 : Hid (Gat w w4 (.slice a4 pl c4) (K.take pl)) := G3.out.push (M2 := K.take pl) A4'; have A4 : Hid (At w4 b1 41 #[.string p, .string t]) := A3.out.keep (A4'.grow.block b1 A3.out.lt (fun e => by have e2 : some b1 = some b3 := e; injection e2 with e2; have := X2.out.2.lt; have := N3.eq; omega)))
      go_ret
      exact ⟨⟨_, rfl, by rw [HPu.out]; exact G6.row, G6.own⟩, G6.bel⟩
set_option maxHeartbeats 4000000 in
theorem Gone_some {g c : Nat} (h : Row w 41 2 (.slice (some ⟨g, 0, none⟩) K.length c) (K.map encC)) (hn : K.length ≤ 1000) (p : ByteArray) (hk : isK K p = true) : Calls Try.prog 14 #[.slice (some ⟨g, 0, none⟩) K.length c, .string p] w fun e w' => ClE w e w' (delK K p) := by
  have HR : Hid (Row w 41 2 (.slice (some ⟨g, 0, none⟩) K.length c) (K.map encC)) := h
  obtain ⟨hkc, hcm⟩ : K.length ≤ c ∧ c ≤ 9223372036854775807 := by
    rcases h.row.2 with ⟨e, h0⟩ | ⟨g', cap, cur, e, _, _, h3, h4, _⟩
    · injection e with e1 e2 e3
      cases e1
    · injection e with e1 e2 e3
      rw [List.length_map] at h3
      unfold maxLen at h4
      omega
  have hx := plc_le K p
  have CP : Hid (∀ wx, Below w.heap.size w wx → Calls Try.prog 24 #[.slice (some ⟨g, 0, none⟩) K.length c, .string p] wx fun e w' => e = .returned (.tuple #[.int .i64 (plc K p : Nat), .bool (isK K p)]) ∧ Below wx.heap.size wx w') := fun wx hb => place_any (Rv.of_row (h.bel hb)) (by omega) p
  have HS : Hid (∀ i k, i + k ≤ K.length → 0 < k → ∀ wx, Below w.heap.size w wx → ∀ j u, (((K.drop i).take k).map encC).flatten[j]? = some u → wx.cell? ⟨g, i * 2 + j, none⟩ = some u) := fun i k h1 h2 wx hb => by
    obtain ⟨g', e, hh⟩ := seg_at h i k h1 h2
    cases e
    exact hh wx hb
  have HPu : Hid (delK K p = K.take (plc K p) ++ K.drop (plc K p + 1)) := if_pos hk
  have HT : Hid ((K.take (plc K p)).length = plc K p ∧ ((K.take (plc K p)).map encC).length = plc K p) := ⟨by rw [List.length_take]; omega, by rw [List.length_map, List.length_take]; omega⟩
  clear h
  rw [hk] at CP
  have hpt : plc K p < K.length := (isK_at hk).1
  clear hk
  generalize plc K p = pl at *
  by_cases hcq : c = pl + 1
  · skip
    have hKl : K.length = pl + 1 := by omega
    subst c
    rw [hKl] at CP ⊢
    have HD : Hid ((K.drop (pl + 1)).length = K.length - (pl + 1)) := List.length_drop
    have H1 : Hid (∀ wx, Below w.heap.size w wx → ∀ j u, ((K.take pl).map encC).flatten[j]? = some u → wx.cell? ⟨g, 0 + j, none⟩ = some u) := fun wx hb j u hu => by
      rcases Nat.eq_zero_or_pos pl with h0 | h0
      · rw [h0] at hu; simp at hu
      · have := HS.out 0 pl (by omega) h0 wx hb j u (by simpa using hu)
        simpa using this
    have H2 : Hid (∀ wx, Below w.heap.size w wx → ∀ j u, ((K.drop (pl + 1)).map encC).flatten[j]? = some u → wx.cell? ⟨g, (pl + 1) * 2 + j, none⟩ = some u) := fun wx hb j u hu => by
      rcases Nat.lt_or_ge (pl + 1) K.length with h0 | h0
      · refine HS.out (pl + 1) (K.length - (pl + 1)) (by omega) (by omega) wx hb j u ?_
        rw [List.take_of_length_le (by rw [List.length_drop]; omega)]
        exact hu
      · rw [List.drop_of_length_le h0] at hu; simp at hu
    have hw1 : IntKind.i64.wrap ((pl : Int) + 1) = (pl : Int) + 1 := by rw [IntKind.wrap_i64]; omega
    have htn : ((pl : Int) + 1).toNat = pl + 1 := by omega
    have hb1 : (0 : Int) ≤ (pl : Int) + 1 := by omega
    have hb2 : (pl : Int) + 1 ≤ (K.length : Int) := by omega
    have hb3 : pl + 1 ≤ K.length := by omega
    have hb4 : (pl : Int) ≤ ((pl + 1 : Nat) : Int) := by omega
    have hb5 : pl ≤ pl + 1 := by omega
    have hb6 : K.length ≤ pl + 1 := hkc
    have hb7 : (K.length : Int) ≤ ((pl + 1 : Nat) : Int) := by omega
    go_enter Try.func14, Try.ntmps14
    go_wp2_with first
      | (go_at_call 24; refine (CP.out _ (Below.refl _ _)).mono ?_; rintro e w2 ⟨rfl, b2⟩; have X2 : Hid (Below w.heap.size w w2) := b2; clear b2)
      | (refine wpList_build0 _ rfl rfl bC0 ?_; intro w3 b3 N3; have G3 : Hid (Gat w w3 (.slice (some ⟨b3, 0, none⟩) 0 0) []) := Gat.start X2.out N3)
      | (have := G4.out; refine wpList_app0 rfl _ _ rfl rfl rfl (by have := HC4.out; omega) ?_)
      | (refine wpList_append elC (L := []) (M := (K.take pl).map encC) (g := g) (of := 0) (m := pl) rfl _ _ rfl rfl (Row.empty N3.is) rfl HT.out.2 (enc_len _) (H1.out _ G3.out.bel) (flat_one _) (by have h1 := HT.out.2; simp only [List.length_nil]; omega) ?_; intro a4 c4 w4 A4'; rw [show ([] : List (List Value)).length + pl = pl from Nat.zero_add pl] at A4' ⊢; have G4 : Hid (Gat w w4 (.slice a4 pl c4) (K.take pl)) := G3.out.push (M2 := K.take pl) A4'; have HC4 : Hid (pl ≤ c4) := (by obtain ⟨a7, c7, e7, h7⟩ := G4.out.row.sl; injection e7 with _ _ e8; rw [e8]; rw [HT.out.2] at h7; exact h7))
    go_ret
    exact ⟨⟨_, rfl, by rw [HPu.out, List.drop_of_length_le (by omega), List.append_nil]; exact G4.out.row, G4.out.own⟩, G4.out.bel⟩
  · skip
    have HD : Hid ((K.drop (pl + 1)).length = K.length - (pl + 1)) := List.length_drop
    have H1 : Hid (∀ wx, Below w.heap.size w wx → ∀ j u, ((K.take pl).map encC).flatten[j]? = some u → wx.cell? ⟨g, 0 + j, none⟩ = some u) := fun wx hb j u hu => by
      rcases Nat.eq_zero_or_pos pl with h0 | h0
      · rw [h0] at hu; simp at hu
      · have := HS.out 0 pl (by omega) h0 wx hb j u (by simpa using hu)
        simpa using this
    have H2 : Hid (∀ wx, Below w.heap.size w wx → ∀ j u, ((K.drop (pl + 1)).map encC).flatten[j]? = some u → wx.cell? ⟨g, (pl + 1) * 2 + j, none⟩ = some u) := fun wx hb j u hu => by
      rcases Nat.lt_or_ge (pl + 1) K.length with h0 | h0
      · refine HS.out (pl + 1) (K.length - (pl + 1)) (by omega) (by omega) wx hb j u ?_
        rw [List.take_of_length_le (by rw [List.length_drop]; omega)]
        exact hu
      · rw [List.drop_of_length_le h0] at hu; simp at hu
    have hw1 : IntKind.i64.wrap ((pl : Int) + 1) = (pl : Int) + 1 := by rw [IntKind.wrap_i64]; omega
    have htn : ((pl : Int) + 1).toNat = pl + 1 := by omega
    have hb1 : (0 : Int) ≤ (pl : Int) + 1 := by omega
    have hb2 : (pl : Int) + 1 ≤ (K.length : Int) := by omega
    have hb3 : pl + 1 ≤ K.length := by omega
    have hb4 : (pl : Int) ≤ (c : Int) := by omega
    have hb5 : pl ≤ c := by omega
    have hb6 : K.length ≤ c := hkc
    have hb7 : (K.length : Int) ≤ (c : Int) := by omega
    go_enter Try.func14, Try.ntmps14
    go_wp2_with first
      | (go_at_call 24; refine (CP.out _ (Below.refl _ _)).mono ?_; rintro e w2 ⟨rfl, b2⟩; have X2 : Hid (Below w.heap.size w w2) := b2; clear b2)
      | (refine wpList_build0 _ rfl rfl bC0 ?_; intro w3 b3 N3; have G3 : Hid (Gat w w3 (.slice (some ⟨b3, 0, none⟩) 0 0) []) := Gat.start X2.out N3)
      | (have := G4.out; refine wpList_append elC (L := List.map encC (K.take pl)) (M := (K.drop (pl + 1)).map encC) (g := g) (of := (pl + 1) * 2) (m := K.length - (pl + 1)) rfl _ _ rfl rfl G4.out.row rfl (by rw [List.length_map]; exact HD.out) (enc_len _) (H2.out _ G4.out.bel) (flat_one _) (by have h1 := HT.out.1; have h2 := HD.out; simp only [List.length_map]; omega) ?_; intro a6 c6 w6 A6; have hl6 : (List.map encC (K.take pl)).length = pl := (by have h1 := HT.out.1; simp only [List.length_map, List.length_append, List.length_singleton]; omega); rw [hl6] at A6 ⊢; have G6 := G4.out.push A6)
      | (refine wpList_append elC (L := []) (M := (K.take pl).map encC) (g := g) (of := 0) (m := pl) rfl _ _ rfl rfl (Row.empty N3.is) rfl HT.out.2 (enc_len _) (H1.out _ G3.out.bel) (flat_one _) (by have h1 := HT.out.2; simp only [List.length_nil]; omega) ?_; intro a4 c4 w4 A4'; rw [show ([] : List (List Value)).length + pl = pl from Nat.zero_add pl] at A4' ⊢; have G4 : Hid (Gat w w4 (.slice a4 pl c4) (K.take pl)) := G3.out.push (M2 := K.take pl) A4'; have HC4 : Hid (pl ≤ c4) := (by obtain ⟨a7, c7, e7, h7⟩ := G4.out.row.sl; injection e7 with _ _ e8; rw [e8]; rw [HT.out.2] at h7; exact h7))
    go_ret
    exact ⟨⟨_, rfl, by rw [HPu.out]; exact G6.row, G6.own⟩, G6.bel⟩
/-- Lay of a row that rises, or of none. -/
theorem Lay_row {v : Value} (h : Row w 41 2 v (K.map encC)) (hn : K.length ≤ 1000) (p t : ByteArray) : Calls Try.prog 13 #[v, .agg #[.string p, .string t]] w fun e w' => ClE w e w' (putK K (p, t)) := by
  rcases h.row.2 with ⟨rfl, h0⟩ | ⟨g, cap, cur, e, hB, hg, h3, h4, h5, h6⟩
  · have hK : K = [] := List.eq_nil_of_length_eq_zero (by rw [List.length_map] at h0; exact h0)
    subst hK
    exact Lay_nil w p t
  · rw [List.length_map] at e
    subst e
    exact Lay_some h hn p t
/-- What Gone leaves. -/
structure GoE (w : World) (e : Ending) (w' : World) (v : Value) (K : List CL) : Prop where
  ex : ∃ v', e = .returned v' ∧ Row w' 41 2 v' (K.map encC) ∧ (v' = v ∨ ∀ g, v'.ownBlock = some g → w.heap.size ≤ g)
  bel : Below w.heap.size w w'
theorem Gone_no {a : Option Addr} {c : Nat} (h : Row w 41 2 (.slice a K.length c) (K.map encC)) (hn : K.length ≤ 1000) (p : ByteArray) (hk : isK K p = false) : Calls Try.prog 14 #[.slice a K.length c, .string p] w fun e w' => e = .returned (.slice a K.length c) ∧ Below w.heap.size w w' := by
  have CP := place_any (Rv.of_row h) (by omega) p
  rw [hk] at CP
  clear h hk
  generalize K.length = m at *
  generalize plc K p = pl at *
  go_enter Try.func14, Try.ntmps14
  go_wp2_with (go_at_call 24; refine CP.mono ?_; rintro e w2 ⟨rfl, b2⟩)
  go_ret
  exact ⟨rfl, b2⟩
theorem Gone_row {v : Value} (h : Row w 41 2 v (K.map encC)) (hn : K.length ≤ 1000) (p : ByteArray) : Calls Try.prog 14 #[v, .string p] w fun e w' => GoE w e w' v (delK K p) := by
  obtain ⟨a, c, ea, _⟩ := h.sl
  rw [List.length_map] at ea
  subst ea
  cases hk : isK K p with
  | false =>
    have e9 : delK K p = K := by unfold delK; rw [if_neg (by rw [hk]; simp)]
    rw [e9]
    refine (Gone_no h hn p hk).mono ?_
    rintro e w' ⟨rfl, hb⟩
    exact ⟨⟨_, rfl, h.bel hb, Or.inl rfl⟩, hb⟩
  | true =>
    obtain ⟨hp, _⟩ := isK_at hk
    rcases h.row.2 with ⟨e, h0⟩ | ⟨g, cap, cur, e, hB, hg, h3, h4, h5, h6⟩
    · rw [List.length_map] at h0; omega
    · injection e with e1 e2 e3
      subst e1
      refine (Gone_some h hn p hk).mono ?_
      rintro e w' ⟨⟨v', rfl, r1, r2⟩, r3⟩
      exact ⟨⟨v', rfl, r1, Or.inr r2⟩, r3⟩
end
end Go.Proofs.Ytkcpclmkbmeigab.Fd
