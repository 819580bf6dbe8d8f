/- Who: the transactions that bar something. -/
import Derived.Test.YtkpjamdlpofgcaaLkW
import Derived.WalkMore
import Derived.Deep.LoopGhost
namespace Go.Proofs.Ytkpjamdlpofgcaa
open Go.RowKit
set_option linter.unusedVariables false
set_option linter.unusedSimpArgs false
set_option maxRecDepth 100000
def iv (ps : List Int) : List Value := ps.map fun p => .int .i64 p
structure Is (B : Nat) (w : World) (v : Value) (ps : List Int) : Prop where
  row : w.ownsRow B 3 1 v ps.length (iv ps)
section
variable {B C : Nat} {w w' : World} {v : Value} {ps : List Int}
theorem Is.nil (B : Nat) (w : World) : Is B w (.slice none 0 0) [] := ⟨rfl, Or.inl ⟨rfl, rfl⟩⟩
theorem Is.slice (h : Is B w v ps) : ∃ a c, v = .slice a ps.length c := by
  obtain ⟨h1, h2⟩ := h.row
  rcases h2 with ⟨rfl, h2⟩ | ⟨g, cap, cur, e, hB, hg, h3⟩
  · exact ⟨none, 0, by rw [h2]⟩
  · exact ⟨_, _, e⟩
theorem Is.blkAt {g : Nat} (h : Is B w v ps) (e : v.ownBlock = some g) : B ≤ g ∧ g < w.heap.size := by
  obtain ⟨h1, h2⟩ := h.row
  rcases h2 with ⟨rfl, h2⟩ | ⟨g', cap, cur, e', hB, hg, h3⟩
  · cases e
  · subst e'
    cases e
    exact ⟨hB, (Array.getElem?_eq_some_iff.1 hg).1⟩
theorem Is.bel (h : Is B w v ps) (hb : Below w.heap.size w w') : Is B w' v ps := by
  obtain ⟨h1, h2⟩ := h.row
  refine ⟨h1, ?_⟩
  rcases h2 with h2 | ⟨g, cap, cur, e, hB, hg, h3⟩
  · exact Or.inl h2
  · exact Or.inr ⟨g, cap, cur, e, hB, (hb.block g (Array.getElem?_eq_some_iff.1 hg).1).trans hg, h3⟩
theorem Is.less (h : Is B w v ps) (hC : C ≤ B) : Is C w v ps := by
  obtain ⟨h1, h2⟩ := h.row
  refine ⟨h1, ?_⟩
  rcases h2 with h2 | ⟨g, cap, cur, e, hB, h3⟩
  · exact Or.inl h2
  · exact Or.inr ⟨g, cap, cur, e, Nat.le_trans hC hB, h3⟩
theorem Is.at_ {a : Option Addr} {n c : Nat} (h : Is B w (.slice a n c) ps) {i : Nat} (hi : i < ps.length) : ∃ g, a = some ⟨g, 0, none⟩ ∧ g < w.heap.size ∧ ∀ w' : World, w'.heap[g]? = w.heap[g]? → w'.cell? ⟨g, i, none⟩ = some (.int .i64 ps[i]) := by
  obtain ⟨h1, h2⟩ := h.row
  rcases h2 with ⟨_, h2⟩ | ⟨g, cap, cur, e, hB, hg, h3, h4, h5, h6⟩
  · omega
  · cases e
    refine ⟨g, rfl, (Array.getElem?_eq_some_iff.1 hg).1, fun w' hw => ?_⟩
    rw [cell_of_row w' g i cur 3 (0, 0) (hw.trans hg)]
    have : (iv ps)[i]? = some (.int .i64 ps[i]) := by simp [iv, hi]
    rw [← h6, List.getElem?_take, if_pos (by omega)] at this
    simpa using this
end
theorem infoI : ∃ i, Try.prog.info? 3 = some i ∧ i.zero = some (.int .i64 0) ∧ i.size = 1 ∧ i.bytes = 8 :=
  info_parts (show (Try.prog.info? 3).map (fun i => (i.zero, i.size, i.bytes)) = some (some (.int .i64 0), 1, 8) by kernel_rfl)
theorem wpList_append_is {ops : Array Oper} {rest : List Oper} {o : Oper} {act : Act} {Q : Exit → Act → World → Prop} {B : Nat} {w : World} {ps : List Int} {v : Value} (hgd : o.guard = none) (s x : Operand)
    (ho : o.op = .call { callee := .builtin .append, args := #[s, x], argTypes := #[39, 39] }) (hs : act.eval s = v) (hrow : Is B w v ps) {g c : Nat} {p : Int}
    (hx : act.eval x = .slice (some ⟨g, 0, none⟩) 1 c) (hg : w.cell? ⟨g, 0, none⟩ = some (.int .i64 p)) (hB : B ≤ w.heap.size) (hl : ps.length ≤ 90000)
    (K : ∀ a' c' w', Is B w' (.slice a' (ps.length + 1) c') (ps ++ [p]) → Below B w w' → wpList Try.prog ops Q rest (act.put o.dst (.slice a' (ps.length + 1) c')) w') : wpList Try.prog ops Q (o :: rest) act w := by
  refine wpList_plain hgd fun K' hK => ?_
  obtain ⟨i, hi, hz0, hz1, hz2⟩ := infoI
  obtain ⟨v', w', hr, h2, h3, _⟩ := run_append_own (P := Try.prog) w B 39 o.type 3 i (.int .i64 0) 1 8 Try.underlying39 hi hz0 hz1 hz2 rfl (by omega) v ps.length (iv ps) hrow.row ⟨g, 0, none⟩ 1 c [.int .i64 p] rfl (fun j u hu => by
    have : j = 0 := by
      have := (List.getElem?_eq_some_iff.1 hu).1
      simpa using this
    subst this
    have hadd : (⟨g, 0, none⟩ : Addr).add 0 = ⟨g, 0, none⟩ := by unfold Addr.add; split <;> simp_all
    rw [hadd, hg]
    simpa using hu) (fun u hu => by simp at hu; subst hu; rfl) (by unfold maxLen; omega) (by omega) hB
  have h2' : Is B w' v' (ps ++ [p]) := ⟨by rw [List.length_append, List.length_singleton]; unfold iv; rw [List.map_append]; exact h2⟩
  obtain ⟨a', c', e⟩ := h2'.slice
  unfold Oper.wp execOp
  simp only [ho, resolve, invoke, builtin, Sem.run_bind, Sem.run_pure, Result.andThen_ok, List.map_toArray, List.map_cons, List.map_nil, hs, hx]
  simp only [hr]
  subst e
  rw [List.length_append, List.length_singleton] at h2' ⊢
  exact hK _ _ (K _ _ w' h2' (grown_below h3 (fun g e => (hrow.blkAt e).1) hB))
/-- A transaction more, if it is not told yet. -/
def addT (out : List Int) (g : Hd) : List Int := if g.x ∈ out then out else out ++ [g.x]
def whoM (L : List Hd) (h : Hd) : List Int := (L.filter (fun g => barM g h)).foldl addT []
theorem addT_len (out : List Int) (g : Hd) : (addT out g).length ≤ out.length + 1 := by unfold addT; split <;> simp
theorem fold_len (F : List Hd) : (F.foldl addT []).length ≤ F.length := by
  have : ∀ (F : List Hd) (o : List Int), (F.foldl addT o).length ≤ o.length + F.length := by
    intro F
    induction F with
    | nil => intro o; simp
    | cons g F ih =>
      intro o
      have h1 := ih (addT o g)
      have h2 := addT_len o g
      simp only [List.foldl_cons, List.length_cons]
      omega
  simpa using this F []
theorem fold_take {F : List Hd} {i : Nat} (hi : i < F.length) : (F.take (i + 1)).foldl addT [] = addT ((F.take i).foldl addT []) F[i] := by
  rw [List.take_succ_eq_append_getElem hi, List.foldl_append]
  rfl
structure WhO (w w' : World) (e : Ending) (ps : List Int) : Prop where
  ex : ∃ a c, e = .returned (.slice a ps.length c) ∧ Is w.heap.size w' (.slice a ps.length c) ps
  bel : Below w.heap.size w w'
section
variable {B tb : Nat} {w w' wx : World} {a : Option Addr} {c : Nat} {L : List Hd} {n : Int} {v v' : Value}
set_option maxHeartbeats 2000000 in
theorem Who_any (hT : TbIs B w tb (.slice a L.length c) L n) (hl : L.length ≤ 80000) (h : Hd) : Calls Try.prog 21 #[.pointer (some ⟨tb, 0, none⟩), .agg h.A] w fun e w' => WhO w w' e (whoM L h) := by
  have CK : Hid (∀ wx hb, HdAt wx hb h → TbIs B wx tb (.slice a L.length c) L n → Calls Try.prog 32 #[.slice a L.length c, .func (.func 34) #[] #[.pointer (some ⟨hb, 0, none⟩)]] wx fun e w' => KpO wx w' e (L.filter (fun g => barM g h))) := fun wx hb h0 h2 => kept_any h2.hs (by omega) (prWho wx h0)
  have T : Hid (TbIs B w tb (.slice a L.length c) L n) := hT
  have hle : (L.filter (fun g => barM g h)).length ≤ 80000 := Nat.le_trans (List.length_filter_le _ _) hl
  clear hT hl
  unfold whoM
  generalize L.filter (fun g => barM g h) = F at *
  go_enter Try.func21, Try.ntmps21
  go_wp2_with (refine wpList_box_hd (n := h) _ rfl _ rfl rfl ?_; intro w0 b0 N0; have c0 := (T.out.bel N0.below).c0)
  go_step3
  go_wp2
  go_step3
  go_wp2_with (go_at_call 32; refine (CK.out _ _ N0.hd (T.out.bel N0.below)).mono ?_; rintro e w2 ⟨⟨aF, cF, rfl, hsF⟩, b2⟩; have HF : Hid (Hs w0.heap.size w2 (.slice aF F.length cF) F) := hsF; have B2 : Hid (Below w.heap.size w w2) := thn N0.below b2; clear hsF b2)
  clear c0 CK T
  go_loopw [5, 7, 9, 19, 25] (fun s5 s7 s9 s19 s25 wr => ∃ (i : Nat), s19 = .int .i64 (i : Int) ∧ i ≤ F.length ∧ Below w2.heap.size w2 wr ∧ ∃ a5 c5, s5 = .slice a5 ((F.take i).foldl addT []).length c5 ∧ Is w2.heap.size wr s5 ((F.take i).foldl addT [])) (fun s5 s7 s9 s19 s25 _ => F.length - (intOf s19).toNat)
  case atStart => exact ⟨0, rfl, Nat.zero_le _, Below.refl _ _, none, 0, by simp, by simpa using Is.nil _ _⟩
  case round =>
    obtain ⟨i, rfl, hi, hb0, a5, c5, rfl, h5⟩ := hrel
    have H5 : Hid (Is w2.heap.size wr (.slice a5 ((F.take i).foldl addT []).length c5) ((F.take i).foldl addT [])) := h5
    have HB : Hid (Below w2.heap.size w2 wr) := hb0
    clear h5 hb0
    by_cases hlt : i < F.length
    · have hltI : (i : Int) < (F.length : Int) := by omega
      obtain ⟨gb, ea, hgl, hcell⟩ := HF.out.at_ hlt
      subst ea
      have hr : Hid (wr.rangeAt gb (i * 5) (F[i].A.toList)) := hcell wr (HB.out.block gb hgl)
      have HT : Hid ((F.take (i + 1)).foldl addT [] = addT ((F.take i).foldl addT []) F[i]) := fold_take hlt
      have hol : Hid (((F.take i).foldl addT []).length ≤ 90000) := (Nat.le_trans (fold_len _) (by rw [List.length_take]; omega) : ((F.take i).foldl addT []).length ≤ 90000)
      clear hcell hgl
      generalize (F.take i).foldl addT [] = O at *
      generalize F[i] = x at *
      go_wp2_with first
        | (refine wpList_load_hdm (n := x) _ rfl (.tmp 21) rfl rfl hr.out ?_)
        | (refine wpList_new_hd _ rfl rfl ?_; intro w3 b3 N3)
        | (refine wpList_put_hd (s := zH) (s' := x) _ rfl _ _ rfl rfl rfl N3.hd ?_; intro w4 P4; have B4 : Hid (Below wr.heap.size wr w4) := N3.below.trans (P4.below _ (by rw [N3.eq]; exact Nat.le_refl _) N3.below.size); have k0 := P4.hd.c0)
      have H6 : Hid (Is w2.heap.size w4 (.slice a5 O.length c5) O) := H5.out.bel B4.out
      have PB : Hid (HdAt w4 b3 x) := P4.hd
      have BB : Hid (Below w2.heap.size w2 w4) := thn HB.out B4.out
      have hO9 := hol.out
      clear N3 P4 H5 hr
      go_loopw [9, 25] (fun s9 s25 wq => ∃ (j : Nat), s25 = .int .i64 (j : Int) ∧ j ≤ O.length ∧ wq = w4 ∧ ∀ k, (hk : k < O.length) → k < j → O[k] ≠ x.x) (fun s9 s25 _ => O.length - (intOf s25).toNat)
      case atStart => exact ⟨0, rfl, Nat.zero_le _, rfl, fun k _ h => absurd h (Nat.not_lt_zero _)⟩
      case round =>
        obtain ⟨j, rfl, hj, rfl, hno⟩ := hrel
        have HN : Hid (∀ k, (hk : k < O.length) → k < j → O[k] ≠ x.x) := hno
        clear hno
        by_cases hjl : j < O.length
        · have hjI : (j : Int) < (O.length : Int) := by omega
          obtain ⟨go, eo, hgo, hco⟩ := H6.out.at_ hjl
          subst eo
          have ko := hco _ rfl
          clear hco hgo
          by_cases hq : O[j] = x.x
          · have HM : Hid (x.x ∈ O) := (hq ▸ List.getElem_mem hjl : x.x ∈ O)
            rw [hq] at ko
            clear hq
            go_wp2
            go_roundw
            case rel =>
              have e1 : addT O x = O := if_pos HM.out
              exact ⟨i + 1, by rfl, by omega, BB.out, _, _, by rw [HT.out, e1], by rw [HT.out, e1]; exact H6.out⟩
            case measure => simp [intOf]; omega
          · have hq' : (O[j] == x.x) = false := by simp [hq]
            have HQ : Hid (O[j] ≠ x.x) := hq
            go_wp2
            go_roundw
            case rel => exact ⟨j + 1, by rfl, by omega, by first | rfl | trivial, fun k hk h => (Nat.lt_succ_iff_lt_or_eq.1 h).elim (HN.out k hk) (fun e => by subst e; exact HQ.out)⟩
            case measure => simp [intOf]; omega
        · have hjI : ¬ (j : Int) < (O.length : Int) := by omega
          have HM : Hid (x.x ∉ O) := (fun hm => by obtain ⟨k, hk, e⟩ := List.getElem_of_mem hm; exact HN.out k hk (by omega) e : x.x ∉ O)
          have hlt4 := PB.out.lt
          go_wp2_with (refine wpList_append_is (p := x.x) rfl (.tmp 34) (.tmp 37) rfl rfl (H6.out.bel (bl1 _)) rfl (by simp) (Nat.le_trans BB.out.size (by simp)) hol.out ?_; intro a7 c7 w7 I7 q7)
          go_roundw
          case rel =>
            have e1 : addT O x = O ++ [x.x] := if_neg HM.out
            exact ⟨i + 1, by rfl, by omega, (thn BB.out (bl1 _)).trans q7, a7, c7, by rw [HT.out, e1, List.length_append]; rfl, by rw [HT.out, e1]; exact I7⟩
          case measure => simp [intOf]; omega
    · have hltI : ¬ (i : Int) < (F.length : Int) := by omega
      have HE : Hid (F.take i = F) := List.take_of_length_le (by omega)
      have H6 := H5.out
      rw [HE.out] at H6 ⊢
      clear H5
      have H5 : Hid (Is w2.heap.size wr (.slice a5 (F.foldl addT []).length c5) (F.foldl addT [])) := H6
      clear H6 HE
      go_wp2
      go_ret
      exact ⟨⟨_, _, rfl, H5.out.less B2.out.size⟩, thn B2.out HB.out⟩
end
end Go.Proofs.Ytkpjamdlpofgcaa
