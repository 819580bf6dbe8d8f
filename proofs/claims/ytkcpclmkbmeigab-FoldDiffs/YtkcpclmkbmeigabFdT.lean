/- Diff. -/
import Derived.Test.YtkcpclmkbmeigabFdR
namespace Go.Proofs.Ytkcpclmkbmeigab.Fd
open Go.RowKit Gm Go.Maps
set_option linter.unusedVariables false
set_option linter.unusedSimpArgs false
set_option maxRecDepth 100000
theorem elS : El 44 9 1 (.string ⟨#[]⟩) := ⟨Try.underlying44, by
  obtain ⟨i, h1, h2, h3, h4⟩ := info_parts (show (Try.prog.info? 9).map (fun i => (i.zero, i.size, i.bytes)) = some (some (.string ⟨#[]⟩), 1, 16) by kernel_rfl)
  exact ⟨i, h1, h2, h3, by omega⟩, rfl, by omega⟩
theorem bS1 (k : ByteArray) (w : World) : (Instr.buildSlice 44 1 #[(0, .string k)]).run Try.prog w = .ok (.slice (some ⟨w.heap.size, 0, none⟩) 1 1) (w.alloc (.cells #[.string k] 9)) := by kernel_rfl
theorem zCv (w : World) : (zeroValue 41).run Try.prog w = .ok (.agg #[.string ⟨#[]⟩, .string ⟨#[]⟩]) w := by kernel_rfl
theorem oneC (k x : ByteArray) : ∀ u ∈ (#[.string k, .string x] : Array Value).toList, u.oneCell' = true := by
  intro u hu; simp at hu; rcases hu with rfl | rfl <;> rfl
/-- Within Diff. -/
structure DfM (w wr : World) (b1 b2 : Nat) (v : Value) (m1 m2 : Nat) (f1 f2 : Lit → Option Value) (ks : List ByteArray) : Prop where
  bel : Below w.heap.size w wr
  p1 : Mp wr 9 b1 m1 f1
  p2 : Mp wr 9 b2 m2 f2
  row : Row wr 9 1 v (sK ks)
  own : ∀ g, v.ownBlock = some g → w.heap.size ≤ g
  ge : w.heap.size ≤ b1 ∧ w.heap.size ≤ b2 ∧ b1 ≠ b2
section
variable {w wr w' w2 : World} {b1 b2 m1 m2 n2 : Nat} {v v' : Value} {f1 f2 g2 : Lit → Option Value} {ks : List ByteArray} {k : ByteArray} {A B : List CL}
theorem DfM.below (h : DfM w wr b1 b2 v m1 m2 f1 f2 ks) (hb : Below wr.heap.size wr w') : DfM w w' b1 b2 v m1 m2 f1 f2 ks := ⟨thn h.bel hb, h.p1.bel hb, h.p2.bel hb, h.row.bel hb, h.own, h.ge⟩
theorem DfM.put2 (h : DfM w wr b1 b2 v m1 m2 f1 f2 ks) (T : wr.mapTurned w' b2) (M : Mp w' 9 b2 n2 g2) : DfM w w' b1 b2 v m1 n2 f1 g2 ks :=
  ⟨h.bel.trans ((turned_fr T (W := (· = b2)) rfl).bel (fun j hj => by rw [hj]; exact h.ge.2.1) h.bel.size), h.p1.keep (turned_off T b1 h.ge.2.2), M, h.row.keep (fun g e => turned_off T g (fun e2 => row_neMp h.row h.p2 (by rw [← e2]; exact e))), h.own, h.ge⟩
theorem DfM.push (h : DfM w wr b1 b2 v m1 m2 f1 f2 ks) (A : App wr w' 9 1 v v' (sK ks ++ [[.string k]])) : DfM w w' b1 b2 v' m1 m2 f1 f2 (ks ++ [k]) :=
  ⟨h.bel.trans (A.bel (fun g e => h.own g e) h.bel.size), h.p1.keep (A.grow.block b1 h.p1.lt (fun e => row_neMp h.row h.p1 e.symm)), h.p2.keep (A.grow.block b2 h.p2.lt (fun e => row_neMp h.row h.p2 e.symm)), by unfold sK; rw [List.map_append]; exact A.row, fun g e => A.own.elim (fun e2 => h.own g (e2.symm.trans e)) (fun e2 => by rw [e2] at e; cases e; exact h.bel.size), h.ge⟩
theorem np_belC {w1 w2 w3 : World} {b : Nat} {t : TypeId} {A A' : Array Value} (N : New w1 w2 b t A) (P : Put w2 w3 b t A') : Below w1.heap.size w1 w3 := np_bel N P
theorem DfM.next {rb cnt cnt2 mm : Nat} {left l2 : Lit → Bool} (h : DfM w wr b1 b2 v m1 m2 f1 f2 ks) (r : Mr wr 9 b1 rb mm f1 left cnt) (r2 : Mr w' 9 b1 rb mm f1 l2 cnt2) (hr : w.heap.size ≤ rb) (ho : ∀ j, j ≠ rb → w'.heap[j]? = wr.heap[j]?) (hf : Fr (· = rb) (· = rb) wr w') : DfM w w' b1 b2 v m1 m2 f1 f2 ks := by
  obtain ⟨x, y, z, u, hb⟩ := Mr.blkR r
  have n2 : b2 ≠ rb := fun e => by obtain ⟨es, cl, h1⟩ := h.p2.blk; rw [e, hb] at h1; cases h1
  exact ⟨h.bel.trans (hf.bel (fun j hj => by rw [hj]; exact hr) h.bel.size), h.p1.keep (ho b1 (Ne.symm r.ne)), h.p2.keep (ho b2 n2), h.row.keep (fun g e => ho g (fun e2 => by obtain ⟨cur, hc⟩ := h.row.blkAt e; rw [e2, hb] at hc; cases hc)), h.own, h.ge⟩
theorem mr_push {rb cnt mm : Nat} {left : Lit → Bool} {M : List (List Value)} (r : Mr wr 9 b1 rb mm f1 left cnt) (hrow : Row wr 9 1 v (sK ks)) (A : App wr w' 9 1 v v' M) : Mr w' 9 b1 rb mm f1 left cnt := by
  obtain ⟨x, y, z, u, hb⟩ := Mr.blkR r
  exact r.keep (A.grow.block b1 r.mp.lt (fun e => row_neMp hrow r.mp e.symm)) (A.grow.block rb r.lt (fun e => by obtain ⟨cur, hc⟩ := hrow.blkAt e.symm; rw [hb] at hc; cases hc))
structure DfO (w : World) (A B : List CL) (e : Ending) (w' : World) : Prop where
  ex : ∃ v D, e = .returned v ∧ Row w' 9 1 v (sK D) ∧ DfK A B D
  bel : Below w.heap.size w w'
set_option maxHeartbeats 4000000 in
theorem Diff_any {va vb : Value} (hA : Rv w va A) (hB : Rv w vb B) (ra : Ris A) (rb : Ris B) (na : A.length ≤ 100) (nb : B.length ≤ 100) (ka : ∀ c ∈ A, c.1.size ≤ 9223372036854775807) (kb : ∀ c ∈ B, c.1.size ≤ 9223372036854775807) :
    Calls Try.prog 15 #[va, vb] w fun e w' => DfO w A B e w' := by
  obtain ⟨a1, c1, rfl, -⟩ := hA.ex
  obtain ⟨a2, c2, rfl, -⟩ := hB.ex
  have HA : Hid (Rv w (.slice a1 A.length c1) A) := hA
  have HB : Hid (Rv w (.slice a2 B.length c2) B) := hB
  have HR : Hid (Ris A ∧ Ris B) := ⟨ra, rb⟩
  have HKa : Hid (∀ c ∈ A, keyOf Try.prog 9 (.string c.1) = some (.string c.1.data.toList)) := fun c hc => keyS (ka c hc)
  have HKb : Hid (∀ c ∈ B, keyOf Try.prog 9 (.string c.1) = some (.string c.1.data.toList)) := fun c hc => keyS (kb c hc)
  have hSt := stC
  have hSh := stH
  clear hA hB ra rb ka kb
  obtain ⟨n, hn⟩ : ∃ n, A.length = n := ⟨_, rfl⟩
  have Hn : Hid (A.length = n) := hn
  obtain ⟨m, hm⟩ : ∃ m, B.length = m := ⟨_, rfl⟩
  have Hm : Hid (B.length = m) := hm
  rw [hn] at HA na ⊢
  rw [hm] at HB nb ⊢
  clear hn hm
  go_enter Try.func15, Try.ntmps15
  go_wp2_with (refine wpList_make_mp (kt := 9) _ rfl rfl ?_; intro w1 b1 p1 e1 q1)
  subst e1
  obtain ⟨b1, hb1⟩ : ∃ b1, b1 = w.heap.size := ⟨_, rfl⟩
  have HB1 : Hid (b1 = w.heap.size) := hb1
  rw [← hb1] at p1 ⊢
  clear hb1
  have L1 : Hid (Below w.heap.size w w1 ∧ ∃ m1, Mp w1 9 b1 m1 (fK (haF (A.take 0))) ∧ m1 ≤ 0) := ⟨q1, 0, p1.ext (fun l => by cases l <;> rfl), Nat.le_refl _⟩
  clear p1 q1
  go_loopg [16] n (fun k vi wr => ∃ i : Nat, vi = .int .i64 (i : Int) ∧ n - i ≤ k ∧ i ≤ n ∧ Below w.heap.size w wr ∧ ∃ m1, Mp wr 9 b1 m1 (fK (haF (A.take i))) ∧ m1 ≤ i)
  case atStart => exact ⟨0, rfl, by omega, by omega, L1.out⟩
  case round =>
    clear L1
    obtain ⟨i, rfl, hk, hin, hB0, m1, hM0, hm1⟩ := hrel
    have HW : Hid (Below w.heap.size w wr ∧ Mp wr 9 b1 m1 (fK (haF (A.take i)))) := ⟨hB0, hM0⟩
    clear hB0 hM0
    by_cases hlt : i < n
    · have hltI : (i : Int) < (n : Int) := by omega
      have hi1 : i < A.length := by have := Hn.out; omega
      obtain ⟨g, o, rfl, _, x0, x1⟩ := (HA.out.bel HW.out.1).at_ hi1
      have hKk : Hid (keyOf Try.prog 9 (.string A[i].1) = some (.string A[i].1.data.toList)) := HKa.out _ (List.getElem_mem hi1)
      have HT : Hid (haF (A.take (i + 1)) = putH (haF (A.take i)) A[i].1 ⟨A[i].2, true⟩) := by show _ = _; rw [List.take_succ_eq_append_getElem hi1, haF_snoc]
      generalize A[i].1 = ck at *
      generalize A[i].2 = cv at *
      go_wp2_with first
        | (refine wpList_new_at (A := #[.string ⟨#[]⟩, .string ⟨#[]⟩]) _ zCv rfl rfl ?_; intro w2 b7 N2)
        | (refine wpList_put_at (A := #[.string ⟨#[]⟩, .string ⟨#[]⟩]) (A' := #[.string ck, .string cv]) hSt _ rfl _ _ rfl rfl rfl N2.is rfl rfl (oneC _ _) ?_; intro w3 P3; have Y3 : Hid (Below w.heap.size w w3 ∧ Mp w3 9 b1 m1 (fK (haF (A.take i)))) := ⟨thn HW.out.1 (np_bel N2 P3), HW.out.2.bel (np_bel N2 P3)⟩; have y0 : w3.cell? ⟨b7, 0, none⟩ = some (.string ck) := P3.is.c 0; have y1 : w3.cell? ⟨b7, 1, none⟩ = some (.string cv) := P3.is.c 1)
        | (refine wpList_store_mp _ rfl _ _ _ rfl KS uK (by omega) rfl Y3.out.2 rfl rfl hKk.out ?_; intro w4 M4 T4)
      have h4 : Below w.heap.size w w4 := Y3.out.1.trans ((turned_fr T4 (W := (· = b1)) rfl).bel (fun j hj => by rw [hj, HB1.out]; exact Nat.le_refl _) Y3.out.1.size)
      have M5 : Mp w4 9 b1 (if (fK (haF (A.take i)) (.string ck.data.toList)).isSome then m1 else m1 + 1) (fK (haF (A.take (i + 1)))) := by
        rw [HT.out]
        exact M4.ext (fK_put _ _ _)
      go_roundg (n - (i + 1))
      case measure => omega
      case rel => exact ⟨i + 1, by first | rfl | go_num, Nat.le_refl _, by omega, h4, _, M5, by split <;> omega⟩
    · have hltI : ¬ (i : Int) < (n : Int) := by omega
      have e9 : A.take i = A := List.take_of_length_le (by have := Hn.out; omega)
      rw [e9] at HW
      clear e9
      go_wp2_with (refine wpList_make_mp (kt := 9) _ rfl rfl ?_; intro w6 b2 p6 e6 q6; have HE6 : Hid (b2 = wr.heap.size) := e6; clear e6)
      have D6 : Hid (DfM w w6 b1 b2 (.slice none 0 0) m1 0 (fK (haF A)) (cnF (B.take 0)) (kyB A (B.take 0)) ∧ m1 ≤ 100) := ⟨⟨thn HW.out.1 q6, HW.out.2.bel q6, p6.ext (fun l => by cases l <;> rfl), Row.nil _ _ _, fun g e => (by cases e), ⟨by rw [HB1.out]; exact Nat.le_refl _, by rw [HE6.out]; exact HW.out.1.size, by rw [HE6.out]; exact Nat.ne_of_lt HW.out.2.lt⟩⟩, by omega⟩
      clear p6 q6 HW HA HKa
      go_loopg [9, 30] m (fun k vk vi wr => ∃ i : Nat, vi = .int .i64 (i : Int) ∧ m - i ≤ k ∧ i ≤ m ∧ ∃ m2, DfM w wr b1 b2 vk m1 m2 (fK (haF A)) (cnF (B.take i)) (kyB A (B.take i)) ∧ m2 ≤ i ∧ (kyB A (B.take i)).length ≤ i)
      case atStart => exact ⟨0, rfl, by omega, by omega, 0, D6.out.1, Nat.le_refl _, Nat.le_refl _⟩
      case round =>
        have HM1 : Hid (m1 ≤ 100) := D6.out.2
        clear D6
        obtain ⟨i, rfl, hk, him, m2, hD, hm2, hkl⟩ := hrel
        have HD : Hid (DfM w wr b1 b2 u9 m1 m2 (fK (haF A)) (cnF (B.take i)) (kyB A (B.take i))) := hD
        clear hD
        by_cases hl2 : i < m
        · have hltI : (i : Int) < (m : Int) := by omega
          have hi1 : i < B.length := by have := Hm.out; omega
          obtain ⟨g, o, rfl, _, x0, x1⟩ := (HB.out.bel HD.out.bel).at_ hi1
          have hKk : Hid (keyOf Try.prog 9 (.string B[i].1) = some (.string B[i].1.data.toList)) := HKb.out _ (List.getElem_mem hi1)
          have HT : Hid (B.take (i + 1) = B.take i ++ [B[i]]) := List.take_succ_eq_append_getElem hi1
          have HZ : Hid (cnF (B.take i) (.string B[i].1.data.toList) = none) := by
            show _ = _
            rw [cnF_at, if_neg]
            rw [List.any_eq_true]
            rintro ⟨c, hc, e⟩
            have e : c.1 = B[i].1 := by simpa using e
            obtain ⟨j, hj, e2⟩ := List.getElem_of_mem hc
            rw [List.length_take] at hj
            rw [List.getElem_take] at e2
            have := ris_key HR.out.2 (i := j) (j := i) (by omega) hi1 (by rw [e2]; exact e)
            omega
          have HG : Hid (fK (haF A) (.string B[i].1.data.toList) = (lkK (haF A) B[i].1.data.toList).map fun p => .agg p.2.A) := rfl
          have HI : Hid (eqH (haG A B[i].1) ⟨B[i].2, true⟩ = inA A B[i]) := by
            show _ = _
            rw [Bool.eq_iff_iff, eqH_iff, inA_iff]
            exact haG_eq HR.out.1 B[i]
          have HKy : Hid (kyB A (B.take (i + 1)) = if inA A B[i] then kyB A (B.take i) else kyB A (B.take i) ++ [B[i].1]) := by
            show _ = _
            rw [HT.out, kyB_snoc]
          have HCn : Hid (∀ l, cnF (B.take (i + 1)) l = updL (cnF (B.take i)) (.string B[i].1.data.toList) (some (.int .i64 1)) l) := fun l => by rw [HT.out]; exact cnF_snoc _ _ l
          have HGt : Hid (haG A B[i].1 = ((lkK (haF A) B[i].1.data.toList).map (·.2)).getD zH) := rfl
          generalize inA A B[i] = isin at *
          clear HT
          generalize B[i].1 = ck at *
          generalize B[i].2 = cv at *
          have hlF : ∀ wx mx, Mp wx 9 b1 mx (fK (haF A)) → (Instr.lookup 56 (.map (some b1)) (.string ck) false).run Try.prog wx = .ok (.agg (haG A ck).A) wx := fun wx mx hx => by
            have := hx.look1 KS uK (zKv _) hKk.out
            rw [HG.out] at this
            rw [this, HGt.out]
            cases lkK (haF A) ck.data.toList <;> rfl
          have HlF : Hid (∀ wx mx, Mp wx 9 b1 mx (fK (haF A)) → (Instr.lookup 56 (.map (some b1)) (.string ck) false).run Try.prog wx = .ok (.agg (haG A ck).A) wx) := hlF
          clear hlF HG HGt
          obtain ⟨gv, gi, hg⟩ : ∃ gv gi, haG A ck = ⟨gv, gi⟩ := ⟨_, _, rfl⟩
          rw [hg] at HI HlF
          clear hg
          have heq : ∀ wx, (binOp .neq 60 (.agg #[.string gv, .bool gi]) (.agg #[.string cv, .bool true])).run Try.prog wx = .ok (.bool (!isin)) wx := fun wx => by
            have := eqlsH wx ⟨gv, gi⟩ ⟨cv, true⟩
            rw [HI.out] at this
            exact this
          unfold Hs.A at HlF
          have hw1 : IntKind.i64.wrap ((0 : Int) + 1) = 1 := by decide
          cases isin with
          | true =>
            go_wp2_with first
              | (refine wpList_new_at (A := #[.string ⟨#[]⟩, .string ⟨#[]⟩]) _ zCv rfl rfl ?_; intro w7 b7 N7)
              | (refine wpList_put_at (A := #[.string ⟨#[]⟩, .string ⟨#[]⟩]) (A' := #[.string ck, .string cv]) hSt _ rfl _ _ rfl rfl rfl N7.is rfl rfl (oneC _ _) ?_; intro w8 P8; have D8 : Hid (DfM w w8 b1 b2 u9 m1 m2 (fK (haF A)) (cnF (B.take i)) (kyB A (B.take i))) := HD.out.below (np_bel N7 P8); have Z8 : Hid (At w8 b7 41 #[.string ck, .string cv]) := P8.is; have y0 : w8.cell? ⟨b7, 0, none⟩ = some (.string ck) := P8.is.c 0; have y1 : w8.cell? ⟨b7, 1, none⟩ = some (.string cv) := P8.is.c 1; have hl8 : (Instr.lookup 61 (.map (some b2)) (.string ck) false).run Try.prog w8 = .ok (.int .i64 0) w8 := (by have := D8.out.p2.look1 KS uN (zNv _) hKk.out; rw [HZ.out] at this; exact this))
              | (refine wpList_store_mp _ rfl _ _ _ rfl KS uN (by omega) rfl D8.out.p2 rfl rfl hKk.out ?_; intro w9 M9 T9; have D9 : Hid (DfM w w9 b1 b2 u9 m1 (m2 + 1) (fK (haF A)) (cnF (B.take (i + 1))) (kyB A (B.take i))) := D8.out.put2 T9 ((by rw [HZ.out] at M9; exact M9 : Mp w9 9 b2 (m2 + 1) _).ext HCn.out); have Z9 : Hid (At w9 b7 41 #[.string ck, .string cv]) := Z8.out.keep (turned_off T9 b7 (fun e => D8.out.p2.ne Z8.out e.symm)); have z0 : w9.cell? ⟨b7, 0, none⟩ = some (.string ck) := Z9.out.c 0; have z1 : w9.cell? ⟨b7, 1, none⟩ = some (.string cv) := Z9.out.c 1; have hl9 := HlF.out w9 _ D9.out.p1; clear M9 T9)
            go_roundg (m - (i + 1))
            case measure => omega
            case rel => exact ⟨i + 1, by first | rfl | go_num, Nat.le_refl _, by omega, m2 + 1, by rw [HKy.out]; simp only [if_true]; exact D9.out, by omega, by rw [HKy.out]; simp only [if_true]; omega⟩
          | false =>
            go_wp2_with first
              | (refine wpList_new_at (A := #[.string ⟨#[]⟩, .string ⟨#[]⟩]) _ zCv rfl rfl ?_; intro w7 b7 N7)
              | (refine wpList_put_at (A := #[.string ⟨#[]⟩, .string ⟨#[]⟩]) (A' := #[.string ck, .string cv]) hSt _ rfl _ _ rfl rfl rfl N7.is rfl rfl (oneC _ _) ?_; intro w8 P8; have D8 : Hid (DfM w w8 b1 b2 u9 m1 m2 (fK (haF A)) (cnF (B.take i)) (kyB A (B.take i))) := HD.out.below (np_bel N7 P8); have Z8 : Hid (At w8 b7 41 #[.string ck, .string cv]) := P8.is; have y0 : w8.cell? ⟨b7, 0, none⟩ = some (.string ck) := P8.is.c 0; have y1 : w8.cell? ⟨b7, 1, none⟩ = some (.string cv) := P8.is.c 1; have hl8 : (Instr.lookup 61 (.map (some b2)) (.string ck) false).run Try.prog w8 = .ok (.int .i64 0) w8 := (by have := D8.out.p2.look1 KS uN (zNv _) hKk.out; rw [HZ.out] at this; exact this))
              | (refine wpList_store_mp _ rfl _ _ _ rfl KS uN (by omega) rfl D8.out.p2 rfl rfl hKk.out ?_; intro w9 M9 T9; have D9 : Hid (DfM w w9 b1 b2 u9 m1 (m2 + 1) (fK (haF A)) (cnF (B.take (i + 1))) (kyB A (B.take i))) := D8.out.put2 T9 ((by rw [HZ.out] at M9; exact M9 : Mp w9 9 b2 (m2 + 1) _).ext HCn.out); have Z9 : Hid (At w9 b7 41 #[.string ck, .string cv]) := Z8.out.keep (turned_off T9 b7 (fun e => D8.out.p2.ne Z8.out e.symm)); have z0 : w9.cell? ⟨b7, 0, none⟩ = some (.string ck) := Z9.out.c 0; have z1 : w9.cell? ⟨b7, 1, none⟩ = some (.string cv) := Z9.out.c 1; have hl9 := HlF.out w9 _ D9.out.p1; clear M9 T9)
              | (refine wpList_build1 (u := .string ck) (A := #[.string ck]) _ rfl _ rfl rfl (bS1 ck) ?_; intro w10 b10 N10; have D10 := D9.out.below N10.bel)
              | (refine wpList_push elS (A := #[.string ck]) (L := sK (kyB A (B.take i))) rfl _ _ rfl rfl D10.row rfl N10.is rfl (by intro u hu; simp at hu; subst hu; rfl) (by rw [sK_len]; omega) ?_; intro a11 c11 w11 A11; have D11 := D10.push A11)
            go_roundg (m - (i + 1))
            case measure => omega
            case rel => exact ⟨i + 1, by first | rfl | go_num, Nat.le_refl _, by omega, m2 + 1, by rw [HKy.out, if_neg (by simp)]; exact D11, by omega, by rw [HKy.out, if_neg (by simp), List.length_append, List.length_singleton]; omega⟩
        · have hltI : ¬ (i : Int) < (m : Int) := by omega
          have e9 : B.take i = B := List.take_of_length_le (by have := Hm.out; omega)
          rw [e9] at HD hkl
          clear e9 HB
          go_wp2_with (at_range; refine wpList_range_mp _ rfl _ rfl KS uK rfl HD.out.p1 ?_; intro w12 rb hr R12 B12; have HRr : Hid (rb = wr.heap.size) := hr; clear hr)
          have X12 : Hid (DfM w w12 b1 b2 u9 m1 m2 (fK (haF A)) (cnF B) (kyB A B ++ []) ∧ Mr w12 9 b1 rb m1 (fK (haF A)) (fun l => (fK (haF A) l).isSome) m1 ∧ KyE A B (fun l => (fK (haF A) l).isSome) []) := ⟨by rw [List.append_nil]; exact HD.out.below B12, R12, KyE.start A B⟩
          have HRb : Hid (w.heap.size ≤ rb) := by show _ ≤ _; rw [HRr.out]; exact HD.out.bel.size
          clear R12 B12
          go_loopw [9] (fun uk wr => ∃ (left : Lit → Bool) (cnt : Nat) (E : List ByteArray), DfM w wr b1 b2 uk m1 m2 (fK (haF A)) (cnF B) (kyB A B ++ E) ∧ Mr wr 9 b1 rb m1 (fK (haF A)) left cnt ∧ KyE A B left E ∧ E.length + cnt ≤ 100) (fun uk wr => wr.rangeLeft b1 rb)
          case atStart => exact ⟨_, m1, [], X12.out.1, X12.out.2.1, X12.out.2.2, by have := HM1.out; simp; omega⟩
          case round =>
            clear X12 HD
            obtain ⟨left, cnt, E, hD, hMr, hE, hc⟩ := hrel
            rename World => wo
            have HD : Hid (DfM w wo b1 b2 u9 m1 m2 (fK (haF A)) (cnF B) (kyB A B ++ E)) := hD
            have HMr : Hid (Mr wo 9 b1 rb m1 (fK (haF A)) left cnt) := hMr
            have HE : Hid (KyE A B left E ∧ E.length + cnt ≤ 100 ∧ (kyB A B).length ≤ i) := ⟨hE, hc, hkl⟩
            clear hD hMr hE hc
            go_wp2_with (first
              | (at_next; refine wpList_next_mp encStr Lit.string _ rfl _ rfl KS (fun key l => invS) rfl HMr.out ?_ ?_)
              | go_in)
            · intro hc0 hl0
              obtain ⟨hnd, hK⟩ := HE.out.1.done hl0 HR.out.1 HR.out.2
              have hlen : (kyB A B ++ E).length ≤ 100000 := by rw [List.length_append]; have := HE.out.2.1; have := HE.out.2.2; omega
              obtain ⟨a5, c5, e5, _⟩ := HD.out.row.sl
              rw [sK_len] at e5
              subst e5
              have CS := Sort_row HD.out.row hlen
              have CC : Hid (∀ wx c, Row wx 9 1 (.slice a5 (kyB A B ++ E).length c) (sK (sortB (kyB A B ++ E))) → Calls Try.prog 26 #[.slice a5 (kyB A B ++ E).length c] wx fun e w' => e = .returned (.slice a5 (kyB A B ++ E).length c) ∧ StO wx w' (.slice a5 (kyB A B ++ E).length c) (sortB (kyB A B ++ E))) := fun wx c hx => by
                have := sortB_len (kyB A B ++ E)
                rw [← this] at hx ⊢
                exact Compact_row hx (by omega) (sortB_up hnd)
              have HK2 : Hid (DfK A B (sortB (kyB A B ++ E))) := hK
              have HO : Hid (Below w.heap.size w wo ∧ ∀ g, (Value.slice a5 (kyB A B ++ E).length c5).ownBlock = some g → w.heap.size ≤ g) := ⟨HD.out.bel, HD.out.own⟩
              clear HD HE HMr hnd hK hlen
              generalize sortB (kyB A B ++ E) = D at *
              generalize (kyB A B ++ E).length = q at *
              go_wp2_with first
                | (go_at_call 25; refine CS.mono ?_; rintro e w13 ⟨rfl, o13⟩)
                | (go_at_call 26; refine (CC.out _ _ o13.row).mono ?_; rintro e w14 ⟨rfl, o14⟩)
              go_ret
              have g13 := HO.out.1.trans ((Fr.grown (W := fun j => w.heap.size ≤ j) o13.gr (fun g e => HO.out.2 g e)).bel (fun j hj => hj) HO.out.1.size)
              exact ⟨⟨_, D, rfl, o14.row, HK2.out⟩, g13.trans ((Fr.grown (W := fun j => w.heap.size ≤ j) o14.gr (fun g e => HO.out.2 g e)).bel (fun j hj => hj) g13.size)⟩
            · intro x vx w13 cnt2 hk hl hv hr5 hlt ho hf hen
              obtain ⟨p, hp, rfl, rfl⟩ := fK_inv hv
              obtain ⟨kb2, xv, xi⟩ := p
              dsimp only at hp hk hl hv hr5 hlt hen ⊢
              rw [encS] at hen hk ⊢
              have D13 : Hid (DfM w w13 b1 b2 u9 m1 m2 (fK (haF A)) (cnF B) (kyB A B ++ E)) := HD.out.next HMr.out hr5 HRb.out ho hf
              have R13 : Hid (Mr w13 9 b1 rb m1 (fK (haF A)) (fun z => left z && !z.sameKey (.string kb2.data.toList)) cnt2) := hr5
              have E13 : Hid (KyE A B (fun z => left z && !z.sameKey (.string kb2.data.toList)) (if (B.any fun c => decide (c.1 = kb2)) then E else E ++ [kb2])) := HE.out.1.step (by rw [hp]; rfl) hl
              have HC : Hid (cnt2 < cnt ∧ wo.rangeLeft b1 rb = cnt) := ⟨hlt, HMr.out.left_eq⟩
              have hl9 : (Instr.lookup 61 (.map (some b2)) (.string kb2) false).run Try.prog w13 = .ok (((cnF B (.string kb2.data.toList)).getD (.int .i64 0))) w13 := D13.out.p2.look1 KS uN (zNv _) hk
              rw [cnF_at] at hl9
              clear hr5 ho hf hv hl hlt hk hp
              generalize (B.any fun c => decide (c.1 = kb2)) = isb at *
              cases isb with
              | true =>
                simp only [if_true, Option.getD_some] at hl9 E13
                go_wp2
                go_roundw
                case rel => exact ⟨_, cnt2, E, D13.out, R13.out, E13.out, by have := HE.out.2.1; have := HC.out.1; omega⟩
                case measure => rw [R13.out.left_eq, HC.out.2]; exact HC.out.1
              | false =>
                simp only [Bool.false_eq_true, if_false, Option.getD_none] at hl9 E13
                go_wp2_with first
                  | (refine wpList_build1 (u := .string kb2) (A := #[.string kb2]) _ rfl _ rfl rfl (bS1 kb2) ?_; intro w15 b15 N15; have D15 := D13.out.below N15.bel; have R15 := R13.out.bel N15.bel)
                  | (refine wpList_push elS (A := #[.string kb2]) (L := sK (kyB A B ++ E)) rfl _ _ rfl rfl D15.row rfl N15.is rfl (by intro u hu; simp at hu; subst hu; rfl) (by rw [sK_len, List.length_append]; have := HE.out.2.1; have := HE.out.2.2; omega) ?_; intro a16 c16 w16 A16; have D16 := D15.push A16; have R16 := mr_push R15 D15.row A16)
                go_roundw
                case rel => exact ⟨_, cnt2, E ++ [kb2], by rw [← List.append_assoc]; exact D16, R16, E13.out, by rw [List.length_append, List.length_singleton]; have := HE.out.2.1; have := HC.out.1; omega⟩
                case measure => rw [R16.left_eq, HC.out.2]; exact HC.out.1
end
end Go.Proofs.Ytkcpclmkbmeigab.Fd
