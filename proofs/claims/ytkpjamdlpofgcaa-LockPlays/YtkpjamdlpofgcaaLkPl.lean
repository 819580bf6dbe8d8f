/- LockPlays: whatever is asked for and dropped, a table answers as the document's. -/
import Derived.Test.YtkpjamdlpofgcaaLkP
import Derived.Deep.RegionHeld3
namespace Go.Proofs.Ytkpjamdlpofgcaa
open Go.RowKit
set_option linter.unusedVariables false
set_option linter.unusedSimpArgs false
set_option maxRecDepth 100000
structure Pz (i : Nat) (L : List Hd) (n : Int) : Prop where
  i60 : i ≤ 60
  len : L.length ≤ i
  n0 : 0 ≤ n
  n1 : n ≤ i
  ok : ∀ g ∈ L, rightM g = true
theorem AskO.to2 {B tb : Nat} {w w' : World} {v : Value} {e : Ending} {r : Int × List Hd × Int} {k n : Int} {L : List Hd} (h : AskO B w w' tb v e r) (hr : r = (k, L, n)) : e = .returned (.int .i64 k) ∧ ∃ a c, TbTo B w w' tb v (.slice a L.length c) L n := by
  subst hr
  obtain ⟨v', t⟩ := h.ex
  obtain ⟨a, c, rfl⟩ := t.sl
  exact ⟨h.e, a, c, t⟩
theorem range_bel {w w' : World} {B b of : Nat} {xs : List Value} (h : w.rangeAt b of xs) (hb : Below B w w') (hl : b < B) : w'.rangeAt b of xs := fun j u hu => (hb.cell (p := ⟨b, of + j, none⟩) hl).trans (h j u hu)
theorem hd_cells {w : World} {b : Nat} {h : Hd} (q : HdAt w b h) : ∀ j u, (flatH [h])[j]? = some u → w.cell? ⟨b, 0 + j, none⟩ = some u := by
  intro j u hu
  simp only [flatH, List.append_nil] at hu
  rw [Nat.zero_add, cell_of_row w b j _ 23 (0, 0) q.blk]
  simpa using hu
theorem wpList_append_eq {ops : Array Oper} {rest : List Oper} {o : Oper} {act : Act} {Q : Exit → Act → World → Prop} {B : Nat} {w : World} {v : Value} {L L2 M : List Hd} (e2 : L2 = L ++ M) (hgd : o.guard = none) (s x : Operand)
    (ho : o.op = .call { callee := .builtin .append, args := #[s, x], argTypes := #[32, 32] }) (hs : act.eval s = v) (hrow : Hs B w v L) {b c : Nat}
    (hx : act.eval x = .slice (some ⟨b, 0, none⟩) M.length c) (hM : M ≠ []) (hn : ∀ j u, (flatH M)[j]? = some u → w.cell? ⟨b, 0 + j, none⟩ = some u) (hB : B ≤ w.heap.size) (hl : L.length + M.length ≤ 90000)
    (K : ∀ a' c' w', App B w w' v (.slice a' L2.length c') L2 → wpList Try.prog ops Q rest (act.put o.dst (.slice a' L2.length c')) w') : wpList Try.prog ops Q (o :: rest) act w := by
  subst e2
  exact wpList_append_all hgd s x ho hs hrow hx hM hn hB hl K
section
variable {w : World} {ao : Option Addr} {len co : Nat} {f : Nat → Op5}
set_option maxHeartbeats 16000000 in
theorem plays12_walk (hS : IsOps w ao len f) : Calls Try.prog 5 #[.slice ao len co] w fun e w' => e = .returned (.bool true) ∧ Below w.heap.size w w' := by
  have CW : Hid (∀ wx (M : List Hd) al cl x, Hs w.heap.size wx (.slice al M.length cl) M → M.length ≤ 80000 → Calls Try.prog 17 #[.slice al M.length cl, .int .i64 x] wx fun e w' => KpO wx w' e (M.filter (fun g => !decide (g.x = x)))) := fun wx M al cl x h1 h2 => without_any h1 h2 x
  have CD : Hid (∀ wx tb (L : List Hd) n a c x, TbIs w.heap.size wx tb (.slice a L.length c) L n → L.length ≤ 80000 → w.heap.size ≤ wx.heap.size → Calls Try.prog 18 #[.pointer (some ⟨tb, 0, none⟩), .int .i64 x] wx fun e w' => e = .returned (.int .i64 ((L.length : Int) - ((L.filter (fun g => !decide (g.x = x))).length : Int))) ∧ ∃ a' c', TbTo w.heap.size wx w' tb (.slice a L.length c) (.slice a' (L.filter (fun g => !decide (g.x = x))).length c') (L.filter (fun g => !decide (g.x = x))) n) := fun wx tb L n a c x h1 h2 h3 => (Drop_any h1 h2 x h3).mono fun e w' q => q.to2 rfl
  have CQ : Hid (∀ wx o, Calls Try.prog 19 #[.agg (Op5.A o)] wx fun e w' => e = .returned (.agg (askedM o).A) ∧ Below wx.heap.size wx w') := fun wx o => asked_any wx o
  have CR : Hid (∀ wx (h : Hd), Calls Try.prog 9 #[.agg h.A] wx fun e w' => e = .returned (.bool (rightM h)) ∧ Below wx.heap.size wx w') := fun wx h => right_any wx h
  have CO : Hid (∀ wx tb (L : List Hd) n a c h, TbIs w.heap.size wx tb (.slice a L.length c) L n → L.length ≤ 80000 → Calls Try.prog 21 #[.pointer (some ⟨tb, 0, none⟩), .agg (Hd.A h)] wx fun e w' => WhO wx w' e (whoM L h)) := fun wx tb L n a c h h1 h2 => Who_any h1 h2 h
  have CL : Hid (∀ wx (M : List Hd) al cl h, Hs w.heap.size wx (.slice al M.length cl) M → M.length ≤ 80000 → (∀ g ∈ M, rightM g = true) → rightM h = true → Calls Try.prog 20 #[.slice al M.length cl, .agg (Hd.A h)] wx fun e w' => WhO wx w' e (whoM M h)) := fun wx M al cl h h1 h2 h3 h4 => who_any h1 h2 h h3 h4
  have CH : Hid (∀ wx tb (L : List Hd) n a c h, TbIs w.heap.size wx tb (.slice a L.length c) L n → L.length ≤ 80000 → Calls Try.prog 22 #[.pointer (some ⟨tb, 0, none⟩), .agg (Hd.A h)] wx fun e w' => e = .returned (.bool (L.any (fun g => enoM g h))) ∧ Below wx.heap.size wx w') := fun wx tb L n a c h h1 h2 => Has_any h1 (by omega) h
  have CG : Hid (∀ wx (M : List Hd) al cl h, Hs w.heap.size wx (.slice al M.length cl) M → M.length ≤ 80000 → Calls Try.prog 23 #[.slice al M.length cl, .agg (Hd.A h)] wx fun e w' => e = .returned (.bool (M.any (fun g => enoM g h))) ∧ Below wx.heap.size wx w') := fun wx M al cl h h1 h2 => has_any h1 h2 h
  have CK : Hid (∀ wx tb (L : List Hd) n a c o, TbIs w.heap.size wx tb (.slice a L.length c) L n → L.length ≤ 80000 → (0 ≤ n ∧ n ≤ 1000000) → w.heap.size ≤ wx.heap.size → Calls Try.prog 24 #[.pointer (some ⟨tb, 0, none⟩), .agg (Op5.A o)] wx fun e w' => AskO w.heap.size wx w' tb (.slice a L.length c) e (askM L n (askedM o))) := fun wx tb L n a c o h1 h2 h3 h4 => ask_any h1 h2 h3 h4 o
  have CB : Hid (∀ wx tb (L : List Hd) n a c, TbIs w.heap.size wx tb (.slice a L.length c) L n → L.length ≤ 80000 → Calls Try.prog 26 #[.pointer (some ⟨tb, 0, none⟩)] wx fun e w' => KpO wx w' e L) := fun wx tb L n a c h1 h2 => All_any h1 h2
  have CS : Hid (∀ wx (L : List Hd) B1 a1 c1 a2 c2, Hs B1 wx (.slice a1 L.length c1) L → Hs w.heap.size wx (.slice a2 L.length c2) L → L.length ≤ 80000 → Calls Try.prog 25 #[.slice a1 L.length c1, .slice a2 L.length c2] wx fun e w' => e = .returned (.bool true) ∧ Below wx.heap.size wx w') := fun wx L B1 a1 c1 a2 c2 h1 h2 h3 => same_any h1 h2 h3
  have CC : Hid (∀ wx tb (L : List Hd) n v, TbIs w.heap.size wx tb v L n → Calls Try.prog 27 #[.pointer (some ⟨tb, 0, none⟩)] wx fun e w' => e = .returned (.int .i64 n) ∧ w' = wx) := fun wx tb L n v h1 => Count_any h1
  have CA : Hid (∀ wx, Calls Try.prog 10 #[] wx fun e w' => e = .returned (.bool true) ∧ Below wx.heap.size wx w') := fun wx => awake_any wx
  have CN : Hid (Calls Try.prog 16 #[] w fun e w' => e = .returned (.pointer (some ⟨w.heap.size, 0, none⟩)) ∧ TbIs w.heap.size w' w.heap.size (.slice none 0 0) [] 0 ∧ Below w.heap.size w w') := New_any w
  have HS : Hid (IsOps w ao len f) := hS
  clear hS
  go_enter Try.func5, Try.ntmps5
  go_wp2_with (go_at_call 16; refine CN.out.mono ?_; rintro e w1 ⟨rfl, t1, b1⟩; have T1 : Hid (Pl w.heap.size w w1 w.heap.size (.slice none 0 0) (.slice none 0 0) [] [] 0) := ⟨t1, Hs.nil _ _, (fun g e => by cases e), b1, b1.size⟩; clear t1 b1)
  clear CN
  go_loopw [4, 5, 6, 7, 8, 9, 10, 11, 12, 13] (fun s4 s5 s6 s7 s8 s9 s10 s11 s12 s13 wr => ∃ (i : Nat) (L : List Hd) (n : Int) (a : Option Addr) (c : Nat) (al : Option Addr) (cl : Nat), s4 = .slice al L.length cl ∧ s5 = .int .i64 n ∧ s6 = .int .i64 (i : Int) ∧ Pz i L n ∧ Pl w.heap.size w wr w.heap.size (.slice a L.length c) (.slice al L.length cl) L L n) (fun s4 s5 s6 s7 s8 s9 s10 s11 s12 s13 _ => 60 - (intOf s6).toNat)
  case atStart => exact ⟨0, [], 0, none, 0, none, 0, rfl, rfl, rfl, ⟨by omega, by simp, by omega, by omega, fun g hg => by cases hg⟩, T1.out⟩
  case round =>
    obtain ⟨i, L, n, a, c, al, cl, rfl, rfl, rfl, hz, hp⟩ := hrel
    have Z : Hid (Pz i L n) := hz
    have P0 : Hid (Pl w.heap.size w wr w.heap.size (.slice a L.length c) (.slice al L.length cl) L L n) := hp
    have hi60 := hz.i60
    have hLi := hz.len
    have hn0 := hz.n0
    have hn1 := hz.n1
    clear hz hp
    rename World => wo
    by_cases hlen : i < len
    · have hlenI : (i : Int) < (len : Int) := by omega
      by_cases h60 : i < 60
      · have h60I : (i : Int) < 60 := by omega
        obtain ⟨bs, off, ea, hbs, hrg⟩ := HS.out.at_ i hlen
        subst ea
        have hr0 : Hid (wo.rangeAt bs (off + i * 6) (f i).A.toList) := range_bel hrg P0.out.bel hbs
        clear hrg hbs HS
        generalize f i = o at *
        have hoh : Hid (askedM o = askedM o) := rfl
        by_cases hk : o.kd = 3
        · have hle : (L.filter (fun g => !decide (g.x = o.h.x))).length ≤ L.length := List.length_filter_le _ _
          have hok : Hid (∀ g ∈ L.filter (fun g => !decide (g.x = o.h.x)), rightM g = true) := (fun g hg => Z.out.ok g (List.mem_filter.1 hg).1 : ∀ g ∈ L.filter (fun g => !decide (g.x = o.h.x)), rightM g = true)
          have CW' : Hid (∀ wx, Hs w.heap.size wx (.slice al L.length cl) L → Calls Try.prog 17 #[.slice al L.length cl, .int .i64 o.h.x] wx fun e w' => KpO wx w' e (L.filter (fun g => !decide (g.x = o.h.x)))) := fun wx h1 => CW.out wx L al cl o.h.x h1 (by omega)
          have CD' : Hid (∀ wx, TbIs w.heap.size wx w.heap.size (.slice a L.length c) L n → w.heap.size ≤ wx.heap.size → Calls Try.prog 18 #[.pointer (some ⟨w.heap.size, 0, none⟩), .int .i64 o.h.x] wx fun e w' => e = .returned (.int .i64 ((L.length : Int) - ((L.filter (fun g => !decide (g.x = o.h.x))).length : Int))) ∧ ∃ a' c', TbTo w.heap.size wx w' w.heap.size (.slice a L.length c) (.slice a' (L.filter (fun g => !decide (g.x = o.h.x))).length c') (L.filter (fun g => !decide (g.x = o.h.x))) n) := fun wx h1 h3 => CD.out wx _ L n a c o.h.x h1 (by omega) h3
          clear CW CD CQ CR CO CL CH CG CK CB CS CC CA
          generalize L.filter (fun g => !decide (g.x = o.h.x)) = F at *
          obtain ⟨kd, h0⟩ := o
          simp only at hk
          subst hk
          have hw1 : IntKind.i64.wrap ((L.length : Int) - (F.length : Int)) = (L.length : Int) - (F.length : Int) := by rw [IntKind.wrap_i64]; omega
          go_wp2_with first
            | (refine wpList_load_opm (n := ⟨3, h0⟩) _ rfl (.tmp 27) rfl rfl hr0.out ?_)
            | (refine wpList_new_op _ rfl rfl ?_; intro w2 b3 O2 q2 e2)
            | (refine wpList_put_op (s := zO) (s' := ⟨3, h0⟩) _ rfl _ _ rfl rfl rfl O2 ?_; intro w3 O3 q3; have B3 : Hid (Below wo.heap.size wo w3) := q2.trans (q3 _ e2); have P3 : Hid (Pl w.heap.size w w3 w.heap.size (.slice a L.length c) (.slice al L.length cl) L L n) := P0.out.bl B3.out; have k0 : w3.cell? ⟨b3, 0, none⟩ = some (.int .i64 3) := O3.c0; have k1 : w3.cell? ⟨b3, 1, none⟩ = some (.int .i64 h0.x) := O3.c1; clear B3 e2)
            | (go_at_call 17; refine (CW'.out _ P3.out.l).mono ?_; rintro e w4 ⟨⟨a4, c4, rfl, hs4⟩, b4⟩; have P4 : Hid (Pl w.heap.size w w4 w.heap.size (.slice a L.length c) (.slice a4 F.length c4) L F n) := P3.out.left b4 hs4; have m1 : w4.cell? ⟨b3, 1, none⟩ = some (.int .i64 h0.x) := (O3.bel b4).c1; clear hs4)
            | (go_at_call 18; refine (CD'.out _ P4.out.is P4.out.hB).mono ?_; rintro e w5 ⟨rfl, a5, c5, t5⟩; have P5 : Hid (Pl w.heap.size w w5 w.heap.size (.slice a5 F.length c5) (.slice a4 F.length c4) F F n) := P4.out.ask t5; clear t5)
          go_roundw
          case rel => exact ⟨i + 1, F, n, a5, c5, a4, c4, rfl, rfl, by rfl, ⟨by omega, by omega, hn0, by omega, hok.out⟩, P5.out⟩
          case measure => simp [intOf]; omega
        · have HQ : Hid (∀ wx, Calls Try.prog 19 #[.agg (Op5.A o)] wx fun e w' => e = .returned (.agg (askedM o).A) ∧ Below wx.heap.size wx w') := fun wx => CQ.out wx o
          have HK : Hid (∀ wx, TbIs w.heap.size wx w.heap.size (.slice a L.length c) L n → w.heap.size ≤ wx.heap.size → Calls Try.prog 24 #[.pointer (some ⟨w.heap.size, 0, none⟩), .agg (Op5.A o)] wx fun e w' => AskO w.heap.size wx w' w.heap.size (.slice a L.length c) e (askM L n (askedM o))) := fun wx h1 h4 => CK.out wx _ L n a c o h1 (by omega) (by omega) h4
          clear CW CD CQ CK hoh
          generalize askedM o = h at *
          cases hr : rightM h
          · have HKr : Hid (∀ wx, TbIs w.heap.size wx w.heap.size (.slice a L.length c) L n → w.heap.size ≤ wx.heap.size → Calls Try.prog 24 #[.pointer (some ⟨w.heap.size, 0, none⟩), .agg (Op5.A o)] wx fun e w' => e = .returned (.int .i64 1) ∧ ∃ a' c', TbTo w.heap.size wx w' w.heap.size (.slice a L.length c) (.slice a' L.length c') L n) := fun wx h1 h4 => (HK.out wx h1 h4).mono fun e w' q => q.to2 (ask_bad hr)
            clear HK
            go_wp2_with first
              | (refine wpList_load_opm (n := o) _ rfl (.tmp 27) rfl rfl hr0.out ?_)
              | (refine wpList_new_op _ rfl rfl ?_; intro w2 b3 O2 q2 e2)
              | (refine wpList_put_op (s := zO) (s' := o) _ rfl _ _ rfl rfl rfl O2 ?_; intro w3 O3 q3; have B3 : Hid (Below wo.heap.size wo w3) := q2.trans (q3 _ e2); have P3 : Hid (Pl w.heap.size w w3 w.heap.size (.slice a L.length c) (.slice al L.length cl) L L n) := P0.out.bl B3.out; have k0 := O3.c0; have k1 := O3.c1; clear B3 e2)
              | (have := R; refine wpList_load_op (n := o) _ rfl (.tmp 7) rfl rfl R.out.r ?_)
              | (refine wpList_load_op (n := o) _ rfl (.tmp 7) rfl rfl O3 ?_)
              | (go_at_call 19; refine (HQ.out _).mono ?_; rintro e w4 ⟨rfl, q4⟩)
              | (refine wpList_new_hd _ rfl rfl ?_; intro w5 b6 N5)
              | (refine wpList_put_hd (s := zH) (s' := h) _ rfl _ _ rfl rfl rfl N5.hd ?_; intro w6 P6; have B6 : Hid (Below w3.heap.size w3 w6) := thn q4 (N5.below.trans (P6.below _ (by rw [N5.eq]; exact Nat.le_refl _) N5.below.size)); have R : Hid (Rn w.heap.size w w6 w.heap.size (.slice a L.length c) (.slice al L.length cl) L L n b3 o b6 h) := Rn.new (P3.out.bl B6.out) (O3.bel B6.out) P6.hd (fun g hg e => by have hq := N5.eq; have h4 := q4.size; rcases hg with hg | hg; (have := (P3.out.is.hs.blkAt hg).2.1; omega); (have := (P3.out.l.blkAt hg).2.1; omega)))
              | (refine wpList_load_hd (n := h) _ rfl (.tmp 9) rfl rfl R.out.q ?_)
              | (go_at_call 9; refine (CR.out _ h).mono ?_; rintro e w7 ⟨rfl, q7⟩; rw [hr]; have R : Hid (Rn w.heap.size w w7 w.heap.size (.slice a L.length c) (.slice al L.length cl) L L n b3 o b6 h) := R.out.bl q7)
              | (go_at_call 24; refine (HKr.out _ R.out.p.is R.out.p.hB).mono ?_; rintro e w8 ⟨rfl, a8, c8, t8⟩; have R : Hid (Rn w.heap.size w w8 w.heap.size (.slice a8 L.length c8) (.slice al L.length cl) L L n b3 o b6 h) := R.out.ask t8; clear t8; have d0 := R.out.q.c0; have d1 := R.out.q.c1; have d2 := R.out.q.c2; have d3 := R.out.q.c3; have d4 := R.out.q.c4)
              | (go_at_call 26; refine (CB.out _ _ _ _ _ _ R.out.p.is (by first | omega | (simp; omega))).mono ?_; rintro e w9 ⟨⟨a9, c9, rfl, hs9⟩, b9⟩; have H9 : Hid (Hs w9.heap.size w9 (.slice none 0 0) []) := Hs.nil _ _; have R : Hid (Rn w.heap.size w w9 w.heap.size (.slice a8 L.length c8) (.slice al L.length cl) L L n b3 o b6 h) := R.out.bl b9; have H9 : Hid (∃ B1, Hs B1 w9 (.slice a9 L.length c9) L) := ⟨_, hs9⟩; clear hs9)
              | (go_at_call 25; obtain ⟨B1, hB1⟩ := H9.out; refine (CS.out _ _ _ _ _ _ _ hB1 R.out.p.l (by first | omega | (simp; omega))).mono ?_; clear hB1; rintro e w10 ⟨rfl, q10⟩; have R : Hid (Rn w.heap.size w w10 w.heap.size (.slice a8 L.length c8) (.slice al L.length cl) L L n b3 o b6 h) := R.out.bl q10)
              | (go_at_call 27; refine (CC.out _ _ _ _ _ R.out.p.is).mono ?_; rintro e w11 ⟨rfl, rfl⟩)
            go_roundw
            case rel => exact ⟨i + 1, L, n, a8, c8, al, cl, rfl, rfl, by rfl, ⟨by omega, by first | omega | (have := hl2.out; omega), by omega, by omega, Z.out.ok⟩, R.out.p⟩
            case measure => simp [intOf]; omega
          · cases hbar : L.any (fun g => barM g h)
            · cases heno : L.any (fun g => enoM g h)
              · skip
                obtain ⟨L2, HL2⟩ : ∃ L2, Hid (L2 = L ++ [h]) := ⟨_, rfl⟩
                have hl2 : Hid (L2.length = L.length + 1) := (by rw [HL2.out]; simp : L2.length = L.length + 1)
                have hl2' : L2.length ≤ 80000 := by have := hl2.out; omega
                have HKr : Hid (∀ wx, TbIs w.heap.size wx w.heap.size (.slice a L.length c) L n → w.heap.size ≤ wx.heap.size → Calls Try.prog 24 #[.pointer (some ⟨w.heap.size, 0, none⟩), .agg (Op5.A o)] wx fun e w' => e = .returned (.int .i64 0) ∧ ∃ a' c', TbTo w.heap.size wx w' w.heap.size (.slice a L.length c) (.slice a' L2.length c') L2 (n + 1)) := fun wx h1 h4 => (HK.out wx h1 h4).mono fun e w' q => q.to2 (by rw [HL2.out]; exact ask_new hr hbar heno)
                have CLh : Hid (∀ wx, Hs w.heap.size wx (.slice al L.length cl) L → Calls Try.prog 20 #[.slice al L.length cl, .agg (Hd.A h)] wx fun e w' => WhO wx w' e (whoM L h)) := fun wx h1 => CL.out wx L al cl h h1 (by omega) Z.out.ok hr
                have COh : Hid (∀ wx, TbIs w.heap.size wx w.heap.size (.slice a L.length c) L n → Calls Try.prog 21 #[.pointer (some ⟨w.heap.size, 0, none⟩), .agg (Hd.A h)] wx fun e w' => WhO wx w' e (whoM L h)) := fun wx h1 => CO.out wx _ L n a c h h1 (by omega)
                have CHh : Hid (∀ wx, TbIs w.heap.size wx w.heap.size (.slice a L.length c) L n → Calls Try.prog 22 #[.pointer (some ⟨w.heap.size, 0, none⟩), .agg (Hd.A h)] wx fun e w' => e = .returned (.bool (L.any (fun g => enoM g h))) ∧ Below wx.heap.size wx w') := fun wx h1 => CH.out wx _ L n a c h h1 (by omega)
                have CGh : Hid (∀ wx, Hs w.heap.size wx (.slice al L.length cl) L → Calls Try.prog 23 #[.slice al L.length cl, .agg (Hd.A h)] wx fun e w' => e = .returned (.bool (L.any (fun g => enoM g h))) ∧ Below wx.heap.size wx w') := fun wx h1 => CG.out wx L al cl h h1 (by omega)
                have hWl : (whoM L h).length ≤ L.length := who_len L h
                have hWp : (whoM L h).length = 0 := by rw [who_nil hbar]; rfl
                have hok : Hid (∀ g ∈ L2, rightM g = true) := (fun g hg => (List.mem_append.1 (by rw [HL2.out] at hg; exact hg)).elim (Z.out.ok g) (fun e => by rw [List.mem_singleton.1 e]; exact hr) : ∀ g ∈ L2, rightM g = true)
                rw [heno] at CHh CGh
                clear HK CL CO CH CG
                generalize whoM L h = W at *
                have hWI : ¬ (0 : Int) < (W.length : Int) := by omega
                have hw2 : IntKind.i64.wrap (n + 1) = n + 1 := by rw [IntKind.wrap_i64]; omega
                go_wp2_with first
                  | (refine wpList_load_opm (n := o) _ rfl (.tmp 27) rfl rfl hr0.out ?_)
                  | (refine wpList_new_op _ rfl rfl ?_; intro w2 b3 O2 q2 e2)
                  | (refine wpList_put_op (s := zO) (s' := o) _ rfl _ _ rfl rfl rfl O2 ?_; intro w3 O3 q3; have B3 : Hid (Below wo.heap.size wo w3) := q2.trans (q3 _ e2); have P3 : Hid (Pl w.heap.size w w3 w.heap.size (.slice a L.length c) (.slice al L.length cl) L L n) := P0.out.bl B3.out; have k0 := O3.c0; have k1 := O3.c1; clear B3 e2)
                  | (refine wpList_load_op (n := o) _ rfl (.tmp 7) rfl rfl O3 ?_)
                  | (go_at_call 19; refine (HQ.out _).mono ?_; rintro e w4 ⟨rfl, q4⟩)
                  | (refine wpList_new_hd _ rfl rfl ?_; intro w5 b6 N5)
                  | (refine wpList_put_hd (s := zH) (s' := h) _ rfl _ _ rfl rfl rfl N5.hd ?_; intro w6 P6; have B6 : Hid (Below w3.heap.size w3 w6) := thn q4 (N5.below.trans (P6.below _ (by rw [N5.eq]; exact Nat.le_refl _) N5.below.size)); have R : Hid (Rn w.heap.size w w6 w.heap.size (.slice a L.length c) (.slice al L.length cl) L L n b3 o b6 h) := Rn.new (P3.out.bl B6.out) (O3.bel B6.out) P6.hd (fun g hg e => by have hq := N5.eq; have h4 := q4.size; rcases hg with hg | hg; (have := (P3.out.is.hs.blkAt hg).2.1; omega); (have := (P3.out.l.blkAt hg).2.1; omega)))
                  | (refine wpList_load_hd (n := h) _ rfl (.tmp 9) rfl rfl R.out.q ?_)
                  | (go_at_call 9; refine (CR.out _ h).mono ?_; rintro e w7 ⟨rfl, q7⟩; rw [hr]; have R : Hid (Rn w.heap.size w w7 w.heap.size (.slice a L.length c) (.slice al L.length cl) L L n b3 o b6 h) := R.out.bl q7)
                  | (have := X; go_at_call 20; refine (CLh.out _ R.out.p.l).mono ?_; rintro e wz ⟨⟨ay, cy, rfl, isy⟩, b7⟩; have Y : Hid (Is w.heap.size wz (.slice ay W.length cy) W) := isy.less R.out.p.hB; have X : Hid (Is w.heap.size wz (.slice ax W.length cx) W) := X.out.bel b7; have R : Hid (Rn w.heap.size w wz w.heap.size (.slice a L.length c) (.slice al L.length cl) L L n b3 o b6 h) := R.out.bl b7; clear isy b7)
                  | (have := W1; go_at_call 21; refine (COh.out _ R.out.p.is).mono ?_; rintro e w7 ⟨⟨ax, cx, rfl, isx⟩, b7⟩; have X : Hid (Is w.heap.size w7 (.slice ax W.length cx) W) := isx.less R.out.p.hB; have R : Hid (Rn w.heap.size w w7 w.heap.size (.slice a L.length c) (.slice al L.length cl) L L n b3 o b6 h) := R.out.bl b7; clear isx)
                  | (go_at_call 20; refine (CLh.out _ R.out.p.l).mono ?_; rintro e w7 ⟨⟨ax, cx, rfl, _⟩, b7⟩; have R : Hid (Rn w.heap.size w w7 w.heap.size (.slice a L.length c) (.slice al L.length cl) L L n b3 o b6 h) := R.out.bl b7; have W1 : Hid True := trivial)
                clear P3 O3 O2 q2 q3 N5 P6 B6 q4 k0 k1 hr0
                go_loopw [13] (fun s13 wr => ∃ k : Nat, s13 = .int .i64 (k : Int) ∧ k ≤ W.length ∧ Below wz.heap.size wz wr) (fun s13 _ => W.length - (intOf s13).toNat)
                case atStart => exact ⟨0, rfl, Nat.zero_le _, Below.refl _ _⟩
                case round =>
                  obtain ⟨k, rfl, hkW, hbz⟩ := hrel
                  have HZ : Hid (Below wz.heap.size wz wr) := hbz
                  clear hbz
                  by_cases hkl : k < W.length
                  · exact absurd hkl (by omega)
                  · have hkI : ¬ (k : Int) < (W.length : Int) := by omega
                    rename World => wi
                    have R7 : Hid (Rn w.heap.size w wi w.heap.size (.slice a L.length c) (.slice al L.length cl) L L n b3 o b6 h) := R.out.bl HZ.out
                    clear R X Y HZ
                    have QB : Hid (Below wi.heap.size wi wi.drew) := (Below.refl _ _).drew
                    have d0 := R7.out.q.c0
                    have d1 := R7.out.q.c1
                    have d2 := R7.out.q.c2
                    have d3 := R7.out.q.c3
                    have d4 := R7.out.q.c4
                    have HKp : Hid (∀ Wd : World, Below wi.heap.size wi Wd → (Wd.cell? ⟨b6, 0, none⟩ = some (.int .i64 h.x) ∧ Wd.cell? ⟨b6, 1, none⟩ = some (.int .i64 h.m) ∧ Wd.cell? ⟨b6, 2, none⟩ = some (.string h.lo) ∧ Wd.cell? ⟨b6, 3, none⟩ = some (.string h.hi) ∧ Wd.cell? ⟨b6, 4, none⟩ = some (.bool h.op))) := fun Wd hb => ⟨(R7.out.q.bel hb).c0, (R7.out.q.bel hb).c1, (R7.out.q.bel hb).c2, (R7.out.q.bel hb).c3, (R7.out.q.bel hb).c4⟩
                    go_wp2
                    go_region_held3 (fun Wd => Wd.cell? ⟨b6, 0, none⟩ = some (.int .i64 h.x) ∧ Wd.cell? ⟨b6, 1, none⟩ = some (.int .i64 h.m) ∧ Wd.cell? ⟨b6, 2, none⟩ = some (.string h.lo) ∧ Wd.cell? ⟨b6, 3, none⟩ = some (.string h.hi) ∧ Wd.cell? ⟨b6, 4, none⟩ = some (.bool h.op)) (first | exact keep1 | go_keep) (first
                      | (go_at_call 22; refine (CHh.out _ (R7.out.bl QB.out).p.is).mono ?_; rintro e w12 ⟨rfl, q12⟩; have QB : Hid (Below wi.heap.size wi w12) := thn QB.out q12; have keep1 := HKp.out _ QB.out)
                      | (go_at_call 23; refine (CGh.out _ (R7.out.bl QB.out).p.l).mono ?_; rintro e w12 ⟨rfl, q12⟩; have QB : Hid (Below wi.heap.size wi w12) := thn QB.out q12; have keep1 := HKp.out _ QB.out))
                    have R : Hid (Rn w.heap.size w w12 w.heap.size (.slice a L.length c) (.slice al L.length cl) L L n b3 o b6 h) := R7.out.bl QB.out
                    clear QB HKp R7 keep1 d0 d1 d2 d3 d4
                    go_wp2_with first
                      | (have := R; refine wpList_load_op (n := o) _ rfl (.tmp 7) rfl rfl R.out.r ?_)
                      | (go_at_call 24; refine (HKr.out _ R.out.p.is R.out.p.hB).mono ?_; rintro e w8 ⟨rfl, a8, c8, t8⟩; have R : Hid (Rn w.heap.size w w8 w.heap.size (.slice a8 L2.length c8) (.slice al L.length cl) L2 L (n + 1) b3 o b6 h) := R.out.ask t8; clear t8; have d0 := R.out.q.c0; have d1 := R.out.q.c1; have d2 := R.out.q.c2; have d3 := R.out.q.c3; have d4 := R.out.q.c4)
                      | (go_at_call 23; refine (CGh.out _ R.out.p.l).mono ?_; rintro e w13 ⟨rfl, q13⟩; have R : Hid (Rn w.heap.size w w13 w.heap.size (.slice a8 L2.length c8) (.slice al L.length cl) L2 L (n + 1) b3 o b6 h) := R.out.bl q13)
                      | (refine wpList_load_hd (n := h) _ rfl (.tmp 9) rfl rfl R.out.q ?_)
                      | (refine wpList_build_hd (n := h) _ rfl _ rfl rfl ?_; intro w14 b14 N14; have R : Hid (Rn w.heap.size w w14 w.heap.size (.slice a8 L2.length c8) (.slice al L.length cl) L2 L (n + 1) b3 o b6 h) := R.out.bl N14.below)
                      | (refine wpList_append_eq (M := [h]) (L2 := L2) HL2.out rfl (.tmp 116) (.tmp 118) rfl rfl R.out.p.l rfl (by simp) (hd_cells N14.hd) R.out.p.hB (by first | omega | (simp; omega)) ?_; intro a15 c15 w15 A15; have R : Hid (Rn w.heap.size w w15 w.heap.size (.slice a8 L2.length c8) (.slice a15 L2.length c15) L2 L2 (n + 1) b3 o b6 h) := R.out.app A15)
                      | (go_at_call 26; refine (CB.out _ _ _ _ _ _ R.out.p.is (by first | omega | (simp; omega))).mono ?_; rintro e w9 ⟨⟨a9, c9, rfl, hs9⟩, b9⟩; have H9 : Hid (Hs w9.heap.size w9 (.slice none 0 0) []) := Hs.nil _ _; have R : Hid (Rn w.heap.size w w9 w.heap.size (.slice a8 L2.length c8) (.slice a15 L2.length c15) L2 L2 (n + 1) b3 o b6 h) := R.out.bl b9; have H9 : Hid (∃ B1, Hs B1 w9 (.slice a9 L2.length c9) L2) := ⟨_, hs9⟩; clear hs9)
                      | (go_at_call 25; obtain ⟨B1, hB1⟩ := H9.out; refine (CS.out _ _ _ _ _ _ _ hB1 R.out.p.l (by first | omega | (simp; omega))).mono ?_; clear hB1; rintro e w10 ⟨rfl, q10⟩; have R : Hid (Rn w.heap.size w w10 w.heap.size (.slice a8 L2.length c8) (.slice a15 L2.length c15) L2 L2 (n + 1) b3 o b6 h) := R.out.bl q10)
                      | (go_at_call 27; refine (CC.out _ _ _ _ _ R.out.p.is).mono ?_; rintro e w11 ⟨rfl, rfl⟩)
                    go_roundw
                    case rel => exact ⟨i + 1, L2, (n + 1), a8, c8, a15, c15, rfl, rfl, by rfl, ⟨by omega, by first | omega | (have := hl2.out; omega), by omega, by omega, hok.out⟩, R.out.p⟩
                    case measure => simp [intOf]; omega
              · skip
                have HKr : Hid (∀ wx, TbIs w.heap.size wx w.heap.size (.slice a L.length c) L n → w.heap.size ≤ wx.heap.size → Calls Try.prog 24 #[.pointer (some ⟨w.heap.size, 0, none⟩), .agg (Op5.A o)] wx fun e w' => e = .returned (.int .i64 0) ∧ ∃ a' c', TbTo w.heap.size wx w' w.heap.size (.slice a L.length c) (.slice a' L.length c') L n) := fun wx h1 h4 => (HK.out wx h1 h4).mono fun e w' q => q.to2 (ask_has hr hbar heno)
                have CLh : Hid (∀ wx, Hs w.heap.size wx (.slice al L.length cl) L → Calls Try.prog 20 #[.slice al L.length cl, .agg (Hd.A h)] wx fun e w' => WhO wx w' e (whoM L h)) := fun wx h1 => CL.out wx L al cl h h1 (by omega) Z.out.ok hr
                have COh : Hid (∀ wx, TbIs w.heap.size wx w.heap.size (.slice a L.length c) L n → Calls Try.prog 21 #[.pointer (some ⟨w.heap.size, 0, none⟩), .agg (Hd.A h)] wx fun e w' => WhO wx w' e (whoM L h)) := fun wx h1 => CO.out wx _ L n a c h h1 (by omega)
                have CHh : Hid (∀ wx, TbIs w.heap.size wx w.heap.size (.slice a L.length c) L n → Calls Try.prog 22 #[.pointer (some ⟨w.heap.size, 0, none⟩), .agg (Hd.A h)] wx fun e w' => e = .returned (.bool (L.any (fun g => enoM g h))) ∧ Below wx.heap.size wx w') := fun wx h1 => CH.out wx _ L n a c h h1 (by omega)
                have CGh : Hid (∀ wx, Hs w.heap.size wx (.slice al L.length cl) L → Calls Try.prog 23 #[.slice al L.length cl, .agg (Hd.A h)] wx fun e w' => e = .returned (.bool (L.any (fun g => enoM g h))) ∧ Below wx.heap.size wx w') := fun wx h1 => CG.out wx L al cl h h1 (by omega)
                have hWl : (whoM L h).length ≤ L.length := who_len L h
                have hWp : (whoM L h).length = 0 := by rw [who_nil hbar]; rfl
                rw [heno] at CHh CGh
                clear HK CL CO CH CG
                generalize whoM L h = W at *
                have hWI : ¬ (0 : Int) < (W.length : Int) := by omega
                have hw2 : IntKind.i64.wrap (n + 1) = n + 1 := by rw [IntKind.wrap_i64]; omega
                go_wp2_with first
                  | (refine wpList_load_opm (n := o) _ rfl (.tmp 27) rfl rfl hr0.out ?_)
                  | (refine wpList_new_op _ rfl rfl ?_; intro w2 b3 O2 q2 e2)
                  | (refine wpList_put_op (s := zO) (s' := o) _ rfl _ _ rfl rfl rfl O2 ?_; intro w3 O3 q3; have B3 : Hid (Below wo.heap.size wo w3) := q2.trans (q3 _ e2); have P3 : Hid (Pl w.heap.size w w3 w.heap.size (.slice a L.length c) (.slice al L.length cl) L L n) := P0.out.bl B3.out; have k0 := O3.c0; have k1 := O3.c1; clear B3 e2)
                  | (refine wpList_load_op (n := o) _ rfl (.tmp 7) rfl rfl O3 ?_)
                  | (go_at_call 19; refine (HQ.out _).mono ?_; rintro e w4 ⟨rfl, q4⟩)
                  | (refine wpList_new_hd _ rfl rfl ?_; intro w5 b6 N5)
                  | (refine wpList_put_hd (s := zH) (s' := h) _ rfl _ _ rfl rfl rfl N5.hd ?_; intro w6 P6; have B6 : Hid (Below w3.heap.size w3 w6) := thn q4 (N5.below.trans (P6.below _ (by rw [N5.eq]; exact Nat.le_refl _) N5.below.size)); have R : Hid (Rn w.heap.size w w6 w.heap.size (.slice a L.length c) (.slice al L.length cl) L L n b3 o b6 h) := Rn.new (P3.out.bl B6.out) (O3.bel B6.out) P6.hd (fun g hg e => by have hq := N5.eq; have h4 := q4.size; rcases hg with hg | hg; (have := (P3.out.is.hs.blkAt hg).2.1; omega); (have := (P3.out.l.blkAt hg).2.1; omega)))
                  | (refine wpList_load_hd (n := h) _ rfl (.tmp 9) rfl rfl R.out.q ?_)
                  | (go_at_call 9; refine (CR.out _ h).mono ?_; rintro e w7 ⟨rfl, q7⟩; rw [hr]; have R : Hid (Rn w.heap.size w w7 w.heap.size (.slice a L.length c) (.slice al L.length cl) L L n b3 o b6 h) := R.out.bl q7)
                  | (have := X; go_at_call 20; refine (CLh.out _ R.out.p.l).mono ?_; rintro e wz ⟨⟨ay, cy, rfl, isy⟩, b7⟩; have Y : Hid (Is w.heap.size wz (.slice ay W.length cy) W) := isy.less R.out.p.hB; have X : Hid (Is w.heap.size wz (.slice ax W.length cx) W) := X.out.bel b7; have R : Hid (Rn w.heap.size w wz w.heap.size (.slice a L.length c) (.slice al L.length cl) L L n b3 o b6 h) := R.out.bl b7; clear isy b7)
                  | (have := W1; go_at_call 21; refine (COh.out _ R.out.p.is).mono ?_; rintro e w7 ⟨⟨ax, cx, rfl, isx⟩, b7⟩; have X : Hid (Is w.heap.size w7 (.slice ax W.length cx) W) := isx.less R.out.p.hB; have R : Hid (Rn w.heap.size w w7 w.heap.size (.slice a L.length c) (.slice al L.length cl) L L n b3 o b6 h) := R.out.bl b7; clear isx)
                  | (go_at_call 20; refine (CLh.out _ R.out.p.l).mono ?_; rintro e w7 ⟨⟨ax, cx, rfl, _⟩, b7⟩; have R : Hid (Rn w.heap.size w w7 w.heap.size (.slice a L.length c) (.slice al L.length cl) L L n b3 o b6 h) := R.out.bl b7; have W1 : Hid True := trivial)
                clear P3 O3 O2 q2 q3 N5 P6 B6 q4 k0 k1 hr0
                go_loopw [13] (fun s13 wr => ∃ k : Nat, s13 = .int .i64 (k : Int) ∧ k ≤ W.length ∧ Below wz.heap.size wz wr) (fun s13 _ => W.length - (intOf s13).toNat)
                case atStart => exact ⟨0, rfl, Nat.zero_le _, Below.refl _ _⟩
                case round =>
                  obtain ⟨k, rfl, hkW, hbz⟩ := hrel
                  have HZ : Hid (Below wz.heap.size wz wr) := hbz
                  clear hbz
                  by_cases hkl : k < W.length
                  · exact absurd hkl (by omega)
                  · have hkI : ¬ (k : Int) < (W.length : Int) := by omega
                    rename World => wi
                    have R7 : Hid (Rn w.heap.size w wi w.heap.size (.slice a L.length c) (.slice al L.length cl) L L n b3 o b6 h) := R.out.bl HZ.out
                    clear R X Y HZ
                    have QB : Hid (Below wi.heap.size wi wi.drew) := (Below.refl _ _).drew
                    have d0 := R7.out.q.c0
                    have d1 := R7.out.q.c1
                    have d2 := R7.out.q.c2
                    have d3 := R7.out.q.c3
                    have d4 := R7.out.q.c4
                    have HKp : Hid (∀ Wd : World, Below wi.heap.size wi Wd → (Wd.cell? ⟨b6, 0, none⟩ = some (.int .i64 h.x) ∧ Wd.cell? ⟨b6, 1, none⟩ = some (.int .i64 h.m) ∧ Wd.cell? ⟨b6, 2, none⟩ = some (.string h.lo) ∧ Wd.cell? ⟨b6, 3, none⟩ = some (.string h.hi) ∧ Wd.cell? ⟨b6, 4, none⟩ = some (.bool h.op))) := fun Wd hb => ⟨(R7.out.q.bel hb).c0, (R7.out.q.bel hb).c1, (R7.out.q.bel hb).c2, (R7.out.q.bel hb).c3, (R7.out.q.bel hb).c4⟩
                    go_wp2
                    go_region_held3 (fun Wd => Wd.cell? ⟨b6, 0, none⟩ = some (.int .i64 h.x) ∧ Wd.cell? ⟨b6, 1, none⟩ = some (.int .i64 h.m) ∧ Wd.cell? ⟨b6, 2, none⟩ = some (.string h.lo) ∧ Wd.cell? ⟨b6, 3, none⟩ = some (.string h.hi) ∧ Wd.cell? ⟨b6, 4, none⟩ = some (.bool h.op)) (first | exact keep1 | go_keep) (first
                      | (go_at_call 22; refine (CHh.out _ (R7.out.bl QB.out).p.is).mono ?_; rintro e w12 ⟨rfl, q12⟩; have QB : Hid (Below wi.heap.size wi w12) := thn QB.out q12; have keep1 := HKp.out _ QB.out)
                      | (go_at_call 23; refine (CGh.out _ (R7.out.bl QB.out).p.l).mono ?_; rintro e w12 ⟨rfl, q12⟩; have QB : Hid (Below wi.heap.size wi w12) := thn QB.out q12; have keep1 := HKp.out _ QB.out))
                    have R : Hid (Rn w.heap.size w w12 w.heap.size (.slice a L.length c) (.slice al L.length cl) L L n b3 o b6 h) := R7.out.bl QB.out
                    clear QB HKp R7 keep1 d0 d1 d2 d3 d4
                    go_wp2_with first
                      | (have := R; refine wpList_load_op (n := o) _ rfl (.tmp 7) rfl rfl R.out.r ?_)
                      | (go_at_call 24; refine (HKr.out _ R.out.p.is R.out.p.hB).mono ?_; rintro e w8 ⟨rfl, a8, c8, t8⟩; have R : Hid (Rn w.heap.size w w8 w.heap.size (.slice a8 L.length c8) (.slice al L.length cl) L L n b3 o b6 h) := R.out.ask t8; clear t8; have d0 := R.out.q.c0; have d1 := R.out.q.c1; have d2 := R.out.q.c2; have d3 := R.out.q.c3; have d4 := R.out.q.c4)
                      | (go_at_call 23; refine (CGh.out _ R.out.p.l).mono ?_; rintro e w13 ⟨rfl, q13⟩; have R : Hid (Rn w.heap.size w w13 w.heap.size (.slice a8 L.length c8) (.slice al L.length cl) L L n b3 o b6 h) := R.out.bl q13)
                      | (go_at_call 26; refine (CB.out _ _ _ _ _ _ R.out.p.is (by first | omega | (simp; omega))).mono ?_; rintro e w9 ⟨⟨a9, c9, rfl, hs9⟩, b9⟩; have H9 : Hid (Hs w9.heap.size w9 (.slice none 0 0) []) := Hs.nil _ _; have R : Hid (Rn w.heap.size w w9 w.heap.size (.slice a8 L.length c8) (.slice al L.length cl) L L n b3 o b6 h) := R.out.bl b9; have H9 : Hid (∃ B1, Hs B1 w9 (.slice a9 L.length c9) L) := ⟨_, hs9⟩; clear hs9)
                      | (go_at_call 25; obtain ⟨B1, hB1⟩ := H9.out; refine (CS.out _ _ _ _ _ _ _ hB1 R.out.p.l (by first | omega | (simp; omega))).mono ?_; clear hB1; rintro e w10 ⟨rfl, q10⟩; have R : Hid (Rn w.heap.size w w10 w.heap.size (.slice a8 L.length c8) (.slice al L.length cl) L L n b3 o b6 h) := R.out.bl q10)
                      | (go_at_call 27; refine (CC.out _ _ _ _ _ R.out.p.is).mono ?_; rintro e w11 ⟨rfl, rfl⟩)
                    go_roundw
                    case rel => exact ⟨i + 1, L, n, a8, c8, al, cl, rfl, rfl, by rfl, ⟨by omega, by first | omega | (have := hl2.out; omega), by omega, by omega, Z.out.ok⟩, R.out.p⟩
                    case measure => simp [intOf]; omega
            · skip
              have HKr : Hid (∀ wx, TbIs w.heap.size wx w.heap.size (.slice a L.length c) L n → w.heap.size ≤ wx.heap.size → Calls Try.prog 24 #[.pointer (some ⟨w.heap.size, 0, none⟩), .agg (Op5.A o)] wx fun e w' => e = .returned (.int .i64 12) ∧ ∃ a' c', TbTo w.heap.size wx w' w.heap.size (.slice a L.length c) (.slice a' L.length c') L n) := fun wx h1 h4 => (HK.out wx h1 h4).mono fun e w' q => q.to2 (ask_locked hr hbar)
              have CLh : Hid (∀ wx, Hs w.heap.size wx (.slice al L.length cl) L → Calls Try.prog 20 #[.slice al L.length cl, .agg (Hd.A h)] wx fun e w' => WhO wx w' e (whoM L h)) := fun wx h1 => CL.out wx L al cl h h1 (by omega) Z.out.ok hr
              have COh : Hid (∀ wx, TbIs w.heap.size wx w.heap.size (.slice a L.length c) L n → Calls Try.prog 21 #[.pointer (some ⟨w.heap.size, 0, none⟩), .agg (Hd.A h)] wx fun e w' => WhO wx w' e (whoM L h)) := fun wx h1 => CO.out wx _ L n a c h h1 (by omega)
              have CHh : Hid (∀ wx, TbIs w.heap.size wx w.heap.size (.slice a L.length c) L n → Calls Try.prog 22 #[.pointer (some ⟨w.heap.size, 0, none⟩), .agg (Hd.A h)] wx fun e w' => e = .returned (.bool (L.any (fun g => enoM g h))) ∧ Below wx.heap.size wx w') := fun wx h1 => CH.out wx _ L n a c h h1 (by omega)
              have CGh : Hid (∀ wx, Hs w.heap.size wx (.slice al L.length cl) L → Calls Try.prog 23 #[.slice al L.length cl, .agg (Hd.A h)] wx fun e w' => e = .returned (.bool (L.any (fun g => enoM g h))) ∧ Below wx.heap.size wx w') := fun wx h1 => CG.out wx L al cl h h1 (by omega)
              have hWl : (whoM L h).length ≤ L.length := who_len L h
              have hWp : 0 < (whoM L h).length := who_pos hbar
              generalize L.any (fun g => enoM g h) = E at *
              have hE : (E != E) = false := by simp
              clear HK CL CO CH CG
              generalize whoM L h = W at *
              have hWI : (0 : Int) < (W.length : Int) := by omega
              have hw2 : IntKind.i64.wrap (n + 1) = n + 1 := by rw [IntKind.wrap_i64]; omega
              go_wp2_with first
                | (refine wpList_load_opm (n := o) _ rfl (.tmp 27) rfl rfl hr0.out ?_)
                | (refine wpList_new_op _ rfl rfl ?_; intro w2 b3 O2 q2 e2)
                | (refine wpList_put_op (s := zO) (s' := o) _ rfl _ _ rfl rfl rfl O2 ?_; intro w3 O3 q3; have B3 : Hid (Below wo.heap.size wo w3) := q2.trans (q3 _ e2); have P3 : Hid (Pl w.heap.size w w3 w.heap.size (.slice a L.length c) (.slice al L.length cl) L L n) := P0.out.bl B3.out; have k0 := O3.c0; have k1 := O3.c1; clear B3 e2)
                | (refine wpList_load_op (n := o) _ rfl (.tmp 7) rfl rfl O3 ?_)
                | (go_at_call 19; refine (HQ.out _).mono ?_; rintro e w4 ⟨rfl, q4⟩)
                | (refine wpList_new_hd _ rfl rfl ?_; intro w5 b6 N5)
                | (refine wpList_put_hd (s := zH) (s' := h) _ rfl _ _ rfl rfl rfl N5.hd ?_; intro w6 P6; have B6 : Hid (Below w3.heap.size w3 w6) := thn q4 (N5.below.trans (P6.below _ (by rw [N5.eq]; exact Nat.le_refl _) N5.below.size)); have R : Hid (Rn w.heap.size w w6 w.heap.size (.slice a L.length c) (.slice al L.length cl) L L n b3 o b6 h) := Rn.new (P3.out.bl B6.out) (O3.bel B6.out) P6.hd (fun g hg e => by have hq := N5.eq; have h4 := q4.size; rcases hg with hg | hg; (have := (P3.out.is.hs.blkAt hg).2.1; omega); (have := (P3.out.l.blkAt hg).2.1; omega)))
                | (refine wpList_load_hd (n := h) _ rfl (.tmp 9) rfl rfl R.out.q ?_)
                | (go_at_call 9; refine (CR.out _ h).mono ?_; rintro e w7 ⟨rfl, q7⟩; rw [hr]; have R : Hid (Rn w.heap.size w w7 w.heap.size (.slice a L.length c) (.slice al L.length cl) L L n b3 o b6 h) := R.out.bl q7)
                | (have := X; go_at_call 20; refine (CLh.out _ R.out.p.l).mono ?_; rintro e wz ⟨⟨ay, cy, rfl, isy⟩, b7⟩; have Y : Hid (Is w.heap.size wz (.slice ay W.length cy) W) := isy.less R.out.p.hB; have X : Hid (Is w.heap.size wz (.slice ax W.length cx) W) := X.out.bel b7; have R : Hid (Rn w.heap.size w wz w.heap.size (.slice a L.length c) (.slice al L.length cl) L L n b3 o b6 h) := R.out.bl b7; clear isy b7)
                | (have := W1; go_at_call 21; refine (COh.out _ R.out.p.is).mono ?_; rintro e w7 ⟨⟨ax, cx, rfl, isx⟩, b7⟩; have X : Hid (Is w.heap.size w7 (.slice ax W.length cx) W) := isx.less R.out.p.hB; have R : Hid (Rn w.heap.size w w7 w.heap.size (.slice a L.length c) (.slice al L.length cl) L L n b3 o b6 h) := R.out.bl b7; clear isx)
                | (go_at_call 20; refine (CLh.out _ R.out.p.l).mono ?_; rintro e w7 ⟨⟨ax, cx, rfl, _⟩, b7⟩; have R : Hid (Rn w.heap.size w w7 w.heap.size (.slice a L.length c) (.slice al L.length cl) L L n b3 o b6 h) := R.out.bl b7; have W1 : Hid True := trivial)
              clear P3 O3 O2 q2 q3 N5 P6 B6 q4 k0 k1 hr0
              go_loopw [13] (fun s13 wr => ∃ k : Nat, s13 = .int .i64 (k : Int) ∧ k ≤ W.length ∧ Below wz.heap.size wz wr) (fun s13 _ => W.length - (intOf s13).toNat)
              case atStart => exact ⟨0, rfl, Nat.zero_le _, Below.refl _ _⟩
              case round =>
                obtain ⟨k, rfl, hkW, hbz⟩ := hrel
                have HZ : Hid (Below wz.heap.size wz wr) := hbz
                clear hbz
                by_cases hkl : k < W.length
                · have hkI : (k : Int) < (W.length : Int) := by omega
                  obtain ⟨gx, ex, hgx, hcx⟩ := (X.out.bel HZ.out).at_ hkl
                  obtain ⟨gy, ey, hgy, hcy⟩ := (Y.out.bel HZ.out).at_ hkl
                  subst ex ey
                  have kx := hcx _ rfl
                  have ky := hcy _ rfl
                  clear hcx hcy hgx hgy
                  generalize W[k] = z at *
                  go_wp2
                  go_quiet (fail)
                  go_wp2
                  go_roundw
                  case rel => exact ⟨k + 1, by rfl, by omega, bdr HZ.out _⟩
                  case measure => simp [intOf]; omega
                · have hkI : ¬ (k : Int) < (W.length : Int) := by omega
                  rename World => wi
                  have R7 : Hid (Rn w.heap.size w wi w.heap.size (.slice a L.length c) (.slice al L.length cl) L L n b3 o b6 h) := R.out.bl HZ.out
                  clear R X Y HZ
                  have QB : Hid (Below wi.heap.size wi wi.drew) := (Below.refl _ _).drew
                  have d0 := R7.out.q.c0
                  have d1 := R7.out.q.c1
                  have d2 := R7.out.q.c2
                  have d3 := R7.out.q.c3
                  have d4 := R7.out.q.c4
                  have HKp : Hid (∀ Wd : World, Below wi.heap.size wi Wd → (Wd.cell? ⟨b6, 0, none⟩ = some (.int .i64 h.x) ∧ Wd.cell? ⟨b6, 1, none⟩ = some (.int .i64 h.m) ∧ Wd.cell? ⟨b6, 2, none⟩ = some (.string h.lo) ∧ Wd.cell? ⟨b6, 3, none⟩ = some (.string h.hi) ∧ Wd.cell? ⟨b6, 4, none⟩ = some (.bool h.op))) := fun Wd hb => ⟨(R7.out.q.bel hb).c0, (R7.out.q.bel hb).c1, (R7.out.q.bel hb).c2, (R7.out.q.bel hb).c3, (R7.out.q.bel hb).c4⟩
                  go_wp2
                  go_region_held3 (fun Wd => Wd.cell? ⟨b6, 0, none⟩ = some (.int .i64 h.x) ∧ Wd.cell? ⟨b6, 1, none⟩ = some (.int .i64 h.m) ∧ Wd.cell? ⟨b6, 2, none⟩ = some (.string h.lo) ∧ Wd.cell? ⟨b6, 3, none⟩ = some (.string h.hi) ∧ Wd.cell? ⟨b6, 4, none⟩ = some (.bool h.op)) (first | exact keep1 | go_keep) (first
                    | (go_at_call 22; refine (CHh.out _ (R7.out.bl QB.out).p.is).mono ?_; rintro e w12 ⟨rfl, q12⟩; have QB : Hid (Below wi.heap.size wi w12) := thn QB.out q12; have keep1 := HKp.out _ QB.out)
                    | (go_at_call 23; refine (CGh.out _ (R7.out.bl QB.out).p.l).mono ?_; rintro e w12 ⟨rfl, q12⟩; have QB : Hid (Below wi.heap.size wi w12) := thn QB.out q12; have keep1 := HKp.out _ QB.out))
                  have R : Hid (Rn w.heap.size w w12 w.heap.size (.slice a L.length c) (.slice al L.length cl) L L n b3 o b6 h) := R7.out.bl QB.out
                  clear QB HKp R7 keep1 d0 d1 d2 d3 d4
                  go_wp2_with first
                    | (have := R; refine wpList_load_op (n := o) _ rfl (.tmp 7) rfl rfl R.out.r ?_)
                    | (go_at_call 24; refine (HKr.out _ R.out.p.is R.out.p.hB).mono ?_; rintro e w8 ⟨rfl, a8, c8, t8⟩; have R : Hid (Rn w.heap.size w w8 w.heap.size (.slice a8 L.length c8) (.slice al L.length cl) L L n b3 o b6 h) := R.out.ask t8; clear t8; have d0 := R.out.q.c0; have d1 := R.out.q.c1; have d2 := R.out.q.c2; have d3 := R.out.q.c3; have d4 := R.out.q.c4)
                    | (go_at_call 26; refine (CB.out _ _ _ _ _ _ R.out.p.is (by first | omega | (simp; omega))).mono ?_; rintro e w9 ⟨⟨a9, c9, rfl, hs9⟩, b9⟩; have H9 : Hid (Hs w9.heap.size w9 (.slice none 0 0) []) := Hs.nil _ _; have R : Hid (Rn w.heap.size w w9 w.heap.size (.slice a8 L.length c8) (.slice al L.length cl) L L n b3 o b6 h) := R.out.bl b9; have H9 : Hid (∃ B1, Hs B1 w9 (.slice a9 L.length c9) L) := ⟨_, hs9⟩; clear hs9)
                    | (go_at_call 25; obtain ⟨B1, hB1⟩ := H9.out; refine (CS.out _ _ _ _ _ _ _ hB1 R.out.p.l (by first | omega | (simp; omega))).mono ?_; clear hB1; rintro e w10 ⟨rfl, q10⟩; have R : Hid (Rn w.heap.size w w10 w.heap.size (.slice a8 L.length c8) (.slice al L.length cl) L L n b3 o b6 h) := R.out.bl q10)
                    | (go_at_call 27; refine (CC.out _ _ _ _ _ R.out.p.is).mono ?_; rintro e w11 ⟨rfl, rfl⟩)
                  go_roundw
                  case rel => exact ⟨i + 1, L, n, a8, c8, al, cl, rfl, rfl, by rfl, ⟨by omega, by first | omega | (have := hl2.out; omega), by omega, by omega, Z.out.ok⟩, R.out.p⟩
                  case measure => simp [intOf]; omega
      · have h60I : ¬ (i : Int) < 60 := by omega
        go_wp2_with (go_at_call 10; refine (CA.out _).mono ?_; rintro e w9 ⟨rfl, q9⟩)
        go_ret
        exact ⟨rfl, P0.out.bel.trans (q9.mono P0.out.hB)⟩
    · have hlenI : ¬ (i : Int) < (len : Int) := by omega
      go_wp2_with (go_at_call 10; refine (CA.out _).mono ?_; rintro e w9 ⟨rfl, q9⟩)
      go_ret
      exact ⟨rfl, P0.out.bel.trans (q9.mono P0.out.hB)⟩
end
end Go.Proofs.Ytkpjamdlpofgcaa
