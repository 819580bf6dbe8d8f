/- LockApart: no two holds of a table bar one another. -/
import Derived.Test.YtkpjamdlpofgcaaLkP
import Derived.Deep.RegionHeld3
namespace Go.Proofs.Ytkpjamdlpofgcaa
open Go.RowKit
set_option linter.unusedVariables false
set_option linter.unusedSimpArgs false
set_option maxRecDepth 100000
/-- All may be, and none bars another one. -/
structure Apa (L : List Hd) : Prop where
  ok : ∀ g ∈ L, rightM g = true
  no : ∀ g ∈ L, ∀ g' ∈ L, barM g g' = false
theorem Apa.nil : Apa [] := ⟨(fun g h => by cases h), (fun g h => by cases h)⟩
theorem Apa.filter {L : List Hd} (h : Apa L) (p : Hd → Bool) : Apa (L.filter p) := ⟨fun g hg => h.ok g (List.mem_filter.1 hg).1, fun g hg g' hg' => h.no g (List.mem_filter.1 hg).1 g' (List.mem_filter.1 hg').1⟩
structure AskR (L : List Hd) (n : Int) (h : Hd) (k : Int) (L' : List Hd) (n' : Int) : Prop where
  apa : Apa L'
  has : k = 0 → L'.any (fun g => enoM g h) = true
  len : L'.length ≤ L.length + 1
  n0 : 0 ≤ n'
  n1 : n' ≤ n + 1
theorem ask_keeps {L : List Hd} {n : Int} (hA : Apa L) (hn : 0 ≤ n) (h : Hd) : ∃ k L' n', askM L n h = (k, L', n') ∧ AskR L n h k L' n' := by
  cases hr : rightM h
  · exact ⟨_, _, _, ask_bad hr, hA, fun e => by omega, by omega, hn, by omega⟩
  · cases hb : L.any (fun g => barM g h)
    · cases he : L.any (fun g => enoM g h)
      · refine ⟨_, _, _, ask_new hr hb he, ⟨fun g hg => ?_, fun g hg g' hg' => ?_⟩, fun _ => ?_, by simp, by omega, by omega⟩
        · rcases List.mem_append.1 hg with h1 | h1
          · exact hA.ok g h1
          · rw [List.mem_singleton.1 h1]; exact hr
        · have hno : ∀ g ∈ L, barM g h = false := fun g hg => by
            have := List.any_eq_false.1 hb g hg
            simpa using this
          rcases List.mem_append.1 hg with h1 | h1
          · rcases List.mem_append.1 hg' with h2 | h2
            · exact hA.no g h1 g' h2
            · rw [List.mem_singleton.1 h2]; exact hno g h1
          · rw [List.mem_singleton.1 h1]
            rcases List.mem_append.1 hg' with h2 | h2
            · rw [bar_comm]; exact hno g' h2
            · rw [List.mem_singleton.1 h2]; exact bar_self rfl
        · rw [List.any_append]
          simp [eno_self]
      · exact ⟨_, _, _, ask_has hr hb he, hA, fun _ => he, by omega, hn, by omega⟩
    · exact ⟨_, _, _, ask_locked hr hb, hA, fun e => by omega, by omega, hn, by omega⟩
theorem AskO.to3 {B tb : Nat} {w w' : World} {v : Value} {e : Ending} {r : Int × List Hd × Int} {k n : Int} {L : List Hd} (h : AskO B w w' tb v e r) (hr : r = (k, L, n)) : e = .returned (.int .i64 k) ∧ ∃ a c, TbTo B w w' tb v (.slice a L.length c) L n := by
  subst hr
  obtain ⟨v', t⟩ := h.ex
  obtain ⟨a, c, rfl⟩ := t.sl
  exact ⟨h.e, a, c, t⟩
theorem range_bel3 {w w' : World} {B b of : Nat} {xs : List Value} (h : w.rangeAt b of xs) (hb : Below B w w') (hl : b < B) : w'.rangeAt b of xs := fun j u hu => (hb.cell (p := ⟨b, of + j, none⟩) hl).trans (h j u hu)
/-- A table, and the call that is asked. -/
structure Ra (B : Nat) (w0 w : World) (tb : Nat) (v : Value) (L : List Hd) (n : Int) (b3 : Nat) (o : Op5) : Prop where
  is : TbIs B w tb v L n
  r : OpAt w b3 o
  bel : Below B w0 w
  hB : B ≤ w.heap.size
structure Rb (B : Nat) (w0 w : World) (tb : Nat) (v : Value) (L : List Hd) (n : Int) : Prop where
  is : TbIs B w tb v L n
  bel : Below B w0 w
  hB : B ≤ w.heap.size
section
variable {B tb b3 : Nat} {w0 w w' : World} {v v' : Value} {L L' : List Hd} {n n' : Int} {o : Op5}
theorem Rb.bl (R : Rb B w0 w tb v L n) (hb : Below w.heap.size w w') : Rb B w0 w' tb v L n := ⟨R.is.bel hb, R.bel.trans (hb.mono R.hB), Nat.le_trans R.hB hb.size⟩
theorem Rb.ra (R : Rb B w0 w tb v L n) (r : OpAt w b3 o) : Ra B w0 w tb v L n b3 o := ⟨R.is, r, R.bel, R.hB⟩
theorem Ra.rb (R : Ra B w0 w tb v L n b3 o) : Rb B w0 w tb v L n := ⟨R.is, R.bel, R.hB⟩
theorem Ra.bl (R : Ra B w0 w tb v L n b3 o) (hb : Below w.heap.size w w') : Ra B w0 w' tb v L n b3 o := ⟨R.is.bel hb, R.r.bel hb, R.bel.trans (hb.mono R.hB), Nat.le_trans R.hB hb.size⟩
theorem Ra.ask (R : Ra B w0 w tb v L n b3 o) (t : TbTo B w w' tb v v' L' n') : Ra B w0 w' tb v' L' n' b3 o :=
  ⟨t.is, ⟨(t.fr b3 R.r.lt (R.r.ne_tb R.is) (R.r.ne_hs R.is.hs)).trans R.r.blk⟩, R.bel.trans t.bel, Nat.le_trans R.hB t.bel.size⟩
end
structure Pa (i : Nat) (L : List Hd) (n : Int) : Prop where
  i40 : i ≤ 40
  len : L.length ≤ i
  n0 : 0 ≤ n
  n1 : n ≤ i
  apa : Apa L
section
variable {w : World} {ao : Option Addr} {len co : Nat} {f : Nat → Op5}
set_option maxHeartbeats 16000000 in
theorem apart12_walk (hS : IsOps w ao len f) : Calls Try.prog 6 #[.slice ao len co] w fun e w' => e = .returned (.bool true) ∧ Below w.heap.size w w' := by
  have CD : Hid (∀ wx tb (L : List Hd) n a c x, TbIs w.heap.size wx tb (.slice a L.length c) L n → L.length ≤ 80000 → w.heap.size ≤ wx.heap.size → Calls Try.prog 18 #[.pointer (some ⟨tb, 0, none⟩), .int .i64 x] wx fun e w' => e = .returned (.int .i64 ((L.length : Int) - ((L.filter (fun g => !decide (g.x = x))).length : Int))) ∧ ∃ a' c', TbTo w.heap.size wx w' tb (.slice a L.length c) (.slice a' (L.filter (fun g => !decide (g.x = x))).length c') (L.filter (fun g => !decide (g.x = x))) n) := fun wx tb L n a c x h1 h2 h3 => (Drop_any h1 h2 x h3).mono fun e w' q => q.to3 rfl
  have CQ : Hid (∀ wx o, Calls Try.prog 19 #[.agg (Op5.A o)] wx fun e w' => e = .returned (.agg (askedM o).A) ∧ Below wx.heap.size wx w') := fun wx o => asked_any wx o
  have CH : Hid (∀ wx tb (L : List Hd) n a c h, TbIs w.heap.size wx tb (.slice a L.length c) L n → L.length ≤ 80000 → Calls Try.prog 22 #[.pointer (some ⟨tb, 0, none⟩), .agg (Hd.A h)] wx fun e w' => e = .returned (.bool (L.any (fun g => enoM g h))) ∧ Below wx.heap.size wx w') := fun wx tb L n a c h h1 h2 => Has_any h1 (by omega) h
  have CK : Hid (∀ wx tb (L : List Hd) n a c o, TbIs w.heap.size wx tb (.slice a L.length c) L n → L.length ≤ 80000 → (0 ≤ n ∧ n ≤ 1000000) → w.heap.size ≤ wx.heap.size → Calls Try.prog 24 #[.pointer (some ⟨tb, 0, none⟩), .agg (Op5.A o)] wx fun e w' => AskO w.heap.size wx w' tb (.slice a L.length c) e (askM L n (askedM o))) := fun wx tb L n a c o h1 h2 h3 h4 => ask_any h1 h2 h3 h4 o
  have CB : Hid (∀ wx tb (L : List Hd) n a c, TbIs w.heap.size wx tb (.slice a L.length c) L n → L.length ≤ 80000 → Calls Try.prog 26 #[.pointer (some ⟨tb, 0, none⟩)] wx fun e w' => KpO wx w' e L) := fun wx tb L n a c h1 h2 => All_any h1 h2
  have CA : Hid (∀ wx, Calls Try.prog 10 #[] wx fun e w' => e = .returned (.bool true) ∧ Below wx.heap.size wx w') := fun wx => awake_any wx
  have CN : Hid (Calls Try.prog 16 #[] w fun e w' => e = .returned (.pointer (some ⟨w.heap.size, 0, none⟩)) ∧ TbIs w.heap.size w' w.heap.size (.slice none 0 0) [] 0 ∧ Below w.heap.size w w') := New_any w
  have CX : Hid (∀ wx (L : List Hd) i k, Apa L → (hi : i < L.length) → (hk : k < L.length) → (Calls Try.prog 14 #[.agg L[i].A, .agg L[k].A] wx fun e w' => e = .returned (.bool false) ∧ Below wx.heap.size wx w') ∧ (Calls Try.prog 9 #[.agg L[i].A] wx fun e w' => e = .returned (.bool true) ∧ Below wx.heap.size wx w')) := fun wx L i k hA hi hk => ⟨by have := lbar_any wx (hA.ok L[i] (List.getElem_mem hi)) (hA.ok L[k] (List.getElem_mem hk)); rwa [hA.no L[i] (List.getElem_mem hi) L[k] (List.getElem_mem hk)] at this, by have := right_any wx L[i]; rwa [hA.ok L[i] (List.getElem_mem hi)] at this⟩
  have HS : Hid (IsOps w ao len f) := hS
  clear hS
  go_enter Try.func6, Try.ntmps6
  go_wp2_with (go_at_call 16; refine CN.out.mono ?_; rintro e w1 ⟨rfl, t1, b1⟩; have T1 : Hid (Rb w.heap.size w w1 w.heap.size (.slice none 0 0) [] 0) := ⟨t1, b1, b1.size⟩; clear t1 b1)
  clear CN
  go_loopw [4, 5] (fun s4 s5 wr => ∃ (i : Nat) (L : List Hd) (n : Int) (a : Option Addr) (c : Nat), s4 = .int .i64 (i : Int) ∧ Pa i L n ∧ Rb w.heap.size w wr w.heap.size (.slice a L.length c) L n) (fun s4 s5 _ => 40 - (intOf s4).toNat)
  case atStart => exact ⟨0, [], 0, none, 0, rfl, ⟨by omega, by simp, by omega, by omega, Apa.nil⟩, T1.out⟩
  case round =>
    obtain ⟨i, L, n, a, c, rfl, hz, hp⟩ := hrel
    have Z : Hid (Pa i L n) := hz
    have P0 : Hid (Rb w.heap.size w wr w.heap.size (.slice a L.length c) L n) := hp
    have hi40 := hz.i40
    have hLi := hz.len
    have hn0 := hz.n0
    have hn1 := hz.n1
    clear hz hp T1
    rename World => wo
    by_cases hgo : i < len ∧ i < 40
    · obtain ⟨hlen, h40⟩ := hgo
      have hlenI : (i : Int) < (len : Int) := by omega
      have h40I : (i : Int) < 40 := by omega
      obtain ⟨bs, off, ea, hbs, hrg⟩ := HS.out.at_ i hlen
      subst ea
      have hr0 : Hid (wo.rangeAt bs (off + i * 6) (f i).A.toList) := range_bel3 hrg P0.out.bel hbs
      clear hrg hbs HS CB CA CX
      generalize f i = o at *
      by_cases hk : o.kd = 3
      · have hle : (L.filter (fun g => !decide (g.x = o.h.x))).length ≤ L.length := List.length_filter_le _ _
        have hok : Hid (Apa (L.filter (fun g => !decide (g.x = o.h.x)))) := Z.out.apa.filter _
        have CD' : Hid (∀ wx, TbIs w.heap.size wx w.heap.size (.slice a L.length c) L n → w.heap.size ≤ wx.heap.size → Calls Try.prog 18 #[.pointer (some ⟨w.heap.size, 0, none⟩), .int .i64 o.h.x] wx fun e w' => e = .returned (.int .i64 ((L.length : Int) - ((L.filter (fun g => !decide (g.x = o.h.x))).length : Int))) ∧ ∃ a' c', TbTo w.heap.size wx w' w.heap.size (.slice a L.length c) (.slice a' (L.filter (fun g => !decide (g.x = o.h.x))).length c') (L.filter (fun g => !decide (g.x = o.h.x))) n) := fun wx h1 h3 => CD.out wx _ L n a c o.h.x h1 (by omega) h3
        clear CD CQ CH CK
        generalize L.filter (fun g => !decide (g.x = o.h.x)) = F at *
        obtain ⟨kd, h0⟩ := o
        simp only at hk
        subst hk
        go_wp2_with first
          | (refine wpList_load_opm (n := ⟨3, h0⟩) _ rfl (.tmp 22) rfl rfl hr0.out ?_)
          | (refine wpList_new_op _ rfl rfl ?_; intro w2 b3 O2 q2 e2)
          | (refine wpList_put_op (s := zO) (s' := ⟨3, h0⟩) _ rfl _ _ rfl rfl rfl O2 ?_; intro w3 O3 q3; have P3 : Hid (Rb w.heap.size w w3 w.heap.size (.slice a L.length c) L n) := P0.out.bl (q2.trans (q3 _ e2)); have k0 : w3.cell? ⟨b3, 0, none⟩ = some (.int .i64 3) := O3.c0; have k1 : w3.cell? ⟨b3, 1, none⟩ = some (.int .i64 h0.x) := O3.c1; clear e2)
          | (go_at_call 18; refine (CD'.out _ P3.out.is P3.out.hB).mono ?_; rintro e w5 ⟨rfl, a5, c5, t5⟩; have P5 : Hid (Rb w.heap.size w w5 w.heap.size (.slice a5 F.length c5) F n) := ((P3.out.ra O3).ask t5).rb; clear t5)
        go_roundw
        case rel => exact ⟨i + 1, F, n, a5, c5, by rfl, ⟨by omega, by omega, hn0, by omega, hok.out⟩, P5.out⟩
        case measure => simp [intOf]; omega
      · obtain ⟨k, L', n', er, hR⟩ := ask_keeps Z.out.apa hn0 (askedM o)
        have HQ : Hid (∀ wx, Calls Try.prog 19 #[.agg (Op5.A o)] wx fun e w' => e = .returned (.agg (askedM o).A) ∧ Below wx.heap.size wx w') := fun wx => CQ.out wx o
        have HK : Hid (∀ wx, TbIs w.heap.size wx w.heap.size (.slice a L.length c) L n → w.heap.size ≤ wx.heap.size → Calls Try.prog 24 #[.pointer (some ⟨w.heap.size, 0, none⟩), .agg (Op5.A o)] wx fun e w' => e = .returned (.int .i64 k) ∧ ∃ a' c', TbTo w.heap.size wx w' w.heap.size (.slice a L.length c) (.slice a' L'.length c') L' n') := fun wx h1 h4 => (CK.out wx _ L n a c o h1 (by omega) (by omega) h4).mono fun e w' q => q.to3 er
        have hl' := hR.len
        have hn0' := hR.n0
        have hn1' := hR.n1
        have HA : Hid (Apa L') := hR.apa
        have HH : Hid (k = 0 → ∀ wx a' c', TbIs w.heap.size wx w.heap.size (.slice a' L'.length c') L' n' → Calls Try.prog 22 #[.pointer (some ⟨w.heap.size, 0, none⟩), .agg (askedM o).A] wx fun e w' => e = .returned (.bool true) ∧ Below wx.heap.size wx w') := fun e0 wx a' c' h1 => by have := CH.out wx _ L' n' a' c' (askedM o) h1 (by omega); rwa [hR.has e0] at this
        clear CD CQ CH CK er hR
        generalize askedM o = h at *
        by_cases hk0 : k = 0
        · subst hk0
          have HH' : Hid (∀ wx a' c', TbIs w.heap.size wx w.heap.size (.slice a' L'.length c') L' n' → Calls Try.prog 22 #[.pointer (some ⟨w.heap.size, 0, none⟩), .agg h.A] wx fun e w' => e = .returned (.bool true) ∧ Below wx.heap.size wx w') := HH.out rfl
          clear HH
          go_wp2_with first
            | (refine wpList_load_opm (n := o) _ rfl (.tmp 22) rfl rfl hr0.out ?_)
            | (refine wpList_new_op _ rfl rfl ?_; intro w2 b3 O2 q2 e2)
            | (refine wpList_put_op (s := zO) (s' := o) _ rfl _ _ rfl rfl rfl O2 ?_; intro w3 O3 q3; have R : Hid (Ra w.heap.size w w3 w.heap.size (.slice a L.length c) L n b3 o) := (P0.out.bl (q2.trans (q3 _ e2))).ra O3; have k0 := O3.c0; clear e2)
            | (refine wpList_load_op (n := o) _ rfl (.tmp 5) rfl rfl R.out.r ?_)
            | (go_at_call 24; refine (HK.out _ R.out.is R.out.hB).mono ?_; rintro e w5 ⟨rfl, a5, c5, t5⟩; have R : Hid (Ra w.heap.size w w5 w.heap.size (.slice a5 L'.length c5) L' n' b3 o) := R.out.ask t5; clear t5; have s0 : w5.cell? ⟨b3, 0, none⟩ = some (.int .i64 o.kd) := Joins.cell_of_block R.out.r.blk 0; have s1 : w5.cell? ⟨b3, 1, none⟩ = some (.int .i64 o.h.x) := Joins.cell_of_block R.out.r.blk 1; have s2 : w5.cell? ⟨b3, 2, none⟩ = some (.int .i64 o.h.m) := Joins.cell_of_block R.out.r.blk 2; have s3 : w5.cell? ⟨b3, 3, none⟩ = some (.string o.h.lo) := Joins.cell_of_block R.out.r.blk 3; have s4 : w5.cell? ⟨b3, 4, none⟩ = some (.string o.h.hi) := Joins.cell_of_block R.out.r.blk 4; have s5 : w5.cell? ⟨b3, 5, none⟩ = some (.bool o.h.op) := Joins.cell_of_block R.out.r.blk 5)
            | (go_at_call 19; refine (HQ.out _).mono ?_; rintro e w6 ⟨rfl, q6⟩; have R : Hid (Ra w.heap.size w w6 w.heap.size (.slice a5 L'.length c5) L' n' b3 o) := R.out.bl q6)
            | (go_at_call 22; refine (HH'.out _ _ _ R.out.is).mono ?_; rintro e w7 ⟨rfl, q7⟩; have R : Hid (Ra w.heap.size w w7 w.heap.size (.slice a5 L'.length c5) L' n' b3 o) := R.out.bl q7)
          go_roundw
          case rel => exact ⟨i + 1, L', n', a5, c5, by rfl, ⟨by omega, by omega, hn0', by omega, HA.out⟩, R.out.rb⟩
          case measure => simp [intOf]; omega
        · have hk0' : (k == 0) = false := by simp [hk0]
          go_wp2_with first
            | (refine wpList_load_opm (n := o) _ rfl (.tmp 22) rfl rfl hr0.out ?_)
            | (refine wpList_new_op _ rfl rfl ?_; intro w2 b3 O2 q2 e2)
            | (refine wpList_put_op (s := zO) (s' := o) _ rfl _ _ rfl rfl rfl O2 ?_; intro w3 O3 q3; have R : Hid (Ra w.heap.size w w3 w.heap.size (.slice a L.length c) L n b3 o) := (P0.out.bl (q2.trans (q3 _ e2))).ra O3; have k0 := O3.c0; clear e2)
            | (refine wpList_load_op (n := o) _ rfl (.tmp 5) rfl rfl R.out.r ?_)
            | (go_at_call 24; refine (HK.out _ R.out.is R.out.hB).mono ?_; rintro e w5 ⟨rfl, a5, c5, t5⟩; have R : Hid (Ra w.heap.size w w5 w.heap.size (.slice a5 L'.length c5) L' n' b3 o) := R.out.ask t5; clear t5)
          go_roundw
          case rel => exact ⟨i + 1, L', n', a5, c5, by rfl, ⟨by omega, by omega, hn0', by omega, HA.out⟩, R.out.rb⟩
          case measure => simp [intOf]; omega
    · have hend : ¬ ((i : Int) < (len : Int) ∧ (i : Int) < 40) := by omega
      have hCB : Hid (∀ wx, TbIs w.heap.size wx w.heap.size (.slice a L.length c) L n → Calls Try.prog 26 #[.pointer (some ⟨w.heap.size, 0, none⟩)] wx fun e w' => KpO wx w' e L) := fun wx h1 => CB.out wx _ L n a c h1 (by omega)
      have AP : Hid (Apa L) := Z.out.apa
      clear CD CQ CH CK CB HS Z
      have hor : ((i : Int) < (len : Int) ∧ ¬ (i : Int) < 40) ∨ ¬ (i : Int) < (len : Int) := by omega
      clear hgo hend
      rcases hor with ⟨x1, x2⟩ | x1
      all_goals
        go_wp2_with (go_at_call 26; refine (hCB.out _ P0.out.is).mono ?_; rintro e w5 ⟨⟨a5, c5, rfl, hs5⟩, b5⟩; have H5 : Hid (Hs wo.heap.size w5 (.slice a5 L.length c5) L) := hs5; have B5 : Hid (Below w.heap.size w w5) := P0.out.bel.trans (b5.mono P0.out.hB); have S5 : Hid (w.heap.size ≤ w5.heap.size) := Nat.le_trans P0.out.hB b5.size; clear hs5 b5)
        clear hCB P0
        go_loopw [7, 8] (fun s7 s8 wr => ∃ (j : Nat), s7 = .int .i64 (j : Int) ∧ j ≤ L.length ∧ Below w5.heap.size w5 wr) (fun s7 s8 _ => L.length - (intOf s7).toNat)
        case atStart => exact ⟨0, rfl, Nat.zero_le _, Below.refl _ _⟩
        case round =>
          obtain ⟨j, rfl, hj, hb6⟩ := hrel
          rename World => wp
          have B6 : Hid (Below w5.heap.size w5 wp) := hb6
          clear hb6
          by_cases hjl : j < L.length
          · have hjI : (j : Int) < (L.length : Int) := by omega
            go_wp2
            go_loopw [8] (fun s8 wr => ∃ (k : Nat), s8 = .int .i64 (k : Int) ∧ k ≤ L.length ∧ Below w5.heap.size w5 wr) (fun s8 _ => L.length - (intOf s8).toNat)
            case atStart => exact ⟨0, rfl, Nat.zero_le _, B6.out⟩
            case round =>
              obtain ⟨k, rfl, hk, hb7⟩ := hrel
              rename World => wq
              have B7 : Hid (Below w5.heap.size w5 wq) := hb7
              clear hb7
              by_cases hkl : k < L.length
              · have hkI : (k : Int) < (L.length : Int) := by omega
                obtain ⟨g1, e1, hg1, hc1⟩ := H5.out.at_ hjl
                obtain ⟨g2, e2, hg2, hc2⟩ := H5.out.at_ hkl
                subst e1
                obtain rfl : g1 = g2 := by injection e2 with e2; injection e2
                have CX1 : Hid (∀ wx, Calls Try.prog 14 #[.agg L[j].A, .agg L[k].A] wx fun e w' => e = .returned (.bool false) ∧ Below wx.heap.size wx w') := fun wx => (CX.out wx L j k AP.out hjl hkl).1
                have CX2 : Hid (∀ wx, Calls Try.prog 9 #[.agg L[j].A] wx fun e w' => e = .returned (.bool true) ∧ Below wx.heap.size wx w') := fun wx => (CX.out wx L j k AP.out hjl hkl).2
                have HKp : Hid (∀ Wd : World, Below w5.heap.size w5 Wd → ((Wd.cell? ⟨g1, j * 5, none⟩ = some (.int .i64 L[j].x) ∧ Wd.cell? ⟨g1, j * 5 + 1, none⟩ = some (.int .i64 L[j].m) ∧ Wd.cell? ⟨g1, j * 5 + 2, none⟩ = some (.string L[j].lo) ∧ Wd.cell? ⟨g1, j * 5 + 3, none⟩ = some (.string L[j].hi) ∧ Wd.cell? ⟨g1, j * 5 + 4, none⟩ = some (.bool L[j].op)) ∧ Wd.cell? ⟨g1, k * 5, none⟩ = some (.int .i64 L[k].x) ∧ Wd.cell? ⟨g1, k * 5 + 1, none⟩ = some (.int .i64 L[k].m) ∧ Wd.cell? ⟨g1, k * 5 + 2, none⟩ = some (.string L[k].lo) ∧ Wd.cell? ⟨g1, k * 5 + 3, none⟩ = some (.string L[k].hi) ∧ Wd.cell? ⟨g1, k * 5 + 4, none⟩ = some (.bool L[k].op))) := fun Wd hb => by
                  have r1 := hc1 Wd (hb.block g1 hg1)
                  have r2 := hc2 Wd (hb.block g1 hg1)
                  exact ⟨⟨by have := r1 0 (.int .i64 L[j].x) rfl; simpa using this, r1 1 (.int .i64 L[j].m) rfl, r1 2 (.string L[j].lo) rfl, r1 3 (.string L[j].hi) rfl, r1 4 (.bool L[j].op) rfl⟩, by have := r2 0 (.int .i64 L[k].x) rfl; simpa using this, r2 1 (.int .i64 L[k].m) rfl, r2 2 (.string L[k].lo) rfl, r2 3 (.string L[k].hi) rfl, r2 4 (.bool L[k].op) rfl⟩
                clear hc1 hc2 hg1 hg2 e2
                generalize L[j] = y at *
                generalize L[k] = z at *
                have QB : Hid (Below w5.heap.size w5 wq.drew) := B7.out.drew
                obtain ⟨⟨d0, d1, d2, d3, d4⟩, f0, f1, f2, f3, f4⟩ := HKp.out wq B7.out
                go_wp2
                go_region_held3 (fun Wd => (Wd.cell? ⟨g1, j * 5, none⟩ = some (.int .i64 y.x) ∧ Wd.cell? ⟨g1, j * 5 + 1, none⟩ = some (.int .i64 y.m) ∧ Wd.cell? ⟨g1, j * 5 + 2, none⟩ = some (.string y.lo) ∧ Wd.cell? ⟨g1, j * 5 + 3, none⟩ = some (.string y.hi) ∧ Wd.cell? ⟨g1, j * 5 + 4, none⟩ = some (.bool y.op)) ∧ Wd.cell? ⟨g1, k * 5, none⟩ = some (.int .i64 z.x) ∧ Wd.cell? ⟨g1, k * 5 + 1, none⟩ = some (.int .i64 z.m) ∧ Wd.cell? ⟨g1, k * 5 + 2, none⟩ = some (.string z.lo) ∧ Wd.cell? ⟨g1, k * 5 + 3, none⟩ = some (.string z.hi) ∧ Wd.cell? ⟨g1, k * 5 + 4, none⟩ = some (.bool z.op)) (first | exact keep1 | go_keep) (first
                  | (go_at_call 14; refine (CX1.out _).mono ?_; rintro e w8 ⟨rfl, q8⟩; have QB : Hid (Below w5.heap.size w5 w8) := thn QB.out q8; have keep1 := HKp.out _ QB.out)
                  | (go_at_call 9; refine (CX2.out _).mono ?_; rintro e w8 ⟨rfl, q8⟩; have QB : Hid (Below w5.heap.size w5 w8) := thn QB.out q8; have keep1 := HKp.out _ QB.out))
                all_goals
                  go_wp2
                  go_roundw
                  case rel => exact ⟨k + 1, by rfl, by omega, QB.out⟩
                  case measure => simp [intOf]; omega
              · have hkI : ¬ (k : Int) < (L.length : Int) := by omega
                go_wp2
                go_roundw
                case rel => exact ⟨j + 1, by rfl, by omega, B7.out⟩
                case measure => simp [intOf]; omega
          · have hjI : ¬ (j : Int) < (L.length : Int) := by omega
            go_wp2_with (go_at_call 10; refine (CA.out _).mono ?_; rintro e w9 ⟨rfl, q9⟩)
            go_ret
            exact ⟨rfl, B5.out.trans ((thn B6.out q9).mono S5.out)⟩
end
end Go.Proofs.Ytkpjamdlpofgcaa
