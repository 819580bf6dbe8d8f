/- The developers' fold: isMade, New, behind, find. -/
import Derived.Test.YtkcpclmkbmeigabFdA
import Derived.Lib.Bytealg
import Derived.Shelf.Abstract
namespace Go.Proofs.Ytkcpclmkbmeigab.Fd
open Go.RowKit Gm Go.Maps
set_option linter.unusedVariables false
set_option linter.unusedSimpArgs false
set_option maxRecDepth 100000
/-- A record's scalars. -/
structure Rc where
  kd : Int
  tx : Int
  pv : Int
  pg : Int
  ac : Int
  ky : ByteArray
  ol : ByteArray
  nw : ByteArray
  nx : Int
  ep : Int
  nd : Int
def Rc.A (s : Rc) (I T : Value) : Array Value := #[.int .i64 s.kd, .int .i64 s.tx, .int .i64 s.pv, .int .i64 s.pg, .int .i64 s.ac, .string s.ky, .string s.ol, .string s.nw, .int .i64 s.nx, I, T, .int .i64 s.ep, .int .i64 s.nd]
/-- What a record's key has behind it. -/
def actK (k : Int) (nw : ByteArray) : Option Hs := if k = 3 ∨ k = 5 then some ⟨nw, true⟩ else if k = 4 then some zH else none
def bhd (r : Rc) : Option Hs := actK (if r.kd = 6 then r.ac else r.kd) r.nw
section
variable {W W' : Nat → Prop} {w w' : World} {fb bw : Nat} {v : Value} {K : List CL} {L : List Dv} {G : List Gt} {n t : Int}
theorem neW (w : World) (x : Option Nat) : (binOp .neq 46 (.map x) (.map none)).run Try.prog w = .ok (.bool (!x.isNone)) w := run_neq_map_nil w _ _ _ x uW
theorem eqK (w : World) (x : Option Nat) : (binOp .eql 56 (.map x) (.map none)).run Try.prog w = .ok (.bool x.isNone) w := run_eql_map_nil w _ _ _ x uK
theorem isMade_nil (w : World) : Calls Try.prog 17 #[.pointer none] w fun e w' => e = .returned (.bool false) ∧ w' = w := by
  go_enter Try.func17, Try.ntmps17
  go_wp2
  go_ret
  exact ⟨rfl, rfl⟩
theorem isMade_zero {z : Nat} {u y : Value} (h : At w z 48 #[u, .map none, y]) : Calls Try.prog 17 #[.pointer (some ⟨z, 0, none⟩)] w fun e w' => e = .returned (.bool false) ∧ w' = w := by
  have c1 : w.cell? ⟨z, 1, none⟩ = some (.map none) := h.c 1
  clear h
  have hq := neW
  go_enter Try.func17, Try.ntmps17
  go_wp2
  go_ret
  exact ⟨rfl, rfl⟩
theorem isMade_ok {b : Nat} {u y : Value} (h : At w fb 48 #[u, .map (some b), y]) : Calls Try.prog 17 #[.pointer (some ⟨fb, 0, none⟩)] w fun e w' => e = .returned (.bool true) ∧ w' = w := by
  have c1 : w.cell? ⟨fb, 1, none⟩ = some (.map (some b)) := h.c 1
  clear h
  have hq := neW
  go_enter Try.func17, Try.ntmps17
  go_wp2
  go_ret
  exact ⟨rfl, rfl⟩
/-- New. -/
structure NwF (w w' : World) (fb : Nat) : Prop where
  ex : ∃ W, Fo W w' fb [] [] 0 ∧ ∀ j, W j → w.heap.size ≤ j
  bel : Below w.heap.size w w'
theorem New_ok (w : World) : Calls Try.prog 5 #[] w fun e w' => e = .returned (.pointer (some ⟨w.heap.size + 1, 0, none⟩)) ∧ NwF w w' (w.heap.size + 1) := by
  have hm : ∀ t w, (Instr.makeMap t none).run Try.prog w = .ok (.map (some w.heap.size)) (w.alloc (.map #[] 0)) := fun t w => rfl
  go_enter Try.func5, Try.ntmps5
  go_wp2
  go_ret
  have m1 := Mp.made w 3
  have b2 := bl1 (w := w.alloc (.map #[] 0)) (.cells #[.slice none 0 0, .map (some w.heap.size), .int .i64 0] 48)
  refine ⟨rfl, ⟨fun j => w.heap.size ≤ j ∧ j < w.heap.size + 2, ⟨⟨.slice none 0 0, w.heap.size, [], ⟨?_, Row.nil _ _ _, ?_, fun d hd => (by cases hd), List.Pairwise.nil, fun d hd => (by cases hd), fun d hd => (by cases hd), ⟨⟨by omega, by omega⟩, by omega, by omega⟩, fun g e => (by cases e), fun d hd => (by cases hd), List.Pairwise.nil⟩, rfl⟩, fun j hj => ?_⟩, fun j hj => hj.1⟩, thn (bl1 _) b2⟩
  · have := At.new (w.alloc (.map #[] 0)) #[.slice none 0 0, .map (some w.heap.size), .int .i64 0] 48
    simpa using this
  · exact (m1.bel b2).ext fun l => by cases l <;> first | rfl | (rename_i q a; cases q <;> rfl)
  · have := hj.2
    simpa using this
/-- behind. -/
theorem behind_any (r : Rc) (I T : Value) (w : World) : Calls Try.prog 30 #[.agg (r.A I T)] w fun e w' => e = .returned (.tuple #[.agg ((bhd r).getD zH).A, .bool (bhd r).isSome]) ∧ Below w.heap.size w w' := by
  obtain ⟨kd, tx, pv, pg, ac, ky, ol, nw, nx, ep, nd⟩ := r
  have h2 := stH
  have KK : Hid (∀ wx b1 w1 w2 b2, New wx w1 b1 28 (Rc.A ⟨kd, tx, pv, pg, ac, ky, ol, nw, nx, ep, nd⟩ I T) → New w1 w2 b2 60 zH.A → w2.cell? ⟨b1, 0, none⟩ = some (.int .i64 kd) ∧ w2.cell? ⟨b1, 4, none⟩ = some (.int .i64 ac) ∧ w2.cell? ⟨b1, 7, none⟩ = some (.string nw)) := fun wx b1 w1 w2 b2 N1 N2 => ⟨(N1.is.bel N2.bel).c 0, (N1.is.bel N2.bel).c 4, (N1.is.bel N2.bel).c 7⟩
  have BB : Hid (∀ wx b1 w1 w2 b2 w3 A, New wx w1 b1 28 (Rc.A ⟨kd, tx, pv, pg, ac, ky, ol, nw, nx, ep, nd⟩ I T) → New w1 w2 b2 60 zH.A → Put w2 w3 b2 60 A → Below wx.heap.size wx w3) := fun wx b1 w1 w2 b2 w3 A N1 N2 P3 => N1.bel.trans ((N2.bel.trans ((P3.fr (· = b2) rfl).bel (fun j hj => by rw [hj]; rw [N2.eq]; exact Nat.le_refl _) N2.bel.size)).mono N1.bel.size)
  by_cases h6 : kd = 6
  · subst h6
    by_cases h3 : ac = 3 ∨ ac = 5
    · have e1 : bhd ⟨6, tx, pv, pg, ac, ky, ol, nw, nx, ep, nd⟩ = some ⟨nw, true⟩ := by simp only [bhd, actK, if_true]; rw [if_pos h3]
      rw [e1]
      clear e1
      rcases h3 with rfl | rfl
      all_goals
        go_enter Try.func30, Try.ntmps30
        go_wp2_with first
          | (refine wpList_box_at (A := Rc.A ⟨_, tx, pv, pg, _, ky, ol, nw, nx, ep, nd⟩ I T) _ rfl _ rfl rfl ?_; intro w1 b1 N1)
          | (refine wpList_new_at (A := zH.A) _ zKv rfl rfl ?_; intro w2 b2 N2; obtain ⟨k0, k4, k7⟩ := KK.out _ _ _ _ _ N1 N2)
          | (refine wpList_put_at (A := zH.A) (A' := Hs.A ⟨nw, true⟩) h2 _ rfl _ _ rfl rfl rfl N2.is rfl rfl (oneH _) ?_; intro w3 P3)
        refine bodyPost_ret (results_at2 h2 rfl _ _ rfl P3.is rfl) rfl ?_
        exact ⟨rfl, BB.out _ _ _ _ _ _ _ N1 N2 P3⟩
    · by_cases h4 : ac = 4
      · have e1 : bhd ⟨6, tx, pv, pg, ac, ky, ol, nw, nx, ep, nd⟩ = some zH := by simp only [bhd, actK, if_true]; rw [if_neg h3, if_pos h4]
        rw [e1]
        clear e1
        subst h4
        go_enter Try.func30, Try.ntmps30
        go_wp2_with first
          | (refine wpList_box_at (A := Rc.A ⟨_, tx, pv, pg, _, ky, ol, nw, nx, ep, nd⟩ I T) _ rfl _ rfl rfl ?_; intro w1 b1 N1)
          | (refine wpList_new_at (A := zH.A) _ zKv rfl rfl ?_; intro w2 b2 N2; obtain ⟨k0, k4, k7⟩ := KK.out _ _ _ _ _ N1 N2)
          | (refine wpList_put_at (A := zH.A) (A' := zH.A) h2 _ rfl _ _ rfl rfl rfl N2.is rfl rfl (oneH _) ?_; intro w3 P3)
        refine bodyPost_ret (results_at2 h2 rfl _ _ rfl P3.is rfl) rfl ?_
        exact ⟨rfl, BB.out _ _ _ _ _ _ _ N1 N2 P3⟩
      · have e1 : bhd ⟨6, tx, pv, pg, ac, ky, ol, nw, nx, ep, nd⟩ = none := by simp only [bhd, actK, if_true]; rw [if_neg h3, if_neg h4]
        rw [e1]
        have h5 : ¬ ac = 3 := fun e => h3 (Or.inl e)
        have h7 : ¬ ac = 5 := fun e => h3 (Or.inr e)
        clear e1 h3
        go_enter Try.func30, Try.ntmps30
        go_wp2_with first
          | (refine wpList_box_at (A := Rc.A ⟨_, tx, pv, pg, _, ky, ol, nw, nx, ep, nd⟩ I T) _ rfl _ rfl rfl ?_; intro w1 b1 N1)
          | (refine wpList_new_at (A := zH.A) _ zKv rfl rfl ?_; intro w2 b2 N2; obtain ⟨k0, k4, k7⟩ := KK.out _ _ _ _ _ N1 N2)
          | (refine wpList_put_at (A := zH.A) (A' := zH.A) h2 _ rfl _ _ rfl rfl rfl N2.is rfl rfl (oneH _) ?_; intro w3 P3)
        refine bodyPost_ret (results_at2 h2 rfl _ _ rfl P3.is rfl) rfl ?_
        exact ⟨rfl, BB.out _ _ _ _ _ _ _ N1 N2 P3⟩
  · have h6b : (kd == 6) = false := by simpa using h6
    by_cases h3 : kd = 3 ∨ kd = 5
    · have e1 : bhd ⟨kd, tx, pv, pg, ac, ky, ol, nw, nx, ep, nd⟩ = some ⟨nw, true⟩ := by simp only [bhd, actK]; rw [if_neg h6]; rw [if_pos h3]
      rw [e1]
      clear e1
      rcases h3 with rfl | rfl
      all_goals
        go_enter Try.func30, Try.ntmps30
        go_wp2_with first
          | (refine wpList_box_at (A := Rc.A ⟨_, tx, pv, pg, _, ky, ol, nw, nx, ep, nd⟩ I T) _ rfl _ rfl rfl ?_; intro w1 b1 N1)
          | (refine wpList_new_at (A := zH.A) _ zKv rfl rfl ?_; intro w2 b2 N2; obtain ⟨k0, k4, k7⟩ := KK.out _ _ _ _ _ N1 N2)
          | (refine wpList_put_at (A := zH.A) (A' := Hs.A ⟨nw, true⟩) h2 _ rfl _ _ rfl rfl rfl N2.is rfl rfl (oneH _) ?_; intro w3 P3)
        refine bodyPost_ret (results_at2 h2 rfl _ _ rfl P3.is rfl) rfl ?_
        exact ⟨rfl, BB.out _ _ _ _ _ _ _ N1 N2 P3⟩
    · by_cases h4 : kd = 4
      · have e1 : bhd ⟨kd, tx, pv, pg, ac, ky, ol, nw, nx, ep, nd⟩ = some zH := by simp only [bhd, actK]; rw [if_neg h6]; rw [if_neg h3, if_pos h4]
        rw [e1]
        clear e1
        subst h4
        go_enter Try.func30, Try.ntmps30
        go_wp2_with first
          | (refine wpList_box_at (A := Rc.A ⟨_, tx, pv, pg, _, ky, ol, nw, nx, ep, nd⟩ I T) _ rfl _ rfl rfl ?_; intro w1 b1 N1)
          | (refine wpList_new_at (A := zH.A) _ zKv rfl rfl ?_; intro w2 b2 N2; obtain ⟨k0, k4, k7⟩ := KK.out _ _ _ _ _ N1 N2)
          | (refine wpList_put_at (A := zH.A) (A' := zH.A) h2 _ rfl _ _ rfl rfl rfl N2.is rfl rfl (oneH _) ?_; intro w3 P3)
        refine bodyPost_ret (results_at2 h2 rfl _ _ rfl P3.is rfl) rfl ?_
        exact ⟨rfl, BB.out _ _ _ _ _ _ _ N1 N2 P3⟩
      · have e1 : bhd ⟨kd, tx, pv, pg, ac, ky, ol, nw, nx, ep, nd⟩ = none := by simp only [bhd, actK]; rw [if_neg h6]; rw [if_neg h3, if_neg h4]
        rw [e1]
        have h5 : ¬ kd = 3 := fun e => h3 (Or.inl e)
        have h7 : ¬ kd = 5 := fun e => h3 (Or.inr e)
        clear e1 h3
        go_enter Try.func30, Try.ntmps30
        go_wp2_with first
          | (refine wpList_box_at (A := Rc.A ⟨_, tx, pv, pg, _, ky, ol, nw, nx, ep, nd⟩ I T) _ rfl _ rfl rfl ?_; intro w1 b1 N1)
          | (refine wpList_new_at (A := zH.A) _ zKv rfl rfl ?_; intro w2 b2 N2; obtain ⟨k0, k4, k7⟩ := KK.out _ _ _ _ _ N1 N2)
          | (refine wpList_put_at (A := zH.A) (A' := zH.A) h2 _ rfl _ _ rfl rfl rfl N2.is rfl rfl (oneH _) ?_; intro w3 P3)
        refine bodyPost_ret (results_at2 h2 rfl _ _ rfl P3.is rfl) rfl ?_
        exact ⟨rfl, BB.out _ _ _ _ _ _ _ N1 N2 P3⟩
/-! ### find -/
theorem cb_lt : ∀ a b : List UInt8, Lib.compareBytes a b < 0 ↔ a < b
  | [], [] => by simp [Lib.compareBytes]
  | [], b :: ys => by simp [Lib.compareBytes]
  | a :: xs, [] => by simp [Lib.compareBytes]
  | a :: xs, b :: ys => by
    have ih := cb_lt xs ys
    rw [List.cons_lt_cons_iff]
    unfold Lib.compareBytes
    by_cases h1 : a < b
    · rw [if_pos h1]; simp [h1]
    · rw [if_neg h1]
      by_cases h2 : b < a
      · rw [if_pos h2]
        have hne : a ≠ b := fun e => by subst e; exact h1 h2
        simp [h1, hne]
      · rw [if_neg h2]
        have he : a = b := by
          have h3 : ¬ a.toNat < b.toNat := fun h => h1 (UInt8.lt_iff_toNat_lt.2 h)
          have h4 : ¬ b.toNat < a.toNat := fun h => h2 (UInt8.lt_iff_toNat_lt.2 h)
          exact UInt8.toNat_inj.1 (by omega)
        subst he
        simp [ih, h1]
theorem cb_eq : ∀ a b : List UInt8, Lib.compareBytes a b = 0 ↔ a = b
  | [], [] => by simp [Lib.compareBytes]
  | [], b :: ys => by simp [Lib.compareBytes]
  | a :: xs, [] => by simp [Lib.compareBytes]
  | a :: xs, b :: ys => by
    have ih := cb_eq xs ys
    rw [List.cons.injEq]
    unfold Lib.compareBytes
    by_cases h1 : a < b
    · rw [if_pos h1]
      have hne : a ≠ b := fun e => by subst e; exact absurd h1 (by simp)
      simp [hne]
    · rw [if_neg h1]
      by_cases h2 : b < a
      · rw [if_pos h2]
        have hne : a ≠ b := fun e => by subst e; exact h1 h2
        simp [hne]
      · rw [if_neg h2]
        have he : a = b := by
          have h3 : ¬ a.toNat < b.toNat := fun h => h1 (UInt8.lt_iff_toNat_lt.2 h)
          have h4 : ¬ b.toNat < a.toNat := fun h => h2 (UInt8.lt_iff_toNat_lt.2 h)
          exact UInt8.toNat_inj.1 (by omega)
        subst he
        simp [ih]
def cmpB (a b : ByteArray) : Int := Lib.compareBytes a.data.toList b.data.toList
theorem cmpB_lt {a b : ByteArray} : cmpB a b < 0 ↔ blt a b := cb_lt _ _
theorem cmpB_eq {a b : ByteArray} : (cmpB a b == 0) = decide (a = b) := by
  rw [Bool.eq_iff_iff, beq_iff_eq, decide_eq_true_iff]
  unfold cmpB
  rw [cb_eq]
  exact ⟨ba_eq, fun h => by rw [h]⟩
theorem cmpS (a b : ByteArray) (w : World) : Calls Try.prog 41 #[.string a, .string b] w fun e w' => e = .returned (.int .i64 (cmpB a b)) ∧ w' = w := by
  go_enter Try.func41, Try.ntmps41
  go_wp2
  rw [run_callFunc_extern Try.func56 (by kernel_rfl) (by kernel_rfl) (by kernel_rfl) (e := Extern.BytealgCompare.compare) (by kernel_rfl), Lib.run_compareString]
  simp only [Result.andThen]
  rw [Oper.upon_value]
  go_wp2
  go_ret
  exact ⟨rfl, rfl⟩
theorem cmpT (a b : ByteArray) (w : World) : Calls Try.prog 33 #[.string a, .string b] w fun e w' => e = .returned (.int .i64 (cmpB a b)) ∧ w' = w := by
  go_enter Try.func33, Try.ntmps33
  go_wp2_with (go_at_call 41; refine (cmpS _ _ _).mono ?_; rintro e w2 ⟨rfl, rfl⟩)
  go_ret
  exact ⟨rfl, rfl⟩
theorem find1_any (k x key : ByteArray) (w : World) : Calls Try.prog 32 #[.agg #[.string k, .string x], .string key] w fun e w' => e = .returned (.int .i64 (cmpB k key)) ∧ Below w.heap.size w w' := by
  go_enter Try.func32, Try.ntmps32
  go_wp2_with (go_at_call 33; refine (cmpT _ _ _).mono ?_; rintro e w2 ⟨rfl, rfl⟩)
  go_ret
  exact ⟨rfl, (Below.refl _ _).alloc (Nat.le_refl _) _⟩
/-- The i-th cell, in every world that keeps the blocks of w. -/
theorem row_at {a : Option Addr} {c : Nat} (h : Row w 41 2 (.slice a K.length c) (K.map encC)) {i : Nat} (hi : i < K.length) : ∃ g, a = some ⟨g, 0, none⟩ ∧ g < w.heap.size ∧ ∀ w', Below w.heap.size w w' → w'.cell? ⟨g, i * 2, none⟩ = some (.string K[i].1) ∧ w'.cell? ⟨g, i * 2 + 1, none⟩ = some (.string K[i].2) := by
  obtain ⟨g, ea, hg, hat⟩ := h.at_ (i := i) (by rw [List.length_map]; exact hi)
  refine ⟨g, ea, hg, fun w' hb => ?_⟩
  have hra := (hat w' (hb.block g hg)).1
  rw [List.getElem_map] at hra
  exact ⟨by have := hra 0 _ rfl; simpa using this, by have := hra 1 _ rfl; simpa using this⟩
set_option maxHeartbeats 1000000 in
theorem Search_any (hr : Ris K) (hl : K.length ≤ 1000) {a : Option Addr} (cap : Nat) (hc : Row w 41 2 (.slice a K.length cap) (K.map encC)) (key : ByteArray) :
    Calls Try.prog 31 #[.slice a K.length cap, .string key, .func (.func 32) #[] #[]] w fun e w' => e = .returned (.tuple #[.int .i64 (plc K key : Nat), .bool (isK K key)]) ∧ Below w.heap.size w w' := by
  have HF : Hid (∀ wx k x, Calls Try.prog 32 #[.agg #[.string k, .string x], .string key] wx fun e w' => e = .returned (.int .i64 (cmpB k key)) ∧ Below wx.heap.size wx w') := fun wx k x => find1_any k x key wx
  have eg : ∀ args w, (callFunc 32 args).run Try.prog w = .ok (.enter 32 args) w := fun args w => by kernel_rfl
  have HC : Hid (Row w 41 2 (.slice a K.length cap) (K.map encC)) := hc
  have HR : Hid (Ris K) := hr
  have hx := plc_le K key
  clear hc hr
  go_enter Try.func31, Try.ntmps31
  go_wp2
  go_loopw [9, 10] (fun s5 s6 wr => ∃ (lo hi : Nat), s5 = .int .i64 (lo : Int) ∧ s6 = .int .i64 (hi : Int) ∧ lo ≤ plc K key ∧ plc K key ≤ hi ∧ hi ≤ K.length ∧ Below w.heap.size w wr) (fun s5 s6 _ => (intOf s6).toNat - (intOf s5).toNat)
  case atStart => exact ⟨0, K.length, rfl, rfl, Nat.zero_le _, hx, Nat.le_refl _, Below.refl _ _⟩
  case round =>
    obtain ⟨lo, hi, rfl, rfl, hlo, hh, hin, hb⟩ := hrel
    by_cases hlt : lo < hi
    · have hltI : (lo : Int) < (hi : Int) := by omega
      have hml : (lo + hi) / 2 < K.length := by omega
      obtain ⟨bk, rfl, hbk, hcell⟩ := row_at HC.out (i := (lo + hi) / 2) hml
      obtain ⟨k0, k1⟩ := hcell _ hb
      have hm : (((lo + hi) / 2 : Nat) : Int) = ((lo : Int) + (hi : Int)) / 2 := by omega
      have C := HF.out
      by_cases hp : (lo + hi) / 2 < plc K key
      · have hq : cmpB K[(lo + hi) / 2].1 key < 0 := cmpB_lt.2 (plc_lt hp)
        generalize K[(lo + hi) / 2] = q at *
        have C1 : Hid (∀ wx, Calls Try.prog 32 #[.agg #[.string q.1, .string q.2], .string key] wx fun e w' => e = .returned (.int .i64 (cmpB q.1 key)) ∧ Below wx.heap.size wx w') := fun wx => C wx q.1 q.2
        clear C HF
        generalize cmpB q.1 key = c at *
        have HP : Hid _ := hp
        clear hp
        go_wp2_with (go_at_fn 32; refine (C1.out _).mono ?_; rintro e w2 ⟨rfl, b2⟩)
        go_roundw
        case rel =>
          have hq : (lo + hi) / 2 < plc K key := HP.out
          exact ⟨(lo + hi) / 2 + 1, hi, by rw [← hm]; rfl, rfl, by omega, hh, hin, thn hb b2⟩
        case measure => simp [intOf]; omega
      · have hq : ¬ cmpB K[(lo + hi) / 2].1 key < 0 := fun h => plc_ge HR.out hml (by omega) (cmpB_lt.1 h)
        generalize K[(lo + hi) / 2] = q at *
        have C1 : Hid (∀ wx, Calls Try.prog 32 #[.agg #[.string q.1, .string q.2], .string key] wx fun e w' => e = .returned (.int .i64 (cmpB q.1 key)) ∧ Below wx.heap.size wx w') := fun wx => C wx q.1 q.2
        clear C HF
        generalize cmpB q.1 key = c at *
        have HP : Hid _ := hp
        clear hp
        go_wp2_with (go_at_fn 32; refine (C1.out _).mono ?_; rintro e w2 ⟨rfl, b2⟩)
        go_roundw
        case rel =>
          have hq : ¬ (lo + hi) / 2 < plc K key := HP.out
          exact ⟨lo, (lo + hi) / 2, rfl, by rw [← hm], hlo, by omega, by omega, thn hb b2⟩
        case measure => simp [intOf]; omega
    · have e1 : lo = plc K key := by omega
      subst e1
      have hltI : ¬ ((plc K key : Nat) : Int) < (hi : Int) := by omega
      by_cases hp : plc K key < K.length
      · have hpI : ((plc K key : Nat) : Int) < (K.length : Int) := by omega
        obtain ⟨bk, rfl, hbk, hcell⟩ := row_at HC.out hp
        obtain ⟨k0, k1⟩ := hcell _ hb
        have hi2 : Hid (isK K key = decide ((K[plc K key]).1 = key)) := (by unfold isK; rw [List.getElem?_eq_getElem hp] : isK K key = decide ((K[plc K key]).1 = key))
        have C := HF.out
        have hce : Hid ((cmpB K[plc K key].1 key == 0) = decide (K[plc K key].1 = key)) := cmpB_eq
        generalize K[plc K key] = q at *
        have C1 : Hid (∀ wx, Calls Try.prog 32 #[.agg #[.string q.1, .string q.2], .string key] wx fun e w' => e = .returned (.int .i64 (cmpB q.1 key)) ∧ Below wx.heap.size wx w') := fun wx => C wx q.1 q.2
        clear C HF hcell
        generalize cmpB q.1 key = c at *
        go_wp2_with (go_at_fn 32; refine (C1.out _).mono ?_; rintro e w2 ⟨rfl, b2⟩)
        go_ret2
        exact ⟨by rw [hi2.out, ← hce.out]; rfl, thn hb b2⟩
      · have hpI : ¬ ((plc K key : Nat) : Int) < (K.length : Int) := by omega
        have hi2 : Hid (isK K key = false) := (by unfold isK; rw [List.getElem?_eq_none (by omega)] : isK K key = false)
        go_wp2
        go_ret2
        exact ⟨by rw [hi2.out]; rfl, hb⟩
theorem find_any {u y : Value} {a : Option Addr} {cap : Nat} (hr : Ris K) (hl : K.length ≤ 1000) (h : At w fb 48 #[.slice a K.length cap, u, y]) (hc : Row w 41 2 (.slice a K.length cap) (K.map encC)) (key : ByteArray) :
    Calls Try.prog 20 #[.pointer (some ⟨fb, 0, none⟩), .string key] w fun e w' => e = .returned (.tuple #[.int .i64 (plc K key : Nat), .bool (isK K key)]) ∧ Below w.heap.size w w' := by
  have c0 : w.cell? ⟨fb, 0, none⟩ = some (.slice a K.length cap) := h.c 0
  have C := Search_any hr hl cap hc key
  clear h hc hl hr
  generalize K.length = n at *
  generalize plc K key = p at *
  generalize isK K key = b at *
  go_enter Try.func20, Try.ntmps20
  go_wp2_with (go_at_call 31; refine C.mono ?_; rintro e w2 ⟨rfl, b2⟩)
  go_ret2
  exact ⟨rfl, b2⟩
end
end Go.Proofs.Ytkcpclmkbmeigab.Fd
