/- Rows of numbers of the program's own; the pages that a record changes, and what takes it back: pagesOf, Pages, Back. -/
import Derived.Test.YtakdfdnndogaiaaRxRow
import Derived.Deep.OwnRows
import Derived.Laws.OwnMore
namespace Go.Proofs.Ytakdfdnndogaiaa
open Go.RowKit
set_option linter.unusedVariables false
set_option linter.unusedSimpArgs false
set_option maxRecDepth 100000

def iv (ps : List Int) : List Value := ps.map fun p => .int .i64 p
/-- A row of numbers of the call's own. -/
structure OwnI (B : Nat) (w : World) (v : Value) (ps : List Int) : Prop where
  row : w.ownsRow B 3 1 v ps.length (iv ps)
theorem OwnI.nil (B : Nat) (w : World) : OwnI B w (.slice none 0 0) [] := ⟨rfl, Or.inl ⟨rfl, rfl⟩⟩
theorem OwnI.below {B : Nat} {w w' : World} {v : Value} {ps : List Int} (h : OwnI B w v ps) (hb : Below w.heap.size w w') : OwnI B w' v ps := by
  obtain ⟨h1, h2⟩ := h.row
  refine ⟨h1, ?_⟩
  rcases h2 with h2 | ⟨g, cap, cur, e, hB, hg, h3⟩
  · exact Or.inl h2
  · exact Or.inr ⟨g, cap, cur, e, hB, (hb.block g (Array.getElem?_eq_some_iff.1 hg).1).trans hg, h3⟩
theorem OwnI.ex {B : Nat} {w : World} {v : Value} {ps : List Int} (h : OwnI B w v ps) : ∃ a c, v = .slice a ps.length c := by
  obtain ⟨h1, h2⟩ := h.row
  rcases h2 with ⟨rfl, h2⟩ | ⟨g, cap, cur, e, hB, hg, h3⟩
  · exact ⟨none, 0, by rw [h2]⟩
  · exact ⟨_, _, e⟩
theorem OwnI.at_ {B : Nat} {w : World} {a : Option Addr} {n c : Nat} {ps : List Int} (h : OwnI B w (.slice a n c) ps) {i : Nat} (hi : i < ps.length) : ∃ g, a = some ⟨g, 0, none⟩ ∧ ∀ w', Below w.heap.size w w' → w'.cell? ⟨g, i, none⟩ = some (.int .i64 ps[i]) := by
  obtain ⟨h1, h2⟩ := h.row
  rcases h2 with ⟨_, h2⟩ | ⟨g, cap, cur, e, hB, hg, h3, h4, h5, h6⟩
  · omega
  · cases e
    refine ⟨g, rfl, fun w' hb => ?_⟩
    have hg' := (hb.block g (Array.getElem?_eq_some_iff.1 hg).1).trans hg
    rw [cell_of_row w' g i cur 3 (0, 0) hg']
    have : (iv ps)[i]? = some (.int .i64 ps[i]) := by simp [iv, hi]
    rw [← h6, List.getElem?_take, if_pos (by omega)] at this
    simpa using this
theorem info_int : ∃ i, Try.prog.info? 3 = some i ∧ i.zero = some (.int .i64 0) ∧ i.size = 1 ∧ i.bytes = 8 :=
  info_parts (show (Try.prog.info? 3).map (fun i => (i.zero, i.size, i.bytes)) = some (some (.int .i64 0), 1, 8) by kernel_rfl)
theorem wpList_append_int {B : Nat} {w : World} {ops : Array Oper} {rest : List Oper} {o : Oper} {act : Act} {Q : Exit → Act → World → Prop} (hgd : o.guard = none) (s x : Operand)
    (ho : o.op = .call { callee := .builtin .append, args := #[s, x], argTypes := #[42, 42] }) {v : Value} {ps : List Int} (hs : act.eval s = v) (h : OwnI B w v ps)
    {g : Nat} {p : Int} (hx : act.eval x = .slice (some ⟨g, 0, none⟩) 1 1) (hg : w.cell? ⟨g, 0, none⟩ = some (.int .i64 p)) (hB : B ≤ w.heap.size) (hl : ps.length ≤ 100000)
    (K : ∀ v' w', OwnI B w' v' (ps ++ [p]) → Below B w w' → wpList Try.prog ops Q rest (act.put o.dst v') w') : wpList Try.prog ops Q (o :: rest) act w := by
  obtain ⟨i, hi, hz0, hz1, hz2⟩ := info_int
  refine Go.wpList_append_own (P := Try.prog) (w := w) hgd s x 42 ho B 3 i (.int .i64 0) 1 8 Try.underlying42 hi hz0 hz1 hz2 rfl (by omega) v ps.length (iv ps) hs h.row ⟨g, 0, none⟩ 1 1 [.int .i64 p] hx rfl ?_ ?_ (by unfold maxLen; omega) (by omega) hB ?_
  · intro j u hu
    have : j = 0 := by
      have := (List.getElem?_eq_some_iff.1 hu).1
      simpa using this
    subst this
    simp at hu
    subst hu
    have hadd : (⟨g, 0, none⟩ : Addr).add 0 = ⟨g, 0, none⟩ := by unfold Addr.add; split <;> simp_all
    rw [hadd]
    exact hg
  · intro u hu
    simp at hu
    subst hu
    rfl
  · intro v' w' hr hgr hn
    refine K v' w' ⟨?_⟩ ?_
    · have e1 : (ps ++ [p]).length = ps.length + 1 := by simp
      have e2 : iv (ps ++ [p]) = iv ps ++ [.int .i64 p] := by simp [iv]
      rw [e1, e2]
      exact hr
    · refine ⟨hgr.os, hgr.tape, hgr.output, hgr.size, fun k hk => hgr.block k (by omega) (fun e => ?_)⟩
      obtain ⟨_, h2⟩ := h.row
      rcases h2 with ⟨rfl, _⟩ | ⟨g', cap, cur, rfl, hB', _⟩
      · simp [Value.ownBlock] at e
      · simp [Value.ownBlock] at e
        omega
def pagesM (m : Rm) : List Int := if m.s.kd = 1 ∨ m.s.kd = 2 then m.im.map (·.1) else if 3 ≤ m.s.kd ∧ m.s.kd ≤ 6 then [m.s.pg] else []
theorem cell_new1 (w : World) (v : Value) (t : TypeId) : (w.alloc (.cells #[v] t)).cell? ⟨w.heap.size, 0, none⟩ = some v := Joins.cell_of_block (MapKept.heap_alloc w _).1 0
set_option maxHeartbeats 400000 in
theorem pagesOf_any {w : World} {a : Option Addr} {n c : Nat} (l : List Im) (hl : l.length = n) (hn : n ≤ 1000) (hcs : Cs w a (encI l)) :
    Calls Try.prog 35 #[.slice a n c] w fun r w' => (∃ v, r = .returned v ∧ OwnI w.heap.size w' v (l.map (·.1))) ∧ Below w.heap.size w w' := by
  go_enter Try.func35, Try.ntmps35
  go_wp2
  go_loopw [3, 8] (fun pv ix wr => ∃ i : Nat, i ≤ n ∧ ix = .int .i64 (i : Int) ∧ OwnI w.heap.size wr pv ((l.take i).map (·.1)) ∧ Below w.heap.size w wr) (fun _ ix _ => n - (intOf ix).toNat)
  case atStart => exact ⟨0, Nat.zero_le _, rfl, OwnI.nil _ _, Below.refl _ _⟩
  case round =>
    obtain ⟨i, hi, rfl, hO, hb⟩ := hrel
    by_cases hlt : i < n
    · obtain ⟨b', off, rfl, hb', HC⟩ := csI_at hcs (i := i) (by omega)
      obtain ⟨q0, q1⟩ := HC wr hb
      have HS : Hid ((l.take (i + 1)).map (·.1) = (l.take i).map (·.1) ++ [(l[i]'(by omega)).1]) := (by rw [List.take_succ_eq_append_getElem (by omega), List.map_append]; rfl : (l.take (i + 1)).map (·.1) = (l.take i).map (·.1) ++ [(l[i]'(by omega)).1])
      have hi2 : (i : Int) < (n : Int) := by omega
      have HB : Hid (Below w.heap.size w wr) := hb
      have hlen : ((l.take i).map (·.1)).length ≤ 100000 := by simp; omega
      have hz := hb.size
      clear HC hcs hb
      generalize l[i]'(by omega) = p at *
      generalize (l.take i).map (·.1) = ps at *
      obtain ⟨p, t⟩ := p
      dsimp only at q0 q1 HS
      have O2 : OwnI w.heap.size ((wr.alloc (.cells #[.int .i64 p, .string t] 44)).alloc (.cells #[.int .i64 p] 3)) _ ps := (hO.below ((Below.refl _ _).alloc (Nat.le_refl _) _)).below ((Below.refl _ _).alloc (Nat.le_refl _) _)
      have B2 : Below w.heap.size w ((wr.alloc (.cells #[.int .i64 p, .string t] 44)).alloc (.cells #[.int .i64 p] 3)) := (HB.out.alloc hz _).alloc (by simp; omega) _
      have c2 : ((wr.alloc (.cells #[.int .i64 p, .string t] 44)).alloc (.cells #[.int .i64 p] 3)).cell? ⟨wr.heap.size + 1, 0, none⟩ = some (.int .i64 p) := by
        simp
      have hO2 : Hid _ := O2
      have hB2 : Hid _ := B2
      have hc2 : Hid _ := c2
      clear O2 B2 c2 hO
      go_wp2_with (refine wpList_append_int (B := w.heap.size) rfl (.tmp 12) (.tmp 15) rfl rfl hO2.out rfl hc2.out hB2.out.size hlen ?_; intro v' w' hO' hb')
      go_roundw
      case rel =>
        refine ⟨i + 1, by omega, by go_num, ?_, hB2.out.trans hb'⟩
        rw [HS.out]
        exact hO'
      case measure => simp [intOf]; omega
    · have hi2 : ¬ (i : Int) < (n : Int) := by omega
      rw [List.take_of_length_le (by omega)] at hO
      go_wp2
      go_ret
      exact ⟨⟨_, rfl, hO⟩, hb⟩
section
variable {w : World} {s : Sc} {I T : Value}
def kinds4 (k : Int) : Prop := k = 3 ∨ k = 4 ∨ k = 5 ∨ k = 6
set_option maxHeartbeats 400000 in
theorem Pages_im {a : Option Addr} {c : Nat} {l : List Im} (hk : s.kd = 1 ∨ s.kd = 2) (hn : l.length ≤ 1000) (hcs : Cs w a (encI l)) : Calls Try.prog 20 #[.agg (s.A (.slice a l.length c) T)] w fun r w' => (∃ v, r = .returned v ∧ OwnI w.heap.size w' v (l.map (·.1))) ∧ Below w.heap.size w w' := by
  have CP : Hid (∀ w1, Below w.heap.size w w1 → Calls Try.prog 35 #[.slice a l.length c] w1 fun r w' => (∃ v, r = .returned v ∧ OwnI w.heap.size w' v (l.map (·.1))) ∧ Below w1.heap.size w1 w') := fun w1 hb => by
    refine (pagesOf_any l rfl hn (hcs.below hb)).mono ?_
    rintro e w' ⟨⟨v, he, hO⟩, hb'⟩
    refine ⟨⟨v, he, ⟨?_⟩⟩, hb'⟩
    obtain ⟨h1, h2⟩ := hO.row
    refine ⟨h1, ?_⟩
    rcases h2 with h2 | ⟨g, cap, cur, e, hB, hg⟩
    · exact Or.inl h2
    · exact Or.inr ⟨g, cap, cur, e, Nat.le_trans hb.size hB, hg⟩
  clear hcs
  by_cases h1 : s.kd = 1
  · have e1 : (s.kd == 1) = true := by simpa using h1
    go_enter Try.func20, Try.ntmps20
    go_wp2_with (first
      | (refine wpList_box_rc (s := s) (I := _) (T := _) _ rfl _ rfl rfl ?_; intro w0 b0 N0; have k0 := N0.rc.c0; have k9 := N0.rc.c9)
      | (go_at_call 35; refine (CP.out _ N0.below).mono ?_; rintro e w1 ⟨⟨v, rfl, hO⟩, b1⟩))
    go_ret
    exact ⟨⟨_, rfl, hO⟩, thn N0.below b1⟩
  · have e1 : (s.kd == 1) = false := by simpa using h1
    have e2 : (s.kd == 2) = true := by simp; omega
    go_enter Try.func20, Try.ntmps20
    go_wp2_with (first
      | (refine wpList_box_rc (s := s) (I := _) (T := _) _ rfl _ rfl rfl ?_; intro w0 b0 N0; have k0 := N0.rc.c0; have k9 := N0.rc.c9)
      | (go_at_call 35; refine (CP.out _ N0.below).mono ?_; rintro e w1 ⟨⟨v, rfl, hO⟩, b1⟩))
    go_ret
    exact ⟨⟨_, rfl, hO⟩, thn N0.below b1⟩
theorem OwnI.one {B : Nat} {w : World} (p : Int) (h : B ≤ w.heap.size) : OwnI B (w.alloc (.cells #[.int .i64 p] 3)) (.slice (some ⟨w.heap.size, 0, none⟩) 1 1) [p] :=
  ⟨rfl, Or.inr ⟨w.heap.size, 1, _, rfl, h, (MapKept.heap_alloc w _).1, Nat.le_refl _, (by unfold maxLen; omega), rfl, rfl⟩⟩
set_option maxHeartbeats 400000 in
theorem Pages_one (k : Int) (hk : s.kd = k) (h4 : k = 3 ∨ k = 4 ∨ k = 5 ∨ k = 6) : Calls Try.prog 20 #[.agg (s.A I T)] w fun r w' => (∃ v, r = .returned v ∧ OwnI w.heap.size w' v [s.pg]) ∧ Below w.heap.size w w' := by
  have e1 : (s.kd == 1) = false := by simp; omega
  have e2 : (s.kd == 2) = false := by simp; omega
  rcases h4 with rfl | rfl | rfl | rfl
  all_goals
    have e3 : (s.kd == 3) = decide (s.kd = 3) := rfl
    have e4 : (s.kd == 4) = decide (s.kd = 4) := rfl
    have e5 : (s.kd == 5) = decide (s.kd = 5) := rfl
    have e6 : (s.kd == 6) = decide (s.kd = 6) := rfl
    simp only [hk] at e1 e2 e3 e4 e5 e6
    go_enter Try.func20, Try.ntmps20
    go_wp2_with (refine wpList_box_rc (s := s) (I := _) (T := _) _ rfl _ rfl rfl ?_; intro w0 b0 N0; have k0 := N0.rc.c0; have k3 := N0.rc.c3; rw [hk] at k0)
    go_ret
    exact ⟨⟨_, rfl, OwnI.one _ N0.below.size⟩, N0.below.alloc N0.below.size _⟩
set_option maxHeartbeats 400000 in
theorem Pages_none (h1 : s.kd ≠ 1) (h2 : s.kd ≠ 2) (h3 : s.kd ≠ 3) (h4 : s.kd ≠ 4) (h5 : s.kd ≠ 5) (h6 : s.kd ≠ 6) : Calls Try.prog 20 #[.agg (s.A I T)] w fun r w' => (∃ v, r = .returned v ∧ OwnI w.heap.size w' v []) ∧ Below w.heap.size w w' := by
  have e1 : (s.kd == 1) = false := by simpa using h1
  have e2 : (s.kd == 2) = false := by simpa using h2
  have e3 : (s.kd == 3) = false := by simpa using h3
  have e4 : (s.kd == 4) = false := by simpa using h4
  have e5 : (s.kd == 5) = false := by simpa using h5
  have e6 : (s.kd == 6) = false := by simpa using h6
  clear h1 h2 h3 h4 h5 h6
  go_enter Try.func20, Try.ntmps20
  go_wp2_with (refine wpList_box_rc (s := s) (I := _) (T := _) _ rfl _ rfl rfl ?_; intro w0 b0 N0; have k0 := N0.rc.c0)
  go_ret
  exact ⟨⟨_, rfl, OwnI.nil _ _⟩, N0.below⟩
end
theorem Pages_any {w : World} {v : Value} {m : Rm} (h : RecV w v m) (hn : m.im.length ≤ 1000) : Calls Try.prog 20 #[v] w fun r w' => (∃ v, r = .returned v ∧ OwnI w.heap.size w' v (pagesM m)) ∧ Below w.heap.size w w' := by
  obtain ⟨s, l, g⟩ := m
  obtain ⟨I, T, rfl, hI, hT⟩ := h.ex
  dsimp only at *
  unfold pagesM
  dsimp only
  by_cases h12 : s.kd = 1 ∨ s.kd = 2
  · rw [if_pos h12]
    obtain ⟨a, c, rfl, hcs, _⟩ := hI.ex
    exact Pages_im h12 hn hcs
  · rw [if_neg h12]
    by_cases h4 : 3 ≤ s.kd ∧ s.kd ≤ 6
    · rw [if_pos h4]
      exact Pages_one s.kd rfl (by omega)
    · rw [if_neg h4]
      exact Pages_none (by omega) (by omega) (by omega) (by omega) (by omega) (by omega)
/-! ### Back -/
def backM (s : Sc) : Int × ByteArray × ByteArray × Bool := if s.kd = 3 then (4, s.ky, s.nw, true) else if s.kd = 4 then (3, s.ky, s.ol, true) else if s.kd = 5 then (5, s.ky, s.ol, true) else (0, ⟨#[]⟩, ⟨#[]⟩, false)
theorem results_mid {fn : Func} {p u v : Tmp} (h : fn.results = #[.tmp u, .cell p 47, .tmp v]) (tmps : Array Value) (w : World) {g : Nat} {x y : ByteArray}
    (hp : tmps.getD p undef = .pointer (some ⟨g, 0, none⟩)) (hg : w.heap[g]? = some (.cells #[.string x, .string y] 47)) :
    (results fn tmps).run Try.prog w = .ok (.tuple #[tmps.getD u undef, .agg #[.string x, .string y], tmps.getD v undef]) w := by
  have hl := run_loadVar_row (P := Try.prog) w g 47 47 #[.string x, .string y] (0, 0) _ hg Try.underlying47 rfl (by kernel_rfl)
  have hp' : tmps[p]?.getD undef = .pointer (some ⟨g, 0, none⟩) := by simpa using hp
  simp only [results, h]
  simp [Sem.run_bind, Result.andThen, hp', asAddr, hl]
section
variable {w : World} {s : Sc} {I T : Value}
theorem Back_3 (hk : s.kd = 3) : Calls Try.prog 21 #[.agg (s.A I T)] w fun r w' => r = .returned (.tuple #[.int .i64 4, .agg #[.string s.ky, .string s.nw], .bool true]) ∧ Below w.heap.size w w' := by
  have e3 : (s.kd == 3) = true := by rw [hk]; rfl
  clear hk
  go_enter Try.func21, Try.ntmps21
  go_wp2_with (refine wpList_box_rc (s := s) (I := _) (T := _) _ rfl _ rfl rfl ?_; intro w0 b0 N0; have hlt := N0.rc.lt; have k0 := N0.rc.c0; have k5 := N0.rc.c5; have k6 := N0.rc.c6; have k7 := N0.rc.c7)
  go_region
  go_wp2
  refine bodyPost_ret (results_mid rfl _ _ rfl (MapKept.heap_alloc w0 _).1) rfl ?_
  exact ⟨rfl, thn N0.below (((Below.refl _ _).alloc (Nat.le_refl _) _).drew)⟩
theorem Back_4 (hk : s.kd = 4) : Calls Try.prog 21 #[.agg (s.A I T)] w fun r w' => r = .returned (.tuple #[.int .i64 3, .agg #[.string s.ky, .string s.ol], .bool true]) ∧ Below w.heap.size w w' := by
  have e3 : (s.kd == 3) = false := by rw [hk]; rfl
  have e4 : (s.kd == 4) = true := by rw [hk]; rfl
  clear hk
  go_enter Try.func21, Try.ntmps21
  go_wp2_with (refine wpList_box_rc (s := s) (I := _) (T := _) _ rfl _ rfl rfl ?_; intro w0 b0 N0; have hlt := N0.rc.lt; have k0 := N0.rc.c0; have k5 := N0.rc.c5; have k6 := N0.rc.c6; have k7 := N0.rc.c7)
  go_region
  go_wp2
  refine bodyPost_ret (results_mid rfl _ _ rfl (MapKept.heap_alloc w0 _).1) rfl ?_
  exact ⟨rfl, thn N0.below (((Below.refl _ _).alloc (Nat.le_refl _) _).drew)⟩
theorem Back_5 (hk : s.kd = 5) : Calls Try.prog 21 #[.agg (s.A I T)] w fun r w' => r = .returned (.tuple #[.int .i64 5, .agg #[.string s.ky, .string s.ol], .bool true]) ∧ Below w.heap.size w w' := by
  have e3 : (s.kd == 3) = false := by rw [hk]; rfl
  have e4 : (s.kd == 4) = false := by rw [hk]; rfl
  have e5 : (s.kd == 5) = true := by rw [hk]; rfl
  clear hk
  go_enter Try.func21, Try.ntmps21
  go_wp2_with (refine wpList_box_rc (s := s) (I := _) (T := _) _ rfl _ rfl rfl ?_; intro w0 b0 N0; have hlt := N0.rc.lt; have k0 := N0.rc.c0; have k5 := N0.rc.c5; have k6 := N0.rc.c6; have k7 := N0.rc.c7)
  go_region
  go_wp2
  refine bodyPost_ret (results_mid rfl _ _ rfl (MapKept.heap_alloc w0 _).1) rfl ?_
  exact ⟨rfl, thn N0.below (((Below.refl _ _).alloc (Nat.le_refl _) _).drew)⟩
theorem Back_o (h3 : s.kd ≠ 3) (h4 : s.kd ≠ 4) (h5 : s.kd ≠ 5) : Calls Try.prog 21 #[.agg (s.A I T)] w fun r w' => r = .returned (.tuple #[.int .i64 0, .agg #[.string ⟨#[]⟩, .string ⟨#[]⟩], .bool false]) ∧ Below w.heap.size w w' := by
  have e3 : (s.kd == 3) = false := by simpa using h3
  have e4 : (s.kd == 4) = false := by simpa using h4
  have e5 : (s.kd == 5) = false := by simpa using h5
  clear h3 h4 h5
  go_enter Try.func21, Try.ntmps21
  go_wp2_with (refine wpList_box_rc (s := s) (I := _) (T := _) _ rfl _ rfl rfl ?_; intro w0 b0 N0; have hlt := N0.rc.lt; have k0 := N0.rc.c0; have k5 := N0.rc.c5; have k6 := N0.rc.c6; have k7 := N0.rc.c7)
  refine bodyPost_ret (results_mid rfl _ _ rfl (MapKept.heap_alloc w0 _).1) rfl ?_
  exact ⟨rfl, thn N0.below ((Below.refl _ _).alloc (Nat.le_refl _) _)⟩
theorem Back_any : Calls Try.prog 21 #[.agg (s.A I T)] w fun r w' => r = .returned (.tuple #[.int .i64 (backM s).1, .agg #[.string (backM s).2.1, .string (backM s).2.2.1], .bool (backM s).2.2.2]) ∧ Below w.heap.size w w' := by
  unfold backM
  by_cases h3 : s.kd = 3
  · rw [if_pos h3]; exact Back_3 h3
  by_cases h4 : s.kd = 4
  · rw [if_neg h3, if_pos h4]; exact Back_4 h4
  by_cases h5 : s.kd = 5
  · rw [if_neg h3, if_neg h4, if_pos h5]; exact Back_5 h5
  · rw [if_neg h3, if_neg h4, if_neg h5]; exact Back_o h3 h4 h5
end
end Go.Proofs.Ytakdfdnndogaiaa
