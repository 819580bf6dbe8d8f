/- The developers' fold: Get, Cells, Count, Going. -/
import Derived.Test.YtkcpclmkbmeigabFdF
import Derived.Test.YtkcpclmkbmeigabShelfP
namespace Go.Proofs.Ytkcpclmkbmeigab.Fd
open Go.RowKit Gm Go.Maps Go.Sort Go.Shelf
set_option linter.unusedVariables false
set_option linter.unusedSimpArgs false
set_option maxRecDepth 100000
/-- What a key has. -/
def getK (K : List CL) (k : ByteArray) : ByteArray × Bool := match isK K k, K[plc K k]? with
  | true, some c => (c.2, true)
  | _, _ => (⟨#[]⟩, false)
theorem getK_yes {K : List CL} (hr : Ris K) {c : CL} (h : c ∈ K) : getK K c.1 = (c.2, true) := by
  obtain ⟨h1, h2⟩ := isK_of hr h
  unfold getK
  rw [h1, h2]
theorem getK_no {K : List CL} (hr : Ris K) {k : ByteArray} (h : ∀ c ∈ K, c.1 ≠ k) : getK K k = (⟨#[]⟩, false) := by
  have : isK K k = false := by
    cases e : isK K k with
    | false => rfl
    | true => obtain ⟨c, hc, e2⟩ := (isK_iff hr).1 e; exact absurd e2 (h c hc)
  unfold getK
  rw [this]
section
variable {W W' : Nat → Prop} {w w' : World} {fb bw : Nat} {v : Value} {K : List CL} {L : List Dv} {G : List Gt} {n t : Int} {r : Rc} {I T : Value}
theorem Get_nil (w : World) (key : ByteArray) : Calls Try.prog 7 #[.pointer none, .string key] w fun e w' => e = .returned (.tuple #[.string ⟨#[]⟩, .bool false]) ∧ Below w.heap.size w w' := by
  have C : Hid (∀ w, Calls Try.prog 17 #[.pointer none] w fun e w' => e = .returned (.bool false) ∧ w' = w) := isMade_nil
  go_enter Try.func7, Try.ntmps7
  go_wp2_with (go_at_call 17; refine (C.out _).mono ?_; rintro e w2 ⟨rfl, rfl⟩)
  go_ret2
  exact ⟨rfl, Below.refl _ _⟩
theorem Get_zero {z : Nat} {u y : Value} (h : At w z 48 #[u, .map none, y]) (key : ByteArray) : Calls Try.prog 7 #[.pointer (some ⟨z, 0, none⟩), .string key] w fun e w' => e = .returned (.tuple #[.string ⟨#[]⟩, .bool false]) ∧ Below w.heap.size w w' := by
  have C := isMade_zero h
  clear h
  go_enter Try.func7, Try.ntmps7
  go_wp2_with (go_at_call 17; refine C.mono ?_; rintro e w2 ⟨rfl, rfl⟩)
  go_ret2
  exact ⟨rfl, Below.refl _ _⟩
theorem Get_any (h : Fo W w fb K G n) (key : ByteArray) (hn : K.length ≤ 1000) : Calls Try.prog 7 #[.pointer (some ⟨fb, 0, none⟩), .string key] w fun e w' => e = .returned (.tuple #[.string (getK K key).1, .bool (getK K key).2]) ∧ Below w.heap.size w w' := by
  obtain ⟨v, bw, L, hI, rfl⟩ := h.ex
  obtain ⟨a, c, ea, _⟩ := hI.row.sl
  rw [List.length_map] at ea
  subst ea
  have CM := isMade_ok hI.is
  have CF : Hid (Calls Try.prog 20 #[.pointer (some ⟨fb, 0, none⟩), .string key] w fun e w' => e = .returned (.tuple #[.int .i64 (plc K key : Nat), .bool (isK K key)]) ∧ Below w.heap.size w w') := find_any hI.up hn hI.is hI.row key
  have HI : Hid (∀ wx, Below w.heap.size w wx → wx.cell? ⟨fb, 0, none⟩ = some (.slice a K.length c)) := fun wx hb => (hI.is.bel hb).c 0
  cases hk : isK K key with
  | false =>
    have e9 : getK K key = (⟨#[]⟩, false) := by unfold getK; rw [hk]
    rw [e9]
    rw [hk] at CF
    clear h hI e9 hk
    generalize plc K key = pl at *
    go_enter Try.func7, Try.ntmps7
    go_wp2_with first
      | (go_at_call 17; refine CM.mono ?_; rintro e w2 ⟨rfl, rfl⟩)
      | (go_at_call 20; refine CF.out.mono ?_; rintro e w3 ⟨rfl, b3⟩)
    go_ret2
    exact ⟨rfl, b3⟩
  | true =>
    obtain ⟨hp, hq⟩ := isK_at hk
    have e9 : getK K key = (K[plc K key].2, true) := by unfold getK; rw [hk, List.getElem?_eq_getElem hp]
    rw [e9]
    rw [hk] at CF
    obtain ⟨g, rfl, hg, hcell⟩ := row_at hI.row hp
    have HC : Hid (∀ wx, Below w.heap.size w wx → wx.cell? ⟨g, plc K key * 2 + 1, none⟩ = some (.string K[plc K key].2)) := fun wx hb => (hcell wx hb).2
    clear h hI e9 hk hcell hq
    generalize K[plc K key].2 = val at *
    have hpI : ((plc K key : Nat) : Int) < (K.length : Int) := by omega
    generalize plc K key = pl at *
    go_enter Try.func7, Try.ntmps7
    go_wp2_with first
      | (go_at_call 17; refine CM.mono ?_; rintro e w2 ⟨rfl, rfl⟩)
      | (go_at_call 20; refine CF.out.mono ?_; rintro e w3 ⟨rfl, b3⟩; have k0 := HI.out _ b3; have k1 := HC.out _ b3; have k0' : w3.drew.cell? ⟨fb, 0, none⟩ = some (.slice (some ⟨g, 0, none⟩) K.length c) := k0; have k1' : w3.drew.cell? ⟨g, pl * 2 + 1, none⟩ = some (.string val) := k1)
    all_goals go_ret2
    exact ⟨rfl, b3⟩
/-! ### Count -/
theorem Count_nil (w : World) : Calls Try.prog 11 #[.pointer none] w fun e w' => e = .returned (.int .i64 0) ∧ w' = w := by
  have C : Hid (∀ w, Calls Try.prog 17 #[.pointer none] w fun e w' => e = .returned (.bool false) ∧ w' = w) := isMade_nil
  go_enter Try.func11, Try.ntmps11
  go_wp2_with (go_at_call 17; refine (C.out _).mono ?_; rintro e w2 ⟨rfl, rfl⟩)
  go_ret
  exact ⟨rfl, rfl⟩
theorem Count_zero {z : Nat} {u y : Value} (h : At w z 48 #[u, .map none, y]) : Calls Try.prog 11 #[.pointer (some ⟨z, 0, none⟩)] w fun e w' => e = .returned (.int .i64 0) ∧ w' = w := by
  have C := isMade_zero h
  clear h
  go_enter Try.func11, Try.ntmps11
  go_wp2_with (go_at_call 17; refine C.mono ?_; rintro e w2 ⟨rfl, rfl⟩)
  go_ret
  exact ⟨rfl, rfl⟩
theorem Count_any (h : Fo W w fb K G n) : Calls Try.prog 11 #[.pointer (some ⟨fb, 0, none⟩)] w fun e w' => e = .returned (.int .i64 n) ∧ w' = w := by
  obtain ⟨v, bw, L, hI, rfl⟩ := h.ex
  have C := isMade_ok hI.is
  have c2 : w.cell? ⟨fb, 2, none⟩ = some (.int .i64 n) := hI.is.c 2
  clear h hI
  go_enter Try.func11, Try.ntmps11
  go_wp2_with (go_at_call 17; refine C.mono ?_; rintro e w2 ⟨rfl, rfl⟩)
  go_ret
  exact ⟨rfl, rfl⟩
/-! ### Cells -/
/-- A new row of cells. -/
structure ClE (w : World) (e : Ending) (w' : World) (K : List CL) : Prop where
  ex : ∃ v, e = .returned v ∧ Row w' 41 2 v (K.map encC) ∧ ∀ g, v.ownBlock = some g → w.heap.size ≤ g
  bel : Below w.heap.size w w'
theorem bC0 (w : World) : (Instr.buildSlice 35 0 #[]).run Try.prog w = .ok (.slice (some ⟨w.heap.size, 0, none⟩) 0 0) (w.alloc (.cells #[] 41)) := by kernel_rfl
theorem Clone_nil (w : World) : Calls Try.prog 23 #[.slice none 0 0] w fun e w' => e = .returned (.slice none 0 0) ∧ w' = w := by
  have he : ∀ w, (binOp .eql 35 (.slice none 0 0) (.slice none 0 0)).run Try.prog w = .ok (.bool true) w := fun w => by
    have := Lib.run_eql_slice_nil (P := Try.prog) w 35 _ none 0 0 0 0 Try.underlying35
    simpa using this
  go_enter Try.func23, Try.ntmps23
  go_wp2
  go_ret
  exact ⟨rfl, rfl⟩
theorem Clone_row (h : Row w 41 2 v (K.map encC)) (hn : K.length ≤ 90000) : Calls Try.prog 23 #[v] w fun e w' => ClE w e w' K := by
  rcases h.row.2 with ⟨rfl, h0⟩ | ⟨g, cap, cur, rfl, hB, hg, h3, h4, h5, h6⟩
  · have hK : K = [] := List.eq_nil_of_length_eq_zero (by rw [List.length_map] at h0; exact h0)
    subst hK
    refine (Clone_nil w).mono ?_
    rintro e w' ⟨rfl, rfl⟩
    exact ⟨⟨_, rfl, Row.nil _ _ _, fun g e => by cases e⟩, Below.refl _ _⟩
  · have HC : Hid (∀ wx, Below w.heap.size w wx → ∀ j u, (K.map encC).flatten[j]? = some u → wx.cell? ⟨g, 0 + j, none⟩ = some u) := fun wx hb j u hu => by
      have := (h.bel hb).seg (A := []) (M := K.map encC) (R := []) (by simp) j u hu
      simpa using this
    have he : ∀ w a n c, (binOp .eql 35 (.slice (some a) n c) (.slice none 0 0)).run Try.prog w = .ok (.bool false) w := fun w a n c => by
      have := Lib.run_eql_slice_nil (P := Try.prog) w 35 _ (some a) n c 0 0 Try.underlying35
      simpa using this
    have HN : Hid (K.length ≤ 90000) := hn
    have Hm : Hid ((K.map encC).length = K.length) := List.length_map ..
    rw [Hm.out]
    clear h hB hg h3 h4 h5 h6 hn
    generalize K.length = m at *
    go_enter Try.func23, Try.ntmps23
    go_wp2_with first
      | (refine wpList_build0 _ rfl rfl bC0 ?_; intro w1 b1 N1)
      | (refine wpList_append elC (L := []) (M := K.map encC) rfl _ _ rfl rfl (Row.empty N1.is) rfl Hm.out (enc_len K) (HC.out _ N1.bel) (flat_one K) (by have := HN.out; have := Hm.out; simp only [List.length_nil]; omega) ?_; intro a2 c2 w2 A2)
    go_ret
    have A3 : App w1 w2 41 2 (.slice (some ⟨b1, 0, none⟩) 0 0) (.slice a2 m c2) (K.map encC) := by
      rw [show ([] : List (List Value)).length + m = m from Nat.zero_add m] at A2
      exact A2
    clear A2
    refine ⟨⟨.slice a2 m c2, rfl, A3.row, fun g e => ?_⟩, N1.bel.trans (A3.bel (fun g e => by cases e; rw [N1.eq]; exact Nat.le_refl _) N1.bel.size)⟩
    rcases A3.own with h | h
    · rw [h] at e; cases e; rw [N1.eq]; exact Nat.le_refl _
    · rw [h] at e; cases e; exact N1.bel.size
theorem Cells_nil (w : World) : Calls Try.prog 10 #[.pointer none] w fun e w' => e = .returned (.slice none 0 0) ∧ w' = w := by
  have C : Hid (∀ w, Calls Try.prog 17 #[.pointer none] w fun e w' => e = .returned (.bool false) ∧ w' = w) := isMade_nil
  go_enter Try.func10, Try.ntmps10
  go_wp2_with (go_at_call 17; refine (C.out _).mono ?_; rintro e w2 ⟨rfl, rfl⟩)
  go_ret
  exact ⟨rfl, rfl⟩
theorem Cells_zero {z : Nat} {u y : Value} (h : At w z 48 #[u, .map none, y]) : Calls Try.prog 10 #[.pointer (some ⟨z, 0, none⟩)] w fun e w' => e = .returned (.slice none 0 0) ∧ w' = w := by
  have C := isMade_zero h
  clear h
  go_enter Try.func10, Try.ntmps10
  go_wp2_with (go_at_call 17; refine C.mono ?_; rintro e w2 ⟨rfl, rfl⟩)
  go_ret
  exact ⟨rfl, rfl⟩
theorem Cells_any (h : Fo W w fb K G n) (hn : K.length ≤ 90000) : Calls Try.prog 10 #[.pointer (some ⟨fb, 0, none⟩)] w fun e w' => ClE w e w' K := by
  obtain ⟨v, bw, L, hI, rfl⟩ := h.ex
  have C := isMade_ok hI.is
  obtain ⟨a, c, ea, _⟩ := hI.row.sl
  rw [List.length_map] at ea
  subst ea
  have CC := Clone_row hI.row hn
  have c0 : w.cell? ⟨fb, 0, none⟩ = some (.slice a K.length c) := hI.is.c 0
  clear h hI
  generalize K.length = m at *
  go_enter Try.func10, Try.ntmps10
  go_wp2_with first
    | (go_at_call 17; refine C.mono ?_; rintro e w2 ⟨rfl, rfl⟩)
    | (go_at_call 23; refine CC.mono ?_; rintro e w3 ⟨⟨v3, rfl, q1, q2⟩, q3⟩; obtain ⟨a3, c3, e3, _⟩ := q1.sl; rw [List.length_map] at e3; subst e3)
  go_ret
  exact ⟨⟨_, rfl, q1, q2⟩, q3⟩
end
end Go.Proofs.Ytkcpclmkbmeigab.Fd
