/- BaseLoads: what any bytes in the first sector are loaded as. -/
import Derived.Test.YtljedbakdlhlbaaBsQ
import Derived.Test.YtljedbakdlhlbaaBsB
import Derived.Test.YtljedbakdlhlbaaBsP
namespace Go.Proofs.Ytljedbakdlhlbaa
open Go.RowKit
set_option linter.unusedVariables false
set_option linter.unusedSimpArgs false
set_option maxRecDepth 100000

theorem wr_new {n : Nat} (hn : 1 ≤ n) {t : ByteArray} (ht : t.size ≤ 64) : writeE (newDk n) 0 t = 0 ∧ (writeDk (newDk n) 0 t).up = true ∧ (writeDk (newDk n) 0 t).now 0 = pad t := by
  have h0 : ¬ ((0 : Int) ≠ 0) := fun h => h rfl
  have h1 : ¬ 64 < t.size := by omega
  have hr := refAt_0 (S := newDk n) rfl hn
  have ha := actE_quiet (S := newDk n) rfl
  unfold writeE writeDk
  rw [hr, if_neg h0, if_neg h0, if_neg h1, if_neg h1, ha, if_neg h0]
  refine ⟨rfl, ?_, ?_⟩
  · exact (actDk_go ha).2.2
  · simp [Dk.now, upd]
theorem wr_long {n : Nat} (hn : 1 ≤ n) {t : ByteArray} (ht : 64 < t.size) : writeE (newDk n) 0 t = 3 := by
  have h0 : ¬ ((0 : Int) ≠ 0) := fun h => h rfl
  have hr := refAt_0 (S := newDk n) rfl hn
  unfold writeE
  rw [hr, if_neg h0, if_pos ht]
theorem zero_cells : Bs.zero.A = #[.int .i64 0, .int .i64 0, .int .i64 0, .int .i64 0, .int .i64 0, .int .i64 0, .int .i64 0] := rfl
section
variable {w : World}
set_option maxHeartbeats 2000000 in
theorem loads_long (t : ByteArray) (ht : t.size ≤ 140737488351232) (h : 64 < t.size) : Calls Try.prog 4 #[.string t] w fun e w' => e = .returned (.bool true) ∧ Below w.heap.size w w' := by
  have CN : Hid (∀ wx, Calls Try.prog 8 #[.int .i64 1] wx fun e w' => e = .returned (.tuple #[.pointer (some ⟨wx.heap.size + 2, 0, none⟩), .int .i64 0]) ∧ Ds wx.heap.size w' (wx.heap.size + 2) 0 (newDk 1) ∧ Below wx.heap.size wx w') := fun wx => Ds.new 1 (by decide) (by decide) wx
  have CW : Hid (∀ wx, Ds w.heap.size wx (w.heap.size + 2) 0 (newDk 1) → Calls Try.prog 15 #[.pointer (some ⟨w.heap.size + 2, 0, none⟩), .int .i64 0, .string t] wx fun e w' => e = .returned (.int .i64 3) ∧ Kp isD w.heap.size wx w') := by
    intro wx d
    refine (d.write (by decide) 0 t (by omega)).mono ?_
    rintro e w' ⟨rfl, _, k⟩
    rw [wr_long (by decide) h]
    exact ⟨rfl, k⟩
  have CA : Hid (∀ wx, Calls Try.prog 13 #[] wx fun e w' => e = .returned (.bool true) ∧ w' = wx) := awake9
  clear ht h
  go_enter Try.func4, Try.ntmps4
  go_wp2_with (first
    | (go_at_call 8; refine (CN.out _).mono ?_; rintro e w1 ⟨rfl, d1, q1⟩)
    | (go_at_call 15; refine (CW.out _ d1).mono ?_; rintro e w2 ⟨rfl, k2⟩)
    | (go_at_call 13; refine (CA.out _).mono ?_; rintro e w3 ⟨rfl, rfl⟩))
  go_ret
  exact ⟨rfl, q1.trans k2.bel⟩
set_option maxHeartbeats 2000000 in
theorem loads_none (t : ByteArray) (h : t.size ≤ 64) (hs : (pad t).extract 0 9 ≠ sig9) : Calls Try.prog 4 #[.string t] w fun e w' => e = .returned (.bool true) ∧ Below w.heap.size w w' := by
  obtain ⟨e1, e2, e3⟩ := wr_new (n := 1) (by decide) h
  have hz := pad_size h
  have CN : Hid (∀ wx, Calls Try.prog 8 #[.int .i64 1] wx fun e w' => e = .returned (.tuple #[.pointer (some ⟨wx.heap.size + 2, 0, none⟩), .int .i64 0]) ∧ Ds wx.heap.size w' (wx.heap.size + 2) 0 (newDk 1) ∧ Below wx.heap.size wx w') := fun wx => Ds.new 1 (by decide) (by decide) wx
  have CW : Hid (∀ wx, Ds w.heap.size wx (w.heap.size + 2) 0 (newDk 1) → Calls Try.prog 15 #[.pointer (some ⟨w.heap.size + 2, 0, none⟩), .int .i64 0, .string t] wx fun e w' => e = .returned (.int .i64 0) ∧ Ds w.heap.size w' (w.heap.size + 2) 1 (writeDk (newDk 1) 0 t) ∧ Kp isD w.heap.size wx w') := by
    intro wx d
    have := d.write (by decide) 0 t (by omega)
    rw [e1] at this
    exact this
  have CR : Hid (∀ wx, Ds w.heap.size wx (w.heap.size + 2) 1 (writeDk (newDk 1) 0 t) → Calls Try.prog 14 #[.pointer (some ⟨w.heap.size + 2, 0, none⟩), .int .i64 0] wx fun e w' => e = .returned (.tuple #[.string (pad t), .int .i64 0]) ∧ Below wx.heap.size wx w') := by
    intro wx d
    have := d.read e2 0 d.q.ok.n1
    rw [e3] at this
    exact this
  have CL : Hid (∀ wx, Ds w.heap.size wx (w.heap.size + 2) 1 (writeDk (newDk 1) 0 t) → Calls Try.prog 11 #[.pointer (some ⟨w.heap.size + 2, 0, none⟩)] wx fun e w' => e = .returned (.tuple #[.agg Bs.zero.A, .int .i64 8]) ∧ Below wx.heap.size wx w') := fun wx d => Load_none d e2 (by rw [e3]; exact hs)
  have CA : Hid (∀ wx, Calls Try.prog 13 #[] wx fun e w' => e = .returned (.bool true) ∧ w' = wx) := awake9
  have ht' := list_ne hs
  have hl : sig9.data.toList = [0, 7, 103, 104, 97, 114, 114, 121, 49] := rfl
  rw [hl] at ht'
  have heq : ∀ wx, (binOp .eql 23 (.agg Bs.zero.A) (.agg #[.int .i64 0, .int .i64 0, .int .i64 0, .int .i64 0, .int .i64 0, .int .i64 0, .int .i64 0])).run Try.prog wx = .ok (.bool true) wx := fun wx => eql_bs wx Bs.zero Bs.zero
  generalize pad t = u at *
  clear h hs e1 e2 e3 hl
  go_enter Try.func4, Try.ntmps4
  go_wp2_with (first
    | (go_at_call 8; refine (CN.out _).mono ?_; rintro e w1 ⟨rfl, d1, q1⟩)
    | (go_at_call 15; refine (CW.out _ d1).mono ?_; rintro e w2 ⟨rfl, d2, k2⟩)
    | (go_at_call 14; refine (CR.out _ d2).mono ?_; rintro e w3 ⟨rfl, q3⟩)
    | (go_at_call 11; refine (CL.out _ (d2.below q3)).mono ?_; rintro e w4 ⟨rfl, q4⟩)
    | (refine wpList_new_bs _ rfl rfl ?_; intro w5 b5 N5)
    | (refine wpList_at (Op.store 23 (.tmp 7) (.tmp 34)) rfl ?_; refine wpList_put_bs (s' := Bs.zero) _ rfl (.tmp 7) (.tmp 34) rfl rfl rfl N5.rc ?_; intro w6 P6)
    | (refine wpList_load_bs _ rfl (.tmp 7) rfl rfl P6.rc ?_)
    | (go_at_call 13; refine (CA.out _).mono ?_; rintro e w7 ⟨rfl, rfl⟩))
  go_ret
  have a1 := N5.eq
  have a2 := q1.size
  have a3 := k2.size
  have a4 := q3.size
  have a5 := q4.size
  exact ⟨rfl, (q1.trans k2.bel).trans ((thn q3 (thn q4 N5.below)).mono (by omega) |>.trans (P6.below (by omega) (by have := N5.below.size; omega)))⟩
theorem room_le {n : Int} {k : Nat} (h : Room n k) (hk : k ≤ 6) : -9223372036854775808 ≤ n ∧ n ≤ 9223372036854775807 := by
  obtain ⟨h0, h1⟩ := h
  have := (Pk.limI_bd k hk).2
  omega
theorem fit_i64 {s : Bs} (h : Fit s) : I64 s := by
  obtain ⟨h1, h2, h3, h4, h5, h6, h7⟩ := (fit_iff s).1 h
  exact ⟨room_le h1 (by decide), room_le h2 (by decide), room_le h3 (by decide), room_le h4 (by decide), room_le h5 (by decide), room_le h6 (by decide), room_le h7 (by decide)⟩
/-- The law's bytes of a base that has room. -/
theorem bytes_fit {s : Bs} (h : Fit s) (w : World) : Calls Try.prog 10 #[.agg s.A] w fun e w' => e = .returned (.tuple #[.string (bB s), .bool true]) ∧ Below w.heap.size w w' := by
  refine (bytes9 s (fit_i64 h) w).mono ?_
  rintro e w' ⟨t, f, rfl, hy, hb⟩
  obtain ⟨rfl, rfl⟩ := hy.fit h
  exact ⟨rfl, hb⟩
theorem bytes_bad {s : Bs} (h : ¬ Fit s) (hi : I64 s) (w : World) : Calls Try.prog 10 #[.agg s.A] w fun e w' => ∃ t, e = .returned (.tuple #[.string t, .bool false]) ∧ Below w.heap.size w w' := by
  refine (bytes9 s hi w).mono ?_
  rintro e w' ⟨t, f, rfl, hy, hb⟩
  have := hy.bad h
  subst this
  exact ⟨t, rfl, hb⟩
set_option maxHeartbeats 2000000 in
theorem loads_has (t : ByteArray) (h : t.size ≤ 64) (s : Bs) (hs : Has (pad t) s) : Calls Try.prog 4 #[.string t] w fun e w' => e = .returned (.bool true) ∧ Below w.heap.size w w' := by
  obtain ⟨e1, e2, e3⟩ := wr_new (n := 1) (by decide) h
  have hz := pad_size h
  have CN : Hid (∀ wx, Calls Try.prog 8 #[.int .i64 1] wx fun e w' => e = .returned (.tuple #[.pointer (some ⟨wx.heap.size + 2, 0, none⟩), .int .i64 0]) ∧ Ds wx.heap.size w' (wx.heap.size + 2) 0 (newDk 1) ∧ Below wx.heap.size wx w') := fun wx => Ds.new 1 (by decide) (by decide) wx
  have CW : Hid (∀ wx, Ds w.heap.size wx (w.heap.size + 2) 0 (newDk 1) → Calls Try.prog 15 #[.pointer (some ⟨w.heap.size + 2, 0, none⟩), .int .i64 0, .string t] wx fun e w' => e = .returned (.int .i64 0) ∧ Ds w.heap.size w' (w.heap.size + 2) 1 (writeDk (newDk 1) 0 t) ∧ Kp isD w.heap.size wx w') := by
    intro wx d
    have := d.write (by decide) 0 t (by omega)
    rw [e1] at this
    exact this
  have CR : Hid (∀ wx, Ds w.heap.size wx (w.heap.size + 2) 1 (writeDk (newDk 1) 0 t) → Calls Try.prog 14 #[.pointer (some ⟨w.heap.size + 2, 0, none⟩), .int .i64 0] wx fun e w' => e = .returned (.tuple #[.string (pad t), .int .i64 0]) ∧ Below wx.heap.size wx w') := by
    intro wx d
    have := d.read e2 0 d.q.ok.n1
    rw [e3] at this
    exact this
  have CL : Hid (∀ wx, Ds w.heap.size wx (w.heap.size + 2) 1 (writeDk (newDk 1) 0 t) → Calls Try.prog 11 #[.pointer (some ⟨w.heap.size + 2, 0, none⟩)] wx fun e w' => e = .returned (.tuple #[.agg s.A, .int .i64 0]) ∧ Below wx.heap.size wx w') := fun wx d => Load_has d e2 (by rw [e3]; exact hs)
  have CA : Hid (∀ wx, Calls Try.prog 13 #[] wx fun e w' => e = .returned (.bool true) ∧ w' = wx) := awake9
  have CB : Hid (∀ wx, Calls Try.prog 10 #[.agg s.A] wx fun e w' => e = .returned (.tuple #[.string (bB s), .bool true]) ∧ Below wx.heap.size wx w') := fun wx => bytes_fit hs.fit wx
  have hx : (pad t).extract 0 9 = ⟨#[0, 7, 103, 104, 97, 114, 114, 121, 49]⟩ := hs.sig
  have hy : (pad t).extract 0 36 = bB s := hs.head
  generalize pad t = u at *
  generalize bB s = v at *
  clear h hs e1 e2 e3
  go_enter Try.func4, Try.ntmps4
  go_wp2_with (first
    | (go_at_call 8; refine (CN.out _).mono ?_; rintro e w1 ⟨rfl, d1, q1⟩)
    | (go_at_call 15; refine (CW.out _ d1).mono ?_; rintro e w2 ⟨rfl, d2, k2⟩)
    | (go_at_call 14; refine (CR.out _ d2).mono ?_; rintro e w3 ⟨rfl, q3⟩)
    | (go_at_call 11; refine (CL.out _ (d2.below q3)).mono ?_; rintro e w4 ⟨rfl, q4⟩)
    | (refine wpList_new_bs _ rfl rfl ?_; intro w5 b5 N5)
    | (refine wpList_at (Op.store 23 (.tmp 7) (.tmp 34)) rfl ?_; refine wpList_put_bs (s' := s) _ rfl (.tmp 7) (.tmp 34) rfl rfl rfl N5.rc ?_; intro w6 P6)
    | (refine wpList_load_bs _ rfl (.tmp 7) rfl rfl P6.rc ?_)
    | (go_at_call 10; refine (CB.out _).mono ?_; rintro e w8 ⟨rfl, q8⟩)
    | (go_at_call 13; refine (CA.out _).mono ?_; rintro e w7 ⟨rfl, rfl⟩))
  go_ret
  have a1 := N5.eq
  have a2 := q1.size
  have a3 := k2.size
  have a4 := q3.size
  have a5 := q4.size
  have a6 := N5.below.size
  have a7 := P6.off.size
  exact ⟨rfl, (q1.trans k2.bel).trans (((thn q3 (thn q4 N5.below)).mono (by omega) |>.trans (P6.below (by omega) (by omega))).trans (q8.mono (by omega)))⟩
theorem loads9_walk (t : ByteArray) (ht : t.size ≤ 140737488351232) : Calls Try.prog 4 #[.string t] w fun e w' => e = .returned (.bool true) ∧ Below w.heap.size w w' := by
  by_cases h : 64 < t.size
  · exact loads_long t ht h
  · by_cases hs : (pad t).extract 0 9 = sig9
    · obtain ⟨s, h2⟩ := has_of_sig (pad t) (pad_size (by omega)) hs
      exact loads_has t (by omega) s h2
    · exact loads_none t (by omega) hs
end
end Go.Proofs.Ytljedbakdlhlbaa
