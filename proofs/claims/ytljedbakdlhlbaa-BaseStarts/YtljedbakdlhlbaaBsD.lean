/- Save, Load and Start of a base on a disk. -/
import Derived.Test.YtljedbakdlhlbaaBsR
import Derived.Test.YtljedbakdlhlbaaDsK
namespace Go.Proofs.Ytljedbakdlhlbaa
open Go.RowKit
set_option linter.unusedVariables false
set_option linter.unusedSimpArgs false
set_option maxRecDepth 100000

theorem pad_has {s : Bs} (h : Fit s) : Has (pad (bB s)) s := by
  refine ⟨h, ⟨Array.replicate (64 - (bB s).size) 0⟩, ?_⟩
  apply ByteArray.ext
  rw [ByteArray.data_append]
  rfl
theorem zs64_sig : zs64.extract 0 9 ≠ sig9 := by
  intro h
  exact absurd (congrArg ByteArray.data h) (by decide)
theorem list_ne {t u : ByteArray} (h : t ≠ u) : (t.toList == u.data.toList) = false := by
  rw [ByteArray.toList_eq]
  refine beq_eq_false_iff_ne.2 fun e => h ?_
  apply ByteArray.ext
  exact Array.toList_inj.1 e
theorem list_eq (t : ByteArray) : (t.toList == t.data.toList) = true := by
  rw [ByteArray.toList_eq]; exact beq_self_eq_true _
theorem PRead_new (t : ByteArray) (w : World) : Calls Try.prog 23 #[.string t] w fun e w' => e = .returned (.pointer (some ⟨w.heap.size, 0, none⟩)) ∧ Pk.isRd w' w.heap.size t 0 ∧ Below w.heap.size w w' := by
  go_enter Try.func23, Try.ntmps23
  go_wp2
  go_ret
  exact ⟨rfl, (MapKept.heap_alloc w _).1, (Below.refl _ _).alloc (Nat.le_refl _) _⟩
section
variable {B : Nat} {w w' : World} {db k : Nat} {S : Dk} {s : Bs}
set_option maxHeartbeats 1000000 in
theorem Load_has (hD : Ds B w db k S) (hu : S.up = true) (hs : Has (S.now 0) s) : Calls Try.prog 11 #[.pointer (some ⟨db, 0, none⟩)] w fun e w' =>
    e = .returned (.tuple #[.agg s.A, .int .i64 0]) ∧ Below w.heap.size w w' := by
  have hz := hD.sz (i := 0) hD.q.ok.n1
  obtain ⟨r, hr, ht⟩ := hs.text
  have CR : Hid (∀ wx, Ds B wx db k S → Calls Try.prog 14 #[.pointer (some ⟨db, 0, none⟩), .int .i64 0] wx fun e w' => e = .returned (.tuple #[.string (S.now 0), .int .i64 0]) ∧ Below wx.heap.size wx w') := fun wx h => h.read hu 0 h.q.ok.n1
  have CP : Hid (∀ wx t, Calls Try.prog 23 #[.string t] wx fun e w' => e = .returned (.pointer (some ⟨wx.heap.size, 0, none⟩)) ∧ Pk.isRd w' wx.heap.size t 0 ∧ Below wx.heap.size wx w') := fun wx t => PRead_new t wx
  have CT : Hid (∀ wx rb, Pk.isRd wx rb (S.now 0) 0 → Calls Try.prog 24 #[.pointer (some ⟨rb, 0, none⟩), .int .i64 7] wx fun e w' => e = .returned (.string ⟨#[103, 104, 97, 114, 114, 121, 49]⟩) ∧ Pk.isRd w' rb (cat s.ps ++ r) 0 ∧ Pk.Off rb wx w') := by
    intro wx rb h
    have := Pk.RText_any rb (S.now 0) 0 7 wx (by omega) h
    rw [ht] at this
    exact this
  have CB : Hid (∀ wx rb, Pk.isRd wx rb (cat s.ps ++ r) 0 → Calls Try.prog 25 #[.pointer (some ⟨rb, 0, none⟩)] wx fun e w' => e = .returned (.agg s.A) ∧ Pk.Off rb wx w') := by
    intro wx rb h
    refine read_any s hs.fit r ?_ rb wx h
    rw [hr, ByteArray.size_append] at hz
    omega
  have HD : Hid _ := hD
  clear hz hr ht hs hD
  go_enter Try.func11, Try.ntmps11
  go_wp2_with (first
    | (refine wpList_new_bs _ rfl rfl ?_; intro w1 b1 N1)
    | (go_at_call 14; refine (CR.out _ (HD.out.below N1.below)).mono ?_; rintro e w2 ⟨rfl, q2⟩)
    | (go_at_call 23; refine (CP.out _ _).mono ?_; rintro e w3 ⟨rfl, r3, q3⟩)
    | (go_at_call 24; refine (CT.out _ _ r3).mono ?_; rintro e w4 ⟨rfl, r4, q4⟩)
    | (go_at_call 25; refine (CB.out _ _ r4).mono ?_; rintro e w5 ⟨rfl, q5⟩; have g5 : BsAt w5 b1 Bs.zero := ((N1.rc.below (thn q2 q3)).off q4 (by have := N1.rc.lt; have := q2.size; omega)).off q5 (by have := N1.rc.lt; have := q2.size; omega))
    | (refine wpList_at (Op.store 23 (.tmp 2) (.tmp 23)) rfl ?_; refine wpList_put_bs (s' := s) _ rfl (.tmp 2) (.tmp 23) rfl rfl rfl g5 ?_; intro w8 P8))
  refine bodyPost_ret (results_bs2 rfl _ _ rfl P8.rc) rfl ?_
  have e1 := N1.eq
  have e2 := N1.below.size
  have e3 := q2.size
  have e4 := q3.size
  have e5 := q4.size
  have e6 := q5.size
  exact ⟨rfl, thn N1.below (thn q2 (thn q3 (Below.refl _ _))) |>.trans ((q4.below (by omega) (by omega)).trans ((q5.below (by omega) (by omega)).trans (P8.below (by omega) (by omega))))⟩
set_option maxHeartbeats 1000000 in
theorem Load_none (hD : Ds B w db k S) (hu : S.up = true) (hs : (S.now 0).extract 0 9 ≠ sig9) : Calls Try.prog 11 #[.pointer (some ⟨db, 0, none⟩)] w fun e w' =>
    e = .returned (.tuple #[.agg Bs.zero.A, .int .i64 8]) ∧ Below w.heap.size w w' := by
  have hz := hD.sz (i := 0) hD.q.ok.n1
  have ht := none_text (S.now 0) hz hs
  have CR : Hid (∀ wx, Ds B wx db k S → Calls Try.prog 14 #[.pointer (some ⟨db, 0, none⟩), .int .i64 0] wx fun e w' => e = .returned (.tuple #[.string (S.now 0), .int .i64 0]) ∧ Below wx.heap.size wx w') := fun wx h => h.read hu 0 h.q.ok.n1
  have CP : Hid (∀ wx t, Calls Try.prog 23 #[.string t] wx fun e w' => e = .returned (.pointer (some ⟨wx.heap.size, 0, none⟩)) ∧ Pk.isRd w' wx.heap.size t 0 ∧ Below wx.heap.size wx w') := fun wx t => PRead_new t wx
  have CT : Hid (∀ wx rb, Pk.isRd wx rb (S.now 0) 0 → Calls Try.prog 24 #[.pointer (some ⟨rb, 0, none⟩), .int .i64 7] wx fun e w' => e = .returned (.string (Pk.rdText (S.now 0) 0 7).1) ∧ Pk.Off rb wx w') := by
    intro wx rb h
    refine (Pk.RText_any rb (S.now 0) 0 7 wx (by omega) h).mono ?_
    rintro e w' ⟨rfl, _, o⟩
    exact ⟨rfl, o⟩
  have HD : Hid _ := hD
  clear hz hs hD
  generalize (Pk.rdText (S.now 0) 0 7).1 = t at ht CT
  have ht' : (t.toList == [103, 104, 97, 114, 114, 121, 49]) = false := list_ne ht
  go_enter Try.func11, Try.ntmps11
  go_wp2_with (first
    | (refine wpList_new_bs _ rfl rfl ?_; intro w1 b1 N1)
    | (go_at_call 14; refine (CR.out _ (HD.out.below N1.below)).mono ?_; rintro e w2 ⟨rfl, q2⟩)
    | (go_at_call 23; refine (CP.out _ _).mono ?_; rintro e w3 ⟨rfl, r3, q3⟩)
    | (go_at_call 24; refine (CT.out _ _ r3).mono ?_; rintro e w4 ⟨rfl, q4⟩; have g5 : BsAt w4 b1 Bs.zero := ((N1.rc.below (thn q2 q3)).off q4 (by have := N1.rc.lt; have := q2.size; omega)))
    | (refine wpList_at (Op.store 23 (.tmp 2) (.tmp 21)) rfl ?_; refine wpList_put_bs (s' := Bs.zero) _ rfl (.tmp 2) (.tmp 21) rfl rfl rfl g5 ?_; intro w8 P8))
  refine bodyPost_ret (results_bs2 rfl _ _ rfl P8.rc) rfl ?_
  have e1 := N1.eq
  have e2 := N1.below.size
  have e3 := q2.size
  have e4 := q3.size
  have e5 := q4.size
  exact ⟨rfl, thn N1.below (thn q2 (thn q3 (Below.refl _ _))) |>.trans ((q4.below (by omega) (by omega)).trans (P8.below (by omega) (by omega)))⟩
end
end Go.Proofs.Ytljedbakdlhlbaa
