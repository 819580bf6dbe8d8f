/- Save and Start of a base on any disk. -/
import Derived.Test.YtljedbakdlhlbaaBsD
namespace Go.Proofs.Ytljedbakdlhlbaa
open Go.RowKit
set_option linter.unusedVariables false
set_option linter.unusedSimpArgs false
set_option maxRecDepth 100000

def saveE (S : Dk) (s : Bs) : Int := if writeE S 0 (bB s) = 0 then syncE (writeDk S 0 (bB s)) else writeE S 0 (bB s)
def saveDk (S : Dk) (s : Bs) : Dk := if writeE S 0 (bB s) = 0 then syncDk (writeDk S 0 (bB s)) else writeDk S 0 (bB s)
def Bs.next (s : Bs) : Bs := { s with bt := s.bt + 1 }
section
variable {B : Nat} {w w' : World} {db k : Nat} {S : Dk} {s : Bs}
theorem NewB.kp {b0 : Nat} {w1 : World} (h : NewB w w1 b0 s) (hB : B ≤ w.heap.size) : Kp isD B w w1 := Kp.of_below h.below hB
set_option maxHeartbeats 1000000 in
theorem Save_bad (p : Value) (hs : ¬ Fit s) : Calls Try.prog 9 #[p, .agg s.A] w fun e w' => e = .returned (.int .i64 6) ∧ Below w.heap.size w w' := by
  have CL : Hid (∀ wx, Calls Try.prog 20 #[.agg s.A] wx fun e w' => e = .returned (.tuple #[.string ⟨#[]⟩, .int .i64 6]) ∧ Below wx.heap.size wx w') := by
    intro wx
    have := laid_any s wx
    rw [laid_bad hs] at this
    exact this
  clear hs
  go_enter Try.func9, Try.ntmps9
  go_wp2_with (first
    | (refine wpList_box_bs (s := s) _ rfl _ rfl rfl ?_; intro w0 b0 N0)
    | (refine wpList_load_bs _ rfl (.tmp 3) rfl rfl N0.rc ?_)
    | (go_at_call 20; refine (CL.out _).mono ?_; rintro e w2 ⟨rfl, q2⟩))
  go_ret
  exact ⟨rfl, thn N0.below q2⟩
set_option maxHeartbeats 1000000 in
theorem Save_fit (hD : Ds B w db k S) (hk : k ≤ 90000) (hs : Fit s) : Calls Try.prog 9 #[.pointer (some ⟨db, 0, none⟩), .agg s.A] w fun e w' =>
    e = .returned (.int .i64 (saveE S s)) ∧ Ds B w' db (k + 2) (saveDk S s) ∧ Kp isD B w w' := by
  have CL : Hid (∀ wx, Calls Try.prog 20 #[.agg s.A] wx fun e w' => e = .returned (.tuple #[.string (bB s), .int .i64 0]) ∧ Below wx.heap.size wx w') := by
    intro wx
    have := laid_any s wx
    rw [laid_fit hs] at this
    exact this
  have hz := bB_size s
  have CW : Hid (∀ wx, Ds B wx db k S → Calls Try.prog 15 #[.pointer (some ⟨db, 0, none⟩), .int .i64 0, .string (bB s)] wx fun e w' => e = .returned (.int .i64 (writeE S 0 (bB s))) ∧ Ds B w' db (k + 1) (writeDk S 0 (bB s)) ∧ Kp isD B wx w') := fun wx h => h.write (by omega) 0 (bB s) (by omega)
  have CS : Hid (∀ wx, Ds B wx db (k + 1) (writeDk S 0 (bB s)) → Calls Try.prog 21 #[.pointer (some ⟨db, 0, none⟩)] wx fun e w' => e = .returned (.int .i64 (syncE (writeDk S 0 (bB s)))) ∧ Ds B w' db (k + 2) (syncDk (writeDk S 0 (bB s))) ∧ Kp isD B wx w') := fun wx h => h.sync (by omega)
  have HD : Hid _ := hD
  have hB := hD.lt
  unfold saveE saveDk
  generalize writeE S 0 (bB s) = we at *
  generalize writeDk S 0 (bB s) = S1 at *
  clear hs hz hD
  by_cases he : we = 0
  · subst he
    rw [if_pos rfl, if_pos rfl]
    go_enter Try.func9, Try.ntmps9
    go_wp2_with (first
      | (refine wpList_box_bs (s := s) _ rfl _ rfl rfl ?_; intro w0 b0 N0)
      | (refine wpList_load_bs _ rfl (.tmp 3) rfl rfl N0.rc ?_)
      | (go_at_call 20; refine (CL.out _).mono ?_; rintro e w2 ⟨rfl, q2⟩)
      | (go_at_call 15; refine (CW.out _ ((HD.out.below N0.below).below q2)).mono ?_; rintro e w3 ⟨rfl, d3, k3⟩)
      | (go_at_call 21; refine (CS.out _ d3).mono ?_; rintro e w4 ⟨rfl, d4, k4⟩))
    go_ret
    exact ⟨rfl, d4, ((Kp.of_below (thn N0.below q2) hB).trans k3).trans k4⟩
  · rw [if_neg he, if_neg he]
    have he' : (we != 0) = true := by simpa using he
    go_enter Try.func9, Try.ntmps9
    go_wp2_with (first
      | (refine wpList_box_bs (s := s) _ rfl _ rfl rfl ?_; intro w0 b0 N0)
      | (refine wpList_load_bs _ rfl (.tmp 3) rfl rfl N0.rc ?_)
      | (go_at_call 20; refine (CL.out _).mono ?_; rintro e w2 ⟨rfl, q2⟩)
      | (go_at_call 15; refine (CW.out _ ((HD.out.below N0.below).below q2)).mono ?_; rintro e w3 ⟨rfl, d3, k3⟩))
    go_ret
    exact ⟨rfl, d3.mono (by omega), (Kp.of_below (thn N0.below q2) hB).trans k3⟩
theorem BsAt.kp {b : Nat} (h : BsAt w b s) (hk : Kp isD B w w') : BsAt w' b s := ⟨hk.block _ _ h.blk (by simp [isD])⟩
def isB : Obj → Prop
  | .cells _ t _ => t = 23
  | _ => False
theorem isB_not (o : Obj) (h : isB o) : ¬ isD o := by
  cases o with
  | cells c t z =>
    have e : t = 23 := h
    subst e
    simp [isD]
  | _ => cases h
/-- A base of the call's own is laid: the disk stays as it was. -/
theorem Ds.putB {b : Nat} {t : Bs} (h : Ds B w db k S) (h0 : BsAt w b t) (p : PutB w w' b s) : Ds B w' db k S := by
  refine h.kept isB_not (B' := 0) ⟨p.below (Nat.zero_le _) (Nat.zero_le _), fun j o e hn => ?_⟩
  by_cases hj : j = b
  · subst hj
    rw [h0.blk] at e
    cases e
    exact absurd rfl hn
  · exact (p.off.block j (lt_of_some e) hj).trans e
/-- Within Start: the disk, the result's cell and the base that is saved. -/
structure St9 (B : Nat) (w w5 : World) (db k : Nat) (S : Dk) (b1 b3 : Nat) (s : Bs) : Prop where
  dsk : Ds B w5 db k S
  res : BsAt w5 b1 Bs.zero
  own : BsAt w5 b3 s.next
  bel : Below w.heap.size w w5
  n1 : w.heap.size ≤ b1
  n3 : w.heap.size ≤ b3
theorem St9.done {b1 b3 : Nat} {w5 w6 w8 : World} {t : Bs} (h : St9 B w w5 db k S b1 b3 s) (hk : Kp isD B w5 w6) (p : PutB w6 w8 b1 t) (hB : B ≤ w.heap.size) : Kp isD B w w8 := by
  have e1 := h.bel.size
  have e2 := hk.size
  have n1 := h.n1
  have k1 : Kp isD B w w6 := (Kp.of_below h.bel hB).trans hk
  refine ⟨k1.bel.trans (p.below (by omega) (by omega)), fun j o e hn => ?_⟩
  have hj := lt_of_some e
  exact (p.off.block j (by omega) (by omega)).trans (k1.block j o e hn)
set_option maxHeartbeats 1000000 in
theorem Start_none (hD : Ds B w db k S) (hu : S.up = true) (hs : (S.now 0).extract 0 9 ≠ sig9) : Calls Try.prog 18 #[.pointer (some ⟨db, 0, none⟩)] w fun e w' =>
    e = .returned (.tuple #[.agg Bs.zero.A, .int .i64 8]) ∧ Below w.heap.size w w' := by
  have CL : Hid (∀ wx, Ds B wx db k S → Calls Try.prog 11 #[.pointer (some ⟨db, 0, none⟩)] wx fun e w' => e = .returned (.tuple #[.agg Bs.zero.A, .int .i64 8]) ∧ Below wx.heap.size wx w') := fun wx h => Load_none h hu hs
  have HD : Hid _ := hD
  clear hs hD
  go_enter Try.func18, Try.ntmps18
  go_wp2_with (first
    | (have := q2; refine wpList_new_bs _ rfl rfl ?_; intro w3 b3 N3)
    | (refine wpList_new_bs _ rfl rfl ?_; intro w1 b1 N1)
    | (go_at_call 11; refine (CL.out _ (HD.out.below N1.below)).mono ?_; rintro e w2 ⟨rfl, q2⟩)
    | (refine wpList_at (Op.store 23 (.tmp 4) (.tmp 10)) rfl ?_; refine wpList_put_bs (s' := Bs.zero) _ rfl (.tmp 4) (.tmp 10) rfl rfl rfl N3.rc ?_; intro w4 P4)
    | (refine wpList_at (Op.store 23 (.tmp 2) (.tmp 14)) rfl ?_; refine wpList_put_bs (s' := Bs.zero) _ rfl (.tmp 2) (.tmp 14) rfl rfl rfl (((N1.rc.below q2).below N3.below).off P4.off (by have := N1.rc.lt; have := q2.size; have := N3.eq; omega)) ?_; intro w8 P8))
  refine bodyPost_ret (results_bs2 rfl _ _ rfl P8.rc) rfl ?_
  have e1 := N1.eq
  have e2 := N1.below.size
  have e3 := q2.size
  have e4 := N3.eq
  have e5 := N3.below.size
  have e6 := P4.off.size
  exact ⟨rfl, (thn N1.below (thn q2 N3.below)).trans ((P4.below (by omega) (by omega)).trans (P8.below (by omega) (by omega)))⟩
set_option maxHeartbeats 2000000 in
theorem Start_has (hD : Ds B w db k S) (hk : k ≤ 90000) (hu : S.up = true) (hs : Has (S.now 0) s) (hn : Fit s.next) : Calls Try.prog 18 #[.pointer (some ⟨db, 0, none⟩)] w fun e w' =>
    e = .returned (.tuple #[.agg (if saveE S s.next = 0 then s.next else Bs.zero).A, .int .i64 (saveE S s.next)]) ∧ Ds B w' db (k + 2) (saveDk S s.next) ∧ Kp isD B w w' := by
  have CL : Hid (∀ wx, Ds B wx db k S → Calls Try.prog 11 #[.pointer (some ⟨db, 0, none⟩)] wx fun e w' => e = .returned (.tuple #[.agg s.A, .int .i64 0]) ∧ Below wx.heap.size wx w') := fun wx h => Load_has h hu hs
  have CS : Hid (∀ wx, Ds B wx db k S → Calls Try.prog 9 #[.pointer (some ⟨db, 0, none⟩), .agg s.next.A] wx fun e w' => e = .returned (.int .i64 (saveE S s.next)) ∧ Ds B w' db (k + 2) (saveDk S s.next) ∧ Kp isD B wx w') := fun wx h => Save_fit h hk hn
  have HD : Hid _ := hD
  have hB := hD.lt
  have hb : 0 ≤ s.bt ∧ s.bt ≤ 4294967295 := by
    obtain ⟨h0, h1⟩ := ((fit_iff s).1 hs.fit).2.1
    have : Pk.limI 4 = 4294967296 := by decide
    omega
  have CK : Hid (∀ w1 b1 w2 w3 b3 w4 w5, NewB w w1 b1 Bs.zero → Below w1.heap.size w1 w2 → NewB w2 w3 b3 Bs.zero → PutB w3 w4 b3 s → PutB w4 w5 b3 s.next → St9 B w w5 db k S b1 b3 s) := by
    intro w1 b1 w2 w3 b3 w4 w5 N1 q2 N3 P4 P5
    have e1 := N1.eq
    have e2 := N1.below.size
    have e3 := q2.size
    have e4 := N3.eq
    have e5 := N3.below.size
    have e6 := P4.off.size
    have e7 := N1.rc.lt
    refine ⟨((((hD.below N1.below).below q2).below N3.below).putB N3.rc P4).putB P4.rc P5, (((N1.rc.below q2).below N3.below).off P4.off (by omega)).off P5.off (by omega), P5.rc, ?_, by omega, by omega⟩
    exact (thn N1.below (thn q2 N3.below)).trans ((P4.below (by omega) (by omega)).trans (P5.below (by omega) (by omega)))
  clear hs hD hn
  by_cases he : saveE S s.next = 0
  · rw [if_pos he]
    rw [he] at CS ⊢
    go_enter Try.func18, Try.ntmps18
    go_wp2_with (first
      | (have := q2; refine wpList_new_bs _ rfl rfl ?_; intro w3 b3 N3)
      | (refine wpList_new_bs _ rfl rfl ?_; intro w1 b1 N1)
      | (go_at_call 11; refine (CL.out _ (HD.out.below N1.below)).mono ?_; rintro e w2 ⟨rfl, q2⟩)
      | (refine wpList_at (Op.store 23 (.tmp 4) (.tmp 10)) rfl ?_; refine wpList_put_bs (s' := s) _ rfl (.tmp 4) (.tmp 10) rfl rfl rfl N3.rc ?_; intro w4 P4; have p1 := P4.rc.c1)
      | (refine wpList_at (Op.store 3 (.tmp 19) (.tmp 18)) rfl ?_; refine wpList_fput (k := 1) (s' := s.next) _ rfl 3 (.tmp 19) (.tmp 18) rfl rfl rfl P4.rc (by decide) rfl (by kernel_rfl) rfl ?_; intro w5 P5; have H := CK.out _ _ _ _ _ _ _ N1 q2 N3 P4 P5)
      | (have := K6; refine wpList_load_bs _ rfl (.tmp 4) rfl rfl (H.own.kp K6) ?_)
      | (refine wpList_load_bs _ rfl (.tmp 4) rfl rfl H.own ?_)
      | (go_at_call 9; refine (CS.out _ H.dsk).mono ?_; rintro e w6 ⟨rfl, D6, K6⟩)
      | (refine wpList_at (Op.store 23 (.tmp 2) (.tmp 27)) rfl ?_; refine wpList_put_bs (s' := s.next) _ rfl (.tmp 2) (.tmp 27) rfl rfl rfl (H.res.kp K6) ?_; intro w8 P8))
    refine bodyPost_ret (results_bs2 rfl _ _ rfl P8.rc) rfl ?_
    exact ⟨rfl, D6.putB (H.res.kp K6) P8, H.done K6 P8 hB⟩
  · rw [if_neg he]
    have he' : (saveE S s.next != 0) = true := by simpa using he
    generalize saveE S s.next = se at *
    go_enter Try.func18, Try.ntmps18
    go_wp2_with (first
      | (have := q2; refine wpList_new_bs _ rfl rfl ?_; intro w3 b3 N3)
      | (refine wpList_new_bs _ rfl rfl ?_; intro w1 b1 N1)
      | (go_at_call 11; refine (CL.out _ (HD.out.below N1.below)).mono ?_; rintro e w2 ⟨rfl, q2⟩)
      | (refine wpList_at (Op.store 23 (.tmp 4) (.tmp 10)) rfl ?_; refine wpList_put_bs (s' := s) _ rfl (.tmp 4) (.tmp 10) rfl rfl rfl N3.rc ?_; intro w4 P4; have p1 := P4.rc.c1)
      | (refine wpList_at (Op.store 3 (.tmp 19) (.tmp 18)) rfl ?_; refine wpList_fput (k := 1) (s' := s.next) _ rfl 3 (.tmp 19) (.tmp 18) rfl rfl rfl P4.rc (by decide) rfl (by kernel_rfl) rfl ?_; intro w5 P5; have H := CK.out _ _ _ _ _ _ _ N1 q2 N3 P4 P5)
      | (refine wpList_load_bs _ rfl (.tmp 4) rfl rfl H.own ?_)
      | (go_at_call 9; refine (CS.out _ H.dsk).mono ?_; rintro e w6 ⟨rfl, D6, K6⟩)
      | (refine wpList_at (Op.store 23 (.tmp 2) (.tmp 25)) rfl ?_; refine wpList_put_bs (s' := Bs.zero) _ rfl (.tmp 2) (.tmp 25) rfl rfl rfl (H.res.kp K6) ?_; intro w8 P8))
    refine bodyPost_ret (results_bs2 rfl _ _ rfl P8.rc) rfl ?_
    exact ⟨rfl, D6.putB (H.res.kp K6) P8, H.done K6 P8 hB⟩
end
end Go.Proofs.Ytljedbakdlhlbaa
