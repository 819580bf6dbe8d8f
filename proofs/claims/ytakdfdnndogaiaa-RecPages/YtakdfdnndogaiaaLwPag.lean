/- RecPages: which pages any record changes, and what takes it back. -/
import Derived.Test.YtakdfdnndogaiaaLwCom
import Derived.Test.YtakdfdnndogaiaaRxInt
import Derived.Deep.RegionHeld3
namespace Go.Proofs.Ytakdfdnndogaiaa
open Go.RowKit
set_option linter.unusedVariables false
set_option linter.unusedSimpArgs false
set_option maxRecDepth 100000

section
variable {w : World} {s s0 : Sc} {I0 T0 : Value} {l : List Im} {g : List Tb} {ps : List Int}
set_option maxHeartbeats 2000000 in
theorem pages_1 (hk : s.kd = 1) (hn : l.length ≤ 1000) (hps : Hid (ps = l.map (·.1)))
    (CF : Hid (∀ wx, Calls Try.prog 9 #[.agg (s0.A I0 T0)] wx fun e w' => (∃ v', e = .returned v' ∧ RecV w v' ⟨s, l, g⟩) ∧ Below wx.heap.size wx w'))
    (CP : Hid (∀ wx v', RecV wx v' ⟨s, l, g⟩ → Below w.heap.size w wx → Calls Try.prog 20 #[v'] wx fun r w' => (∃ v, r = .returned v ∧ OwnI w.heap.size w' v ps) ∧ Below wx.heap.size wx w'))
    (CB0 : ∀ wx I T, Calls Try.prog 21 #[.agg (s.A I T)] wx fun r w' => r = .returned (.tuple #[.int .i64 0, .agg #[.string ⟨#[]⟩, .string ⟨#[]⟩], .bool false]) ∧ Below wx.heap.size wx w')
    (CK : Hid (∀ wx, Calls Try.prog 12 #[] wx fun e w' => e = .returned (.bool true) ∧ Below wx.heap.size wx w')) :
    Calls Try.prog 8 #[.agg (s0.A I0 T0)] w fun e w' => e = .returned (.bool true) ∧ Below w.heap.size w w' := by
  have CB : Hid (∀ wx I T, Calls Try.prog 21 #[.agg (s.A I T)] wx fun r w' => r = .returned (.tuple #[.int .i64 0, .agg #[.string ⟨#[]⟩, .string ⟨#[]⟩], .bool false]) ∧ Below wx.heap.size wx w') := CB0
  clear CB0
  have hpl : ps.length ≤ 1000 := by rw [hps.out]; simp <;> omega
  have e1 : (s.kd == 1) = true := by rw [hk]; rfl
  have e3 : (s.kd == 3) = false := by rw [hk]; rfl
  have e4 : (s.kd == 4) = false := by rw [hk]; rfl
  have e5 : (s.kd == 5) = false := by rw [hk]; rfl
  have g3 : ¬ 3 ≤ s.kd := by omega
  clear hk
  go_enter Try.func8, Try.ntmps8
  go_wp2_with (first
    | (refine wpList_box_rc (s := s0) (I := I0) (T := T0) _ rfl _ rfl rfl ?_; intro w0 b0 N0)
    | (refine wpList_load_rc _ rfl (.tmp 1) rfl rfl H.rc ?_)
    | (refine wpList_load_rc _ rfl (.tmp 1) rfl rfl N0.rc ?_)
    | (go_at_call 9; refine (CF.out _).mono ?_; rintro e w1 ⟨⟨v', rfl, h1⟩, b1⟩; obtain ⟨I, T, rfl, hI, hT⟩ := h1.ex; dsimp only at hI hT; obtain ⟨a, c, rfl, hcs, hnil, hle, hsp⟩ := hI.ex)
    | (refine wpList_put_rc (s' := s) (I' := _) (T' := _) _ rfl (.tmp 1) (.tmp 11) rfl rfl rfl (N0.rc.below b1) hI.one hT.one ?_; intro w2 P2; have H := BdS.of N0 b1 hI hT P2; have k0 := H.rc.c0; have k3 := H.rc.c3; have k9 := H.rc.c9; clear N0 P2 h1))
  go_loopw [3, 4] (fun pv iv wr => ∃ i : Nat, i ≤ l.length ∧ iv = .int .i64 (i : Int) ∧ OwnI w2.heap.size wr pv ((l.take i).map (·.1)) ∧ Below w2.heap.size w2 wr) (fun _ iv _ => l.length - (intOf iv).toNat)
  case atStart => exact ⟨0, Nat.zero_le _, rfl, OwnI.nil _ _, Below.refl _ _⟩
  case round =>
    clear k0 k3 k9
    obtain ⟨i, hi, rfl, hO, hbr⟩ := hrel
    have H2 := H.below hbr
    have k9 := H2.rc.c9
    by_cases hlt : i < l.length
    · obtain ⟨b', off, rfl, hb', HC⟩ := csI_at hcs (i := i) (by omega)
      obtain ⟨q0, q1⟩ := HC wr H2.bel
      have HS : Hid ((l.take (i + 1)).map (·.1) = (l.take i).map (·.1) ++ [(l[i]'(by omega)).1]) := (by rw [List.take_succ_eq_append_getElem (by omega), List.map_append]; rfl : (l.take (i + 1)).map (·.1) = (l.take i).map (·.1) ++ [(l[i]'(by omega)).1])
      have hi2 : (i : Int) < (l.length : Int) := by omega
      have hlen : ((l.take i).map (·.1)).length ≤ 100000 := by simp; omega
      clear HC hcs hI hT hps hpl
      generalize l[i]'(by omega) = p at *
      generalize (l.take i).map (·.1) = qs at *
      obtain ⟨p, t⟩ := p
      dsimp only at q0 q1 HS
      have B2 : Hid (Below w2.heap.size w2 (wr.alloc (.cells #[.int .i64 p] 3))) := hbr.alloc hbr.size _
      have hO2 : Hid (OwnI w2.heap.size (wr.alloc (.cells #[.int .i64 p] 3)) _ qs) := hO.below ((Below.refl _ _).alloc (Nat.le_refl _) _)
      have hc2 : Hid ((wr.alloc (.cells #[.int .i64 p] 3)).cell? ⟨wr.heap.size, 0, none⟩ = some (.int .i64 p)) := cell_new1 wr _ 3
      clear hO H H2
      go_wp2_with (refine wpList_append_int (B := w2.heap.size) rfl (.tmp 27) (.tmp 34) rfl rfl hO2.out rfl hc2.out B2.out.size hlen ?_; intro v' w' hO' hb')
      go_roundw
      case rel =>
        refine ⟨i + 1, by omega, by go_num, ?_, B2.out.trans hb'⟩
        rw [HS.out]
        exact hO'
      case measure => simp [intOf]; omega
    · have hi2 : ¬ (i : Int) < (l.length : Int) := by omega
      rw [List.take_of_length_le (by omega), ← hps.out] at hO
      have O := hO
      clear hO
      obtain ⟨a1, c1, rfl⟩ := O.ex
      clear H hI hT hcs
      have H := H2
      clear H2
      have k0 := H.rc.c0
      go_wp2_with (first
        | (refine wpList_load_rc _ rfl (.tmp 1) rfl rfl H.rc ?_)
        | (go_at_call 20; refine (CP.out _ _ ⟨_, _, rfl, H.im, H.tb⟩ H.bel).mono ?_; rintro e w3 ⟨⟨v2, rfl, O2⟩, b3⟩; obtain ⟨a2, c2, rfl⟩ := O2.ex; have O1 := O.below b3; clear O; have H1 := H.below b3; clear H; have H := H1; clear H1 b3))
      go_loopw [6] (fun iv wr => ∃ i : Nat, i ≤ ps.length ∧ iv = .int .i64 (i : Int) ∧ Below w3.heap.size w3 wr) (fun iv _ => ps.length - (intOf iv).toNat)
      case atStart => exact ⟨0, Nat.zero_le _, rfl, Below.refl _ _⟩
      case round =>
        clear hps
        obtain ⟨i, hi1, rfl, hb⟩ := hrel
        by_cases hlt : i < ps.length
        · obtain ⟨g1, rfl, HC⟩ := O1.at_ hlt
          obtain ⟨g2, rfl, HD⟩ := O2.at_ hlt
          have f0 := HC wr hb
          have f1 := HD wr hb
          have hi2 : (i : Int) < (ps.length : Int) := by omega
          have HB : Hid (Below w3.heap.size w3 wr) := hb
          clear HC HD O1 O2 H hb
          generalize ps[i]'(by omega) = p at *
          go_wp2
          go_quiet (fail)
          go_wp2
          go_roundw
          case rel => exact ⟨i + 1, by omega, by go_num, below_drewN HB.out _⟩
          case measure => simp [intOf]; omega
        · have hi2 : ¬ (i : Int) < (ps.length : Int) := by omega
          have H1 := H.below hb
          clear H hb O1 O2
          have H := H1
          clear H1; have k0 := H.rc.c0; have k5 := H.rc.c5; have k6 := H.rc.c6; have k7 := H.rc.c7
          have hlt0 := H.rc.lt
          go_wp2_with (first
            | (refine wpList_load_rc _ rfl (.tmp 1) rfl rfl H.rc ?_)
            | (go_at_call 21; refine (CB.out _ _ _).mono ?_; rintro e w4 ⟨rfl, b4⟩; have H1 := H.below b4; clear H; have H := H1; clear H1 b4; have k0 := H.rc.c0; have k5 := H.rc.c5; have k6 := H.rc.c6; have k7 := H.rc.c7; have hlt0 := H.rc.lt; have BL : Below w.heap.size w (w4.alloc (.cells #[.string ⟨#[]⟩, .string ⟨#[]⟩] 47)) := H.bel.alloc H.bel.size _)
            | (go_at_call 12; refine (CK.out _).mono ?_; rintro e w6 ⟨rfl, b6⟩))
          go_ret
          exact ⟨rfl, thn BL b6⟩
set_option maxHeartbeats 2000000 in
theorem pages_2 (hk : s.kd = 2) (hn : l.length ≤ 1000) (hps : Hid (ps = l.map (·.1)))
    (CF : Hid (∀ wx, Calls Try.prog 9 #[.agg (s0.A I0 T0)] wx fun e w' => (∃ v', e = .returned v' ∧ RecV w v' ⟨s, l, g⟩) ∧ Below wx.heap.size wx w'))
    (CP : Hid (∀ wx v', RecV wx v' ⟨s, l, g⟩ → Below w.heap.size w wx → Calls Try.prog 20 #[v'] wx fun r w' => (∃ v, r = .returned v ∧ OwnI w.heap.size w' v ps) ∧ Below wx.heap.size wx w'))
    (CB0 : ∀ wx I T, Calls Try.prog 21 #[.agg (s.A I T)] wx fun r w' => r = .returned (.tuple #[.int .i64 0, .agg #[.string ⟨#[]⟩, .string ⟨#[]⟩], .bool false]) ∧ Below wx.heap.size wx w')
    (CK : Hid (∀ wx, Calls Try.prog 12 #[] wx fun e w' => e = .returned (.bool true) ∧ Below wx.heap.size wx w')) :
    Calls Try.prog 8 #[.agg (s0.A I0 T0)] w fun e w' => e = .returned (.bool true) ∧ Below w.heap.size w w' := by
  have CB : Hid (∀ wx I T, Calls Try.prog 21 #[.agg (s.A I T)] wx fun r w' => r = .returned (.tuple #[.int .i64 0, .agg #[.string ⟨#[]⟩, .string ⟨#[]⟩], .bool false]) ∧ Below wx.heap.size wx w') := CB0
  clear CB0
  have hpl : ps.length ≤ 1000 := by rw [hps.out]; simp <;> omega
  have e1 : (s.kd == 1) = false := by rw [hk]; rfl
  have e2 : (s.kd == 2) = true := by rw [hk]; rfl
  have e3 : (s.kd == 3) = false := by rw [hk]; rfl
  have e4 : (s.kd == 4) = false := by rw [hk]; rfl
  have e5 : (s.kd == 5) = false := by rw [hk]; rfl
  have g3 : ¬ 3 ≤ s.kd := by omega
  clear hk
  go_enter Try.func8, Try.ntmps8
  go_wp2_with (first
    | (refine wpList_box_rc (s := s0) (I := I0) (T := T0) _ rfl _ rfl rfl ?_; intro w0 b0 N0)
    | (refine wpList_load_rc _ rfl (.tmp 1) rfl rfl H.rc ?_)
    | (refine wpList_load_rc _ rfl (.tmp 1) rfl rfl N0.rc ?_)
    | (go_at_call 9; refine (CF.out _).mono ?_; rintro e w1 ⟨⟨v', rfl, h1⟩, b1⟩; obtain ⟨I, T, rfl, hI, hT⟩ := h1.ex; dsimp only at hI hT; obtain ⟨a, c, rfl, hcs, hnil, hle, hsp⟩ := hI.ex)
    | (refine wpList_put_rc (s' := s) (I' := _) (T' := _) _ rfl (.tmp 1) (.tmp 11) rfl rfl rfl (N0.rc.below b1) hI.one hT.one ?_; intro w2 P2; have H := BdS.of N0 b1 hI hT P2; have k0 := H.rc.c0; have k3 := H.rc.c3; have k9 := H.rc.c9; clear N0 P2 h1))
  go_loopw [3, 4] (fun pv iv wr => ∃ i : Nat, i ≤ l.length ∧ iv = .int .i64 (i : Int) ∧ OwnI w2.heap.size wr pv ((l.take i).map (·.1)) ∧ Below w2.heap.size w2 wr) (fun _ iv _ => l.length - (intOf iv).toNat)
  case atStart => exact ⟨0, Nat.zero_le _, rfl, OwnI.nil _ _, Below.refl _ _⟩
  case round =>
    clear k0 k3 k9
    obtain ⟨i, hi, rfl, hO, hbr⟩ := hrel
    have H2 := H.below hbr
    have k9 := H2.rc.c9
    by_cases hlt : i < l.length
    · obtain ⟨b', off, rfl, hb', HC⟩ := csI_at hcs (i := i) (by omega)
      obtain ⟨q0, q1⟩ := HC wr H2.bel
      have HS : Hid ((l.take (i + 1)).map (·.1) = (l.take i).map (·.1) ++ [(l[i]'(by omega)).1]) := (by rw [List.take_succ_eq_append_getElem (by omega), List.map_append]; rfl : (l.take (i + 1)).map (·.1) = (l.take i).map (·.1) ++ [(l[i]'(by omega)).1])
      have hi2 : (i : Int) < (l.length : Int) := by omega
      have hlen : ((l.take i).map (·.1)).length ≤ 100000 := by simp; omega
      clear HC hcs hI hT hps hpl
      generalize l[i]'(by omega) = p at *
      generalize (l.take i).map (·.1) = qs at *
      obtain ⟨p, t⟩ := p
      dsimp only at q0 q1 HS
      have B2 : Hid (Below w2.heap.size w2 (wr.alloc (.cells #[.int .i64 p] 3))) := hbr.alloc hbr.size _
      have hO2 : Hid (OwnI w2.heap.size (wr.alloc (.cells #[.int .i64 p] 3)) _ qs) := hO.below ((Below.refl _ _).alloc (Nat.le_refl _) _)
      have hc2 : Hid ((wr.alloc (.cells #[.int .i64 p] 3)).cell? ⟨wr.heap.size, 0, none⟩ = some (.int .i64 p)) := cell_new1 wr _ 3
      clear hO H H2
      go_wp2_with (refine wpList_append_int (B := w2.heap.size) rfl (.tmp 27) (.tmp 34) rfl rfl hO2.out rfl hc2.out B2.out.size hlen ?_; intro v' w' hO' hb')
      go_roundw
      case rel =>
        refine ⟨i + 1, by omega, by go_num, ?_, B2.out.trans hb'⟩
        rw [HS.out]
        exact hO'
      case measure => simp [intOf]; omega
    · have hi2 : ¬ (i : Int) < (l.length : Int) := by omega
      rw [List.take_of_length_le (by omega), ← hps.out] at hO
      have O := hO
      clear hO
      obtain ⟨a1, c1, rfl⟩ := O.ex
      clear H hI hT hcs
      have H := H2
      clear H2
      have k0 := H.rc.c0
      go_wp2_with (first
        | (refine wpList_load_rc _ rfl (.tmp 1) rfl rfl H.rc ?_)
        | (go_at_call 20; refine (CP.out _ _ ⟨_, _, rfl, H.im, H.tb⟩ H.bel).mono ?_; rintro e w3 ⟨⟨v2, rfl, O2⟩, b3⟩; obtain ⟨a2, c2, rfl⟩ := O2.ex; have O1 := O.below b3; clear O; have H1 := H.below b3; clear H; have H := H1; clear H1 b3))
      go_loopw [6] (fun iv wr => ∃ i : Nat, i ≤ ps.length ∧ iv = .int .i64 (i : Int) ∧ Below w3.heap.size w3 wr) (fun iv _ => ps.length - (intOf iv).toNat)
      case atStart => exact ⟨0, Nat.zero_le _, rfl, Below.refl _ _⟩
      case round =>
        clear hps
        obtain ⟨i, hi1, rfl, hb⟩ := hrel
        by_cases hlt : i < ps.length
        · obtain ⟨g1, rfl, HC⟩ := O1.at_ hlt
          obtain ⟨g2, rfl, HD⟩ := O2.at_ hlt
          have f0 := HC wr hb
          have f1 := HD wr hb
          have hi2 : (i : Int) < (ps.length : Int) := by omega
          have HB : Hid (Below w3.heap.size w3 wr) := hb
          clear HC HD O1 O2 H hb
          generalize ps[i]'(by omega) = p at *
          go_wp2
          go_quiet (fail)
          go_wp2
          go_roundw
          case rel => exact ⟨i + 1, by omega, by go_num, below_drewN HB.out _⟩
          case measure => simp [intOf]; omega
        · have hi2 : ¬ (i : Int) < (ps.length : Int) := by omega
          have H1 := H.below hb
          clear H hb O1 O2
          have H := H1
          clear H1; have k0 := H.rc.c0; have k5 := H.rc.c5; have k6 := H.rc.c6; have k7 := H.rc.c7
          have hlt0 := H.rc.lt
          go_wp2_with (first
            | (refine wpList_load_rc _ rfl (.tmp 1) rfl rfl H.rc ?_)
            | (go_at_call 21; refine (CB.out _ _ _).mono ?_; rintro e w4 ⟨rfl, b4⟩; have H1 := H.below b4; clear H; have H := H1; clear H1 b4; have k0 := H.rc.c0; have k5 := H.rc.c5; have k6 := H.rc.c6; have k7 := H.rc.c7; have hlt0 := H.rc.lt; have BL : Below w.heap.size w (w4.alloc (.cells #[.string ⟨#[]⟩, .string ⟨#[]⟩] 47)) := H.bel.alloc H.bel.size _)
            | (go_at_call 12; refine (CK.out _).mono ?_; rintro e w6 ⟨rfl, b6⟩))
          go_ret
          exact ⟨rfl, thn BL b6⟩
set_option maxHeartbeats 2000000 in
theorem pages_3 (hk : s.kd = 3) (hn : l.length ≤ 1000) (hps : Hid (ps = [s.pg]))
    (CF : Hid (∀ wx, Calls Try.prog 9 #[.agg (s0.A I0 T0)] wx fun e w' => (∃ v', e = .returned v' ∧ RecV w v' ⟨s, l, g⟩) ∧ Below wx.heap.size wx w'))
    (CP : Hid (∀ wx v', RecV wx v' ⟨s, l, g⟩ → Below w.heap.size w wx → Calls Try.prog 20 #[v'] wx fun r w' => (∃ v, r = .returned v ∧ OwnI w.heap.size w' v ps) ∧ Below wx.heap.size wx w'))
    (CB0 : ∀ wx I T, Calls Try.prog 21 #[.agg (s.A I T)] wx fun r w' => r = .returned (.tuple #[.int .i64 4, .agg #[.string s.ky, .string s.nw], .bool true]) ∧ Below wx.heap.size wx w')
    (CK : Hid (∀ wx, Calls Try.prog 12 #[] wx fun e w' => e = .returned (.bool true) ∧ Below wx.heap.size wx w')) :
    Calls Try.prog 8 #[.agg (s0.A I0 T0)] w fun e w' => e = .returned (.bool true) ∧ Below w.heap.size w w' := by
  have CB : Hid (∀ wx I T, Calls Try.prog 21 #[.agg (s.A I T)] wx fun r w' => r = .returned (.tuple #[.int .i64 4, .agg #[.string s.ky, .string s.nw], .bool true]) ∧ Below wx.heap.size wx w') := CB0
  clear CB0
  have hpl : ps.length ≤ 1000 := by rw [hps.out]; simp <;> omega
  have e1 : (s.kd == 1) = false := by rw [hk]; rfl
  have e2 : (s.kd == 2) = false := by rw [hk]; rfl
  have e3 : (s.kd == 3) = true := by rw [hk]; rfl
  have g3 : 3 ≤ s.kd := by omega
  have g6 : s.kd ≤ 6 := by omega
  clear hk
  go_enter Try.func8, Try.ntmps8
  go_wp2_with (first
    | (refine wpList_box_rc (s := s0) (I := I0) (T := T0) _ rfl _ rfl rfl ?_; intro w0 b0 N0)
    | (refine wpList_load_rc _ rfl (.tmp 1) rfl rfl H.rc ?_)
    | (refine wpList_load_rc _ rfl (.tmp 1) rfl rfl N0.rc ?_)
    | (go_at_call 9; refine (CF.out _).mono ?_; rintro e w1 ⟨⟨v', rfl, h1⟩, b1⟩; obtain ⟨I, T, rfl, hI, hT⟩ := h1.ex; dsimp only at hI hT)
    | (refine wpList_put_rc (s' := s) (I' := _) (T' := _) _ rfl (.tmp 1) (.tmp 11) rfl rfl rfl (N0.rc.below b1) hI.one hT.one ?_; intro w2 P2; have H := BdS.of N0 b1 hI hT P2; have k0 := H.rc.c0; have k3 := H.rc.c3; have k9 := H.rc.c9; clear N0 P2 h1)
    | (have OO := (OwnI.nil w2.heap.size w2).below ((Below.refl _ _).alloc (Nat.le_refl _) (.cells #[.int .i64 s.pg] 3)); have BB : Below w2.heap.size w2 (w2.alloc (.cells #[.int .i64 s.pg] 3)) := (Below.refl _ _).alloc (Nat.le_refl _) _; refine wpList_append_int (B := w2.heap.size) rfl (.tmp 44) (.tmp 47) rfl rfl OO rfl (cell_new1 w2 _ 3) BB.size (by simp) ?_; intro v' w' O hb'; have H1 := H.below (BB.trans hb'); clear H BB OO; have H := H1; clear H1; rw [List.nil_append, ← hps.out] at O; obtain ⟨a1, c1, rfl⟩ := O.ex)
    | (go_at_call 20; fail))
  go_wp2_with (first
    | (refine wpList_load_rc _ rfl (.tmp 1) rfl rfl H.rc ?_)
    | (go_at_call 20; refine (CP.out _ _ ⟨_, _, rfl, H.im, H.tb⟩ H.bel).mono ?_; rintro e w3 ⟨⟨v2, rfl, O2⟩, b3⟩; obtain ⟨a2, c2, rfl⟩ := O2.ex; have O1 := O.below b3; clear O; have H1 := H.below b3; clear H; have H := H1; clear H1 b3))
  go_loopw [6] (fun iv wr => ∃ i : Nat, i ≤ ps.length ∧ iv = .int .i64 (i : Int) ∧ Below w3.heap.size w3 wr) (fun iv _ => ps.length - (intOf iv).toNat)
  case atStart => exact ⟨0, Nat.zero_le _, rfl, Below.refl _ _⟩
  case round =>
    clear hps
    obtain ⟨i, hi1, rfl, hb⟩ := hrel
    by_cases hlt : i < ps.length
    · obtain ⟨g1, rfl, HC⟩ := O1.at_ hlt
      obtain ⟨g2, rfl, HD⟩ := O2.at_ hlt
      have f0 := HC wr hb
      have f1 := HD wr hb
      have hi2 : (i : Int) < (ps.length : Int) := by omega
      have HB : Hid (Below w3.heap.size w3 wr) := hb
      clear HC HD O1 O2 H hb
      generalize ps[i]'(by omega) = p at *
      go_wp2
      go_quiet (fail)
      go_wp2
      go_roundw
      case rel => exact ⟨i + 1, by omega, by go_num, below_drewN HB.out _⟩
      case measure => simp [intOf]; omega
    · have hi2 : ¬ (i : Int) < (ps.length : Int) := by omega
      have H1 := H.below hb
      clear H hb O1 O2
      have H := H1
      clear H1; have k0 := H.rc.c0; have k5 := H.rc.c5; have k6 := H.rc.c6; have k7 := H.rc.c7
      have hlt0 := H.rc.lt
      go_wp2_with (first
        | (refine wpList_load_rc _ rfl (.tmp 1) rfl rfl H.rc ?_)
        | (go_at_call 21; refine (CB.out _ _ _).mono ?_; rintro e w4 ⟨rfl, b4⟩; have H1 := H.below b4; clear H; have H := H1; clear H1 b4; have k0 := H.rc.c0; have k5 := H.rc.c5; have k6 := H.rc.c6; have k7 := H.rc.c7; have hlt0 := H.rc.lt; have BL : Below w.heap.size w (w4.alloc (.cells #[.string s.ky, .string s.nw] 47)) := H.bel.alloc H.bel.size _)
        | (go_at_call 12; refine (CK.out _).mono ?_; rintro e w6 ⟨rfl, b6⟩))
      go_ret
      exact ⟨rfl, thn BL b6⟩
set_option maxHeartbeats 2000000 in
theorem pages_4 (hk : s.kd = 4) (hn : l.length ≤ 1000) (hps : Hid (ps = [s.pg]))
    (CF : Hid (∀ wx, Calls Try.prog 9 #[.agg (s0.A I0 T0)] wx fun e w' => (∃ v', e = .returned v' ∧ RecV w v' ⟨s, l, g⟩) ∧ Below wx.heap.size wx w'))
    (CP : Hid (∀ wx v', RecV wx v' ⟨s, l, g⟩ → Below w.heap.size w wx → Calls Try.prog 20 #[v'] wx fun r w' => (∃ v, r = .returned v ∧ OwnI w.heap.size w' v ps) ∧ Below wx.heap.size wx w'))
    (CB0 : ∀ wx I T, Calls Try.prog 21 #[.agg (s.A I T)] wx fun r w' => r = .returned (.tuple #[.int .i64 3, .agg #[.string s.ky, .string s.ol], .bool true]) ∧ Below wx.heap.size wx w')
    (CK : Hid (∀ wx, Calls Try.prog 12 #[] wx fun e w' => e = .returned (.bool true) ∧ Below wx.heap.size wx w')) :
    Calls Try.prog 8 #[.agg (s0.A I0 T0)] w fun e w' => e = .returned (.bool true) ∧ Below w.heap.size w w' := by
  have CB : Hid (∀ wx I T, Calls Try.prog 21 #[.agg (s.A I T)] wx fun r w' => r = .returned (.tuple #[.int .i64 3, .agg #[.string s.ky, .string s.ol], .bool true]) ∧ Below wx.heap.size wx w') := CB0
  clear CB0
  have hpl : ps.length ≤ 1000 := by rw [hps.out]; simp <;> omega
  have e1 : (s.kd == 1) = false := by rw [hk]; rfl
  have e2 : (s.kd == 2) = false := by rw [hk]; rfl
  have e3 : (s.kd == 3) = false := by rw [hk]; rfl
  have e4 : (s.kd == 4) = true := by rw [hk]; rfl
  have g3 : 3 ≤ s.kd := by omega
  have g6 : s.kd ≤ 6 := by omega
  clear hk
  go_enter Try.func8, Try.ntmps8
  go_wp2_with (first
    | (refine wpList_box_rc (s := s0) (I := I0) (T := T0) _ rfl _ rfl rfl ?_; intro w0 b0 N0)
    | (refine wpList_load_rc _ rfl (.tmp 1) rfl rfl H.rc ?_)
    | (refine wpList_load_rc _ rfl (.tmp 1) rfl rfl N0.rc ?_)
    | (go_at_call 9; refine (CF.out _).mono ?_; rintro e w1 ⟨⟨v', rfl, h1⟩, b1⟩; obtain ⟨I, T, rfl, hI, hT⟩ := h1.ex; dsimp only at hI hT)
    | (refine wpList_put_rc (s' := s) (I' := _) (T' := _) _ rfl (.tmp 1) (.tmp 11) rfl rfl rfl (N0.rc.below b1) hI.one hT.one ?_; intro w2 P2; have H := BdS.of N0 b1 hI hT P2; have k0 := H.rc.c0; have k3 := H.rc.c3; have k9 := H.rc.c9; clear N0 P2 h1)
    | (have OO := (OwnI.nil w2.heap.size w2).below ((Below.refl _ _).alloc (Nat.le_refl _) (.cells #[.int .i64 s.pg] 3)); have BB : Below w2.heap.size w2 (w2.alloc (.cells #[.int .i64 s.pg] 3)) := (Below.refl _ _).alloc (Nat.le_refl _) _; refine wpList_append_int (B := w2.heap.size) rfl (.tmp 44) (.tmp 47) rfl rfl OO rfl (cell_new1 w2 _ 3) BB.size (by simp) ?_; intro v' w' O hb'; have H1 := H.below (BB.trans hb'); clear H BB OO; have H := H1; clear H1; rw [List.nil_append, ← hps.out] at O; obtain ⟨a1, c1, rfl⟩ := O.ex)
    | (go_at_call 20; fail))
  go_wp2_with (first
    | (refine wpList_load_rc _ rfl (.tmp 1) rfl rfl H.rc ?_)
    | (go_at_call 20; refine (CP.out _ _ ⟨_, _, rfl, H.im, H.tb⟩ H.bel).mono ?_; rintro e w3 ⟨⟨v2, rfl, O2⟩, b3⟩; obtain ⟨a2, c2, rfl⟩ := O2.ex; have O1 := O.below b3; clear O; have H1 := H.below b3; clear H; have H := H1; clear H1 b3))
  go_loopw [6] (fun iv wr => ∃ i : Nat, i ≤ ps.length ∧ iv = .int .i64 (i : Int) ∧ Below w3.heap.size w3 wr) (fun iv _ => ps.length - (intOf iv).toNat)
  case atStart => exact ⟨0, Nat.zero_le _, rfl, Below.refl _ _⟩
  case round =>
    clear hps
    obtain ⟨i, hi1, rfl, hb⟩ := hrel
    by_cases hlt : i < ps.length
    · obtain ⟨g1, rfl, HC⟩ := O1.at_ hlt
      obtain ⟨g2, rfl, HD⟩ := O2.at_ hlt
      have f0 := HC wr hb
      have f1 := HD wr hb
      have hi2 : (i : Int) < (ps.length : Int) := by omega
      have HB : Hid (Below w3.heap.size w3 wr) := hb
      clear HC HD O1 O2 H hb
      generalize ps[i]'(by omega) = p at *
      go_wp2
      go_quiet (fail)
      go_wp2
      go_roundw
      case rel => exact ⟨i + 1, by omega, by go_num, below_drewN HB.out _⟩
      case measure => simp [intOf]; omega
    · have hi2 : ¬ (i : Int) < (ps.length : Int) := by omega
      have H1 := H.below hb
      clear H hb O1 O2
      have H := H1
      clear H1; have k0 := H.rc.c0; have k5 := H.rc.c5; have k6 := H.rc.c6; have k7 := H.rc.c7
      have hlt0 := H.rc.lt
      go_wp2_with (first
        | (refine wpList_load_rc _ rfl (.tmp 1) rfl rfl H.rc ?_)
        | (go_at_call 21; refine (CB.out _ _ _).mono ?_; rintro e w4 ⟨rfl, b4⟩; have H1 := H.below b4; clear H; have H := H1; clear H1 b4; have k0 := H.rc.c0; have k5 := H.rc.c5; have k6 := H.rc.c6; have k7 := H.rc.c7; have hlt0 := H.rc.lt; have BL : Below w.heap.size w (w4.alloc (.cells #[.string s.ky, .string s.ol] 47)) := H.bel.alloc H.bel.size _)
        | (go_at_call 12; refine (CK.out _).mono ?_; rintro e w6 ⟨rfl, b6⟩))
      go_ret
      exact ⟨rfl, thn BL b6⟩
set_option maxHeartbeats 2000000 in
theorem pages_5 (hk : s.kd = 5) (hn : l.length ≤ 1000) (hps : Hid (ps = [s.pg]))
    (CF : Hid (∀ wx, Calls Try.prog 9 #[.agg (s0.A I0 T0)] wx fun e w' => (∃ v', e = .returned v' ∧ RecV w v' ⟨s, l, g⟩) ∧ Below wx.heap.size wx w'))
    (CP : Hid (∀ wx v', RecV wx v' ⟨s, l, g⟩ → Below w.heap.size w wx → Calls Try.prog 20 #[v'] wx fun r w' => (∃ v, r = .returned v ∧ OwnI w.heap.size w' v ps) ∧ Below wx.heap.size wx w'))
    (CB0 : ∀ wx I T, Calls Try.prog 21 #[.agg (s.A I T)] wx fun r w' => r = .returned (.tuple #[.int .i64 5, .agg #[.string s.ky, .string s.ol], .bool true]) ∧ Below wx.heap.size wx w')
    (CK : Hid (∀ wx, Calls Try.prog 12 #[] wx fun e w' => e = .returned (.bool true) ∧ Below wx.heap.size wx w')) :
    Calls Try.prog 8 #[.agg (s0.A I0 T0)] w fun e w' => e = .returned (.bool true) ∧ Below w.heap.size w w' := by
  have CB : Hid (∀ wx I T, Calls Try.prog 21 #[.agg (s.A I T)] wx fun r w' => r = .returned (.tuple #[.int .i64 5, .agg #[.string s.ky, .string s.ol], .bool true]) ∧ Below wx.heap.size wx w') := CB0
  clear CB0
  have hpl : ps.length ≤ 1000 := by rw [hps.out]; simp <;> omega
  have e1 : (s.kd == 1) = false := by rw [hk]; rfl
  have e2 : (s.kd == 2) = false := by rw [hk]; rfl
  have e3 : (s.kd == 3) = false := by rw [hk]; rfl
  have e4 : (s.kd == 4) = false := by rw [hk]; rfl
  have e5 : (s.kd == 5) = true := by rw [hk]; rfl
  have g3 : 3 ≤ s.kd := by omega
  have g6 : s.kd ≤ 6 := by omega
  clear hk
  go_enter Try.func8, Try.ntmps8
  go_wp2_with (first
    | (refine wpList_box_rc (s := s0) (I := I0) (T := T0) _ rfl _ rfl rfl ?_; intro w0 b0 N0)
    | (refine wpList_load_rc _ rfl (.tmp 1) rfl rfl H.rc ?_)
    | (refine wpList_load_rc _ rfl (.tmp 1) rfl rfl N0.rc ?_)
    | (go_at_call 9; refine (CF.out _).mono ?_; rintro e w1 ⟨⟨v', rfl, h1⟩, b1⟩; obtain ⟨I, T, rfl, hI, hT⟩ := h1.ex; dsimp only at hI hT)
    | (refine wpList_put_rc (s' := s) (I' := _) (T' := _) _ rfl (.tmp 1) (.tmp 11) rfl rfl rfl (N0.rc.below b1) hI.one hT.one ?_; intro w2 P2; have H := BdS.of N0 b1 hI hT P2; have k0 := H.rc.c0; have k3 := H.rc.c3; have k9 := H.rc.c9; clear N0 P2 h1)
    | (have OO := (OwnI.nil w2.heap.size w2).below ((Below.refl _ _).alloc (Nat.le_refl _) (.cells #[.int .i64 s.pg] 3)); have BB : Below w2.heap.size w2 (w2.alloc (.cells #[.int .i64 s.pg] 3)) := (Below.refl _ _).alloc (Nat.le_refl _) _; refine wpList_append_int (B := w2.heap.size) rfl (.tmp 44) (.tmp 47) rfl rfl OO rfl (cell_new1 w2 _ 3) BB.size (by simp) ?_; intro v' w' O hb'; have H1 := H.below (BB.trans hb'); clear H BB OO; have H := H1; clear H1; rw [List.nil_append, ← hps.out] at O; obtain ⟨a1, c1, rfl⟩ := O.ex)
    | (go_at_call 20; fail))
  go_wp2_with (first
    | (refine wpList_load_rc _ rfl (.tmp 1) rfl rfl H.rc ?_)
    | (go_at_call 20; refine (CP.out _ _ ⟨_, _, rfl, H.im, H.tb⟩ H.bel).mono ?_; rintro e w3 ⟨⟨v2, rfl, O2⟩, b3⟩; obtain ⟨a2, c2, rfl⟩ := O2.ex; have O1 := O.below b3; clear O; have H1 := H.below b3; clear H; have H := H1; clear H1 b3))
  go_loopw [6] (fun iv wr => ∃ i : Nat, i ≤ ps.length ∧ iv = .int .i64 (i : Int) ∧ Below w3.heap.size w3 wr) (fun iv _ => ps.length - (intOf iv).toNat)
  case atStart => exact ⟨0, Nat.zero_le _, rfl, Below.refl _ _⟩
  case round =>
    clear hps
    obtain ⟨i, hi1, rfl, hb⟩ := hrel
    by_cases hlt : i < ps.length
    · obtain ⟨g1, rfl, HC⟩ := O1.at_ hlt
      obtain ⟨g2, rfl, HD⟩ := O2.at_ hlt
      have f0 := HC wr hb
      have f1 := HD wr hb
      have hi2 : (i : Int) < (ps.length : Int) := by omega
      have HB : Hid (Below w3.heap.size w3 wr) := hb
      clear HC HD O1 O2 H hb
      generalize ps[i]'(by omega) = p at *
      go_wp2
      go_quiet (fail)
      go_wp2
      go_roundw
      case rel => exact ⟨i + 1, by omega, by go_num, below_drewN HB.out _⟩
      case measure => simp [intOf]; omega
    · have hi2 : ¬ (i : Int) < (ps.length : Int) := by omega
      have H1 := H.below hb
      clear H hb O1 O2
      have H := H1
      clear H1; have k0 := H.rc.c0; have k5 := H.rc.c5; have k6 := H.rc.c6; have k7 := H.rc.c7
      have hlt0 := H.rc.lt
      go_wp2_with (first
        | (refine wpList_load_rc _ rfl (.tmp 1) rfl rfl H.rc ?_)
        | (go_at_call 21; refine (CB.out _ _ _).mono ?_; rintro e w4 ⟨rfl, b4⟩; have H1 := H.below b4; clear H; have H := H1; clear H1 b4; have k0 := H.rc.c0; have k5 := H.rc.c5; have k6 := H.rc.c6; have k7 := H.rc.c7; have hlt0 := H.rc.lt; have BL : Below w.heap.size w (w4.alloc (.cells #[.string s.ky, .string s.ol] 47)) := H.bel.alloc H.bel.size _)
        | (go_at_call 12; refine (CK.out _).mono ?_; rintro e w6 ⟨rfl, b6⟩))
      go_ret
      exact ⟨rfl, thn BL b6⟩
set_option maxHeartbeats 2000000 in
theorem pages_6 (hk : s.kd = 6) (hn : l.length ≤ 1000) (hps : Hid (ps = [s.pg]))
    (CF : Hid (∀ wx, Calls Try.prog 9 #[.agg (s0.A I0 T0)] wx fun e w' => (∃ v', e = .returned v' ∧ RecV w v' ⟨s, l, g⟩) ∧ Below wx.heap.size wx w'))
    (CP : Hid (∀ wx v', RecV wx v' ⟨s, l, g⟩ → Below w.heap.size w wx → Calls Try.prog 20 #[v'] wx fun r w' => (∃ v, r = .returned v ∧ OwnI w.heap.size w' v ps) ∧ Below wx.heap.size wx w'))
    (CB0 : ∀ wx I T, Calls Try.prog 21 #[.agg (s.A I T)] wx fun r w' => r = .returned (.tuple #[.int .i64 0, .agg #[.string ⟨#[]⟩, .string ⟨#[]⟩], .bool false]) ∧ Below wx.heap.size wx w')
    (CK : Hid (∀ wx, Calls Try.prog 12 #[] wx fun e w' => e = .returned (.bool true) ∧ Below wx.heap.size wx w')) :
    Calls Try.prog 8 #[.agg (s0.A I0 T0)] w fun e w' => e = .returned (.bool true) ∧ Below w.heap.size w w' := by
  have CB : Hid (∀ wx I T, Calls Try.prog 21 #[.agg (s.A I T)] wx fun r w' => r = .returned (.tuple #[.int .i64 0, .agg #[.string ⟨#[]⟩, .string ⟨#[]⟩], .bool false]) ∧ Below wx.heap.size wx w') := CB0
  clear CB0
  have hpl : ps.length ≤ 1000 := by rw [hps.out]; simp <;> omega
  have e1 : (s.kd == 1) = false := by rw [hk]; rfl
  have e2 : (s.kd == 2) = false := by rw [hk]; rfl
  have e3 : (s.kd == 3) = false := by rw [hk]; rfl
  have e4 : (s.kd == 4) = false := by rw [hk]; rfl
  have e5 : (s.kd == 5) = false := by rw [hk]; rfl
  have g3 : 3 ≤ s.kd := by omega
  have g6 : s.kd ≤ 6 := by omega
  clear hk
  go_enter Try.func8, Try.ntmps8
  go_wp2_with (first
    | (refine wpList_box_rc (s := s0) (I := I0) (T := T0) _ rfl _ rfl rfl ?_; intro w0 b0 N0)
    | (refine wpList_load_rc _ rfl (.tmp 1) rfl rfl H.rc ?_)
    | (refine wpList_load_rc _ rfl (.tmp 1) rfl rfl N0.rc ?_)
    | (go_at_call 9; refine (CF.out _).mono ?_; rintro e w1 ⟨⟨v', rfl, h1⟩, b1⟩; obtain ⟨I, T, rfl, hI, hT⟩ := h1.ex; dsimp only at hI hT)
    | (refine wpList_put_rc (s' := s) (I' := _) (T' := _) _ rfl (.tmp 1) (.tmp 11) rfl rfl rfl (N0.rc.below b1) hI.one hT.one ?_; intro w2 P2; have H := BdS.of N0 b1 hI hT P2; have k0 := H.rc.c0; have k3 := H.rc.c3; have k9 := H.rc.c9; clear N0 P2 h1)
    | (have OO := (OwnI.nil w2.heap.size w2).below ((Below.refl _ _).alloc (Nat.le_refl _) (.cells #[.int .i64 s.pg] 3)); have BB : Below w2.heap.size w2 (w2.alloc (.cells #[.int .i64 s.pg] 3)) := (Below.refl _ _).alloc (Nat.le_refl _) _; refine wpList_append_int (B := w2.heap.size) rfl (.tmp 44) (.tmp 47) rfl rfl OO rfl (cell_new1 w2 _ 3) BB.size (by simp) ?_; intro v' w' O hb'; have H1 := H.below (BB.trans hb'); clear H BB OO; have H := H1; clear H1; rw [List.nil_append, ← hps.out] at O; obtain ⟨a1, c1, rfl⟩ := O.ex)
    | (go_at_call 20; fail))
  go_wp2_with (first
    | (refine wpList_load_rc _ rfl (.tmp 1) rfl rfl H.rc ?_)
    | (go_at_call 20; refine (CP.out _ _ ⟨_, _, rfl, H.im, H.tb⟩ H.bel).mono ?_; rintro e w3 ⟨⟨v2, rfl, O2⟩, b3⟩; obtain ⟨a2, c2, rfl⟩ := O2.ex; have O1 := O.below b3; clear O; have H1 := H.below b3; clear H; have H := H1; clear H1 b3))
  go_loopw [6] (fun iv wr => ∃ i : Nat, i ≤ ps.length ∧ iv = .int .i64 (i : Int) ∧ Below w3.heap.size w3 wr) (fun iv _ => ps.length - (intOf iv).toNat)
  case atStart => exact ⟨0, Nat.zero_le _, rfl, Below.refl _ _⟩
  case round =>
    clear hps
    obtain ⟨i, hi1, rfl, hb⟩ := hrel
    by_cases hlt : i < ps.length
    · obtain ⟨g1, rfl, HC⟩ := O1.at_ hlt
      obtain ⟨g2, rfl, HD⟩ := O2.at_ hlt
      have f0 := HC wr hb
      have f1 := HD wr hb
      have hi2 : (i : Int) < (ps.length : Int) := by omega
      have HB : Hid (Below w3.heap.size w3 wr) := hb
      clear HC HD O1 O2 H hb
      generalize ps[i]'(by omega) = p at *
      go_wp2
      go_quiet (fail)
      go_wp2
      go_roundw
      case rel => exact ⟨i + 1, by omega, by go_num, below_drewN HB.out _⟩
      case measure => simp [intOf]; omega
    · have hi2 : ¬ (i : Int) < (ps.length : Int) := by omega
      have H1 := H.below hb
      clear H hb O1 O2
      have H := H1
      clear H1; have k0 := H.rc.c0; have k5 := H.rc.c5; have k6 := H.rc.c6; have k7 := H.rc.c7
      have hlt0 := H.rc.lt
      go_wp2_with (first
        | (refine wpList_load_rc _ rfl (.tmp 1) rfl rfl H.rc ?_)
        | (go_at_call 21; refine (CB.out _ _ _).mono ?_; rintro e w4 ⟨rfl, b4⟩; have H1 := H.below b4; clear H; have H := H1; clear H1 b4; have k0 := H.rc.c0; have k5 := H.rc.c5; have k6 := H.rc.c6; have k7 := H.rc.c7; have hlt0 := H.rc.lt; have BL : Below w.heap.size w (w4.alloc (.cells #[.string ⟨#[]⟩, .string ⟨#[]⟩] 47)) := H.bel.alloc H.bel.size _)
        | (go_at_call 12; refine (CK.out _).mono ?_; rintro e w6 ⟨rfl, b6⟩))
      go_ret
      exact ⟨rfl, thn BL b6⟩
set_option maxHeartbeats 2000000 in
theorem pages_lo (hk : s.kd < 1) (hn : l.length ≤ 1000) (hps : Hid (ps = []))
    (CF : Hid (∀ wx, Calls Try.prog 9 #[.agg (s0.A I0 T0)] wx fun e w' => (∃ v', e = .returned v' ∧ RecV w v' ⟨s, l, g⟩) ∧ Below wx.heap.size wx w'))
    (CP : Hid (∀ wx v', RecV wx v' ⟨s, l, g⟩ → Below w.heap.size w wx → Calls Try.prog 20 #[v'] wx fun r w' => (∃ v, r = .returned v ∧ OwnI w.heap.size w' v ps) ∧ Below wx.heap.size wx w'))
    (CB0 : ∀ wx I T, Calls Try.prog 21 #[.agg (s.A I T)] wx fun r w' => r = .returned (.tuple #[.int .i64 0, .agg #[.string ⟨#[]⟩, .string ⟨#[]⟩], .bool false]) ∧ Below wx.heap.size wx w')
    (CK : Hid (∀ wx, Calls Try.prog 12 #[] wx fun e w' => e = .returned (.bool true) ∧ Below wx.heap.size wx w')) :
    Calls Try.prog 8 #[.agg (s0.A I0 T0)] w fun e w' => e = .returned (.bool true) ∧ Below w.heap.size w w' := by
  have CB : Hid (∀ wx I T, Calls Try.prog 21 #[.agg (s.A I T)] wx fun r w' => r = .returned (.tuple #[.int .i64 0, .agg #[.string ⟨#[]⟩, .string ⟨#[]⟩], .bool false]) ∧ Below wx.heap.size wx w') := CB0
  clear CB0
  have hpl : ps.length ≤ 1000 := by rw [hps.out]; simp <;> omega
  have e1 : (s.kd == 1) = false := by simp; omega
  have e2 : (s.kd == 2) = false := by simp; omega
  have e3 : (s.kd == 3) = false := by simp; omega
  have e4 : (s.kd == 4) = false := by simp; omega
  have e5 : (s.kd == 5) = false := by simp; omega
  have g3 : ¬ 3 ≤ s.kd := by omega
  clear hk
  have hp0 : ps = [] := hps.out
  subst hp0
  clear hps hpl
  go_enter Try.func8, Try.ntmps8
  go_wp2_with (first
    | (refine wpList_box_rc (s := s0) (I := I0) (T := T0) _ rfl _ rfl rfl ?_; intro w0 b0 N0)
    | (refine wpList_load_rc _ rfl (.tmp 1) rfl rfl H.rc ?_)
    | (refine wpList_load_rc _ rfl (.tmp 1) rfl rfl N0.rc ?_)
    | (go_at_call 9; refine (CF.out _).mono ?_; rintro e w1 ⟨⟨v', rfl, h1⟩, b1⟩; obtain ⟨I, T, rfl, hI, hT⟩ := h1.ex; dsimp only at hI hT)
    | (refine wpList_put_rc (s' := s) (I' := _) (T' := _) _ rfl (.tmp 1) (.tmp 11) rfl rfl rfl (N0.rc.below b1) hI.one hT.one ?_; intro w2 P2; have H := BdS.of N0 b1 hI hT P2; have k0 := H.rc.c0; have k3 := H.rc.c3; have k9 := H.rc.c9; clear N0 P2 h1)
    | (go_at_call 20; refine (CP.out _ _ ⟨_, _, rfl, H.im, H.tb⟩ H.bel).mono ?_; rintro e w3 ⟨⟨v2, rfl, O2⟩, b3⟩; obtain ⟨a2, c2, rfl⟩ := O2.ex; have H1 := H.below b3; clear H; have H := H1; clear H1 b3; have k0 := H.rc.c0; have k5 := H.rc.c5; have k6 := H.rc.c6; have k7 := H.rc.c7; have hlt0 := H.rc.lt))
  refine wp_loop_rounds 1 ?_
  rw [rounds_succ]
  go_wp2_with (first
    | (refine wpList_load_rc _ rfl (.tmp 1) rfl rfl H.rc ?_)
    | (go_at_call 21; refine (CB.out _ _ _).mono ?_; rintro e w4 ⟨rfl, b4⟩; have H1 := H.below b4; clear H; have H := H1; clear H1 b4; have k0 := H.rc.c0; have k5 := H.rc.c5; have k6 := H.rc.c6; have k7 := H.rc.c7; have hlt0 := H.rc.lt; have BL : Below w.heap.size w (w4.alloc (.cells #[.string ⟨#[]⟩, .string ⟨#[]⟩] 47)) := H.bel.alloc H.bel.size _)
    | (go_at_call 12; refine (CK.out _).mono ?_; rintro e w6 ⟨rfl, b6⟩))
  go_ret
  exact ⟨rfl, thn BL b6⟩
set_option maxHeartbeats 2000000 in
theorem pages_hi (hk : 6 < s.kd) (hn : l.length ≤ 1000) (hps : Hid (ps = []))
    (CF : Hid (∀ wx, Calls Try.prog 9 #[.agg (s0.A I0 T0)] wx fun e w' => (∃ v', e = .returned v' ∧ RecV w v' ⟨s, l, g⟩) ∧ Below wx.heap.size wx w'))
    (CP : Hid (∀ wx v', RecV wx v' ⟨s, l, g⟩ → Below w.heap.size w wx → Calls Try.prog 20 #[v'] wx fun r w' => (∃ v, r = .returned v ∧ OwnI w.heap.size w' v ps) ∧ Below wx.heap.size wx w'))
    (CB0 : ∀ wx I T, Calls Try.prog 21 #[.agg (s.A I T)] wx fun r w' => r = .returned (.tuple #[.int .i64 0, .agg #[.string ⟨#[]⟩, .string ⟨#[]⟩], .bool false]) ∧ Below wx.heap.size wx w')
    (CK : Hid (∀ wx, Calls Try.prog 12 #[] wx fun e w' => e = .returned (.bool true) ∧ Below wx.heap.size wx w')) :
    Calls Try.prog 8 #[.agg (s0.A I0 T0)] w fun e w' => e = .returned (.bool true) ∧ Below w.heap.size w w' := by
  have CB : Hid (∀ wx I T, Calls Try.prog 21 #[.agg (s.A I T)] wx fun r w' => r = .returned (.tuple #[.int .i64 0, .agg #[.string ⟨#[]⟩, .string ⟨#[]⟩], .bool false]) ∧ Below wx.heap.size wx w') := CB0
  clear CB0
  have hpl : ps.length ≤ 1000 := by rw [hps.out]; simp <;> omega
  have e1 : (s.kd == 1) = false := by simp; omega
  have e2 : (s.kd == 2) = false := by simp; omega
  have e3 : (s.kd == 3) = false := by simp; omega
  have e4 : (s.kd == 4) = false := by simp; omega
  have e5 : (s.kd == 5) = false := by simp; omega
  have g3 : 3 ≤ s.kd := by omega
  have g6 : ¬ s.kd ≤ 6 := by omega
  clear hk
  have hp0 : ps = [] := hps.out
  subst hp0
  clear hps hpl
  go_enter Try.func8, Try.ntmps8
  go_wp2_with (first
    | (refine wpList_box_rc (s := s0) (I := I0) (T := T0) _ rfl _ rfl rfl ?_; intro w0 b0 N0)
    | (refine wpList_load_rc _ rfl (.tmp 1) rfl rfl H.rc ?_)
    | (refine wpList_load_rc _ rfl (.tmp 1) rfl rfl N0.rc ?_)
    | (go_at_call 9; refine (CF.out _).mono ?_; rintro e w1 ⟨⟨v', rfl, h1⟩, b1⟩; obtain ⟨I, T, rfl, hI, hT⟩ := h1.ex; dsimp only at hI hT)
    | (refine wpList_put_rc (s' := s) (I' := _) (T' := _) _ rfl (.tmp 1) (.tmp 11) rfl rfl rfl (N0.rc.below b1) hI.one hT.one ?_; intro w2 P2; have H := BdS.of N0 b1 hI hT P2; have k0 := H.rc.c0; have k3 := H.rc.c3; have k9 := H.rc.c9; clear N0 P2 h1)
    | (go_at_call 20; refine (CP.out _ _ ⟨_, _, rfl, H.im, H.tb⟩ H.bel).mono ?_; rintro e w3 ⟨⟨v2, rfl, O2⟩, b3⟩; obtain ⟨a2, c2, rfl⟩ := O2.ex; have H1 := H.below b3; clear H; have H := H1; clear H1 b3; have k0 := H.rc.c0; have k5 := H.rc.c5; have k6 := H.rc.c6; have k7 := H.rc.c7; have hlt0 := H.rc.lt))
  refine wp_loop_rounds 1 ?_
  rw [rounds_succ]
  go_wp2_with (first
    | (refine wpList_load_rc _ rfl (.tmp 1) rfl rfl H.rc ?_)
    | (go_at_call 21; refine (CB.out _ _ _).mono ?_; rintro e w4 ⟨rfl, b4⟩; have H1 := H.below b4; clear H; have H := H1; clear H1 b4; have k0 := H.rc.c0; have k5 := H.rc.c5; have k6 := H.rc.c6; have k7 := H.rc.c7; have hlt0 := H.rc.lt; have BL : Below w.heap.size w (w4.alloc (.cells #[.string ⟨#[]⟩, .string ⟨#[]⟩] 47)) := H.bel.alloc H.bel.size _)
    | (go_at_call 12; refine (CK.out _).mono ?_; rintro e w6 ⟨rfl, b6⟩))
  go_ret
  exact ⟨rfl, thn BL b6⟩
end
end Go.Proofs.Ytakdfdnndogaiaa
