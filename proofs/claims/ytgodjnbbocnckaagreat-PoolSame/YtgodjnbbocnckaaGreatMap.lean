/- PoolSame, walked. -/
import Derived.Test.YtgodjnbbocnckaaGreatMao
namespace Go.Proofs.YtgodjnbbocnckaaGreat
open Go.RowKit Go.Maps Go.ChangeMaps
set_option linter.unusedVariables false
set_option linter.unusedSimpArgs false
set_option maxRecDepth 100000

section
variable {w w' : World} {b : Nat} {kd id c : Int}
theorem op_rg (h : w.heap[b]? = some (.cells (opA kd id c) 28)) : w.rangeAt b 0 ((opA kd id c).toList) := fun j u hu => by
  rw [Joins.cell_of_block h (0 + j), Nat.zero_add, ← Array.getElem?_toList]
  exact hu
theorem zero_op10 (w : World) : (zeroValue 28).run Tryz.prog w = .ok (.agg #[.int .i64 0, .int .i64 0, .int .u8 0]) w := by kernel_rfl
theorem one_op10 : ∀ v ∈ (opA kd id c).toList, v.oneCell' = true := by
  intro v hv
  simp [opA] at hv
  rcases hv with rfl | rfl | rfl <;> rfl
end
set_option maxHeartbeats 8000000 in
theorem same_in {w : World} {a : Option Addr} {len cap : Nat} {f : Nat → Op3} (hS : IsOp w a len f) (n m : Nat) (h2 : 2 ≤ n) (h10 : n ≤ 10) (m2 : 2 ≤ m) (m10 : m ≤ 10) : Calls Tryz.prog 4 #[.int .i64 (n : Int), .int .i64 (m : Int), .slice a len cap] w fun e w' => e = .returned (.bool true) ∧ Below w.heap.size w w' := by
  have CA : Hid (∀ wx, Calls Tryz.prog 9 #[] wx fun e w' => e = .returned (.bool true) ∧ Below wx.heap.size wx w') := fun wx => awake10 wx
  have CM : Hid (Calls Tryz.prog 10 #[.int .i64 (n : Int)] w fun e w' => ∃ va X, e = .returned (.pointer (some ⟨va, 0, none⟩)) ∧ Calls Tryz.prog 10 #[.int .i64 (m : Int)] w' fun e w2 => ∃ vb Y N B', e = .returned (.pointer (some ⟨vb, 0, none⟩)) ∧ Ts N w.heap.size B' w w2 va vb X Y 0) := by
    letI : Inhabited PrSet := ⟨⟨fun _ => none⟩⟩
    refine (@made_any ⟨⟨fun _ => none⟩⟩ n h2 h10 w (Ltp_none w)).mono ?_
    rintro e w1 ⟨va, X, S, G, M⟩
    refine ⟨va, X, M.e, ?_⟩
    refine (Tw.new M (fun I hL => @made_any I m m2 m10 w1 hL)).mono ?_
    rintro e w2 ⟨vb, Y, he, hT, hn, hb⟩
    exact ⟨vb, Y, _, _, he, ⟨[], fun _ => none, hT, Nat.le_refl _⟩, by rw [M.n]; exact h10, by rw [hn]; exact m10, M.bel.size, M.bel.trans (hb.mono M.bel.size)⟩
  have HS : Hid (IsOp w a len f) := hS
  have n2 : ¬ (n : Int) < 2 := by omega
  have n10 : ¬ (10 : Int) < (n : Int) := by omega
  have k2 : ¬ (m : Int) < 2 := by omega
  have k10 : ¬ (10 : Int) < (m : Int) := by omega
  clear hS h2 h10 m2 m10
  go_enter Tryz.func4, Tryz.ntmps4
  go_wp2_with (first
    | (go_at_call 10; have := CM.out; refine CM.out.mono ?_; clear CM this; rintro e w1 ⟨va, X, rfl, CM2⟩)
    | (go_at_call 10; refine CM2.mono ?_; clear CM2; rintro e w2 ⟨vb, Y, N0, B', rfl, L2⟩; have HL2 : Hid (Ts N0 w.heap.size B' w w2 va vb X Y 0) := L2; clear L2))
  go_loopw [9] (fun iv wr => ∃ (i N : Nat), i ≤ len ∧ i ≤ 60 ∧ iv = .int .i64 (i : Int) ∧ Ts N w.heap.size B' w wr va vb X Y i) (fun iv _ => 60 - (intOf iv).toNat)
  case atStart => exact ⟨0, N0, Nat.zero_le _, Nat.zero_le _, rfl, HL2.out⟩
  case round =>
    obtain ⟨i, N, hil, hi60, rfl, hL⟩ := hrel
    have HL : Hid (Ts N w.heap.size B' w wr va vb X Y i) := hL
    clear hL
    by_cases hlt : i < len
    · have i1 : (i : Int) < (len : Int) := by omega
      by_cases h60 : i < 60
      · have i2 : (i : Int) < 60 := by omega
        obtain ⟨bb, off, ha, hr⟩ := HS.out.on rfl HL.out.bel hlt
        subst ha
        have hNle : Hid (N ≤ wr.heap.size) := HL.out.nle
        have CSt : Hid (∀ wx, Below wr.heap.size wr wx → (f i).kd ≠ 3 → (f i).kd ≠ 4 → Calls Tryz.prog 11 #[.pointer (some ⟨va, 0, none⟩), .agg (opA (f i).kd (f i).id ((f i).c : Int))] wx fun e w' => e = .returned (.bool true) ∧ (∀ j, N ≤ j → j < wx.heap.size → w'.heap[j]? = wx.heap[j]?) ∧ Calls Tryz.prog 11 #[.pointer (some ⟨vb, 0, none⟩), .agg (opA (f i).kd (f i).id ((f i).c : Int))] w' fun e w2 => e = .returned (.bool true) ∧ Ts w2.heap.size w.heap.size B' w w2 va vb X Y (i + 1)) := fun wx hx h3 h4 => (HL.out.below hx).step1 h60 _ _ _ (HS.out.c i hlt) h3 h4
        have HSk : Hid (∀ wx, Below wr.heap.size wr wx → Ts N w.heap.size B' w wx va vb X Y (i + 1)) := fun wx hx => (HL.out.below hx).skip
        have HRg : Hid (wr.rangeAt bb (off + i * 3) ((opA (f i).kd (f i).id ((f i).c : Int)).toList)) := hr
        clear HL hr
        generalize ((f i).c : Int) = cI at *
        generalize (f i).id = idI at *
        generalize (f i).kd = kdI at *
        by_cases h3 : kdI = 3
        · subst h3
          go_wp2_with (first
            | (refine wpList_load_op (kd := 3) (id := idI) (c := cI) _ rfl (.tmp 55) rfl rfl HRg.out ?_)
            | (refine wpList_new_o (A := #[.int .i64 0, .int .i64 0, .int .u8 0]) _ rfl rfl (zero_op10 _) ?_; intro w3 b3 N3)
            | (refine wpList_put_o (A' := opA 3 idI cI) _ rfl (.tmp 10) (.tmp 56) rfl rfl rfl N3.blk info_op rfl one_op10 ?_; intro w4 P4; have q0 : w4.cell? ⟨b3, 0, none⟩ = some (.int .i64 3) := Joins.cell_of_block P4.blk 0; have B4 : Hid (Below wr.heap.size wr w4) := N3.below.trans (P4.off.below (fun k hk => by have := N3.eq; omega) N3.below.size)))
          go_roundw
          case rel => exact ⟨i + 1, N, by omega, by omega, by go_num, HSk.out _ B4.out⟩
          case measure => simp [intOf]; omega
        · by_cases h4 : kdI = 4
          · subst h4
            go_wp2_with (first
              | (refine wpList_load_op (kd := 4) (id := idI) (c := cI) _ rfl (.tmp 55) rfl rfl HRg.out ?_)
              | (refine wpList_new_o (A := #[.int .i64 0, .int .i64 0, .int .u8 0]) _ rfl rfl (zero_op10 _) ?_; intro w3 b3 N3)
              | (refine wpList_put_o (A' := opA 4 idI cI) _ rfl (.tmp 10) (.tmp 56) rfl rfl rfl N3.blk info_op rfl one_op10 ?_; intro w4 P4; have q0 : w4.cell? ⟨b3, 0, none⟩ = some (.int .i64 4) := Joins.cell_of_block P4.blk 0; have B4 : Hid (Below wr.heap.size wr w4) := N3.below.trans (P4.off.below (fun k hk => by have := N3.eq; omega) N3.below.size)))
            go_roundw
            case rel => exact ⟨i + 1, N, by omega, by omega, by go_num, HSk.out _ B4.out⟩
            case measure => simp [intOf]; omega
          · have t3 : (kdI == 3) = false := by simpa using h3
            have t4 : (kdI == 4) = false := by simpa using h4
            go_wp2_with (first
              | (refine wpList_load_op (kd := kdI) (id := idI) (c := cI) _ rfl (.tmp 55) rfl rfl HRg.out ?_)
              | (refine wpList_new_o (A := #[.int .i64 0, .int .i64 0, .int .u8 0]) _ rfl rfl (zero_op10 _) ?_; intro w3 b3 N3)
              | (refine wpList_put_o (A' := opA kdI idI cI) _ rfl (.tmp 10) (.tmp 56) rfl rfl rfl N3.blk info_op rfl one_op10 ?_; intro w4 P4; have HP4 : Hid _ := P4.blk; have q0 : w4.cell? ⟨b3, 0, none⟩ = some (.int .i64 kdI) := Joins.cell_of_block P4.blk 0; have B4 : Hid (Below wr.heap.size wr w4) := N3.below.trans (P4.off.below (fun k hk => by have := N3.eq; omega) N3.below.size); have e3 : Hid (N ≤ b3) := (by rw [N3.eq]; exact hNle.out : N ≤ b3); clear N3 P4)
              | (refine wpList_load_op (kd := kdI) (id := idI) (c := cI) _ rfl (.tmp 10) rfl rfl (op_rg HP4.out) ?_)
              | (go_at_call 11; refine (CSt.out _ B4.out h3 h4).mono ?_; clear CSt; rintro e w5 ⟨rfl, hq5, C5⟩; have HC5 : Hid _ := C5; have HP5 : Hid _ := (hq5 _ e3.out (lt_of_some HP4.out)).trans HP4.out; have s0 : w5.cell? ⟨b3, 0, none⟩ = some (.int .i64 kdI) := Joins.cell_of_block HP5.out 0; have s1 : w5.cell? ⟨b3, 1, none⟩ = some (.int .i64 idI) := Joins.cell_of_block HP5.out 1; have s2 : w5.cell? ⟨b3, 2, none⟩ = some (.int .u8 cI) := Joins.cell_of_block HP5.out 2; clear C5 hq5 HP4)
              | (refine wpList_load_op (kd := kdI) (id := idI) (c := cI) _ rfl (.tmp 10) rfl rfl (op_rg HP5.out) ?_)
              | (go_at_call 11; refine Calls.mono HC5.out ?_; clear HC5; rintro e w6 ⟨rfl, L6⟩; have HL6 : Hid (Ts w6.heap.size w.heap.size B' w w6 va vb X Y (i + 1)) := L6; clear L6))
            go_roundw
            case rel => exact ⟨i + 1, _, by omega, by omega, by go_num, HL6.out⟩
            case measure => simp [intOf]; omega
      · have i2 : ¬ (i : Int) < 60 := by omega
        obtain ⟨cs, st, hG0⟩ := HL.out.get hi60
        have HG0 : Hid (Tg w.heap.size B' w wr va vb X Y 0 cs st) := hG0
        clear HL hG0
        go_wp2
        go_loopw [11] (fun iv wq => ∃ d : Nat, d ≤ 8 ∧ iv = .int .i64 (d : Int) ∧ Tg w.heap.size B' w wq va vb X Y d cs st) (fun iv _ => 8 - (intOf iv).toNat)
        case atStart => exact ⟨0, by omega, rfl, HG0.out⟩
        case round =>
          obtain ⟨d, hd8, rfl, hG⟩ := hrel
          have HG : Hid (Tg w.heap.size B' w wr va vb X Y d cs st) := hG
          clear hG
          by_cases hd : d < 8
          · have d1 : (d : Int) < 8 := by omega
            have d0 : (0 : Int) ≤ (d : Int) := by omega
            obtain ⟨c3, CG0⟩ := HG.out.ask hd
            have CG : Hid _ := CG0
            clear CG0 HG
            generalize txO cs (st d) = tx at *
            generalize lnO (st d) = ln at *
            go_wp2_with (first
              | (go_at_call 14; refine Calls.mono CG.out ?_; clear CG; rintro e w5 ⟨rfl, c5, C5⟩; have HC5 : Hid _ := C5; clear C5)
              | (go_at_call 14; refine Calls.mono HC5.out ?_; clear HC5; rintro e w6 ⟨rfl, G6⟩; have HG6 : Hid (Tg w.heap.size B' w w6 va vb X Y (d + 1) cs st) := G6; clear G6))
            go_roundw
            case rel => exact ⟨d + 1, hd, by go_num, HG6.out⟩
            case measure => simp [intOf]; omega
          · obtain rfl : d = 8 := by omega
            have HBw : Hid (Below w.heap.size w wr) := HG.out.bel
            clear hd hd8 HG
            go_wp2_with (go_at_call 9; refine (CA.out _).mono ?_; rintro e w9 ⟨rfl, b9⟩)
            go_ret
            exact ⟨rfl, thn HBw.out b9⟩
    · have i1 : ¬ (i : Int) < (len : Int) := by omega
      obtain ⟨cs, st, hG0⟩ := HL.out.get hi60
      have HG0 : Hid (Tg w.heap.size B' w wr va vb X Y 0 cs st) := hG0
      clear HL hG0
      go_wp2
      go_loopw [11] (fun iv wq => ∃ d : Nat, d ≤ 8 ∧ iv = .int .i64 (d : Int) ∧ Tg w.heap.size B' w wq va vb X Y d cs st) (fun iv _ => 8 - (intOf iv).toNat)
      case atStart => exact ⟨0, by omega, rfl, HG0.out⟩
      case round =>
        obtain ⟨d, hd8, rfl, hG⟩ := hrel
        have HG : Hid (Tg w.heap.size B' w wr va vb X Y d cs st) := hG
        clear hG
        by_cases hd : d < 8
        · have d1 : (d : Int) < 8 := by omega
          have d0 : (0 : Int) ≤ (d : Int) := by omega
          obtain ⟨c3, CG0⟩ := HG.out.ask hd
          have CG : Hid _ := CG0
          clear CG0 HG
          generalize txO cs (st d) = tx at *
          generalize lnO (st d) = ln at *
          go_wp2_with (first
            | (go_at_call 14; refine Calls.mono CG.out ?_; clear CG; rintro e w5 ⟨rfl, c5, C5⟩; have HC5 : Hid _ := C5; clear C5)
            | (go_at_call 14; refine Calls.mono HC5.out ?_; clear HC5; rintro e w6 ⟨rfl, G6⟩; have HG6 : Hid (Tg w.heap.size B' w w6 va vb X Y (d + 1) cs st) := G6; clear G6))
          go_roundw
          case rel => exact ⟨d + 1, hd, by go_num, HG6.out⟩
          case measure => simp [intOf]; omega
        · obtain rfl : d = 8 := by omega
          have HBw : Hid (Below w.heap.size w wr) := HG.out.bel
          clear hd hd8 HG
          go_wp2_with (go_at_call 9; refine (CA.out _).mono ?_; rintro e w9 ⟨rfl, b9⟩)
          go_ret
          exact ⟨rfl, thn HBw.out b9⟩
theorem same10_walk {w : World} {a : Option Addr} {len cap : Nat} {f : Nat → Op3} (n m : Int) (hS : IsOp w a len f) : Calls Tryz.prog 4 #[.int .i64 n, .int .i64 m, .slice a len cap] w fun e w' => e = .returned (.bool true) ∧ Below w.heap.size w w' := by
  have CA : Hid (∀ wx, Calls Tryz.prog 9 #[] wx fun e w' => e = .returned (.bool true) ∧ Below wx.heap.size wx w') := fun wx => awake10 wx
  by_cases h1 : n < 2
  · go_enter Tryz.func4, Tryz.ntmps4
    go_wp2_with (go_at_call 9; refine (CA.out _).mono ?_; rintro e w9 ⟨rfl, b9⟩)
    go_ret
    exact ⟨rfl, b9⟩
  · by_cases h2 : 10 < n
    · go_enter Tryz.func4, Tryz.ntmps4
      go_wp2_with (go_at_call 9; refine (CA.out _).mono ?_; rintro e w9 ⟨rfl, b9⟩)
      go_ret
      exact ⟨rfl, b9⟩
    · by_cases h3 : m < 2
      · go_enter Tryz.func4, Tryz.ntmps4
        go_wp2_with (go_at_call 9; refine (CA.out _).mono ?_; rintro e w9 ⟨rfl, b9⟩)
        go_ret
        exact ⟨rfl, b9⟩
      · by_cases h4 : 10 < m
        · go_enter Tryz.func4, Tryz.ntmps4
          go_wp2_with (go_at_call 9; refine (CA.out _).mono ?_; rintro e w9 ⟨rfl, b9⟩)
          go_ret
          exact ⟨rfl, b9⟩
        · obtain ⟨x, rfl⟩ : ∃ x : Nat, n = (x : Int) := ⟨n.toNat, by omega⟩
          obtain ⟨y, rfl⟩ : ∃ y : Nat, m = (y : Int) := ⟨m.toNat, by omega⟩
          exact same_in hS x y (by omega) (by omega) (by omega) (by omega)
end Go.Proofs.YtgodjnbbocnckaaGreat
