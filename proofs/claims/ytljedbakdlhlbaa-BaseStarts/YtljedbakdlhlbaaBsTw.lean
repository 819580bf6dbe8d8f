/- BaseStarts: each start is told anew, whenever the power goes, and all else stays. -/
import Derived.Test.YtljedbakdlhlbaaBsT
namespace Go.Proofs.Ytljedbakdlhlbaa
open Go.RowKit
set_option linter.unusedVariables false
set_option linter.unusedSimpArgs false
set_option maxRecDepth 100000

section
variable {w : World}
theorem neq_self (s : Bs) (L : Int) (wx : World) : (binOp .neq 23 (.agg #[.int .i64 s.nd, .int .i64 L, .int .i64 s.gn, .int .i64 s.ck, .int .i64 s.rd, .int .i64 s.sn, .int .i64 s.jn]) (.agg #[.int .i64 s.nd, .int .i64 L, .int .i64 s.gn, .int .i64 s.ck, .int .i64 s.rd, .int .i64 s.sn, .int .i64 s.jn])).run Try.prog wx = .ok (.bool false) wx := by
  have := neq_bs wx (s.at L) (s.at L)
  rw [Bs.eq_self] at this
  exact this
theorem neq_zero (wx : World) : (binOp .neq 23 (.agg #[.int .i64 0, .int .i64 0, .int .i64 0, .int .i64 0, .int .i64 0, .int .i64 0, .int .i64 0]) (.agg #[.int .i64 0, .int .i64 0, .int .i64 0, .int .i64 0, .int .i64 0, .int .i64 0, .int .i64 0])).run Try.prog wx = .ok (.bool false) wx := neq_self Bs.zero 0 wx
set_option maxHeartbeats 4000000 in
theorem starts_out_a {b s : Bs} (hs : s = b) (hi : I64 s) (r0 : ¬ b.bt < 0) (r1 : ¬ 1000 < b.bt) (hf : ¬ Fit s) {ao : Option Addr} {n cp : Nat} {x : Int} : Calls Try.prog 6 #[.agg b.A, .slice ao n cp, .int .u64 x] w fun e w' => e = .returned (.bool true) ∧ Below w.heap.size w w' := by
  have CB : Hid (∀ wx, Calls Try.prog 10 #[.agg s.A] wx fun e w' => ∃ t, e = .returned (.tuple #[.string t, .bool false]) ∧ Below wx.heap.size wx w') := fun wx => bytes_bad hf hi wx
  have CN : Hid (∀ wx, Calls Try.prog 8 #[.int .i64 1] wx fun e w' => e = .returned (.tuple #[.pointer (some ⟨wx.heap.size + 2, 0, none⟩), .int .i64 0]) ∧ Ds wx.heap.size w' (wx.heap.size + 2) 0 (newDk 1) ∧ Below wx.heap.size wx w') := fun wx => Ds.new 1 (by decide) (by decide) wx
  have C0 : Hid (∀ wx b0 db B, Q9 w wx b0 db B 0 s (fun S => S = newDk 1) → Calls Try.prog 18 #[.pointer (some ⟨db, 0, none⟩)] wx fun e w' => e = .returned (.tuple #[.agg Bs.zero.A, .int .i64 8]) ∧ Q9 w w' b0 db B 0 s (fun S => S = newDk 1)) := fun wx b0 db B h => h.start0
  have CA : Hid (∀ wx, Calls Try.prog 13 #[] wx fun e w' => e = .returned (.bool true) ∧ w' = wx) := awake9
  have HS : Hid _ := hs
  clear hi hf hs
  go_enter Try.func6, Try.ntmps6
  go_wp2_with (first
    | (refine wpList_box_bs (s := b) _ rfl _ rfl rfl ?_; intro w0 b0 N0; have R : BsAt w0 b0 s := (by rw [HS.out]; exact N0.rc); have Bq := N0.below; have c1 := N0.rc.c1)
    | (have := Q; refine wpList_load_bs _ rfl (.tmp 3) rfl rfl Q.own ?_)
    | (refine wpList_load_bs _ rfl (.tmp 3) rfl rfl R ?_)
    | (go_at_call 10; refine (CB.out _).mono ?_; rintro e w1 ⟨t1, rfl, q1⟩)
    | (go_at_call 8; refine (CN.out _).mono ?_; rintro e w2 ⟨rfl, d2, q2⟩; have Q : Q9 w w2 b0 (w1.heap.size + 2) w1.heap.size 0 s (fun S => S = newDk 1) := ⟨⟨_, d2, rfl⟩, (R.below q1).below q2, thn Bq (thn q1 q2), by have := Bq.size; have := q1.size; omega⟩; clear d2)
    | (go_at_call 18; refine (C0.out _ _ _ _ Q).mono ?_; rintro e w3 ⟨rfl, Q3⟩; clear Q; have Q := Q3; clear Q3)
    | (refine wpList_new_bs _ rfl rfl ?_; intro w4 b4 N4)
    | (refine wpList_at (Op.store 23 (.tmp 11) (.tmp 48)) rfl ?_; refine wpList_put_bs (s' := Bs.zero) _ rfl (.tmp 11) (.tmp 48) rfl rfl rfl N4.rc ?_; intro w5 P5; have Q5 := Q.newB N4 P5; clear Q; have Q := Q5; clear Q5)
    | (go_at_call 13; refine (CA.out _).mono ?_; rintro e w9 ⟨rfl, rfl⟩))
  go_ret
  exact ⟨rfl, Q.bel⟩
set_option maxHeartbeats 4000000 in
theorem starts_out_b {b s : Bs} (hs : s = (b.at 5)) (hi : I64 s) (r0 : b.bt < 0) (hf : ¬ Fit s) {ao : Option Addr} {n cp : Nat} {x : Int} : Calls Try.prog 6 #[.agg b.A, .slice ao n cp, .int .u64 x] w fun e w' => e = .returned (.bool true) ∧ Below w.heap.size w w' := by
  have CB : Hid (∀ wx, Calls Try.prog 10 #[.agg s.A] wx fun e w' => ∃ t, e = .returned (.tuple #[.string t, .bool false]) ∧ Below wx.heap.size wx w') := fun wx => bytes_bad hf hi wx
  have CN : Hid (∀ wx, Calls Try.prog 8 #[.int .i64 1] wx fun e w' => e = .returned (.tuple #[.pointer (some ⟨wx.heap.size + 2, 0, none⟩), .int .i64 0]) ∧ Ds wx.heap.size w' (wx.heap.size + 2) 0 (newDk 1) ∧ Below wx.heap.size wx w') := fun wx => Ds.new 1 (by decide) (by decide) wx
  have C0 : Hid (∀ wx b0 db B, Q9 w wx b0 db B 0 s (fun S => S = newDk 1) → Calls Try.prog 18 #[.pointer (some ⟨db, 0, none⟩)] wx fun e w' => e = .returned (.tuple #[.agg Bs.zero.A, .int .i64 8]) ∧ Q9 w w' b0 db B 0 s (fun S => S = newDk 1)) := fun wx b0 db B h => h.start0
  have CA : Hid (∀ wx, Calls Try.prog 13 #[] wx fun e w' => e = .returned (.bool true) ∧ w' = wx) := awake9
  have HS : Hid _ := hs
  clear hi hf hs
  go_enter Try.func6, Try.ntmps6
  go_wp2_with (first
    | (refine wpList_box_bs (s := b) _ rfl _ rfl rfl ?_; intro w0 b0 N0; have c1 := N0.rc.c1)
    | (refine wpList_at (Op.store 3 (.tmp 29) (.const (.int .i64 5))) rfl ?_; refine wpList_fput (k := 1) (s' := b.at 5) _ rfl 3 (.tmp 29) (.const (.int .i64 5)) rfl rfl rfl N0.rc (by decide) rfl (by kernel_rfl) rfl ?_; intro wp P0; have R : BsAt wp b0 s := (by rw [HS.out]; exact P0.rc); have Bq : Below w.heap.size w wp := N0.below.trans (P0.below (by have := N0.eq; omega) N0.below.size))
    | (have := Q; refine wpList_load_bs _ rfl (.tmp 3) rfl rfl Q.own ?_)
    | (refine wpList_load_bs _ rfl (.tmp 3) rfl rfl R ?_)
    | (go_at_call 10; refine (CB.out _).mono ?_; rintro e w1 ⟨t1, rfl, q1⟩)
    | (go_at_call 8; refine (CN.out _).mono ?_; rintro e w2 ⟨rfl, d2, q2⟩; have Q : Q9 w w2 b0 (w1.heap.size + 2) w1.heap.size 0 s (fun S => S = newDk 1) := ⟨⟨_, d2, rfl⟩, (R.below q1).below q2, thn Bq (thn q1 q2), by have := Bq.size; have := q1.size; omega⟩; clear d2)
    | (go_at_call 18; refine (C0.out _ _ _ _ Q).mono ?_; rintro e w3 ⟨rfl, Q3⟩; clear Q; have Q := Q3; clear Q3)
    | (refine wpList_new_bs _ rfl rfl ?_; intro w4 b4 N4)
    | (refine wpList_at (Op.store 23 (.tmp 11) (.tmp 48)) rfl ?_; refine wpList_put_bs (s' := Bs.zero) _ rfl (.tmp 11) (.tmp 48) rfl rfl rfl N4.rc ?_; intro w5 P5; have Q5 := Q.newB N4 P5; clear Q; have Q := Q5; clear Q5)
    | (go_at_call 13; refine (CA.out _).mono ?_; rintro e w9 ⟨rfl, rfl⟩))
  go_ret
  exact ⟨rfl, Q.bel⟩
set_option maxHeartbeats 4000000 in
theorem starts_out_c {b s : Bs} (hs : s = (b.at 5)) (hi : I64 s) (r0 : ¬ b.bt < 0) (r1 : 1000 < b.bt) (hf : ¬ Fit s) {ao : Option Addr} {n cp : Nat} {x : Int} : Calls Try.prog 6 #[.agg b.A, .slice ao n cp, .int .u64 x] w fun e w' => e = .returned (.bool true) ∧ Below w.heap.size w w' := by
  have CB : Hid (∀ wx, Calls Try.prog 10 #[.agg s.A] wx fun e w' => ∃ t, e = .returned (.tuple #[.string t, .bool false]) ∧ Below wx.heap.size wx w') := fun wx => bytes_bad hf hi wx
  have CN : Hid (∀ wx, Calls Try.prog 8 #[.int .i64 1] wx fun e w' => e = .returned (.tuple #[.pointer (some ⟨wx.heap.size + 2, 0, none⟩), .int .i64 0]) ∧ Ds wx.heap.size w' (wx.heap.size + 2) 0 (newDk 1) ∧ Below wx.heap.size wx w') := fun wx => Ds.new 1 (by decide) (by decide) wx
  have C0 : Hid (∀ wx b0 db B, Q9 w wx b0 db B 0 s (fun S => S = newDk 1) → Calls Try.prog 18 #[.pointer (some ⟨db, 0, none⟩)] wx fun e w' => e = .returned (.tuple #[.agg Bs.zero.A, .int .i64 8]) ∧ Q9 w w' b0 db B 0 s (fun S => S = newDk 1)) := fun wx b0 db B h => h.start0
  have CA : Hid (∀ wx, Calls Try.prog 13 #[] wx fun e w' => e = .returned (.bool true) ∧ w' = wx) := awake9
  have HS : Hid _ := hs
  clear hi hf hs
  go_enter Try.func6, Try.ntmps6
  go_wp2_with (first
    | (refine wpList_box_bs (s := b) _ rfl _ rfl rfl ?_; intro w0 b0 N0; have c1 := N0.rc.c1)
    | (refine wpList_at (Op.store 3 (.tmp 29) (.const (.int .i64 5))) rfl ?_; refine wpList_fput (k := 1) (s' := b.at 5) _ rfl 3 (.tmp 29) (.const (.int .i64 5)) rfl rfl rfl N0.rc (by decide) rfl (by kernel_rfl) rfl ?_; intro wp P0; have R : BsAt wp b0 s := (by rw [HS.out]; exact P0.rc); have Bq : Below w.heap.size w wp := N0.below.trans (P0.below (by have := N0.eq; omega) N0.below.size))
    | (have := Q; refine wpList_load_bs _ rfl (.tmp 3) rfl rfl Q.own ?_)
    | (refine wpList_load_bs _ rfl (.tmp 3) rfl rfl R ?_)
    | (go_at_call 10; refine (CB.out _).mono ?_; rintro e w1 ⟨t1, rfl, q1⟩)
    | (go_at_call 8; refine (CN.out _).mono ?_; rintro e w2 ⟨rfl, d2, q2⟩; have Q : Q9 w w2 b0 (w1.heap.size + 2) w1.heap.size 0 s (fun S => S = newDk 1) := ⟨⟨_, d2, rfl⟩, (R.below q1).below q2, thn Bq (thn q1 q2), by have := Bq.size; have := q1.size; omega⟩; clear d2)
    | (go_at_call 18; refine (C0.out _ _ _ _ Q).mono ?_; rintro e w3 ⟨rfl, Q3⟩; clear Q; have Q := Q3; clear Q3)
    | (refine wpList_new_bs _ rfl rfl ?_; intro w4 b4 N4)
    | (refine wpList_at (Op.store 23 (.tmp 11) (.tmp 48)) rfl ?_; refine wpList_put_bs (s' := Bs.zero) _ rfl (.tmp 11) (.tmp 48) rfl rfl rfl N4.rc ?_; intro w5 P5; have Q5 := Q.newB N4 P5; clear Q; have Q := Q5; clear Q5)
    | (go_at_call 13; refine (CA.out _).mono ?_; rintro e w9 ⟨rfl, rfl⟩))
  go_ret
  exact ⟨rfl, Q.bel⟩
set_option maxHeartbeats 8000000 in
theorem starts_main_a {b s : Bs} (hs : s = b) (r0 : ¬ b.bt < 0) (r1 : ¬ 1000 < b.bt) (hf : Fit s) (hb0 : 0 ≤ s.bt) (hb1 : s.bt ≤ 1000) {ao : Option Addr} {n cp : Nat} {is : List Int} (hN : NsV w ao n is) (hn : n ≤ 9223372036854775807) {x : Int} (x0 : 0 ≤ x) (x1 : x ≤ 18446744073709551615) : Calls Try.prog 6 #[.agg b.A, .slice ao n cp, .int .u64 x] w fun e w' => e = .returned (.bool true) ∧ Below w.heap.size w w' := by
  have CB : Hid (∀ wx, Calls Try.prog 10 #[.agg s.A] wx fun e w' => ∃ t, e = .returned (.tuple #[.string t, .bool true]) ∧ Below wx.heap.size wx w') := fun wx => (bytes_fit hf wx).mono (by rintro e w' ⟨rfl, q⟩; exact ⟨_, rfl, q⟩)
  have CN : Hid (∀ wx, Calls Try.prog 8 #[.int .i64 1] wx fun e w' => e = .returned (.tuple #[.pointer (some ⟨wx.heap.size + 2, 0, none⟩), .int .i64 0]) ∧ Ds wx.heap.size w' (wx.heap.size + 2) 0 (newDk 1) ∧ Below wx.heap.size wx w') := fun wx => Ds.new 1 (by decide) (by decide) wx
  have C0 : Hid (∀ wx b0 db B, Q9 w wx b0 db B 0 s (fun S => S = newDk 1) → Calls Try.prog 18 #[.pointer (some ⟨db, 0, none⟩)] wx fun e w' => e = .returned (.tuple #[.agg Bs.zero.A, .int .i64 8]) ∧ Q9 w w' b0 db B 0 s (fun S => S = newDk 1)) := fun wx b0 db B h => h.start0
  have CA : Hid (∀ wx, Calls Try.prog 13 #[] wx fun e w' => e = .returned (.bool true) ∧ w' = wx) := awake9
  have CS : Hid (∀ wx b0 db B, Q9 w wx b0 db B 0 s (fun S => S = newDk 1) → Calls Try.prog 9 #[.pointer (some ⟨db, 0, none⟩), .agg s.A] wx fun e w' => e = .returned (.int .i64 0) ∧ Q9 w w' b0 db B 2 s (fun S => Sv S (s.at s.bt))) := fun wx b0 db B h => h.save0 hf
  have C1 : Hid (∀ wx b0 db B k L z, Q9 w wx b0 db B k s (fun S => Sv S (s.at L)) → z = 0 ∨ z = 1 → Calls Try.prog 16 #[.pointer (some ⟨db, 0, none⟩), .int .i64 z, .int .u64 x] wx fun e w' => e = .returned (.int .i64 0) ∧ Q9 w w' b0 db B k s (fun S' => ∃ S, Sv S (s.at L) ∧ S' = armDk S z x)) := fun wx b0 db B k L z h hz => h.arm hz x0 x1
  have C2 : Hid (∀ wx b0 db B k L z, Q9 w wx b0 db B k s (fun S' => ∃ S, Sv S (s.at L) ∧ S' = armDk S z x) → k ≤ 1000 → z = 0 ∨ z = 1 → 0 ≤ L → L ≤ 1100 → Calls Try.prog 18 #[.pointer (some ⟨db, 0, none⟩)] wx fun e w' => e = .returned (.tuple #[.agg Bs.zero.A, .int .i64 9]) ∧ Q9 w w' b0 db B (k + 2) s (fun S => S.up = false ∧ (Sv { S with up := true } (s.at L) ∨ Sv { S with up := true } (s.at (L + 1))))) := fun wx b0 db B k L z h hk hz h0 h1 => h.startA hk hz hf h0 h1
  have C3 : Hid (∀ wx b0 db B k L, Q9 w wx b0 db B k s (fun S => S.up = false ∧ (Sv { S with up := true } (s.at L) ∨ Sv { S with up := true } (s.at (L + 1)))) → Calls Try.prog 17 #[.pointer (some ⟨db, 0, none⟩)] wx fun e w' => e = .returned (.int .i64 0) ∧ ∃ c, (c = L ∨ c = L + 1) ∧ Q9 w w' b0 db B k s (fun S => Sv S (s.at c))) := fun wx b0 db B k L h => h.up
  have C4 : Hid (∀ wx b0 db B k L, Q9 w wx b0 db B k s (fun S => Sv S (s.at L)) → 0 ≤ L → L ≤ 1100 → Calls Try.prog 11 #[.pointer (some ⟨db, 0, none⟩)] wx fun e w' => e = .returned (.tuple #[.agg (s.at L).A, .int .i64 0]) ∧ Q9 w w' b0 db B k s (fun S => Sv S (s.at L))) := fun wx b0 db B k L h h0 h1 => h.load hf h0 h1
  have C5 : Hid (∀ wx b0 db B k L, Q9 w wx b0 db B k s (fun S => Sv S (s.at L)) → k ≤ 1000 → 0 ≤ L → L ≤ 1100 → Calls Try.prog 18 #[.pointer (some ⟨db, 0, none⟩)] wx fun e w' => e = .returned (.tuple #[.agg (s.at (L + 1)).A, .int .i64 0]) ∧ Q9 w w' b0 db B (k + 2) s (fun S => Sv S (s.at (L + 1)))) := fun wx b0 db B k L h hk h0 h1 => h.startQ hk hf h0 h1
  have nz := neq_zero
  have HS : Hid _ := hs
  clear hf x0 x1 hs
  go_enter Try.func6, Try.ntmps6
  go_wp2_with (first
    | (refine wpList_box_bs (s := b) _ rfl _ rfl rfl ?_; intro w0 b0 N0; have R : BsAt w0 b0 s := (by rw [HS.out]; exact N0.rc); have Bq := N0.below; have c1 := N0.rc.c1)
    | (have := Q; refine wpList_load_bs _ rfl (.tmp 3) rfl rfl Q.own ?_)
    | (refine wpList_load_bs _ rfl (.tmp 3) rfl rfl R ?_)
    | (go_at_call 10; refine (CB.out _).mono ?_; rintro e w1 ⟨t1, rfl, q1⟩)
    | (go_at_call 8; refine (CN.out _).mono ?_; rintro e w2 ⟨rfl, d2, q2⟩; have Q : Q9 w w2 b0 (w1.heap.size + 2) w1.heap.size 0 s (fun S => S = newDk 1) := ⟨⟨_, d2, rfl⟩, (R.below q1).below q2, thn Bq (thn q1 q2), by have := Bq.size; have := q1.size; omega⟩; clear d2)
    | (go_at_call 18; refine (C0.out _ _ _ _ Q).mono ?_; rintro e w3 ⟨rfl, Q3⟩; clear Q; have Q := Q3; clear Q3)
    | (refine wpList_new_bs _ rfl rfl ?_; intro w4 b4 N4)
    | (refine wpList_at (Op.store 23 (.tmp 11) (.tmp 48)) rfl ?_; refine wpList_put_bs (s' := Bs.zero) _ rfl (.tmp 11) (.tmp 48) rfl rfl rfl N4.rc ?_; intro w5 P5; have Q5 := Q.newB N4 P5; clear Q; have Q := Q5; clear Q5)
    | (go_at_call 9; refine (CS.out _ _ _ _ Q).mono ?_; rintro e w6 ⟨rfl, Q6⟩; clear Q; have Q := Q6; clear Q6; have cB := Q.own.c1))
  go_loopw [13, 14] (fun la i wr => ∃ (j : Nat) (L : Int), j ≤ 20 ∧ i = .int .i64 j ∧ la = .int .i64 L ∧ 0 ≤ L ∧ L ≤ 1000 + j ∧ Q9 w wr b0 (w1.heap.size + 2) w1.heap.size (2 * j + 2) s (fun S => Sv S (s.at L))) (fun _ i _ => 20 - (intOf i).toNat)
  case atStart => exact ⟨0, s.bt, Nat.zero_le _, rfl, rfl, hb0, by omega, Q⟩
  case round =>
    clear CB CN C0 CS Q cB
    obtain ⟨j, L, hj, rfl, rfl, h0, h1, Q⟩ := hrel
    by_cases hlt : j < n
    · by_cases h20 : j < 20
      · have hjl : j < is.length := by rw [hN.len]; exact hlt
        obtain ⟨g, o, ha, hg, hcw⟩ := hN.at_ j hjl
        subst ha
        replace hcw : wr.cell? ⟨g, o + j, none⟩ = some (.int .i64 is[j]) := (Q.bel.cell hg).trans hcw
        generalize is[j] = z at *
        by_cases hz : z = 0 ∨ z = 1
        · have z0 : 0 ≤ z := by omega
          have z1 : z < 2 := by omega
          go_wp2_with (first
            | (have := N16; refine wpList_new_bs _ rfl rfl ?_; intro w8 b18 N18)
            | (refine wpList_new_bs _ rfl rfl ?_; intro w4 b16 N16)
            | (go_at_call 16; refine (C1.out _ _ _ _ _ _ _ Q hz).mono ?_; rintro e w1 ⟨rfl, Q1⟩; clear Q; have Q := Q1; clear Q1)
            | (go_at_call 18; refine (C2.out _ _ _ _ _ _ _ Q (by omega) hz h0 (by omega)).mono ?_; rintro e w2 ⟨rfl, Q1⟩; clear Q; have Q := Q1; clear Q1)
            | (refine wpList_at (Op.store 23 (.tmp 16) (.tmp 103)) rfl ?_; refine wpList_put_bs (s' := Bs.zero) _ rfl (.tmp 16) (.tmp 103) rfl rfl rfl N16.rc ?_; intro w5 P16; have Q1 := Q.newB N16 P16; clear Q; have Q := Q1; clear Q1; have x0 := P16.rc.zs 0 (by decide); have x1 := P16.rc.zs 1 (by decide); have x2 := P16.rc.zs 2 (by decide); have x3 := P16.rc.zs 3 (by decide); have x4 := P16.rc.zs 4 (by decide); have x5 := P16.rc.zs 5 (by decide); have x6 := P16.rc.zs 6 (by decide))
            | (go_at_call 17; refine (C3.out _ _ _ _ _ _ Q).mono ?_; rintro e w6 ⟨rfl, c, hc, Q1⟩; clear Q; have Q := Q1; clear Q1)
            | (go_at_call 11; refine (C4.out _ _ _ _ _ _ Q (by omega) (by omega)).mono ?_; rintro e w7 ⟨rfl, Q1⟩; clear Q; have Q := Q1; clear Q1)
            | (refine wpList_at (Op.store 23 (.tmp 18) (.tmp 121)) rfl ?_; refine wpList_put_bs (s' := s.at c) _ rfl (.tmp 18) (.tmp 121) rfl rfl rfl N18.rc ?_; go_must (intro w9 P18; have Q1 := Q.newB N18 P18; clear Q; have Q := Q1; clear Q1; have y1 : w9.cell? ⟨b18, 1, none⟩ = some (.int .i64 c) := P18.rc.c1; have l0 : ¬ c < L := (by omega); have l1 : ¬ L + 1 < c := (by omega))))
          go_roundw
          case rel => exact ⟨j + 1, c, by omega, by go_num, rfl, by omega, by omega, Q⟩
          case measure => simp [intOf]; omega
        · have ns := neq_self s (L + 1)
          have hz' : z < 0 ∨ (¬ z < 0 ∧ ¬ z < 2) := by omega
          clear hz
          rcases hz' with z0 | ⟨z0, z1⟩
          all_goals
            go_wp2_with (first
              | (have := N16; refine wpList_new_bs _ rfl rfl ?_; intro w5 b20 N20)
              | (refine wpList_new_bs _ rfl rfl ?_; intro w3 b16 N16)
              | (go_at_call 18; refine (C5.out _ _ _ _ _ _ Q (by omega) h0 (by omega)).mono ?_; rintro e w2 ⟨rfl, Q1⟩; clear Q; have Q := Q1; clear Q1)
              | (refine wpList_at (Op.store 23 (.tmp 16) (.tmp 103)) rfl ?_; refine wpList_put_bs (s' := s.at (L + 1)) _ rfl (.tmp 16) (.tmp 103) rfl rfl rfl N16.rc ?_; intro w4 P16; have Q1 := Q.newB N16 P16; clear Q; have Q := Q1; clear Q1; have m0 := Q.own.lt; have m1 := Q.bel.size)
              | (refine wpList_load_bs _ rfl (.tmp 3) rfl rfl Q.own ?_)
              | (refine wpList_at (Op.store 23 (.tmp 20) (.tmp 140)) rfl ?_; refine wpList_put_bs (s' := s) _ rfl (.tmp 20) (.tmp 140) rfl rfl rfl N20.rc ?_; intro w6 P20; have Q1 := Q.newB N20 P20; clear Q; have Q := Q1; clear Q1)
              | (refine wpList_at (Op.store 3 (.tmp 143) (.tmp 142)) rfl ?_; refine wpList_fput (k := 1) (s' := s.at (L + 1)) _ rfl 3 (.tmp 143) (.tmp 142) rfl rfl rfl P20.rc (by decide) rfl (by kernel_rfl) rfl ?_; intro w7 P7; have Q1 := Q.putB P20.rc P7 (by have := N20.eq; omega) (by have := N20.eq; omega); clear Q; have Q := Q1; clear Q1; have R16 : BsAt w7 b16 (s.at (L + 1)) := (((P16.rc.below N20.below).off P20.off (by have := N20.eq; have := P16.rc.lt; omega)).off P7.off (by have := N20.eq; have := P16.rc.lt; omega)); have x0 : w7.cell? ⟨b16, 0, none⟩ = some (.int .i64 s.nd) := R16.c0; have x1 : w7.cell? ⟨b16, 1, none⟩ = some (.int .i64 (L + 1)) := R16.c1; have x2 : w7.cell? ⟨b16, 2, none⟩ = some (.int .i64 s.gn) := R16.c2; have x3 : w7.cell? ⟨b16, 3, none⟩ = some (.int .i64 s.ck) := R16.c3; have x4 : w7.cell? ⟨b16, 4, none⟩ = some (.int .i64 s.rd) := R16.c4; have x5 : w7.cell? ⟨b16, 5, none⟩ = some (.int .i64 s.sn) := R16.c5; have x6 : w7.cell? ⟨b16, 6, none⟩ = some (.int .i64 s.jn) := R16.c6; have y0 : w7.cell? ⟨b20, 0, none⟩ = some (.int .i64 s.nd) := P7.rc.c0; have y1 : w7.cell? ⟨b20, 1, none⟩ = some (.int .i64 (L + 1)) := P7.rc.c1; have y2 : w7.cell? ⟨b20, 2, none⟩ = some (.int .i64 s.gn) := P7.rc.c2; have y3 : w7.cell? ⟨b20, 3, none⟩ = some (.int .i64 s.ck) := P7.rc.c3; have y4 : w7.cell? ⟨b20, 4, none⟩ = some (.int .i64 s.rd) := P7.rc.c4; have y5 : w7.cell? ⟨b20, 5, none⟩ = some (.int .i64 s.sn) := P7.rc.c5; have y6 : w7.cell? ⟨b20, 6, none⟩ = some (.int .i64 s.jn) := P7.rc.c6))
            go_roundw
            case rel => exact ⟨j + 1, L + 1, by omega, by go_num, rfl, by omega, by omega, Q⟩
            case measure => simp [intOf]; omega
      · go_wp2_with (go_at_call 13; refine (CA.out _).mono ?_; rintro e w9 ⟨rfl, rfl⟩)
        go_ret
        exact ⟨rfl, Q.bel⟩
    · go_wp2_with (go_at_call 13; refine (CA.out _).mono ?_; rintro e w9 ⟨rfl, rfl⟩)
      go_ret
      exact ⟨rfl, Q.bel⟩
set_option maxHeartbeats 8000000 in
theorem starts_main_b {b s : Bs} (hs : s = (b.at 5)) (r0 : b.bt < 0) (hf : Fit s) (hb0 : 0 ≤ s.bt) (hb1 : s.bt ≤ 1000) {ao : Option Addr} {n cp : Nat} {is : List Int} (hN : NsV w ao n is) (hn : n ≤ 9223372036854775807) {x : Int} (x0 : 0 ≤ x) (x1 : x ≤ 18446744073709551615) : Calls Try.prog 6 #[.agg b.A, .slice ao n cp, .int .u64 x] w fun e w' => e = .returned (.bool true) ∧ Below w.heap.size w w' := by
  have CB : Hid (∀ wx, Calls Try.prog 10 #[.agg s.A] wx fun e w' => ∃ t, e = .returned (.tuple #[.string t, .bool true]) ∧ Below wx.heap.size wx w') := fun wx => (bytes_fit hf wx).mono (by rintro e w' ⟨rfl, q⟩; exact ⟨_, rfl, q⟩)
  have CN : Hid (∀ wx, Calls Try.prog 8 #[.int .i64 1] wx fun e w' => e = .returned (.tuple #[.pointer (some ⟨wx.heap.size + 2, 0, none⟩), .int .i64 0]) ∧ Ds wx.heap.size w' (wx.heap.size + 2) 0 (newDk 1) ∧ Below wx.heap.size wx w') := fun wx => Ds.new 1 (by decide) (by decide) wx
  have C0 : Hid (∀ wx b0 db B, Q9 w wx b0 db B 0 s (fun S => S = newDk 1) → Calls Try.prog 18 #[.pointer (some ⟨db, 0, none⟩)] wx fun e w' => e = .returned (.tuple #[.agg Bs.zero.A, .int .i64 8]) ∧ Q9 w w' b0 db B 0 s (fun S => S = newDk 1)) := fun wx b0 db B h => h.start0
  have CA : Hid (∀ wx, Calls Try.prog 13 #[] wx fun e w' => e = .returned (.bool true) ∧ w' = wx) := awake9
  have CS : Hid (∀ wx b0 db B, Q9 w wx b0 db B 0 s (fun S => S = newDk 1) → Calls Try.prog 9 #[.pointer (some ⟨db, 0, none⟩), .agg s.A] wx fun e w' => e = .returned (.int .i64 0) ∧ Q9 w w' b0 db B 2 s (fun S => Sv S (s.at s.bt))) := fun wx b0 db B h => h.save0 hf
  have C1 : Hid (∀ wx b0 db B k L z, Q9 w wx b0 db B k s (fun S => Sv S (s.at L)) → z = 0 ∨ z = 1 → Calls Try.prog 16 #[.pointer (some ⟨db, 0, none⟩), .int .i64 z, .int .u64 x] wx fun e w' => e = .returned (.int .i64 0) ∧ Q9 w w' b0 db B k s (fun S' => ∃ S, Sv S (s.at L) ∧ S' = armDk S z x)) := fun wx b0 db B k L z h hz => h.arm hz x0 x1
  have C2 : Hid (∀ wx b0 db B k L z, Q9 w wx b0 db B k s (fun S' => ∃ S, Sv S (s.at L) ∧ S' = armDk S z x) → k ≤ 1000 → z = 0 ∨ z = 1 → 0 ≤ L → L ≤ 1100 → Calls Try.prog 18 #[.pointer (some ⟨db, 0, none⟩)] wx fun e w' => e = .returned (.tuple #[.agg Bs.zero.A, .int .i64 9]) ∧ Q9 w w' b0 db B (k + 2) s (fun S => S.up = false ∧ (Sv { S with up := true } (s.at L) ∨ Sv { S with up := true } (s.at (L + 1))))) := fun wx b0 db B k L z h hk hz h0 h1 => h.startA hk hz hf h0 h1
  have C3 : Hid (∀ wx b0 db B k L, Q9 w wx b0 db B k s (fun S => S.up = false ∧ (Sv { S with up := true } (s.at L) ∨ Sv { S with up := true } (s.at (L + 1)))) → Calls Try.prog 17 #[.pointer (some ⟨db, 0, none⟩)] wx fun e w' => e = .returned (.int .i64 0) ∧ ∃ c, (c = L ∨ c = L + 1) ∧ Q9 w w' b0 db B k s (fun S => Sv S (s.at c))) := fun wx b0 db B k L h => h.up
  have C4 : Hid (∀ wx b0 db B k L, Q9 w wx b0 db B k s (fun S => Sv S (s.at L)) → 0 ≤ L → L ≤ 1100 → Calls Try.prog 11 #[.pointer (some ⟨db, 0, none⟩)] wx fun e w' => e = .returned (.tuple #[.agg (s.at L).A, .int .i64 0]) ∧ Q9 w w' b0 db B k s (fun S => Sv S (s.at L))) := fun wx b0 db B k L h h0 h1 => h.load hf h0 h1
  have C5 : Hid (∀ wx b0 db B k L, Q9 w wx b0 db B k s (fun S => Sv S (s.at L)) → k ≤ 1000 → 0 ≤ L → L ≤ 1100 → Calls Try.prog 18 #[.pointer (some ⟨db, 0, none⟩)] wx fun e w' => e = .returned (.tuple #[.agg (s.at (L + 1)).A, .int .i64 0]) ∧ Q9 w w' b0 db B (k + 2) s (fun S => Sv S (s.at (L + 1)))) := fun wx b0 db B k L h hk h0 h1 => h.startQ hk hf h0 h1
  have nz := neq_zero
  have HS : Hid _ := hs
  clear hf x0 x1 hs
  go_enter Try.func6, Try.ntmps6
  go_wp2_with (first
    | (refine wpList_box_bs (s := b) _ rfl _ rfl rfl ?_; intro w0 b0 N0; have c1 := N0.rc.c1)
    | (refine wpList_at (Op.store 3 (.tmp 29) (.const (.int .i64 5))) rfl ?_; refine wpList_fput (k := 1) (s' := b.at 5) _ rfl 3 (.tmp 29) (.const (.int .i64 5)) rfl rfl rfl N0.rc (by decide) rfl (by kernel_rfl) rfl ?_; intro wp P0; have R : BsAt wp b0 s := (by rw [HS.out]; exact P0.rc); have Bq : Below w.heap.size w wp := N0.below.trans (P0.below (by have := N0.eq; omega) N0.below.size))
    | (have := Q; refine wpList_load_bs _ rfl (.tmp 3) rfl rfl Q.own ?_)
    | (refine wpList_load_bs _ rfl (.tmp 3) rfl rfl R ?_)
    | (go_at_call 10; refine (CB.out _).mono ?_; rintro e w1 ⟨t1, rfl, q1⟩)
    | (go_at_call 8; refine (CN.out _).mono ?_; rintro e w2 ⟨rfl, d2, q2⟩; have Q : Q9 w w2 b0 (w1.heap.size + 2) w1.heap.size 0 s (fun S => S = newDk 1) := ⟨⟨_, d2, rfl⟩, (R.below q1).below q2, thn Bq (thn q1 q2), by have := Bq.size; have := q1.size; omega⟩; clear d2)
    | (go_at_call 18; refine (C0.out _ _ _ _ Q).mono ?_; rintro e w3 ⟨rfl, Q3⟩; clear Q; have Q := Q3; clear Q3)
    | (refine wpList_new_bs _ rfl rfl ?_; intro w4 b4 N4)
    | (refine wpList_at (Op.store 23 (.tmp 11) (.tmp 48)) rfl ?_; refine wpList_put_bs (s' := Bs.zero) _ rfl (.tmp 11) (.tmp 48) rfl rfl rfl N4.rc ?_; intro w5 P5; have Q5 := Q.newB N4 P5; clear Q; have Q := Q5; clear Q5)
    | (go_at_call 9; refine (CS.out _ _ _ _ Q).mono ?_; rintro e w6 ⟨rfl, Q6⟩; clear Q; have Q := Q6; clear Q6; have cB := Q.own.c1))
  go_loopw [13, 14] (fun la i wr => ∃ (j : Nat) (L : Int), j ≤ 20 ∧ i = .int .i64 j ∧ la = .int .i64 L ∧ 0 ≤ L ∧ L ≤ 1000 + j ∧ Q9 w wr b0 (w1.heap.size + 2) w1.heap.size (2 * j + 2) s (fun S => Sv S (s.at L))) (fun _ i _ => 20 - (intOf i).toNat)
  case atStart => exact ⟨0, s.bt, Nat.zero_le _, rfl, rfl, hb0, by omega, Q⟩
  case round =>
    clear CB CN C0 CS Q cB
    obtain ⟨j, L, hj, rfl, rfl, h0, h1, Q⟩ := hrel
    by_cases hlt : j < n
    · by_cases h20 : j < 20
      · have hjl : j < is.length := by rw [hN.len]; exact hlt
        obtain ⟨g, o, ha, hg, hcw⟩ := hN.at_ j hjl
        subst ha
        replace hcw : wr.cell? ⟨g, o + j, none⟩ = some (.int .i64 is[j]) := (Q.bel.cell hg).trans hcw
        generalize is[j] = z at *
        by_cases hz : z = 0 ∨ z = 1
        · have z0 : 0 ≤ z := by omega
          have z1 : z < 2 := by omega
          go_wp2_with (first
            | (have := N16; refine wpList_new_bs _ rfl rfl ?_; intro w8 b18 N18)
            | (refine wpList_new_bs _ rfl rfl ?_; intro w4 b16 N16)
            | (go_at_call 16; refine (C1.out _ _ _ _ _ _ _ Q hz).mono ?_; rintro e w1 ⟨rfl, Q1⟩; clear Q; have Q := Q1; clear Q1)
            | (go_at_call 18; refine (C2.out _ _ _ _ _ _ _ Q (by omega) hz h0 (by omega)).mono ?_; rintro e w2 ⟨rfl, Q1⟩; clear Q; have Q := Q1; clear Q1)
            | (refine wpList_at (Op.store 23 (.tmp 16) (.tmp 103)) rfl ?_; refine wpList_put_bs (s' := Bs.zero) _ rfl (.tmp 16) (.tmp 103) rfl rfl rfl N16.rc ?_; intro w5 P16; have Q1 := Q.newB N16 P16; clear Q; have Q := Q1; clear Q1; have x0 := P16.rc.zs 0 (by decide); have x1 := P16.rc.zs 1 (by decide); have x2 := P16.rc.zs 2 (by decide); have x3 := P16.rc.zs 3 (by decide); have x4 := P16.rc.zs 4 (by decide); have x5 := P16.rc.zs 5 (by decide); have x6 := P16.rc.zs 6 (by decide))
            | (go_at_call 17; refine (C3.out _ _ _ _ _ _ Q).mono ?_; rintro e w6 ⟨rfl, c, hc, Q1⟩; clear Q; have Q := Q1; clear Q1)
            | (go_at_call 11; refine (C4.out _ _ _ _ _ _ Q (by omega) (by omega)).mono ?_; rintro e w7 ⟨rfl, Q1⟩; clear Q; have Q := Q1; clear Q1)
            | (refine wpList_at (Op.store 23 (.tmp 18) (.tmp 121)) rfl ?_; refine wpList_put_bs (s' := s.at c) _ rfl (.tmp 18) (.tmp 121) rfl rfl rfl N18.rc ?_; go_must (intro w9 P18; have Q1 := Q.newB N18 P18; clear Q; have Q := Q1; clear Q1; have y1 : w9.cell? ⟨b18, 1, none⟩ = some (.int .i64 c) := P18.rc.c1; have l0 : ¬ c < L := (by omega); have l1 : ¬ L + 1 < c := (by omega))))
          go_roundw
          case rel => exact ⟨j + 1, c, by omega, by go_num, rfl, by omega, by omega, Q⟩
          case measure => simp [intOf]; omega
        · have ns := neq_self s (L + 1)
          have hz' : z < 0 ∨ (¬ z < 0 ∧ ¬ z < 2) := by omega
          clear hz
          rcases hz' with z0 | ⟨z0, z1⟩
          all_goals
            go_wp2_with (first
              | (have := N16; refine wpList_new_bs _ rfl rfl ?_; intro w5 b20 N20)
              | (refine wpList_new_bs _ rfl rfl ?_; intro w3 b16 N16)
              | (go_at_call 18; refine (C5.out _ _ _ _ _ _ Q (by omega) h0 (by omega)).mono ?_; rintro e w2 ⟨rfl, Q1⟩; clear Q; have Q := Q1; clear Q1)
              | (refine wpList_at (Op.store 23 (.tmp 16) (.tmp 103)) rfl ?_; refine wpList_put_bs (s' := s.at (L + 1)) _ rfl (.tmp 16) (.tmp 103) rfl rfl rfl N16.rc ?_; intro w4 P16; have Q1 := Q.newB N16 P16; clear Q; have Q := Q1; clear Q1; have m0 := Q.own.lt; have m1 := Q.bel.size)
              | (refine wpList_load_bs _ rfl (.tmp 3) rfl rfl Q.own ?_)
              | (refine wpList_at (Op.store 23 (.tmp 20) (.tmp 140)) rfl ?_; refine wpList_put_bs (s' := s) _ rfl (.tmp 20) (.tmp 140) rfl rfl rfl N20.rc ?_; intro w6 P20; have Q1 := Q.newB N20 P20; clear Q; have Q := Q1; clear Q1)
              | (refine wpList_at (Op.store 3 (.tmp 143) (.tmp 142)) rfl ?_; refine wpList_fput (k := 1) (s' := s.at (L + 1)) _ rfl 3 (.tmp 143) (.tmp 142) rfl rfl rfl P20.rc (by decide) rfl (by kernel_rfl) rfl ?_; intro w7 P7; have Q1 := Q.putB P20.rc P7 (by have := N20.eq; omega) (by have := N20.eq; omega); clear Q; have Q := Q1; clear Q1; have R16 : BsAt w7 b16 (s.at (L + 1)) := (((P16.rc.below N20.below).off P20.off (by have := N20.eq; have := P16.rc.lt; omega)).off P7.off (by have := N20.eq; have := P16.rc.lt; omega)); have x0 : w7.cell? ⟨b16, 0, none⟩ = some (.int .i64 s.nd) := R16.c0; have x1 : w7.cell? ⟨b16, 1, none⟩ = some (.int .i64 (L + 1)) := R16.c1; have x2 : w7.cell? ⟨b16, 2, none⟩ = some (.int .i64 s.gn) := R16.c2; have x3 : w7.cell? ⟨b16, 3, none⟩ = some (.int .i64 s.ck) := R16.c3; have x4 : w7.cell? ⟨b16, 4, none⟩ = some (.int .i64 s.rd) := R16.c4; have x5 : w7.cell? ⟨b16, 5, none⟩ = some (.int .i64 s.sn) := R16.c5; have x6 : w7.cell? ⟨b16, 6, none⟩ = some (.int .i64 s.jn) := R16.c6; have y0 : w7.cell? ⟨b20, 0, none⟩ = some (.int .i64 s.nd) := P7.rc.c0; have y1 : w7.cell? ⟨b20, 1, none⟩ = some (.int .i64 (L + 1)) := P7.rc.c1; have y2 : w7.cell? ⟨b20, 2, none⟩ = some (.int .i64 s.gn) := P7.rc.c2; have y3 : w7.cell? ⟨b20, 3, none⟩ = some (.int .i64 s.ck) := P7.rc.c3; have y4 : w7.cell? ⟨b20, 4, none⟩ = some (.int .i64 s.rd) := P7.rc.c4; have y5 : w7.cell? ⟨b20, 5, none⟩ = some (.int .i64 s.sn) := P7.rc.c5; have y6 : w7.cell? ⟨b20, 6, none⟩ = some (.int .i64 s.jn) := P7.rc.c6))
            go_roundw
            case rel => exact ⟨j + 1, L + 1, by omega, by go_num, rfl, by omega, by omega, Q⟩
            case measure => simp [intOf]; omega
      · go_wp2_with (go_at_call 13; refine (CA.out _).mono ?_; rintro e w9 ⟨rfl, rfl⟩)
        go_ret
        exact ⟨rfl, Q.bel⟩
    · go_wp2_with (go_at_call 13; refine (CA.out _).mono ?_; rintro e w9 ⟨rfl, rfl⟩)
      go_ret
      exact ⟨rfl, Q.bel⟩
set_option maxHeartbeats 8000000 in
theorem starts_main_c {b s : Bs} (hs : s = (b.at 5)) (r0 : ¬ b.bt < 0) (r1 : 1000 < b.bt) (hf : Fit s) (hb0 : 0 ≤ s.bt) (hb1 : s.bt ≤ 1000) {ao : Option Addr} {n cp : Nat} {is : List Int} (hN : NsV w ao n is) (hn : n ≤ 9223372036854775807) {x : Int} (x0 : 0 ≤ x) (x1 : x ≤ 18446744073709551615) : Calls Try.prog 6 #[.agg b.A, .slice ao n cp, .int .u64 x] w fun e w' => e = .returned (.bool true) ∧ Below w.heap.size w w' := by
  have CB : Hid (∀ wx, Calls Try.prog 10 #[.agg s.A] wx fun e w' => ∃ t, e = .returned (.tuple #[.string t, .bool true]) ∧ Below wx.heap.size wx w') := fun wx => (bytes_fit hf wx).mono (by rintro e w' ⟨rfl, q⟩; exact ⟨_, rfl, q⟩)
  have CN : Hid (∀ wx, Calls Try.prog 8 #[.int .i64 1] wx fun e w' => e = .returned (.tuple #[.pointer (some ⟨wx.heap.size + 2, 0, none⟩), .int .i64 0]) ∧ Ds wx.heap.size w' (wx.heap.size + 2) 0 (newDk 1) ∧ Below wx.heap.size wx w') := fun wx => Ds.new 1 (by decide) (by decide) wx
  have C0 : Hid (∀ wx b0 db B, Q9 w wx b0 db B 0 s (fun S => S = newDk 1) → Calls Try.prog 18 #[.pointer (some ⟨db, 0, none⟩)] wx fun e w' => e = .returned (.tuple #[.agg Bs.zero.A, .int .i64 8]) ∧ Q9 w w' b0 db B 0 s (fun S => S = newDk 1)) := fun wx b0 db B h => h.start0
  have CA : Hid (∀ wx, Calls Try.prog 13 #[] wx fun e w' => e = .returned (.bool true) ∧ w' = wx) := awake9
  have CS : Hid (∀ wx b0 db B, Q9 w wx b0 db B 0 s (fun S => S = newDk 1) → Calls Try.prog 9 #[.pointer (some ⟨db, 0, none⟩), .agg s.A] wx fun e w' => e = .returned (.int .i64 0) ∧ Q9 w w' b0 db B 2 s (fun S => Sv S (s.at s.bt))) := fun wx b0 db B h => h.save0 hf
  have C1 : Hid (∀ wx b0 db B k L z, Q9 w wx b0 db B k s (fun S => Sv S (s.at L)) → z = 0 ∨ z = 1 → Calls Try.prog 16 #[.pointer (some ⟨db, 0, none⟩), .int .i64 z, .int .u64 x] wx fun e w' => e = .returned (.int .i64 0) ∧ Q9 w w' b0 db B k s (fun S' => ∃ S, Sv S (s.at L) ∧ S' = armDk S z x)) := fun wx b0 db B k L z h hz => h.arm hz x0 x1
  have C2 : Hid (∀ wx b0 db B k L z, Q9 w wx b0 db B k s (fun S' => ∃ S, Sv S (s.at L) ∧ S' = armDk S z x) → k ≤ 1000 → z = 0 ∨ z = 1 → 0 ≤ L → L ≤ 1100 → Calls Try.prog 18 #[.pointer (some ⟨db, 0, none⟩)] wx fun e w' => e = .returned (.tuple #[.agg Bs.zero.A, .int .i64 9]) ∧ Q9 w w' b0 db B (k + 2) s (fun S => S.up = false ∧ (Sv { S with up := true } (s.at L) ∨ Sv { S with up := true } (s.at (L + 1))))) := fun wx b0 db B k L z h hk hz h0 h1 => h.startA hk hz hf h0 h1
  have C3 : Hid (∀ wx b0 db B k L, Q9 w wx b0 db B k s (fun S => S.up = false ∧ (Sv { S with up := true } (s.at L) ∨ Sv { S with up := true } (s.at (L + 1)))) → Calls Try.prog 17 #[.pointer (some ⟨db, 0, none⟩)] wx fun e w' => e = .returned (.int .i64 0) ∧ ∃ c, (c = L ∨ c = L + 1) ∧ Q9 w w' b0 db B k s (fun S => Sv S (s.at c))) := fun wx b0 db B k L h => h.up
  have C4 : Hid (∀ wx b0 db B k L, Q9 w wx b0 db B k s (fun S => Sv S (s.at L)) → 0 ≤ L → L ≤ 1100 → Calls Try.prog 11 #[.pointer (some ⟨db, 0, none⟩)] wx fun e w' => e = .returned (.tuple #[.agg (s.at L).A, .int .i64 0]) ∧ Q9 w w' b0 db B k s (fun S => Sv S (s.at L))) := fun wx b0 db B k L h h0 h1 => h.load hf h0 h1
  have C5 : Hid (∀ wx b0 db B k L, Q9 w wx b0 db B k s (fun S => Sv S (s.at L)) → k ≤ 1000 → 0 ≤ L → L ≤ 1100 → Calls Try.prog 18 #[.pointer (some ⟨db, 0, none⟩)] wx fun e w' => e = .returned (.tuple #[.agg (s.at (L + 1)).A, .int .i64 0]) ∧ Q9 w w' b0 db B (k + 2) s (fun S => Sv S (s.at (L + 1)))) := fun wx b0 db B k L h hk h0 h1 => h.startQ hk hf h0 h1
  have nz := neq_zero
  have HS : Hid _ := hs
  clear hf x0 x1 hs
  go_enter Try.func6, Try.ntmps6
  go_wp2_with (first
    | (refine wpList_box_bs (s := b) _ rfl _ rfl rfl ?_; intro w0 b0 N0; have c1 := N0.rc.c1)
    | (refine wpList_at (Op.store 3 (.tmp 29) (.const (.int .i64 5))) rfl ?_; refine wpList_fput (k := 1) (s' := b.at 5) _ rfl 3 (.tmp 29) (.const (.int .i64 5)) rfl rfl rfl N0.rc (by decide) rfl (by kernel_rfl) rfl ?_; intro wp P0; have R : BsAt wp b0 s := (by rw [HS.out]; exact P0.rc); have Bq : Below w.heap.size w wp := N0.below.trans (P0.below (by have := N0.eq; omega) N0.below.size))
    | (have := Q; refine wpList_load_bs _ rfl (.tmp 3) rfl rfl Q.own ?_)
    | (refine wpList_load_bs _ rfl (.tmp 3) rfl rfl R ?_)
    | (go_at_call 10; refine (CB.out _).mono ?_; rintro e w1 ⟨t1, rfl, q1⟩)
    | (go_at_call 8; refine (CN.out _).mono ?_; rintro e w2 ⟨rfl, d2, q2⟩; have Q : Q9 w w2 b0 (w1.heap.size + 2) w1.heap.size 0 s (fun S => S = newDk 1) := ⟨⟨_, d2, rfl⟩, (R.below q1).below q2, thn Bq (thn q1 q2), by have := Bq.size; have := q1.size; omega⟩; clear d2)
    | (go_at_call 18; refine (C0.out _ _ _ _ Q).mono ?_; rintro e w3 ⟨rfl, Q3⟩; clear Q; have Q := Q3; clear Q3)
    | (refine wpList_new_bs _ rfl rfl ?_; intro w4 b4 N4)
    | (refine wpList_at (Op.store 23 (.tmp 11) (.tmp 48)) rfl ?_; refine wpList_put_bs (s' := Bs.zero) _ rfl (.tmp 11) (.tmp 48) rfl rfl rfl N4.rc ?_; intro w5 P5; have Q5 := Q.newB N4 P5; clear Q; have Q := Q5; clear Q5)
    | (go_at_call 9; refine (CS.out _ _ _ _ Q).mono ?_; rintro e w6 ⟨rfl, Q6⟩; clear Q; have Q := Q6; clear Q6; have cB := Q.own.c1))
  go_loopw [13, 14] (fun la i wr => ∃ (j : Nat) (L : Int), j ≤ 20 ∧ i = .int .i64 j ∧ la = .int .i64 L ∧ 0 ≤ L ∧ L ≤ 1000 + j ∧ Q9 w wr b0 (w1.heap.size + 2) w1.heap.size (2 * j + 2) s (fun S => Sv S (s.at L))) (fun _ i _ => 20 - (intOf i).toNat)
  case atStart => exact ⟨0, s.bt, Nat.zero_le _, rfl, rfl, hb0, by omega, Q⟩
  case round =>
    clear CB CN C0 CS Q cB
    obtain ⟨j, L, hj, rfl, rfl, h0, h1, Q⟩ := hrel
    by_cases hlt : j < n
    · by_cases h20 : j < 20
      · have hjl : j < is.length := by rw [hN.len]; exact hlt
        obtain ⟨g, o, ha, hg, hcw⟩ := hN.at_ j hjl
        subst ha
        replace hcw : wr.cell? ⟨g, o + j, none⟩ = some (.int .i64 is[j]) := (Q.bel.cell hg).trans hcw
        generalize is[j] = z at *
        by_cases hz : z = 0 ∨ z = 1
        · have z0 : 0 ≤ z := by omega
          have z1 : z < 2 := by omega
          go_wp2_with (first
            | (have := N16; refine wpList_new_bs _ rfl rfl ?_; intro w8 b18 N18)
            | (refine wpList_new_bs _ rfl rfl ?_; intro w4 b16 N16)
            | (go_at_call 16; refine (C1.out _ _ _ _ _ _ _ Q hz).mono ?_; rintro e w1 ⟨rfl, Q1⟩; clear Q; have Q := Q1; clear Q1)
            | (go_at_call 18; refine (C2.out _ _ _ _ _ _ _ Q (by omega) hz h0 (by omega)).mono ?_; rintro e w2 ⟨rfl, Q1⟩; clear Q; have Q := Q1; clear Q1)
            | (refine wpList_at (Op.store 23 (.tmp 16) (.tmp 103)) rfl ?_; refine wpList_put_bs (s' := Bs.zero) _ rfl (.tmp 16) (.tmp 103) rfl rfl rfl N16.rc ?_; intro w5 P16; have Q1 := Q.newB N16 P16; clear Q; have Q := Q1; clear Q1; have x0 := P16.rc.zs 0 (by decide); have x1 := P16.rc.zs 1 (by decide); have x2 := P16.rc.zs 2 (by decide); have x3 := P16.rc.zs 3 (by decide); have x4 := P16.rc.zs 4 (by decide); have x5 := P16.rc.zs 5 (by decide); have x6 := P16.rc.zs 6 (by decide))
            | (go_at_call 17; refine (C3.out _ _ _ _ _ _ Q).mono ?_; rintro e w6 ⟨rfl, c, hc, Q1⟩; clear Q; have Q := Q1; clear Q1)
            | (go_at_call 11; refine (C4.out _ _ _ _ _ _ Q (by omega) (by omega)).mono ?_; rintro e w7 ⟨rfl, Q1⟩; clear Q; have Q := Q1; clear Q1)
            | (refine wpList_at (Op.store 23 (.tmp 18) (.tmp 121)) rfl ?_; refine wpList_put_bs (s' := s.at c) _ rfl (.tmp 18) (.tmp 121) rfl rfl rfl N18.rc ?_; go_must (intro w9 P18; have Q1 := Q.newB N18 P18; clear Q; have Q := Q1; clear Q1; have y1 : w9.cell? ⟨b18, 1, none⟩ = some (.int .i64 c) := P18.rc.c1; have l0 : ¬ c < L := (by omega); have l1 : ¬ L + 1 < c := (by omega))))
          go_roundw
          case rel => exact ⟨j + 1, c, by omega, by go_num, rfl, by omega, by omega, Q⟩
          case measure => simp [intOf]; omega
        · have ns := neq_self s (L + 1)
          have hz' : z < 0 ∨ (¬ z < 0 ∧ ¬ z < 2) := by omega
          clear hz
          rcases hz' with z0 | ⟨z0, z1⟩
          all_goals
            go_wp2_with (first
              | (have := N16; refine wpList_new_bs _ rfl rfl ?_; intro w5 b20 N20)
              | (refine wpList_new_bs _ rfl rfl ?_; intro w3 b16 N16)
              | (go_at_call 18; refine (C5.out _ _ _ _ _ _ Q (by omega) h0 (by omega)).mono ?_; rintro e w2 ⟨rfl, Q1⟩; clear Q; have Q := Q1; clear Q1)
              | (refine wpList_at (Op.store 23 (.tmp 16) (.tmp 103)) rfl ?_; refine wpList_put_bs (s' := s.at (L + 1)) _ rfl (.tmp 16) (.tmp 103) rfl rfl rfl N16.rc ?_; intro w4 P16; have Q1 := Q.newB N16 P16; clear Q; have Q := Q1; clear Q1; have m0 := Q.own.lt; have m1 := Q.bel.size)
              | (refine wpList_load_bs _ rfl (.tmp 3) rfl rfl Q.own ?_)
              | (refine wpList_at (Op.store 23 (.tmp 20) (.tmp 140)) rfl ?_; refine wpList_put_bs (s' := s) _ rfl (.tmp 20) (.tmp 140) rfl rfl rfl N20.rc ?_; intro w6 P20; have Q1 := Q.newB N20 P20; clear Q; have Q := Q1; clear Q1)
              | (refine wpList_at (Op.store 3 (.tmp 143) (.tmp 142)) rfl ?_; refine wpList_fput (k := 1) (s' := s.at (L + 1)) _ rfl 3 (.tmp 143) (.tmp 142) rfl rfl rfl P20.rc (by decide) rfl (by kernel_rfl) rfl ?_; intro w7 P7; have Q1 := Q.putB P20.rc P7 (by have := N20.eq; omega) (by have := N20.eq; omega); clear Q; have Q := Q1; clear Q1; have R16 : BsAt w7 b16 (s.at (L + 1)) := (((P16.rc.below N20.below).off P20.off (by have := N20.eq; have := P16.rc.lt; omega)).off P7.off (by have := N20.eq; have := P16.rc.lt; omega)); have x0 : w7.cell? ⟨b16, 0, none⟩ = some (.int .i64 s.nd) := R16.c0; have x1 : w7.cell? ⟨b16, 1, none⟩ = some (.int .i64 (L + 1)) := R16.c1; have x2 : w7.cell? ⟨b16, 2, none⟩ = some (.int .i64 s.gn) := R16.c2; have x3 : w7.cell? ⟨b16, 3, none⟩ = some (.int .i64 s.ck) := R16.c3; have x4 : w7.cell? ⟨b16, 4, none⟩ = some (.int .i64 s.rd) := R16.c4; have x5 : w7.cell? ⟨b16, 5, none⟩ = some (.int .i64 s.sn) := R16.c5; have x6 : w7.cell? ⟨b16, 6, none⟩ = some (.int .i64 s.jn) := R16.c6; have y0 : w7.cell? ⟨b20, 0, none⟩ = some (.int .i64 s.nd) := P7.rc.c0; have y1 : w7.cell? ⟨b20, 1, none⟩ = some (.int .i64 (L + 1)) := P7.rc.c1; have y2 : w7.cell? ⟨b20, 2, none⟩ = some (.int .i64 s.gn) := P7.rc.c2; have y3 : w7.cell? ⟨b20, 3, none⟩ = some (.int .i64 s.ck) := P7.rc.c3; have y4 : w7.cell? ⟨b20, 4, none⟩ = some (.int .i64 s.rd) := P7.rc.c4; have y5 : w7.cell? ⟨b20, 5, none⟩ = some (.int .i64 s.sn) := P7.rc.c5; have y6 : w7.cell? ⟨b20, 6, none⟩ = some (.int .i64 s.jn) := P7.rc.c6))
            go_roundw
            case rel => exact ⟨j + 1, L + 1, by omega, by go_num, rfl, by omega, by omega, Q⟩
            case measure => simp [intOf]; omega
      · go_wp2_with (go_at_call 13; refine (CA.out _).mono ?_; rintro e w9 ⟨rfl, rfl⟩)
        go_ret
        exact ⟨rfl, Q.bel⟩
    · go_wp2_with (go_at_call 13; refine (CA.out _).mono ?_; rintro e w9 ⟨rfl, rfl⟩)
      go_ret
      exact ⟨rfl, Q.bel⟩
theorem starts9_walk (b : Bs) (hb : I64 b) {ao : Option Addr} {n cp : Nat} {is : List Int} (hN : NsV w ao n is) (hn : n ≤ 9223372036854775807) (x : Int) (x0 : 0 ≤ x) (x1 : x ≤ 18446744073709551615) : Calls Try.prog 6 #[.agg b.A, .slice ao n cp, .int .u64 x] w fun e w' => e = .returned (.bool true) ∧ Below w.heap.size w w' := by
  have h5 : I64 (b.at 5) := ⟨hb.nd, ⟨by show (-9223372036854775808 : Int) ≤ 5; decide, by show (5 : Int) ≤ 9223372036854775807; decide⟩, hb.gn, hb.ck, hb.rd, hb.sn, hb.jn⟩
  have h50 : 0 ≤ (b.at 5).bt := by show (0 : Int) ≤ 5; decide
  have h51 : (b.at 5).bt ≤ 1000 := by show (5 : Int) ≤ 1000; decide
  by_cases r0 : b.bt < 0
  · by_cases hf : Fit (b.at 5)
    · exact starts_main_b rfl r0 hf h50 h51 hN hn x0 x1
    · exact starts_out_b rfl h5 r0 hf
  · by_cases r1 : 1000 < b.bt
    · by_cases hf : Fit (b.at 5)
      · exact starts_main_c rfl r0 r1 hf h50 h51 hN hn x0 x1
      · exact starts_out_c rfl h5 r0 r1 hf
    · by_cases hf : Fit b
      · exact starts_main_a rfl r0 r1 hf (by omega) (by omega) hN hn x0 x1
      · exact starts_out_a rfl hb r0 r1 hf
end
end Go.Proofs.Ytljedbakdlhlbaa
