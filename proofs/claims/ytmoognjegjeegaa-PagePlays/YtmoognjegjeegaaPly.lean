/- The walk of PagePlays. -/
import Derived.Test.YtmoognjegjeegaaOpsO
namespace Go.Proofs.Ytmoognjegjeegaa
open Go.RowKit
set_option linter.unusedVariables false
set_option linter.unusedSimpArgs false
set_option maxRecDepth 100000

set_option maxHeartbeats 8000000 in
theorem plays_walk (w : World) (a : Option Addr) (len cap : Nat) (f : Nat → Call3) (hf : IsOps w a len f) : Calls Try.prog 8 #[.slice a len cap] w fun e w' => e = .returned (.bool true) ∧ Below w.heap.size w w' := by
  have C0 : Hid (∀ w, Calls Try.prog 24 #[.int .i64 1, .int .i64 0] w fun e w' => e = .returned (.tuple #[.string (tx (packS 1 0 [])), .int .i64 0]) ∧ Below w.heap.size w w') := fun w => by
    have := New_any w 1 0 (by omega) (by omega) (by omega)
    exact this
  have C9 : Hid (∀ w, Calls Try.prog 18 #[] w fun e w' => e = .returned (.bool true) ∧ Below w.heap.size w w') := fun w => awake_any w
  have CM : Hid (∀ w a cap L', Small L' → Cs w a L' → Calls Try.prog 20 #[.slice a L'.length cap] w fun e w' => e = .returned (.int .i64 (220 - (needs L' : Int))) ∧ Below w.heap.size w w') := fun w a cap L' h1 h2 => lroom_any w cap h2 h1
  have hS0 := St.new
  generalize tx (packS 1 0 []) = P0 at *
  have HF : Hid _ := hf
  clear hf
  go_enter Try.func8, Try.ntmps8
  go_wp2_with (go_at_call 24; refine (C0.out _).mono ?_; rintro e w1 ⟨rfl, hb1⟩)
  go_loopw [3, 5, 6] (fun s3 s5 s6 wr => ∃ (k : Nat) (P : ByteArray) (L : List Cl) (a' : Option Addr) (cap' : Nat), s6 = .int .i64 (k : Int) ∧ s3 = .string P ∧ s5 = .slice a' L.length cap' ∧ k ≤ 80 ∧ St P L ∧ Sl wr a' cap' L ∧ Below w.heap.size w wr) (fun _ _ s6 _ => 80 - (intOf s6).toNat)
  case atStart => exact ⟨0, P0, [], none, 0, rfl, rfl, rfl, by omega, hS0, ⟨Cs.nil _ _, Nat.le_refl _, fun _ => rfl, Or.inl rfl⟩, hb1⟩
  case round =>
    clear hS0
    obtain ⟨k, P, L, a', cap', rfl, rfl, rfl, hk, hSt, hL, hbel⟩ := hrel
    by_cases hkl : k < len
    · have hklI : (k : Int) < (len : Int) := by omega
      by_cases hk8 : k < 80
      · have hk8I : (k : Int) < 80 := by omega
        obtain ⟨b, off, ha, hbw0, q0, q1, q2⟩ := HF.out k hkl
        subst ha
        have c0 := (hbel.cell (by exact hbw0)).trans q0
        have c1 := (hbel.cell (by exact hbw0)).trans q1
        have c2 := (hbel.cell (by exact hbw0)).trans q2
        have hbw : b < wr.heap.size := Nat.lt_of_lt_of_le hbw0 hbel.size
        have SL : Small L := hSt.small
        have hfew := hSt.few
        have CP : Hid (∀ w a cap x, Cs w a L → Calls Try.prog 19 #[.slice a L.length cap, .string x] w fun e w' => e = .returned (.tuple #[.int .i64 (plc L x : Nat), .bool (isAt L x)]) ∧ Below w.heap.size w w') := fun w a cap x h => hSt.place w a cap h x
        obtain ⟨kd, hkd⟩ : ∃ kd, kd = (f k).kd := ⟨_, rfl⟩
        obtain ⟨c, hcc⟩ : ∃ c, c = (f k).c := ⟨_, rfl⟩
        rw [← hkd] at c0
        rw [← hcc] at c1 c2
        clear hkd hcc q0 q1 q2 hbw0
        have CW : Hid (∀ w, Calls Try.prog 34 #[.agg #[.string c.k, .string c.v]] w fun e w' => e = .returned (.int .i64 (long c)) ∧ Below w.heap.size w w') := fun w => wrong_any w c
        obtain ⟨pl, hpl⟩ : ∃ pl, pl = plc L c.k := ⟨_, rfl⟩
        have hpll : pl ≤ L.length := by rw [hpl]; exact plc_le _ _
        have CP1 : Hid (∀ w a cap, Cs w a L → Calls Try.prog 19 #[.slice a L.length cap, .string c.k] w fun e w' => e = .returned (.tuple #[.int .i64 (pl : Int), .bool (isAt L c.k)]) ∧ Below w.heap.size w w') := fun w a cap h => by rw [hpl]; exact CP.out w a cap c.k h
        clear CP
        have CWO : Hid (pl < L.length → ∀ w a cap, Sl w a cap L → Calls Try.prog 31 #[.slice a L.length cap, .int .i64 (pl : Int)] w fun e w' => Made w w' e (del L pl)) := (fun h w a cap hs => without_any w hs SL.len pl h : pl < L.length → ∀ w a cap, Sl w a cap L → Calls Try.prog 31 #[.slice a L.length cap, .int .i64 (pl : Int)] w fun e w' => Made w w' e (del L pl))
        have CNE : Hid (long c = 0 → ∀ w, Calls Try.prog 28 #[.agg #[.string c.k, .string c.v]] w fun e w' => e = .returned (.int .i64 (need c)) ∧ Below w.heap.size w w') := (fun h w => lneed_any w c (by have := long_k h; omega) (by have := long_v h; omega) : long c = 0 → ∀ w, Calls Try.prog 28 #[.agg #[.string c.k, .string c.v]] w fun e w' => e = .returned (.int .i64 (need c)) ∧ Below w.heap.size w w')
        have HPL : Hid _ := hpl
        clear hpl
        by_cases hk0 : kd = 0
        · have hk0' : (kd == 0) = true := by simpa using hk0
          clear hk0
          cases hia : isAt L c.k
          · by_cases hlg : long c = 0
            · by_cases hfu : 220 < needs L + need c
              · have CO : Hid (∀ w, Calls Try.prog 33 #[.string P, .agg #[.string c.k, .string c.v]] w fun e w' => e = .returned (.tuple #[.string ⟨#[]⟩, .int .i64 7]) ∧ Below w.heap.size w w') := fun w => Insert_full w P c hSt.turns hlg (by rw [hSt.cells]; exact hia) (by rw [hSt.cells]; exact hfu)
                have CN : Hid _ := CNE.out hlg
                have hle : ¬ (need c : Int) ≤ 220 - (needs L : Int) := by omega
                have hnd : need c ≤ 51 := by have := long_k hlg; have := long_v hlg; simp only [need]; omega
                have hfit := hSt.fit
                rw [hia] at CP1
                rw [hlg] at CW
                clear hlg hfu
                generalize need c = nd at *
                skip
                have CC : Hid (∀ w, Calls Try.prog 17 #[.string P] w fun e w' => ∃ a, e = .returned (.slice (some ⟨a, 0, none⟩) L.length L.length) ∧ Cs w' (some ⟨a, 0, none⟩) L ∧ Below w.heap.size w w') := fun w => hSt.Cells w
                have CR : Hid (∀ w, Calls Try.prog 16 #[.string P] w fun e w' => e = .returned (.int .i64 (220 - (needs L : Int))) ∧ Below w.heap.size w w') := fun w => hSt.Room w
                have CS : Hid (∀ w a a' cap cap', Cs w a L → Cs w a' L → Calls Try.prog 21 #[.slice a L.length cap, .slice a' L.length cap'] w fun e w' => e = .returned (.bool true) ∧ Below w.heap.size w w') := fun w a a' cap cap' h1 h2 => hSt.same w a a' cap cap' h1 h2
                have SN : Small L := hSt.small
                have hrr : ((220 - (needs L : Int)) != (220 - (needs L : Int))) = false := by simp
                skip
                have HSt : Hid _ := hSt
                clear hSt
                go_wp2_with (first | (refine wpList_new_cb _ rfl rfl ?_; intro w5 b5 N5) | (refine wpList_put_cb _ rfl _ _ rfl rfl rfl N5.cb ?_; intro w6 P6; have z6 := boxed (Below.refl _ wr) N5 P6; have hL6 := hL.below z6; have f0 := P6.cb.c0; have f1 := P6.cb.c1) | (go_at_call 19; refine (CP1.out _ _ _ hL6.cs).mono ?_; rintro e w7 ⟨rfl, hb7⟩; have hL7 := hL6.below hb7; have hB7 := P6.cb.below hb7; have f0 := hB7.c0; have f1 := hB7.c1; have z7 := thn z6 hb7; have ck := (z7.cell (by exact hbw)).trans c0) | (go_at_call 33; refine (CO.out _).mono ?_; rintro e w8 ⟨rfl, hb8⟩; have hL8 := hL7.below hb8; have hB8 := hB7.below hb8; have f0 := hB8.c0; have f1 := hB8.c1; have z8 := thn z7 hb8) | (go_at_call 34; refine (CW.out _).mono ?_; rintro e w9 ⟨rfl, hb9⟩; have hL9 := hL8.below hb9; have hB9 := hB8.below hb9; have f0 := hB9.c0; have f1 := hB9.c1; have z9 := thn z8 hb9) | (go_at_call 28; refine (CN.out _).mono ?_; rintro e w10 ⟨rfl, hb10⟩; have hL10 := hL9.below hb10; have hB10 := hB9.below hb10; have f0 := hB10.c0; have f1 := hB10.c1; have z10 := thn z9 hb10) | (go_at_call 17; refine (CC.out _).mono ?_; rintro e w13 ⟨a13, rfl, hc13, hb13⟩; have hN13 := hL11.below hb13; have z13 := thn z11 hb13) | (go_at_call 21; refine (CS.out _ _ _ _ _ hc13 hN13.cs).mono ?_; rintro e w14 ⟨rfl, hb14⟩; have hN14 := hN13.below hb14; have z14 := thn z13 hb14) | (go_at_call 16; refine (CR.out _).mono ?_; rintro e w15 ⟨rfl, hb15⟩; have hN15 := hN14.below hb15; have z15 := thn z14 hb15) | (go_at_call 20; refine (CM.out _ _ _ _ ?_ ?_).mono ?_; (first | exact SN | exact SL); (first | exact hN15.cs | exact hL10.cs); rintro e w16 ⟨rfl, hb16⟩; first | (have z16 := thn z15 hb16) | (have hb11 := hb16; have hL11 := hL10.below hb11; have hB11 := hB10.below hb11; have f0 := hB11.c0; have f1 := hB11.c1; have z11 := thn z10 hb11)))
                exact ⟨⟨k + 1, P, L, a', cap', by go_num, rfl, rfl, by omega, HSt.out, hN15.below hb16, thn hbel z16⟩, by simp [intOf]; omega⟩
              · have hSt2 := hSt.ins hlg hia (by omega)
                rw [← HPL.out] at hSt2
                have CO : Hid (∀ w, Calls Try.prog 33 #[.string P, .agg #[.string c.k, .string c.v]] w fun e w' => e = .returned (.tuple #[.string (tx (layS (bts P) pl c)), .int .i64 0]) ∧ Below w.heap.size w w') := fun w => by
                  have := Insert_ok w P c hSt.turns hlg (by rw [hSt.cells]; exact hia) (by rw [hSt.cells]; omega)
                  rw [hSt.cells, ← HPL.out] at this
                  exact this
                have CN : Hid _ := CNE.out hlg
                have hle : (need c : Int) ≤ 220 - (needs L : Int) := by omega
                have hnd : need c ≤ 51 := by have := long_k hlg; have := long_v hlg; simp only [need]; omega
                have CT : Hid (∀ w a cap, Sl w a cap L → Calls Try.prog 35 #[.slice a L.length cap, .int .i64 (pl : Int), .agg #[.string c.k, .string c.v]] w fun e w' => Made w w' e (ins L pl c)) := fun w a cap h => with_any w h SL.len pl hpll c
                rw [hia] at CP1
                rw [hlg] at CW
                clear hlg hfu
                generalize tx (layS (bts P) pl c) = P2 at *
                generalize ins L pl c = L2 at *
                have CC : Hid (∀ w, Calls Try.prog 17 #[.string P2] w fun e w' => ∃ a, e = .returned (.slice (some ⟨a, 0, none⟩) L2.length L2.length) ∧ Cs w' (some ⟨a, 0, none⟩) L2 ∧ Below w.heap.size w w') := fun w => hSt2.Cells w
                have CR : Hid (∀ w, Calls Try.prog 16 #[.string P2] w fun e w' => e = .returned (.int .i64 (220 - (needs L2 : Int))) ∧ Below w.heap.size w w') := fun w => hSt2.Room w
                have CS : Hid (∀ w a a' cap cap', Cs w a L2 → Cs w a' L2 → Calls Try.prog 21 #[.slice a L2.length cap, .slice a' L2.length cap'] w fun e w' => e = .returned (.bool true) ∧ Below w.heap.size w w') := fun w a a' cap cap' h1 h2 => hSt2.same w a a' cap cap' h1 h2
                have SN : Small L2 := hSt2.small
                have hrr : ((220 - (needs L2 : Int)) != (220 - (needs L2 : Int))) = false := by simp
                have HSt2 : Hid _ := hSt2
                clear hSt hSt2
                generalize need c = nd at *
                go_wp2_with (first | (refine wpList_new_cb _ rfl rfl ?_; intro w5 b5 N5) | (refine wpList_put_cb _ rfl _ _ rfl rfl rfl N5.cb ?_; intro w6 P6; have z6 := boxed (Below.refl _ wr) N5 P6; have hL6 := hL.below z6; have f0 := P6.cb.c0; have f1 := P6.cb.c1) | (go_at_call 19; refine (CP1.out _ _ _ hL6.cs).mono ?_; rintro e w7 ⟨rfl, hb7⟩; have hL7 := hL6.below hb7; have hB7 := P6.cb.below hb7; have f0 := hB7.c0; have f1 := hB7.c1; have z7 := thn z6 hb7; have ck := (z7.cell (by exact hbw)).trans c0) | (go_at_call 33; refine (CO.out _).mono ?_; rintro e w8 ⟨rfl, hb8⟩; have hL8 := hL7.below hb8; have hB8 := hB7.below hb8; have f0 := hB8.c0; have f1 := hB8.c1; have z8 := thn z7 hb8) | (go_at_call 34; refine (CW.out _).mono ?_; rintro e w9 ⟨rfl, hb9⟩; have hL9 := hL8.below hb9; have hB9 := hB8.below hb9; have f0 := hB9.c0; have f1 := hB9.c1; have z9 := thn z8 hb9) | (go_at_call 28; refine (CN.out _).mono ?_; rintro e w10 ⟨rfl, hb10⟩; have hL10 := hL9.below hb10; have hB10 := hB9.below hb10; have f0 := hB10.c0; have f1 := hB10.c1; have z10 := thn z9 hb10) | (go_at_call 20; refine (CM.out _ _ _ _ ?_ ?_).mono ?_; (first | exact SN | exact SL); (first | exact hN15.cs | exact hL10.cs); rintro e w16 ⟨rfl, hb16⟩; first | (have z16 := thn z15 hb16) | (have hb11 := hb16; have hL11 := hL10.below hb11; have hB11 := hB10.below hb11; have f0 := hB11.c0; have f1 := hB11.c1; have z11 := thn z10 hb11)) | (go_at_call 35; refine (CT.out _ _ _ hL11).mono ?_; rintro e w12 ⟨⟨a12, cap12, rfl, hS12⟩, hb12⟩; have z12 := thn z11 hb12) | (go_at_call 17; refine (CC.out _).mono ?_; rintro e w13 ⟨a13, rfl, hc13, hb13⟩; have hN13 := hS12.below hb13; have z13 := thn z12 hb13) | (go_at_call 21; refine (CS.out _ _ _ _ _ hc13 hN13.cs).mono ?_; rintro e w14 ⟨rfl, hb14⟩; have hN14 := hN13.below hb14; have z14 := thn z13 hb14) | (go_at_call 16; refine (CR.out _).mono ?_; rintro e w15 ⟨rfl, hb15⟩; have hN15 := hN14.below hb15; have z15 := thn z14 hb15))
                exact ⟨⟨k + 1, P2, L2, a12, cap12, by go_num, rfl, rfl, by omega, HSt2.out, hN15.below hb16, thn hbel z16⟩, by simp [intOf]; omega⟩
            · have CO : Hid (∀ w, Calls Try.prog 33 #[.string P, .agg #[.string c.k, .string c.v]] w fun e w' => e = .returned (.tuple #[.string ⟨#[]⟩, .int .i64 (long c)]) ∧ Below w.heap.size w w') := fun w => Insert_long w P c hSt.turns hlg
              have her' : (long c == 0) = false := by simpa using hlg
              rw [hia] at CP1
              clear hlg
              generalize long c = lc at *
              skip
              have CC : Hid (∀ w, Calls Try.prog 17 #[.string P] w fun e w' => ∃ a, e = .returned (.slice (some ⟨a, 0, none⟩) L.length L.length) ∧ Cs w' (some ⟨a, 0, none⟩) L ∧ Below w.heap.size w w') := fun w => hSt.Cells w
              have CR : Hid (∀ w, Calls Try.prog 16 #[.string P] w fun e w' => e = .returned (.int .i64 (220 - (needs L : Int))) ∧ Below w.heap.size w w') := fun w => hSt.Room w
              have CS : Hid (∀ w a a' cap cap', Cs w a L → Cs w a' L → Calls Try.prog 21 #[.slice a L.length cap, .slice a' L.length cap'] w fun e w' => e = .returned (.bool true) ∧ Below w.heap.size w w') := fun w a a' cap cap' h1 h2 => hSt.same w a a' cap cap' h1 h2
              have SN : Small L := hSt.small
              have hrr : ((220 - (needs L : Int)) != (220 - (needs L : Int))) = false := by simp
              skip
              have HSt : Hid _ := hSt
              clear hSt
              go_wp2_with (first | (refine wpList_new_cb _ rfl rfl ?_; intro w5 b5 N5) | (refine wpList_put_cb _ rfl _ _ rfl rfl rfl N5.cb ?_; intro w6 P6; have z6 := boxed (Below.refl _ wr) N5 P6; have hL6 := hL.below z6; have f0 := P6.cb.c0; have f1 := P6.cb.c1) | (go_at_call 19; refine (CP1.out _ _ _ hL6.cs).mono ?_; rintro e w7 ⟨rfl, hb7⟩; have hL7 := hL6.below hb7; have hB7 := P6.cb.below hb7; have f0 := hB7.c0; have f1 := hB7.c1; have z7 := thn z6 hb7; have ck := (z7.cell (by exact hbw)).trans c0) | (go_at_call 33; refine (CO.out _).mono ?_; rintro e w8 ⟨rfl, hb8⟩; have hL8 := hL7.below hb8; have hB8 := hB7.below hb8; have f0 := hB8.c0; have f1 := hB8.c1; have z8 := thn z7 hb8) | (go_at_call 34; refine (CW.out _).mono ?_; rintro e w9 ⟨rfl, hb9⟩; have hL9 := hL8.below hb9; have hB9 := hB8.below hb9; have f0 := hB9.c0; have f1 := hB9.c1; have z9 := thn z8 hb9) | (go_at_call 17; refine (CC.out _).mono ?_; rintro e w13 ⟨a13, rfl, hc13, hb13⟩; have hN13 := hL9.below hb13; have z13 := thn z9 hb13) | (go_at_call 21; refine (CS.out _ _ _ _ _ hc13 hN13.cs).mono ?_; rintro e w14 ⟨rfl, hb14⟩; have hN14 := hN13.below hb14; have z14 := thn z13 hb14) | (go_at_call 16; refine (CR.out _).mono ?_; rintro e w15 ⟨rfl, hb15⟩; have hN15 := hN14.below hb15; have z15 := thn z14 hb15) | (go_at_call 20; refine (CM.out _ _ _ _ ?_ ?_).mono ?_; exact SN; exact hN15.cs; rintro e w16 ⟨rfl, hb16⟩; have z16 := thn z15 hb16))
              exact ⟨⟨k + 1, P, L, a', cap', by go_num, rfl, rfl, by omega, HSt.out, hN15.below hb16, thn hbel z16⟩, by simp [intOf]; omega⟩
          · obtain ⟨er, her, COX⟩ : ∃ er : Int, er ≠ 0 ∧ ∀ w, Calls Try.prog 33 #[.string P, .agg #[.string c.k, .string c.v]] w fun e w' => e = .returned (.tuple #[.string ⟨#[]⟩, .int .i64 er]) ∧ Below w.heap.size w w' := by
              by_cases hlg : long c = 0
              · exact ⟨19, by decide, fun w => Insert_there w P c hSt.turns hlg (by rw [hSt.cells]; exact hia)⟩
              · exact ⟨long c, hlg, fun w => Insert_long w P c hSt.turns hlg⟩
            have CO : Hid _ := COX
            clear COX
            have her' : (er == 0) = false := by simpa using her
            rw [hia] at CP1
            clear her
            have CC : Hid (∀ w, Calls Try.prog 17 #[.string P] w fun e w' => ∃ a, e = .returned (.slice (some ⟨a, 0, none⟩) L.length L.length) ∧ Cs w' (some ⟨a, 0, none⟩) L ∧ Below w.heap.size w w') := fun w => hSt.Cells w
            have CR : Hid (∀ w, Calls Try.prog 16 #[.string P] w fun e w' => e = .returned (.int .i64 (220 - (needs L : Int))) ∧ Below w.heap.size w w') := fun w => hSt.Room w
            have CS : Hid (∀ w a a' cap cap', Cs w a L → Cs w a' L → Calls Try.prog 21 #[.slice a L.length cap, .slice a' L.length cap'] w fun e w' => e = .returned (.bool true) ∧ Below w.heap.size w w') := fun w a a' cap cap' h1 h2 => hSt.same w a a' cap cap' h1 h2
            have SN : Small L := hSt.small
            have hrr : ((220 - (needs L : Int)) != (220 - (needs L : Int))) = false := by simp
            skip
            have HSt : Hid _ := hSt
            clear hSt
            go_wp2_with (first | (refine wpList_new_cb _ rfl rfl ?_; intro w5 b5 N5) | (refine wpList_put_cb _ rfl _ _ rfl rfl rfl N5.cb ?_; intro w6 P6; have z6 := boxed (Below.refl _ wr) N5 P6; have hL6 := hL.below z6; have f0 := P6.cb.c0; have f1 := P6.cb.c1) | (go_at_call 19; refine (CP1.out _ _ _ hL6.cs).mono ?_; rintro e w7 ⟨rfl, hb7⟩; have hL7 := hL6.below hb7; have hB7 := P6.cb.below hb7; have f0 := hB7.c0; have f1 := hB7.c1; have z7 := thn z6 hb7; have ck := (z7.cell (by exact hbw)).trans c0) | (go_at_call 33; refine (CO.out _).mono ?_; rintro e w8 ⟨rfl, hb8⟩; have hL8 := hL7.below hb8; have hB8 := hB7.below hb8; have f0 := hB8.c0; have f1 := hB8.c1; have z8 := thn z7 hb8) | (go_at_call 17; refine (CC.out _).mono ?_; rintro e w13 ⟨a13, rfl, hc13, hb13⟩; have hN13 := hL8.below hb13; have z13 := thn z8 hb13) | (go_at_call 21; refine (CS.out _ _ _ _ _ hc13 hN13.cs).mono ?_; rintro e w14 ⟨rfl, hb14⟩; have hN14 := hN13.below hb14; have z14 := thn z13 hb14) | (go_at_call 16; refine (CR.out _).mono ?_; rintro e w15 ⟨rfl, hb15⟩; have hN15 := hN14.below hb15; have z15 := thn z14 hb15) | (go_at_call 20; refine (CM.out _ _ _ _ ?_ ?_).mono ?_; exact SN; exact hN15.cs; rintro e w16 ⟨rfl, hb16⟩; have z16 := thn z15 hb16))
            exact ⟨⟨k + 1, P, L, a', cap', by go_num, rfl, rfl, by omega, HSt.out, hN15.below hb16, thn hbel z16⟩, by simp [intOf]; omega⟩
        · have hk0' : (kd == 0) = false := by simpa using hk0
          by_cases hk1 : kd = 1
          · have hk1' : (kd == 1) = true := by simpa using hk1
            clear hk0 hk1
            cases hia : isAt L c.k
            · have CO : Hid (∀ w, Calls Try.prog 29 #[.string P, .string c.k] w fun e w' => e = .returned (.tuple #[.string ⟨#[]⟩, .int .i64 8]) ∧ Below w.heap.size w w') := fun w => Delete_none w P c.k hSt.turns (by rw [hSt.cells]; exact hia)
              rw [hia] at CP1
              skip
              have CC : Hid (∀ w, Calls Try.prog 17 #[.string P] w fun e w' => ∃ a, e = .returned (.slice (some ⟨a, 0, none⟩) L.length L.length) ∧ Cs w' (some ⟨a, 0, none⟩) L ∧ Below w.heap.size w w') := fun w => hSt.Cells w
              have CR : Hid (∀ w, Calls Try.prog 16 #[.string P] w fun e w' => e = .returned (.int .i64 (220 - (needs L : Int))) ∧ Below w.heap.size w w') := fun w => hSt.Room w
              have CS : Hid (∀ w a a' cap cap', Cs w a L → Cs w a' L → Calls Try.prog 21 #[.slice a L.length cap, .slice a' L.length cap'] w fun e w' => e = .returned (.bool true) ∧ Below w.heap.size w w') := fun w a a' cap cap' h1 h2 => hSt.same w a a' cap cap' h1 h2
              have SN : Small L := hSt.small
              have hrr : ((220 - (needs L : Int)) != (220 - (needs L : Int))) = false := by simp
              skip
              have HSt : Hid _ := hSt
              clear hSt
              go_wp2_with (first | (refine wpList_new_cb _ rfl rfl ?_; intro w5 b5 N5) | (refine wpList_put_cb _ rfl _ _ rfl rfl rfl N5.cb ?_; intro w6 P6; have z6 := boxed (Below.refl _ wr) N5 P6; have hL6 := hL.below z6; have f0 := P6.cb.c0; have f1 := P6.cb.c1) | (go_at_call 19; refine (CP1.out _ _ _ hL6.cs).mono ?_; rintro e w7 ⟨rfl, hb7⟩; have hL7 := hL6.below hb7; have hB7 := P6.cb.below hb7; have f0 := hB7.c0; have f1 := hB7.c1; have z7 := thn z6 hb7; have ck := (z7.cell (by exact hbw)).trans c0) | (go_at_call 29; refine (CO.out _).mono ?_; rintro e w8 ⟨rfl, hb8⟩; have hL8 := hL7.below hb8; have hB8 := hB7.below hb8; have f0 := hB8.c0; have f1 := hB8.c1; have z8 := thn z7 hb8) | (go_at_call 17; refine (CC.out _).mono ?_; rintro e w13 ⟨a13, rfl, hc13, hb13⟩; have hN13 := hL8.below hb13; have z13 := thn z8 hb13) | (go_at_call 21; refine (CS.out _ _ _ _ _ hc13 hN13.cs).mono ?_; rintro e w14 ⟨rfl, hb14⟩; have hN14 := hN13.below hb14; have z14 := thn z13 hb14) | (go_at_call 16; refine (CR.out _).mono ?_; rintro e w15 ⟨rfl, hb15⟩; have hN15 := hN14.below hb15; have z15 := thn z14 hb15) | (go_at_call 20; refine (CM.out _ _ _ _ ?_ ?_).mono ?_; exact SN; exact hN15.cs; rintro e w16 ⟨rfl, hb16⟩; have z16 := thn z15 hb16))
              exact ⟨⟨k + 1, P, L, a', cap', by go_num, rfl, rfl, by omega, HSt.out, hN15.below hb16, thn hbel z16⟩, by simp [intOf]; omega⟩
            · have hSt2 := hSt.del hia
              rw [← HPL.out] at hSt2
              have hplt : pl < L.length := by rw [HPL.out]; exact isAt_pl hia
              have CO : Hid (∀ w, Calls Try.prog 29 #[.string P, .string c.k] w fun e w' => e = .returned (.tuple #[.string (tx (dropS (bts P) pl)), .int .i64 0]) ∧ Below w.heap.size w w') := fun w => by
                have := Delete_ok w P c.k hSt.turns (by rw [hSt.cells]; exact hia)
                rw [hSt.cells, ← HPL.out] at this
                exact this
              have CT : Hid _ := CWO.out hplt
              rw [hia] at CP1
              generalize tx (dropS (bts P) pl) = P2 at *
              generalize del L pl = L2 at *
              have CC : Hid (∀ w, Calls Try.prog 17 #[.string P2] w fun e w' => ∃ a, e = .returned (.slice (some ⟨a, 0, none⟩) L2.length L2.length) ∧ Cs w' (some ⟨a, 0, none⟩) L2 ∧ Below w.heap.size w w') := fun w => hSt2.Cells w
              have CR : Hid (∀ w, Calls Try.prog 16 #[.string P2] w fun e w' => e = .returned (.int .i64 (220 - (needs L2 : Int))) ∧ Below w.heap.size w w') := fun w => hSt2.Room w
              have CS : Hid (∀ w a a' cap cap', Cs w a L2 → Cs w a' L2 → Calls Try.prog 21 #[.slice a L2.length cap, .slice a' L2.length cap'] w fun e w' => e = .returned (.bool true) ∧ Below w.heap.size w w') := fun w a a' cap cap' h1 h2 => hSt2.same w a a' cap cap' h1 h2
              have SN : Small L2 := hSt2.small
              have hrr : ((220 - (needs L2 : Int)) != (220 - (needs L2 : Int))) = false := by simp
              have HSt2 : Hid _ := hSt2
              clear hSt hSt2
              go_wp2_with (first | (refine wpList_new_cb _ rfl rfl ?_; intro w5 b5 N5) | (refine wpList_put_cb _ rfl _ _ rfl rfl rfl N5.cb ?_; intro w6 P6; have z6 := boxed (Below.refl _ wr) N5 P6; have hL6 := hL.below z6; have f0 := P6.cb.c0; have f1 := P6.cb.c1) | (go_at_call 19; refine (CP1.out _ _ _ hL6.cs).mono ?_; rintro e w7 ⟨rfl, hb7⟩; have hL7 := hL6.below hb7; have hB7 := P6.cb.below hb7; have f0 := hB7.c0; have f1 := hB7.c1; have z7 := thn z6 hb7; have ck := (z7.cell (by exact hbw)).trans c0) | (go_at_call 29; refine (CO.out _).mono ?_; rintro e w8 ⟨rfl, hb8⟩; have hL8 := hL7.below hb8; have hB8 := hB7.below hb8; have f0 := hB8.c0; have f1 := hB8.c1; have z8 := thn z7 hb8) | (go_at_call 31; refine (CT.out _ _ _ hL8).mono ?_; rintro e w12 ⟨⟨a12, cap12, rfl, hS12⟩, hb12⟩; have z12 := thn z8 hb12) | (go_at_call 17; refine (CC.out _).mono ?_; rintro e w13 ⟨a13, rfl, hc13, hb13⟩; have hN13 := hS12.below hb13; have z13 := thn z12 hb13) | (go_at_call 21; refine (CS.out _ _ _ _ _ hc13 hN13.cs).mono ?_; rintro e w14 ⟨rfl, hb14⟩; have hN14 := hN13.below hb14; have z14 := thn z13 hb14) | (go_at_call 16; refine (CR.out _).mono ?_; rintro e w15 ⟨rfl, hb15⟩; have hN15 := hN14.below hb15; have z15 := thn z14 hb15) | (go_at_call 20; refine (CM.out _ _ _ _ ?_ ?_).mono ?_; exact SN; exact hN15.cs; rintro e w16 ⟨rfl, hb16⟩; have z16 := thn z15 hb16))
              exact ⟨⟨k + 1, P2, L2, a12, cap12, by go_num, rfl, rfl, by omega, HSt2.out, hN15.below hb16, thn hbel z16⟩, by simp [intOf]; omega⟩
          · have hk1' : (kd == 1) = false := by simpa using hk1
            clear hk0 hk1
            cases hia : isAt L c.k
            · obtain ⟨er, her, COX⟩ : ∃ er : Int, er ≠ 0 ∧ ∀ w, Calls Try.prog 36 #[.string P, .agg #[.string c.k, .string c.v]] w fun e w' => e = .returned (.tuple #[.string ⟨#[]⟩, .int .i64 er]) ∧ Below w.heap.size w w' := by
                by_cases hlg : long c = 0
                · exact ⟨8, by decide, fun w => Update_none w P c hSt.turns hlg (by rw [hSt.cells]; exact hia)⟩
                · exact ⟨long c, hlg, fun w => Update_long w P c hSt.turns hlg⟩
              have CO : Hid _ := COX
              clear COX
              have her' : (er == 0) = false := by simpa using her
              rw [hia] at CP1
              clear her
              have CC : Hid (∀ w, Calls Try.prog 17 #[.string P] w fun e w' => ∃ a, e = .returned (.slice (some ⟨a, 0, none⟩) L.length L.length) ∧ Cs w' (some ⟨a, 0, none⟩) L ∧ Below w.heap.size w w') := fun w => hSt.Cells w
              have CR : Hid (∀ w, Calls Try.prog 16 #[.string P] w fun e w' => e = .returned (.int .i64 (220 - (needs L : Int))) ∧ Below w.heap.size w w') := fun w => hSt.Room w
              have CS : Hid (∀ w a a' cap cap', Cs w a L → Cs w a' L → Calls Try.prog 21 #[.slice a L.length cap, .slice a' L.length cap'] w fun e w' => e = .returned (.bool true) ∧ Below w.heap.size w w') := fun w a a' cap cap' h1 h2 => hSt.same w a a' cap cap' h1 h2
              have SN : Small L := hSt.small
              have hrr : ((220 - (needs L : Int)) != (220 - (needs L : Int))) = false := by simp
              skip
              have HSt : Hid _ := hSt
              clear hSt
              go_wp2_with (first | (refine wpList_new_cb _ rfl rfl ?_; intro w5 b5 N5) | (refine wpList_put_cb _ rfl _ _ rfl rfl rfl N5.cb ?_; intro w6 P6; have z6 := boxed (Below.refl _ wr) N5 P6; have hL6 := hL.below z6; have f0 := P6.cb.c0; have f1 := P6.cb.c1) | (go_at_call 19; refine (CP1.out _ _ _ hL6.cs).mono ?_; rintro e w7 ⟨rfl, hb7⟩; have hL7 := hL6.below hb7; have hB7 := P6.cb.below hb7; have f0 := hB7.c0; have f1 := hB7.c1; have z7 := thn z6 hb7; have ck := (z7.cell (by exact hbw)).trans c0) | (go_at_call 36; refine (CO.out _).mono ?_; rintro e w8 ⟨rfl, hb8⟩; have hL8 := hL7.below hb8; have hB8 := hB7.below hb8; have f0 := hB8.c0; have f1 := hB8.c1; have z8 := thn z7 hb8) | (go_at_call 17; refine (CC.out _).mono ?_; rintro e w13 ⟨a13, rfl, hc13, hb13⟩; have hN13 := hL8.below hb13; have z13 := thn z8 hb13) | (go_at_call 21; refine (CS.out _ _ _ _ _ hc13 hN13.cs).mono ?_; rintro e w14 ⟨rfl, hb14⟩; have hN14 := hN13.below hb14; have z14 := thn z13 hb14) | (go_at_call 16; refine (CR.out _).mono ?_; rintro e w15 ⟨rfl, hb15⟩; have hN15 := hN14.below hb15; have z15 := thn z14 hb15) | (go_at_call 20; refine (CM.out _ _ _ _ ?_ ?_).mono ?_; exact SN; exact hN15.cs; rintro e w16 ⟨rfl, hb16⟩; have z16 := thn z15 hb16))
              exact ⟨⟨k + 1, P, L, a', cap', by go_num, rfl, rfl, by omega, HSt.out, hN15.below hb16, thn hbel z16⟩, by simp [intOf]; omega⟩
            · by_cases hlg : long c = 0
              · by_cases hfu : 220 < needs (del L (plc L c.k)) + need c
                · have hdSt := hSt.del hia
                  rw [← HPL.out] at hdSt hfu
                  have hplt : pl < L.length := by rw [HPL.out]; exact isAt_pl hia
                  have CO : Hid (∀ w, Calls Try.prog 36 #[.string P, .agg #[.string c.k, .string c.v]] w fun e w' => e = .returned (.tuple #[.string ⟨#[]⟩, .int .i64 7]) ∧ Below w.heap.size w w') := fun w => Update_full w P c hSt.turns hlg (by rw [hSt.cells]; exact hia) (by rw [hSt.cells, ← HPL.out]; exact hfu)
                  have CT : Hid _ := CWO.out hplt
                  have CN : Hid _ := CNE.out hlg
                  have SD : Small (del L pl) := hdSt.small
                  have hle : ¬ (need c : Int) ≤ 220 - (needs (del L pl) : Int) := by omega
                  have hnd : need c ≤ 51 := by have := long_k hlg; have := long_v hlg; simp only [need]; omega
                  rw [hia] at CP1
                  rw [hlg] at CW
                  clear hlg hfu hdSt
                  generalize del L pl = LD at *
                  generalize need c = nd at *
                  skip
                  have CC : Hid (∀ w, Calls Try.prog 17 #[.string P] w fun e w' => ∃ a, e = .returned (.slice (some ⟨a, 0, none⟩) L.length L.length) ∧ Cs w' (some ⟨a, 0, none⟩) L ∧ Below w.heap.size w w') := fun w => hSt.Cells w
                  have CR : Hid (∀ w, Calls Try.prog 16 #[.string P] w fun e w' => e = .returned (.int .i64 (220 - (needs L : Int))) ∧ Below w.heap.size w w') := fun w => hSt.Room w
                  have CS : Hid (∀ w a a' cap cap', Cs w a L → Cs w a' L → Calls Try.prog 21 #[.slice a L.length cap, .slice a' L.length cap'] w fun e w' => e = .returned (.bool true) ∧ Below w.heap.size w w') := fun w a a' cap cap' h1 h2 => hSt.same w a a' cap cap' h1 h2
                  have SN : Small L := hSt.small
                  have hrr : ((220 - (needs L : Int)) != (220 - (needs L : Int))) = false := by simp
                  skip
                  have HSt : Hid _ := hSt
                  clear hSt
                  go_wp2_with (first | (refine wpList_new_cb _ rfl rfl ?_; intro w5 b5 N5) | (refine wpList_put_cb _ rfl _ _ rfl rfl rfl N5.cb ?_; intro w6 P6; have z6 := boxed (Below.refl _ wr) N5 P6; have hL6 := hL.below z6; have f0 := P6.cb.c0; have f1 := P6.cb.c1) | (go_at_call 19; refine (CP1.out _ _ _ hL6.cs).mono ?_; rintro e w7 ⟨rfl, hb7⟩; have hL7 := hL6.below hb7; have hB7 := P6.cb.below hb7; have f0 := hB7.c0; have f1 := hB7.c1; have z7 := thn z6 hb7; have ck := (z7.cell (by exact hbw)).trans c0) | (go_at_call 36; refine (CO.out _).mono ?_; rintro e w8 ⟨rfl, hb8⟩; have hL8 := hL7.below hb8; have hB8 := hB7.below hb8; have f0 := hB8.c0; have f1 := hB8.c1; have z8 := thn z7 hb8) | (go_at_call 34; refine (CW.out _).mono ?_; rintro e w9 ⟨rfl, hb9⟩; have hL9 := hL8.below hb9; have hB9 := hB8.below hb9; have f0 := hB9.c0; have f1 := hB9.c1; have z9 := thn z8 hb9) | (go_at_call 28; refine (CN.out _).mono ?_; rintro e w10 ⟨rfl, hb10⟩; have hL10 := hL9.below hb10; have hB10 := hB9.below hb10; have f0 := hB10.c0; have f1 := hB10.c1; have z10 := thn z9 hb10) | (go_at_call 31; refine (CT.out _ _ _ hL10).mono ?_; rintro e w17 ⟨⟨a17, cap17, rfl, hS17⟩, hb17⟩; have hL17 := hL10.below hb17; have hB17 := hB10.below hb17; have f0 := hB17.c0; have f1 := hB17.c1; have z17 := thn z10 hb17) | (go_at_call 17; refine (CC.out _).mono ?_; rintro e w13 ⟨a13, rfl, hc13, hb13⟩; have hN13 := hL11.below hb13; have z13 := thn z11 hb13) | (go_at_call 21; refine (CS.out _ _ _ _ _ hc13 hN13.cs).mono ?_; rintro e w14 ⟨rfl, hb14⟩; have hN14 := hN13.below hb14; have z14 := thn z13 hb14) | (go_at_call 16; refine (CR.out _).mono ?_; rintro e w15 ⟨rfl, hb15⟩; have hN15 := hN14.below hb15; have z15 := thn z14 hb15) | (go_at_call 20; refine (CM.out _ _ _ _ ?_ ?_).mono ?_; (first | exact SN | exact SD); (first | exact hN15.cs | exact hS17.cs); rintro e w16 ⟨rfl, hb16⟩; first | (have z16 := thn z15 hb16) | (have hb11 := hb16; have hL11 := hL17.below hb11; have hB11 := hB17.below hb11; have f0 := hB11.c0; have f1 := hB11.c1; have z11 := thn z17 hb11)))
                  exact ⟨⟨k + 1, P, L, a', cap', by go_num, rfl, rfl, by omega, HSt.out, hN15.below hb16, thn hbel z16⟩, by simp [intOf]; omega⟩
                · have hdSt := hSt.del hia
                  have hSt2 := hSt.upd hlg hia (by omega)
                  rw [← HPL.out] at hdSt hfu hSt2
                  have hplt : pl < L.length := by rw [HPL.out]; exact isAt_pl hia
                  have CO : Hid (∀ w, Calls Try.prog 36 #[.string P, .agg #[.string c.k, .string c.v]] w fun e w' => e = .returned (.tuple #[.string (tx (layS (dropS (bts P) pl) pl c)), .int .i64 0]) ∧ Below w.heap.size w w') := fun w => by
                    have := Update_ok w P c hSt.turns hlg (by rw [hSt.cells]; exact hia) (by rw [hSt.cells, ← HPL.out]; omega)
                    rw [hSt.cells, ← HPL.out] at this
                    exact this
                  have CT : Hid _ := CWO.out hplt
                  have CN : Hid _ := CNE.out hlg
                  have SD : Small (del L pl) := hdSt.small
                  have hld : pl ≤ (del L pl).length := by rw [del_length hplt]; omega
                  have CX : Hid (∀ w a cap, Sl w a cap (del L pl) → Calls Try.prog 35 #[.slice a (del L pl).length cap, .int .i64 (pl : Int), .agg #[.string c.k, .string c.v]] w fun e w' => Made w w' e (ins (del L pl) pl c)) := fun w a cap h => with_any w h SD.len pl hld c
                  have hle : (need c : Int) ≤ 220 - (needs (del L pl) : Int) := by omega
                  have hnd : need c ≤ 51 := by have := long_k hlg; have := long_v hlg; simp only [need]; omega
                  rw [hia] at CP1
                  rw [hlg] at CW
                  clear hlg hfu hdSt hld
                  generalize tx (layS (dropS (bts P) pl) pl c) = P2 at *
                  generalize ins (del L pl) pl c = L2 at *
                  generalize del L pl = LD at *
                  have CC : Hid (∀ w, Calls Try.prog 17 #[.string P2] w fun e w' => ∃ a, e = .returned (.slice (some ⟨a, 0, none⟩) L2.length L2.length) ∧ Cs w' (some ⟨a, 0, none⟩) L2 ∧ Below w.heap.size w w') := fun w => hSt2.Cells w
                  have CR : Hid (∀ w, Calls Try.prog 16 #[.string P2] w fun e w' => e = .returned (.int .i64 (220 - (needs L2 : Int))) ∧ Below w.heap.size w w') := fun w => hSt2.Room w
                  have CS : Hid (∀ w a a' cap cap', Cs w a L2 → Cs w a' L2 → Calls Try.prog 21 #[.slice a L2.length cap, .slice a' L2.length cap'] w fun e w' => e = .returned (.bool true) ∧ Below w.heap.size w w') := fun w a a' cap cap' h1 h2 => hSt2.same w a a' cap cap' h1 h2
                  have SN : Small L2 := hSt2.small
                  have hrr : ((220 - (needs L2 : Int)) != (220 - (needs L2 : Int))) = false := by simp
                  have HSt2 : Hid _ := hSt2
                  clear hSt hSt2
                  generalize need c = nd at *
                  go_wp2_with (first | (refine wpList_new_cb _ rfl rfl ?_; intro w5 b5 N5) | (refine wpList_put_cb _ rfl _ _ rfl rfl rfl N5.cb ?_; intro w6 P6; have z6 := boxed (Below.refl _ wr) N5 P6; have hL6 := hL.below z6; have f0 := P6.cb.c0; have f1 := P6.cb.c1) | (go_at_call 19; refine (CP1.out _ _ _ hL6.cs).mono ?_; rintro e w7 ⟨rfl, hb7⟩; have hL7 := hL6.below hb7; have hB7 := P6.cb.below hb7; have f0 := hB7.c0; have f1 := hB7.c1; have z7 := thn z6 hb7; have ck := (z7.cell (by exact hbw)).trans c0) | (go_at_call 36; refine (CO.out _).mono ?_; rintro e w8 ⟨rfl, hb8⟩; have hL8 := hL7.below hb8; have hB8 := hB7.below hb8; have f0 := hB8.c0; have f1 := hB8.c1; have z8 := thn z7 hb8) | (go_at_call 34; refine (CW.out _).mono ?_; rintro e w9 ⟨rfl, hb9⟩; have hL9 := hL8.below hb9; have hB9 := hB8.below hb9; have f0 := hB9.c0; have f1 := hB9.c1; have z9 := thn z8 hb9) | (go_at_call 28; refine (CN.out _).mono ?_; rintro e w10 ⟨rfl, hb10⟩; have hL10 := hL9.below hb10; have hB10 := hB9.below hb10; have f0 := hB10.c0; have f1 := hB10.c1; have z10 := thn z9 hb10) | (go_at_call 31; refine (CT.out _ _ _ hL10).mono ?_; rintro e w17 ⟨⟨a17, cap17, rfl, hS17⟩, hb17⟩; have hL17 := hL10.below hb17; have hB17 := hB10.below hb17; have f0 := hB17.c0; have f1 := hB17.c1; have z17 := thn z10 hb17) | (go_at_call 20; refine (CM.out _ _ _ _ ?_ ?_).mono ?_; (first | exact SN | exact SD); (first | exact hN15.cs | exact hS17.cs); rintro e w16 ⟨rfl, hb16⟩; first | (have z16 := thn z15 hb16) | (have hb11 := hb16; have hL11 := hL17.below hb11; have hB11 := hB17.below hb11; have f0 := hB11.c0; have f1 := hB11.c1; have z11 := thn z17 hb11)))
                  have KP : Hid (∀ W, Below w16.drew.heap.size w16.drew W → W.cell? ⟨b5, 0, none⟩ = some (.string c.k) ∧ W.cell? ⟨b5, 1, none⟩ = some (.string c.v)) := (fun W hb => ⟨(hb.cell (by exact hB11.lt)).trans f0, (hb.cell (by exact hB11.lt)).trans f1⟩ : ∀ W, Below w16.drew.heap.size w16.drew W → W.cell? ⟨b5, 0, none⟩ = some (.string c.k) ∧ W.cell? ⟨b5, 1, none⟩ = some (.string c.v))
                  have hL11d := hL11.below (below_drewN (Below.refl w16.heap.size w16) 1)
                  have z11d : Below wr.heap.size wr w16.drew := below_drewN z11 1
                  go_region_held3 (fun W => W.cell? ⟨b5, 0, none⟩ = some (.string c.k) ∧ W.cell? ⟨b5, 1, none⟩ = some (.string c.v)) (first | exact keep2 | exact keep1 | exact ⟨f0, f1⟩ | go_keep) (first | (go_at_call 31; refine (CT.out _ _ _ hL11d).mono ?_; rintro e w18 ⟨⟨a18, cap18, rfl, hS18⟩, hb18⟩; have keep1 := KP.out w18 hb18; have z18 := thn z11d hb18) | (go_at_call 35; refine (CX.out _ _ _ hS18).mono ?_; rintro e w12 ⟨⟨a12, cap12, rfl, hS12⟩, hb12⟩; have z12 := thn z18 hb12; have keep2 := KP.out w12 (thn hb18 hb12)))
                  all_goals
                    go_wp2_with (first | (go_at_call 17; refine (CC.out _).mono ?_; rintro e w13 ⟨a13, rfl, hc13, hb13⟩; have hN13 := hS12.below hb13; have z13 := thn z12 hb13) | (go_at_call 21; refine (CS.out _ _ _ _ _ hc13 hN13.cs).mono ?_; rintro e w14 ⟨rfl, hb14⟩; have hN14 := hN13.below hb14; have z14 := thn z13 hb14) | (go_at_call 16; refine (CR.out _).mono ?_; rintro e w15 ⟨rfl, hb15⟩; have hN15 := hN14.below hb15; have z15 := thn z14 hb15) | (go_at_call 20; refine (CM.out _ _ _ _ ?_ ?_).mono ?_; (first | exact SN | exact SD); (first | exact hN15.cs | exact hS17.cs); rintro e w16 ⟨rfl, hb16⟩; first | (have z16 := thn z15 hb16) | (have hb11 := hb16; have hL11 := hL17.below hb11; have hB11 := hB17.below hb11; have f0 := hB11.c0; have f1 := hB11.c1; have z11 := thn z17 hb11)))
                    exact ⟨⟨k + 1, P2, L2, a12, cap12, by go_num, rfl, rfl, by omega, HSt2.out, hN15.below hb16, thn hbel z16⟩, by simp [intOf]; omega⟩
              · have CO : Hid (∀ w, Calls Try.prog 36 #[.string P, .agg #[.string c.k, .string c.v]] w fun e w' => e = .returned (.tuple #[.string ⟨#[]⟩, .int .i64 (long c)]) ∧ Below w.heap.size w w') := fun w => Update_long w P c hSt.turns hlg
                have her' : (long c == 0) = false := by simpa using hlg
                rw [hia] at CP1
                clear hlg
                generalize long c = lc at *
                skip
                have CC : Hid (∀ w, Calls Try.prog 17 #[.string P] w fun e w' => ∃ a, e = .returned (.slice (some ⟨a, 0, none⟩) L.length L.length) ∧ Cs w' (some ⟨a, 0, none⟩) L ∧ Below w.heap.size w w') := fun w => hSt.Cells w
                have CR : Hid (∀ w, Calls Try.prog 16 #[.string P] w fun e w' => e = .returned (.int .i64 (220 - (needs L : Int))) ∧ Below w.heap.size w w') := fun w => hSt.Room w
                have CS : Hid (∀ w a a' cap cap', Cs w a L → Cs w a' L → Calls Try.prog 21 #[.slice a L.length cap, .slice a' L.length cap'] w fun e w' => e = .returned (.bool true) ∧ Below w.heap.size w w') := fun w a a' cap cap' h1 h2 => hSt.same w a a' cap cap' h1 h2
                have SN : Small L := hSt.small
                have hrr : ((220 - (needs L : Int)) != (220 - (needs L : Int))) = false := by simp
                skip
                have HSt : Hid _ := hSt
                clear hSt
                go_wp2_with (first | (refine wpList_new_cb _ rfl rfl ?_; intro w5 b5 N5) | (refine wpList_put_cb _ rfl _ _ rfl rfl rfl N5.cb ?_; intro w6 P6; have z6 := boxed (Below.refl _ wr) N5 P6; have hL6 := hL.below z6; have f0 := P6.cb.c0; have f1 := P6.cb.c1) | (go_at_call 19; refine (CP1.out _ _ _ hL6.cs).mono ?_; rintro e w7 ⟨rfl, hb7⟩; have hL7 := hL6.below hb7; have hB7 := P6.cb.below hb7; have f0 := hB7.c0; have f1 := hB7.c1; have z7 := thn z6 hb7; have ck := (z7.cell (by exact hbw)).trans c0) | (go_at_call 36; refine (CO.out _).mono ?_; rintro e w8 ⟨rfl, hb8⟩; have hL8 := hL7.below hb8; have hB8 := hB7.below hb8; have f0 := hB8.c0; have f1 := hB8.c1; have z8 := thn z7 hb8) | (go_at_call 34; refine (CW.out _).mono ?_; rintro e w9 ⟨rfl, hb9⟩; have hL9 := hL8.below hb9; have hB9 := hB8.below hb9; have f0 := hB9.c0; have f1 := hB9.c1; have z9 := thn z8 hb9) | (go_at_call 17; refine (CC.out _).mono ?_; rintro e w13 ⟨a13, rfl, hc13, hb13⟩; have hN13 := hL9.below hb13; have z13 := thn z9 hb13) | (go_at_call 21; refine (CS.out _ _ _ _ _ hc13 hN13.cs).mono ?_; rintro e w14 ⟨rfl, hb14⟩; have hN14 := hN13.below hb14; have z14 := thn z13 hb14) | (go_at_call 16; refine (CR.out _).mono ?_; rintro e w15 ⟨rfl, hb15⟩; have hN15 := hN14.below hb15; have z15 := thn z14 hb15) | (go_at_call 20; refine (CM.out _ _ _ _ ?_ ?_).mono ?_; exact SN; exact hN15.cs; rintro e w16 ⟨rfl, hb16⟩; have z16 := thn z15 hb16))
                exact ⟨⟨k + 1, P, L, a', cap', by go_num, rfl, rfl, by omega, HSt.out, hN15.below hb16, thn hbel z16⟩, by simp [intOf]; omega⟩
      · have hk8I : ¬ (k : Int) < 80 := by omega
        go_wp2_with (go_at_call 18; refine (C9.out _).mono ?_; rintro e w3 ⟨rfl, hb3⟩)
        go_ret
        exact ⟨rfl, thn hbel hb3⟩
    · have hklI : ¬ (k : Int) < (len : Int) := by omega
      go_wp2_with (go_at_call 18; refine (C9.out _).mono ?_; rintro e w3 ⟨rfl, hb3⟩)
      go_ret
      exact ⟨rfl, thn hbel hb3⟩
end Go.Proofs.Ytmoognjegjeegaa
