/- PoolLost, walked. -/
import Derived.Test.YtgodjnbbocnckaaGreatMaw
namespace Go.Proofs.YtgodjnbbocnckaaGreat
open Go.RowKit Go.Maps Go.ChangeMaps
set_option linter.unusedVariables false
set_option linter.unusedSimpArgs false
set_option maxRecDepth 100000

/-- The world behind i steps: up, or lost. -/
structure Ls1 (B : Nat) (w w' : World) (ww : Nat) (X : Ad) (i : Nat) (up : Bool) : Prop where
  or : (up = true ∧ ∃ S, Wm B w' ww X (41 + 460 * i) S i) ∨ (up = false ∧ ∃ cs, LW B w' ww X (41 + 460 * i) cs)
  n : X.n ≤ 10
  bel : Below B w w'
section
variable {B k k' ww sure b m j l i : Nat} {w w' wr w0 : World} {S S' : Dk} {X : Ad} {G : Gp} {cs : List Nat} {st pg : Nat → Option Nat} {pn qn : Nat → Nat} {up : Bool}
theorem Ls1.c0 (h : Ls1 B w0 w ww X i up) : w.cell? ⟨ww, 0, none⟩ = some (.pointer (some ⟨X.db, 0, none⟩)) := by
  rcases h.or with ⟨_, S, hW⟩ | ⟨_, cs, hL⟩
  · obtain ⟨cs, s, G, st, pg, pn, P, _⟩ := hW.ex
    exact P.wb.c0
  · exact hL.wb.c0
theorem Ls1.up_ (h : Ls1 B w0 w ww X i up) : Calls Tryz.prog 16 #[.pointer (some ⟨X.db, 0, none⟩)] w fun e w' => e = .returned (.bool up) ∧ w' = w := by
  rcases h.or with ⟨rfl, S, hW⟩ | ⟨rfl, cs, hL⟩
  · obtain ⟨cs, s, G, st, pg, pn, P, _⟩ := hW.ex
    have := P.pv.q.ds.up
    rw [P.pv.q.lv.up] at this
    exact this
  · obtain ⟨S, m, hLo⟩ := hL.ex
    have := hLo.d.up
    rw [hLo.up] at this
    exact this
theorem Ls1.crash (h : Ls1 B w0 w ww X i up) (hi : i ≤ 40) {x : Int} (x0 : 0 ≤ x) (x1 : x ≤ 18446744073709551615) : Calls Tryz.prog 17 #[.pointer (some ⟨X.db, 0, none⟩), .int .u64 x] w fun e w' => ∃ y, e = .returned (.int .i64 y) ∧ (∃ k cs m S, k ≤ 29000 ∧ Dn B w' ww X k cs m S) ∧ Below B w w' := by
  rcases h.or with ⟨_, S, hW⟩ | ⟨_, cs, hL⟩
  · obtain ⟨cs, s, G, st, pg, pn, P, _⟩ := hW.ex
    refine (P.crash (by omega) x x0 x1).mono ?_
    rintro e w' ⟨y, he, hD, hb⟩
    exact ⟨y, he, ⟨_, cs, s, _, by omega, hD⟩, hb⟩
  · refine (hL.crash (by omega) x x0 x1).mono ?_
    rintro e w' ⟨y, he, ⟨m, S, hD⟩, hb⟩
    exact ⟨y, he, ⟨_, cs, m, S, by omega, hD⟩, hb⟩
theorem Ls1.step (h : Ls1 B w0 w ww X i true) (hi : i < 40) (kd id : Int) (c : Nat) (hc : c < 256) : Calls Tryz.prog 11 #[.pointer (some ⟨ww, 0, none⟩), .agg (opA kd id (c : Int))] w fun e w' => ∃ b, e = .returned (.bool b) ∧ ∃ u, Ls1 B w0 w' ww X (i + 1) u := by
  rcases h.or with ⟨_, S, hW⟩ | ⟨h1, _⟩
  · refine (step_any hW h.n (by omega) (by omega) kd id c hc).mono ?_
    rintro e w' ⟨b, he, hO⟩
    refine ⟨b, he, ?_⟩
    rcases hO.or with ⟨_, S1, W1, _⟩ | ⟨_, _, cs, L1⟩
    · exact ⟨true, Or.inl ⟨rfl, S1, by rw [show 41 + 460 * (i + 1) = 41 + 460 * i + 460 by omega]; exact W1⟩, h.n, h.bel.trans hO.bel⟩
    · exact ⟨false, Or.inr ⟨rfl, cs, by rw [show 41 + 460 * (i + 1) = 41 + 460 * i + 460 by omega]; exact L1⟩, h.n, h.bel.trans hO.bel⟩
  · cases h1
theorem Wm.mono {m' : Nat} (h : Wm B w ww X k S m) (hk : k ≤ k') (hm : m ≤ m') : Wm B w ww X k' S m' := by
  obtain ⟨cs, s, G, st, pg, pn, P, h1, h2⟩ := h.ex
  exact ⟨cs, s, G, st, pg, pn, P.mono hk, by omega, fun d => by have := h2 d; omega⟩
theorem Ls1.skip (h : Ls1 B w0 w ww X i true) : Ls1 B w0 w ww X (i + 1) true := by
  rcases h.or with ⟨_, S, hW⟩ | ⟨h1, _⟩
  · exact ⟨Or.inl ⟨rfl, S, hW.mono (by omega) (by omega)⟩, h.n, h.bel⟩
  · cases h1
theorem Op2.byte {S : Dk} {r : Nat} (h : Op2 B w ww X l k cs m j S) (hr : r < j) : cs.getD r 0 < 256 := by
  have hjl := h.jl
  have : cs.getD r 0 = cs[r]'(by omega) := by simp [List.getD, show r < cs.length by omega]
  rw [this]; exact h.cb _ (List.getElem_mem _)
theorem Ls1.new {S : Dk} {G : Gp} {e : Ending} {n : Nat} (h : MdO w0 w n e ww X S G) (hn : n ≤ 10) (i x : Int) (i0 : 0 ≤ i) (i1 : i ≤ 200) (x0 : 0 ≤ x) (x1 : x ≤ 18446744073709551615) : Calls Tryz.prog 15 #[.pointer (some ⟨X.db, 0, none⟩), .int .i64 i, .int .u64 x] w fun e w' => e = .returned (.int .i64 0) ∧ Ls1 w0.heap.size w0 w' ww X 0 true := by
  refine (h.pw.arm i x i0 (by omega) x0 x1).mono ?_
  rintro e w' ⟨he, hP, hb⟩
  exact ⟨he, Or.inl ⟨rfl, _, [], 0, G, _, _, _, hP, by simp, fun d => Nat.le_refl _⟩, by rw [h.n]; exact hn, h.bel.trans hb⟩
set_option maxHeartbeats 8000000 in
theorem lost_in {a : Option Addr} {len cap : Nat} {f : Nat → Op3} (hS : IsOp w a len f) (n : Nat) (h2 : 2 ≤ n) (h10 : n ≤ 10) (ac kp : Int) (a0 : 0 ≤ ac) (a1 : ac ≤ 200) (x0 : 0 ≤ kp) (x1 : kp ≤ 18446744073709551615) : Calls Tryz.prog 5 #[.int .i64 (n : Int), .slice a len cap, .int .i64 ac, .int .u64 kp] w fun e w' => e = .returned (.bool true) ∧ Below w.heap.size w w' := by
  have CA : Hid (∀ wx, Calls Tryz.prog 9 #[] wx fun e w' => e = .returned (.bool true) ∧ Below wx.heap.size wx w') := fun wx => awake10 wx
  have CM : Hid (Calls Tryz.prog 10 #[.int .i64 (n : Int)] w fun e w' => ∃ ww X S G, MdO w w' n e ww X S G) := made_any n h2 h10 w
  have HS : Hid (IsOp w a len f) := hS
  have n2 : ¬ (n : Int) < 2 := by omega
  have n10 : ¬ (10 : Int) < (n : Int) := by omega
  have t0 : ¬ ac < 0 := by omega
  have t1 : ¬ 200 < ac := by omega
  have hn10 : Hid (n ≤ 10) := h10
  clear hS h2 h10
  go_enter Tryz.func5, Tryz.ntmps5
  go_wp2_with (first
    | (go_at_call 10; refine CM.out.mono ?_; rintro e w1 ⟨ww, X, S1, G1, M1⟩; have he := M1.e; subst he; have k0 := M1.pw.wb.c0; have CAr : Hid (Calls Tryz.prog 15 #[.pointer (some ⟨X.db, 0, none⟩), .int .i64 ac, .int .u64 kp] w1 fun e w' => e = .returned (.int .i64 0) ∧ Ls1 w.heap.size w w' ww X 0 true) := Ls1.new M1 hn10.out ac kp a0 a1 x0 x1; clear M1)
    | (go_at_call 15; refine CAr.out.mono ?_; rintro e w2 ⟨rfl, L2⟩; have HL2 : Hid (Ls1 w.heap.size w w2 ww X 0 true) := L2; clear L2))
  go_loopw [10] (fun iv wr => ∃ (i : Nat) (u : Bool), i ≤ len ∧ i ≤ 40 ∧ iv = .int .i64 (i : Int) ∧ Ls1 w.heap.size w wr ww X i u) (fun iv _ => 40 - (intOf iv).toNat)
  case atStart => exact ⟨0, true, Nat.zero_le _, Nat.zero_le _, rfl, HL2.out⟩
  case round =>
    obtain ⟨i, u, hil, hi40, rfl, hL⟩ := hrel
    have HL : Hid (Ls1 w.heap.size w wr ww X i u) := hL
    clear hL
    by_cases hlt : i < len
    · have i1 : (i : Int) < (len : Int) := by omega
      by_cases h40 : i < 40
      · have i2 : (i : Int) < 40 := by omega
        cases u with
        | false =>
          have CC : Hid (Calls Tryz.prog 17 #[.pointer (some ⟨X.db, 0, none⟩), .int .u64 kp] wr fun e w' => ∃ y, e = .returned (.int .i64 y) ∧ (∃ k cs m S, k ≤ 29000 ∧ Dn w.heap.size w' ww X k cs m S) ∧ Below w.heap.size wr w') := HL.out.crash hi40 x0 x1
          have c0 := HL.out.c0
          have HBw : Hid (Below w.heap.size w wr) := HL.out.bel
          have CUp : Hid (Calls Tryz.prog 16 #[.pointer (some ⟨X.db, 0, none⟩)] wr fun e w' => e = .returned (.bool false) ∧ w' = wr) := HL.out.up_
          clear HL
          go_wp2_with (first
            | (go_at_call 16; refine (CUp.out).mono ?_; rintro e wu ⟨rfl, rfl⟩)
            | (go_at_call 17; refine CC.out.mono ?_; rintro e w3 ⟨y3, rfl, ⟨k3, cs3, m3, S3, hk3, D3⟩, b3⟩; have HD3 : Hid (Dn w.heap.size w3 ww X k3 cs3 m3 S3) := D3; have B3 : Hid (Below w.heap.size w w3) := HBw.out.trans b3; have q3 := D3.wb.c0; have HK3 : Hid (k3 ≤ 29000) := hk3; clear D3 b3 hk3)
            | (go_at_call 18; refine HD3.out.calm.mono ?_; rintro e w4 ⟨rfl, D4, b4⟩; have HD4 : Hid (Dn w.heap.size w4 ww X k3 cs3 m3 (calmDk S3)) := D4; have B4 : Hid (Below w.heap.size w w4) := B3.out.trans b4; have q4 := D4.wb.c0; clear D4 b4)
            | (go_at_call 19; refine HD4.out.start.mono ?_; rintro e w5 ⟨rfl, D5, b5⟩; have HD5 : Hid (Up2 w.heap.size w5 ww X k3 cs3 m3 { calmDk S3 with up := true }) := D5; have B5 : Hid (Below w.heap.size w w5) := B4.out.trans b5; have q5 := D5.wb.c0; clear D5 b5)
            | (go_at_call 20; refine (HD5.out.open_ (by have := HK3.out; omega)).mono ?_; rintro e w6 ⟨l, rfl, ⟨j6, S6, D6⟩, b6⟩; have HD6 : Hid (Op2 w.heap.size w6 ww X l (k3 + 41) cs3 m3 j6 S6) := D6; have B6 : Hid (Below w.heap.size w w6) := B5.out.trans b6; clear D6 b6))
          clear HD3 HD4 HD5 CC
          generalize k3 + 41 = k6 at *
          go_loopw [13] (fun iv wq => ∃ d : Nat, d ≤ 8 ∧ iv = .int .i64 (d : Int) ∧ Op2 w.heap.size wq ww X l k6 cs3 m3 j6 S6 ∧ Below w.heap.size w wq) (fun iv _ => 8 - (intOf iv).toNat)
          case atStart => exact ⟨0, by omega, rfl, HD6.out, B6.out⟩
          case round =>
            obtain ⟨d, hd, rfl, hO, hb⟩ := hrel
            have HO : Hid (Op2 w.heap.size wr ww X l k6 cs3 m3 j6 S6) := hO
            have HB : Hid (Below w.heap.size w wr) := hb
            have c1 := hO.wb.c1
            have hle : Hid (w.heap.size ≤ wr.heap.size) := hb.size
            clear hO hb
            by_cases hlt : d < 8
            · have d1 : (d : Int) < 8 := by omega
              go_wp2_with (first
                | (go_at_call 21; refine (HO.out.rd d hlt).mono ?_; rintro e w7 ⟨t7, x7, y7, rfl, R7⟩; have HO7 : Hid (Op2 w.heap.size w7 ww X l k6 cs3 m3 j6 S6) := HO.out.below R7.bel; have B7 : Hid (Below w.heap.size w w7) := HB.out.trans (R7.bel.mono hle.out); rcases R7.or with rfl | rfl | ⟨rfl, r, hr, rfl, rfl⟩ <;> first | (have CL : Hid (Calls Tryz.prog 22 #[.pointer (some ⟨l, 0, none⟩), .int .i64 (lnO (some r))] w7 fun e w' => ∃ I T x, e = .returned (.tuple #[.agg ((cmS ((cs3.getD r 0 : Nat) : Int)).A I T), .int .i64 x, .int .i64 0]) ∧ I.oneCell' = true ∧ T.oneCell' = true ∧ Op2 w.heap.size w' ww X l k6 cs3 m3 j6 S6 ∧ Below w.heap.size w7 w') := HO7.out.rdl r hr; have hc : cs3.getD r 0 < 256 := HO7.out.byte hr; have CFl : Hid (∀ wx, Calls Tryz.prog 23 #[.int .u8 ((cs3.getD r 0 : Nat) : Int)] wx fun e w' => e = .returned (.string (fillS (cs3.getD r 0))) ∧ Below wx.heap.size wx w') := (fun wx => fill_any _ hc wx); have hc1 : ((cs3.getD r 0 : Nat) : Int) ≤ 255 := (by omega); have hc0 : (0 : Int) ≤ ((cs3.getD r 0 : Nat) : Int) := (by omega); clear R7 hr hc; generalize fillS (cs3.getD r 0) = ft at *; generalize ((cs3.getD r 0 : Nat) : Int) = cI at *; generalize lnO (some r) = lr at *; have hwu : IntKind.u8.wrap cI = cI := (by unfold IntKind.wrap; simp [IntKind.bits, IntKind.signed]; omega)) | (clear R7))
                | (go_at_call 22; refine CL.out.mono ?_; rintro e w8 ⟨I8, T8, x8, rfl, hI8, hT8, O8, b8⟩; have HO8 : Hid (Op2 w.heap.size w8 ww X l k6 cs3 m3 j6 S6) := O8; have B8 : Hid (Below w.heap.size w w8) := B7.out.trans b8; clear O8 b8)
                | (refine wpList_new_rc _ rfl rfl ?_; intro w9 b9 N9)
                | (refine wpList_put_rc (s' := cmS cI) (I' := I8) (T' := T8) _ rfl (.tmp 17) (.tmp 133) rfl rfl rfl N9.rc hI8 hT8 ?_; intro wA PA; have BA : Hid (Below w8.heap.size w8 wA) := N9.below.trans (PA.below (by have := N9.eq; omega) N9.below.size); have r0 : wA.cell? ⟨b9, 0, none⟩ = some (.int .i64 7) := PA.rc.c0; have r1 : wA.cell? ⟨b9, 1, none⟩ = some (.int .i64 cI) := PA.rc.c1; clear N9 PA)
                | (go_at_call 23; refine (CFl.out _).mono ?_; rintro e wB ⟨rfl, bB⟩))
              · go_roundw
                case rel => exact ⟨d + 1, hlt, by go_num, HO7.out, B7.out⟩
                case measure => simp [intOf]; omega
              · go_roundw
                case rel => exact ⟨d + 1, hlt, by go_num, HO7.out, B7.out⟩
                case measure => simp [intOf]; omega
              · go_roundw
                case rel => exact ⟨d + 1, hlt, by go_num, HO8.out.below (thn BA.out bB), B8.out.trans ((thn BA.out bB).mono B8.out.size)⟩
                case measure => simp [intOf]; omega
            · obtain rfl : d = 8 := by omega
              clear hlt hd
              go_wp2_with (go_at_call 9; refine (CA.out _).mono ?_; rintro e w9 ⟨rfl, b9⟩)
              go_ret
              exact ⟨rfl, HB.out.trans (b9.mono HB.out.size)⟩
        | true =>
          have c0 := HL.out.c0
          have CUp : Hid (Calls Tryz.prog 16 #[.pointer (some ⟨X.db, 0, none⟩)] wr fun e w' => e = .returned (.bool true) ∧ w' = wr) := HL.out.up_
          obtain ⟨bb, off, ha, hr⟩ := HS.out.on rfl HL.out.bel hlt
          have CSt : Hid (Calls Tryz.prog 11 #[.pointer (some ⟨ww, 0, none⟩), .agg (opA (f i).kd (f i).id ((f i).c : Int))] wr fun e w' => ∃ b, e = .returned (.bool b) ∧ ∃ u, Ls1 w.heap.size w w' ww X (i + 1) u) := HL.out.step h40 _ _ _ (HS.out.c i hlt)
          have HSk : Hid (Ls1 w.heap.size w wr ww X (i + 1) true) := HL.out.skip
          subst ha
          have r0 : wr.cell? ⟨bb, off + i * 3, none⟩ = some (.int .i64 (f i).kd) := hr 0 _ rfl
          have HRg : Hid (wr.rangeAt bb (off + i * 3) ((opA (f i).kd (f i).id ((f i).c : Int)).toList)) := hr
          clear HL hr
          generalize ((f i).c : Int) = cI at *
          generalize (f i).id = idI at *
          by_cases h3 : (f i).kd = 3
          · rw [h3] at r0
            clear h3 CSt
            go_wp2_with (go_at_call 16; refine CUp.out.mono ?_; rintro e wu ⟨rfl, rfl⟩)
            go_roundw
            case rel => exact ⟨i + 1, true, by omega, by omega, by go_num, HSk.out⟩
            case measure => simp [intOf]; omega
          · have t3 : ((f i).kd != 3) = true := by simpa using h3
            clear h3
            generalize (f i).kd = kdI at *
            go_wp2_with (first
              | (go_at_call 16; refine CUp.out.mono ?_; rintro e wu ⟨rfl, rfl⟩)
              | (refine wpList_load_op (kd := kdI) (id := idI) (c := cI) _ rfl (.tmp 75) rfl rfl HRg.out ?_)
              | (go_at_call 11; refine CSt.out.mono ?_; rintro e w3 ⟨b3, rfl, u3, L3⟩; have HL3 : Hid (Ls1 w.heap.size w w3 ww X (i + 1) u3) := L3; clear L3))
            go_roundw
            case rel => exact ⟨i + 1, u3, by omega, by omega, by go_num, HL3.out⟩
            case measure => simp [intOf]; omega
      · have i2 : ¬ (i : Int) < 40 := by omega
        have CC : Hid (Calls Tryz.prog 17 #[.pointer (some ⟨X.db, 0, none⟩), .int .u64 kp] wr fun e w' => ∃ y, e = .returned (.int .i64 y) ∧ (∃ k cs m S, k ≤ 29000 ∧ Dn w.heap.size w' ww X k cs m S) ∧ Below w.heap.size wr w') := HL.out.crash hi40 x0 x1
        have c0 := HL.out.c0
        have HBw : Hid (Below w.heap.size w wr) := HL.out.bel
        have CUp : Hid True := trivial
        clear HL
        go_wp2_with (first
          | (go_at_call 16; refine (CUp.out).mono ?_; rintro e wu ⟨rfl, rfl⟩)
          | (go_at_call 17; refine CC.out.mono ?_; rintro e w3 ⟨y3, rfl, ⟨k3, cs3, m3, S3, hk3, D3⟩, b3⟩; have HD3 : Hid (Dn w.heap.size w3 ww X k3 cs3 m3 S3) := D3; have B3 : Hid (Below w.heap.size w w3) := HBw.out.trans b3; have q3 := D3.wb.c0; have HK3 : Hid (k3 ≤ 29000) := hk3; clear D3 b3 hk3)
          | (go_at_call 18; refine HD3.out.calm.mono ?_; rintro e w4 ⟨rfl, D4, b4⟩; have HD4 : Hid (Dn w.heap.size w4 ww X k3 cs3 m3 (calmDk S3)) := D4; have B4 : Hid (Below w.heap.size w w4) := B3.out.trans b4; have q4 := D4.wb.c0; clear D4 b4)
          | (go_at_call 19; refine HD4.out.start.mono ?_; rintro e w5 ⟨rfl, D5, b5⟩; have HD5 : Hid (Up2 w.heap.size w5 ww X k3 cs3 m3 { calmDk S3 with up := true }) := D5; have B5 : Hid (Below w.heap.size w w5) := B4.out.trans b5; have q5 := D5.wb.c0; clear D5 b5)
          | (go_at_call 20; refine (HD5.out.open_ (by have := HK3.out; omega)).mono ?_; rintro e w6 ⟨l, rfl, ⟨j6, S6, D6⟩, b6⟩; have HD6 : Hid (Op2 w.heap.size w6 ww X l (k3 + 41) cs3 m3 j6 S6) := D6; have B6 : Hid (Below w.heap.size w w6) := B5.out.trans b6; clear D6 b6))
        clear HD3 HD4 HD5 CC
        generalize k3 + 41 = k6 at *
        go_loopw [13] (fun iv wq => ∃ d : Nat, d ≤ 8 ∧ iv = .int .i64 (d : Int) ∧ Op2 w.heap.size wq ww X l k6 cs3 m3 j6 S6 ∧ Below w.heap.size w wq) (fun iv _ => 8 - (intOf iv).toNat)
        case atStart => exact ⟨0, by omega, rfl, HD6.out, B6.out⟩
        case round =>
          obtain ⟨d, hd, rfl, hO, hb⟩ := hrel
          have HO : Hid (Op2 w.heap.size wr ww X l k6 cs3 m3 j6 S6) := hO
          have HB : Hid (Below w.heap.size w wr) := hb
          have c1 := hO.wb.c1
          have hle : Hid (w.heap.size ≤ wr.heap.size) := hb.size
          clear hO hb
          by_cases hlt : d < 8
          · have d1 : (d : Int) < 8 := by omega
            go_wp2_with (first
              | (go_at_call 21; refine (HO.out.rd d hlt).mono ?_; rintro e w7 ⟨t7, x7, y7, rfl, R7⟩; have HO7 : Hid (Op2 w.heap.size w7 ww X l k6 cs3 m3 j6 S6) := HO.out.below R7.bel; have B7 : Hid (Below w.heap.size w w7) := HB.out.trans (R7.bel.mono hle.out); rcases R7.or with rfl | rfl | ⟨rfl, r, hr, rfl, rfl⟩ <;> first | (have CL : Hid (Calls Tryz.prog 22 #[.pointer (some ⟨l, 0, none⟩), .int .i64 (lnO (some r))] w7 fun e w' => ∃ I T x, e = .returned (.tuple #[.agg ((cmS ((cs3.getD r 0 : Nat) : Int)).A I T), .int .i64 x, .int .i64 0]) ∧ I.oneCell' = true ∧ T.oneCell' = true ∧ Op2 w.heap.size w' ww X l k6 cs3 m3 j6 S6 ∧ Below w.heap.size w7 w') := HO7.out.rdl r hr; have hc : cs3.getD r 0 < 256 := HO7.out.byte hr; have CFl : Hid (∀ wx, Calls Tryz.prog 23 #[.int .u8 ((cs3.getD r 0 : Nat) : Int)] wx fun e w' => e = .returned (.string (fillS (cs3.getD r 0))) ∧ Below wx.heap.size wx w') := (fun wx => fill_any _ hc wx); have hc1 : ((cs3.getD r 0 : Nat) : Int) ≤ 255 := (by omega); have hc0 : (0 : Int) ≤ ((cs3.getD r 0 : Nat) : Int) := (by omega); clear R7 hr hc; generalize fillS (cs3.getD r 0) = ft at *; generalize ((cs3.getD r 0 : Nat) : Int) = cI at *; generalize lnO (some r) = lr at *; have hwu : IntKind.u8.wrap cI = cI := (by unfold IntKind.wrap; simp [IntKind.bits, IntKind.signed]; omega)) | (clear R7))
              | (go_at_call 22; refine CL.out.mono ?_; rintro e w8 ⟨I8, T8, x8, rfl, hI8, hT8, O8, b8⟩; have HO8 : Hid (Op2 w.heap.size w8 ww X l k6 cs3 m3 j6 S6) := O8; have B8 : Hid (Below w.heap.size w w8) := B7.out.trans b8; clear O8 b8)
              | (refine wpList_new_rc _ rfl rfl ?_; intro w9 b9 N9)
              | (refine wpList_put_rc (s' := cmS cI) (I' := I8) (T' := T8) _ rfl (.tmp 17) (.tmp 133) rfl rfl rfl N9.rc hI8 hT8 ?_; intro wA PA; have BA : Hid (Below w8.heap.size w8 wA) := N9.below.trans (PA.below (by have := N9.eq; omega) N9.below.size); have r0 : wA.cell? ⟨b9, 0, none⟩ = some (.int .i64 7) := PA.rc.c0; have r1 : wA.cell? ⟨b9, 1, none⟩ = some (.int .i64 cI) := PA.rc.c1; clear N9 PA)
              | (go_at_call 23; refine (CFl.out _).mono ?_; rintro e wB ⟨rfl, bB⟩))
            · go_roundw
              case rel => exact ⟨d + 1, hlt, by go_num, HO7.out, B7.out⟩
              case measure => simp [intOf]; omega
            · go_roundw
              case rel => exact ⟨d + 1, hlt, by go_num, HO7.out, B7.out⟩
              case measure => simp [intOf]; omega
            · go_roundw
              case rel => exact ⟨d + 1, hlt, by go_num, HO8.out.below (thn BA.out bB), B8.out.trans ((thn BA.out bB).mono B8.out.size)⟩
              case measure => simp [intOf]; omega
          · obtain rfl : d = 8 := by omega
            clear hlt hd
            go_wp2_with (go_at_call 9; refine (CA.out _).mono ?_; rintro e w9 ⟨rfl, b9⟩)
            go_ret
            exact ⟨rfl, HB.out.trans (b9.mono HB.out.size)⟩
    · have i1 : ¬ (i : Int) < (len : Int) := by omega
      have CC : Hid (Calls Tryz.prog 17 #[.pointer (some ⟨X.db, 0, none⟩), .int .u64 kp] wr fun e w' => ∃ y, e = .returned (.int .i64 y) ∧ (∃ k cs m S, k ≤ 29000 ∧ Dn w.heap.size w' ww X k cs m S) ∧ Below w.heap.size wr w') := HL.out.crash hi40 x0 x1
      have c0 := HL.out.c0
      have HBw : Hid (Below w.heap.size w wr) := HL.out.bel
      have CUp : Hid True := trivial
      clear HL
      go_wp2_with (first
        | (go_at_call 16; refine (CUp.out).mono ?_; rintro e wu ⟨rfl, rfl⟩)
        | (go_at_call 17; refine CC.out.mono ?_; rintro e w3 ⟨y3, rfl, ⟨k3, cs3, m3, S3, hk3, D3⟩, b3⟩; have HD3 : Hid (Dn w.heap.size w3 ww X k3 cs3 m3 S3) := D3; have B3 : Hid (Below w.heap.size w w3) := HBw.out.trans b3; have q3 := D3.wb.c0; have HK3 : Hid (k3 ≤ 29000) := hk3; clear D3 b3 hk3)
        | (go_at_call 18; refine HD3.out.calm.mono ?_; rintro e w4 ⟨rfl, D4, b4⟩; have HD4 : Hid (Dn w.heap.size w4 ww X k3 cs3 m3 (calmDk S3)) := D4; have B4 : Hid (Below w.heap.size w w4) := B3.out.trans b4; have q4 := D4.wb.c0; clear D4 b4)
        | (go_at_call 19; refine HD4.out.start.mono ?_; rintro e w5 ⟨rfl, D5, b5⟩; have HD5 : Hid (Up2 w.heap.size w5 ww X k3 cs3 m3 { calmDk S3 with up := true }) := D5; have B5 : Hid (Below w.heap.size w w5) := B4.out.trans b5; have q5 := D5.wb.c0; clear D5 b5)
        | (go_at_call 20; refine (HD5.out.open_ (by have := HK3.out; omega)).mono ?_; rintro e w6 ⟨l, rfl, ⟨j6, S6, D6⟩, b6⟩; have HD6 : Hid (Op2 w.heap.size w6 ww X l (k3 + 41) cs3 m3 j6 S6) := D6; have B6 : Hid (Below w.heap.size w w6) := B5.out.trans b6; clear D6 b6))
      clear HD3 HD4 HD5 CC
      generalize k3 + 41 = k6 at *
      go_loopw [13] (fun iv wq => ∃ d : Nat, d ≤ 8 ∧ iv = .int .i64 (d : Int) ∧ Op2 w.heap.size wq ww X l k6 cs3 m3 j6 S6 ∧ Below w.heap.size w wq) (fun iv _ => 8 - (intOf iv).toNat)
      case atStart => exact ⟨0, by omega, rfl, HD6.out, B6.out⟩
      case round =>
        obtain ⟨d, hd, rfl, hO, hb⟩ := hrel
        have HO : Hid (Op2 w.heap.size wr ww X l k6 cs3 m3 j6 S6) := hO
        have HB : Hid (Below w.heap.size w wr) := hb
        have c1 := hO.wb.c1
        have hle : Hid (w.heap.size ≤ wr.heap.size) := hb.size
        clear hO hb
        by_cases hlt : d < 8
        · have d1 : (d : Int) < 8 := by omega
          go_wp2_with (first
            | (go_at_call 21; refine (HO.out.rd d hlt).mono ?_; rintro e w7 ⟨t7, x7, y7, rfl, R7⟩; have HO7 : Hid (Op2 w.heap.size w7 ww X l k6 cs3 m3 j6 S6) := HO.out.below R7.bel; have B7 : Hid (Below w.heap.size w w7) := HB.out.trans (R7.bel.mono hle.out); rcases R7.or with rfl | rfl | ⟨rfl, r, hr, rfl, rfl⟩ <;> first | (have CL : Hid (Calls Tryz.prog 22 #[.pointer (some ⟨l, 0, none⟩), .int .i64 (lnO (some r))] w7 fun e w' => ∃ I T x, e = .returned (.tuple #[.agg ((cmS ((cs3.getD r 0 : Nat) : Int)).A I T), .int .i64 x, .int .i64 0]) ∧ I.oneCell' = true ∧ T.oneCell' = true ∧ Op2 w.heap.size w' ww X l k6 cs3 m3 j6 S6 ∧ Below w.heap.size w7 w') := HO7.out.rdl r hr; have hc : cs3.getD r 0 < 256 := HO7.out.byte hr; have CFl : Hid (∀ wx, Calls Tryz.prog 23 #[.int .u8 ((cs3.getD r 0 : Nat) : Int)] wx fun e w' => e = .returned (.string (fillS (cs3.getD r 0))) ∧ Below wx.heap.size wx w') := (fun wx => fill_any _ hc wx); have hc1 : ((cs3.getD r 0 : Nat) : Int) ≤ 255 := (by omega); have hc0 : (0 : Int) ≤ ((cs3.getD r 0 : Nat) : Int) := (by omega); clear R7 hr hc; generalize fillS (cs3.getD r 0) = ft at *; generalize ((cs3.getD r 0 : Nat) : Int) = cI at *; generalize lnO (some r) = lr at *; have hwu : IntKind.u8.wrap cI = cI := (by unfold IntKind.wrap; simp [IntKind.bits, IntKind.signed]; omega)) | (clear R7))
            | (go_at_call 22; refine CL.out.mono ?_; rintro e w8 ⟨I8, T8, x8, rfl, hI8, hT8, O8, b8⟩; have HO8 : Hid (Op2 w.heap.size w8 ww X l k6 cs3 m3 j6 S6) := O8; have B8 : Hid (Below w.heap.size w w8) := B7.out.trans b8; clear O8 b8)
            | (refine wpList_new_rc _ rfl rfl ?_; intro w9 b9 N9)
            | (refine wpList_put_rc (s' := cmS cI) (I' := I8) (T' := T8) _ rfl (.tmp 17) (.tmp 133) rfl rfl rfl N9.rc hI8 hT8 ?_; intro wA PA; have BA : Hid (Below w8.heap.size w8 wA) := N9.below.trans (PA.below (by have := N9.eq; omega) N9.below.size); have r0 : wA.cell? ⟨b9, 0, none⟩ = some (.int .i64 7) := PA.rc.c0; have r1 : wA.cell? ⟨b9, 1, none⟩ = some (.int .i64 cI) := PA.rc.c1; clear N9 PA)
            | (go_at_call 23; refine (CFl.out _).mono ?_; rintro e wB ⟨rfl, bB⟩))
          · go_roundw
            case rel => exact ⟨d + 1, hlt, by go_num, HO7.out, B7.out⟩
            case measure => simp [intOf]; omega
          · go_roundw
            case rel => exact ⟨d + 1, hlt, by go_num, HO7.out, B7.out⟩
            case measure => simp [intOf]; omega
          · go_roundw
            case rel => exact ⟨d + 1, hlt, by go_num, HO8.out.below (thn BA.out bB), B8.out.trans ((thn BA.out bB).mono B8.out.size)⟩
            case measure => simp [intOf]; omega
        · obtain rfl : d = 8 := by omega
          clear hlt hd
          go_wp2_with (go_at_call 9; refine (CA.out _).mono ?_; rintro e w9 ⟨rfl, b9⟩)
          go_ret
          exact ⟨rfl, HB.out.trans (b9.mono HB.out.size)⟩
theorem lost10_walk {a : Option Addr} {len cap : Nat} {f : Nat → Op3} (n : Int) (hS : IsOp w a len f) (ac kp : Int) (x0 : 0 ≤ kp) (x1 : kp ≤ 18446744073709551615) : Calls Tryz.prog 5 #[.int .i64 n, .slice a len cap, .int .i64 ac, .int .u64 kp] w fun e w' => e = .returned (.bool true) ∧ Below w.heap.size w w' := by
  have CA : Hid (∀ wx, Calls Tryz.prog 9 #[] wx fun e w' => e = .returned (.bool true) ∧ Below wx.heap.size wx w') := fun wx => awake10 wx
  by_cases h1 : n < 2
  · go_enter Tryz.func5, Tryz.ntmps5
    go_wp2_with (go_at_call 9; refine (CA.out _).mono ?_; rintro e w9 ⟨rfl, b9⟩)
    go_ret
    exact ⟨rfl, b9⟩
  · by_cases h2 : 10 < n
    · go_enter Tryz.func5, Tryz.ntmps5
      go_wp2_with (go_at_call 9; refine (CA.out _).mono ?_; rintro e w9 ⟨rfl, b9⟩)
      go_ret
      exact ⟨rfl, b9⟩
    · by_cases h3 : ac < 0
      · go_enter Tryz.func5, Tryz.ntmps5
        go_wp2_with (go_at_call 9; refine (CA.out _).mono ?_; rintro e w9 ⟨rfl, b9⟩)
        go_ret
        exact ⟨rfl, b9⟩
      · by_cases h4 : 200 < ac
        · go_enter Tryz.func5, Tryz.ntmps5
          go_wp2_with (go_at_call 9; refine (CA.out _).mono ?_; rintro e w9 ⟨rfl, b9⟩)
          go_ret
          exact ⟨rfl, b9⟩
        · obtain ⟨m, rfl⟩ : ∃ m : Nat, n = (m : Int) := ⟨n.toNat, by omega⟩
          exact lost_in hS m (by omega) (by omega) ac kp (by omega) (by omega) x0 x1
end
end Go.Proofs.YtgodjnbbocnckaaGreat
