/- PoolPlays, walked. -/
import Derived.Test.YtgodjnbbocnckaaGreatMaz
namespace Go.Proofs.YtgodjnbbocnckaaGreat
open Go.RowKit Go.Maps Go.ChangeMaps
set_option linter.unusedVariables false
set_option linter.unusedSimpArgs false
set_option maxRecDepth 100000

/-- The world behind i steps, where no power goes. -/
structure Py (B : Nat) (w w' : World) (ww : Nat) (X : Ad) (i : Nat) : Prop where
  ex : ∃ S, Wm B w' ww X (41 + 460 * i) S i ∧ S.set = false
  n : X.n ≤ 10
  bel : Below B w w'
section
variable {B k k' ww sure b m j l i : Nat} {w w' wr w0 : World} {S S' : Dk} {X : Ad} {G : Gp} {cs : List Nat} {st pg : Nat → Option Nat} {pn qn : Nat → Nat} {up : Bool}
theorem Py.step (h : Py B w0 w ww X i) (hi : i < 60) (kd id : Int) (c : Nat) (hc : c < 256) : Calls Tryz.prog 11 #[.pointer (some ⟨ww, 0, none⟩), .agg (opA kd id (c : Int))] w fun e w' => e = .returned (.bool true) ∧ Py B w0 w' ww X (i + 1) := by
  obtain ⟨S, hW, hS⟩ := h.ex
  refine (step_any hW h.n (by omega) (by omega) kd id c hc).mono ?_
  rintro e w' ⟨b, he, hO⟩
  rcases hO.or with ⟨rfl, S1, W1, h1⟩ | ⟨_, h2, _⟩
  · exact ⟨he, ⟨S1, by rw [show 41 + 460 * (i + 1) = 41 + 460 * i + 460 by omega]; exact W1, h1 hS⟩, h.n, h.bel.trans hO.bel⟩
  · rw [hS] at h2; cases h2
theorem Py.le (h : Py B w0 w ww X i) : B ≤ w.heap.size := by
  obtain ⟨S, hW, hS⟩ := h.ex
  obtain ⟨cs, s, G, st, pg, pn, P, _⟩ := hW.ex
  exact P.le
theorem Py.below (h : Py B w0 w ww X i) (hb : Below w.heap.size w w') : Py B w0 w' ww X i := by
  obtain ⟨S, hW, hS⟩ := h.ex
  exact ⟨⟨S, hW.below hb, hS⟩, h.n, h.bel.trans (hb.mono h.le)⟩
theorem Py.lasts (h : Py B w0 w ww X i) : Calls Tryz.prog 12 #[.pointer (some ⟨ww, 0, none⟩)] w fun e w' => e = .returned (.bool true) ∧ Py B w0 w' ww X i := by
  obtain ⟨S, hW, hS⟩ := h.ex
  obtain ⟨cs, s, G, st, pg, pn, P, _⟩ := hW.ex
  refine (lasts_any P).mono ?_
  rintro e w' ⟨he, hb⟩
  exact ⟨he, h.below hb⟩
theorem Py.table (h : Py B w0 w ww X i) : Calls Tryz.prog 13 #[.pointer (some ⟨ww, 0, none⟩)] w fun e w' => e = .returned (.bool true) ∧ Py B w0 w' ww X i := by
  obtain ⟨S, hW, hS⟩ := h.ex
  obtain ⟨cs, s, G, st, pg, pn, P, _⟩ := hW.ex
  refine (table_any P).mono ?_
  rintro e w' ⟨he, hb⟩
  exact ⟨he, h.below hb⟩
theorem Py.new {S : Dk} {G : Gp} {e : Ending} {n : Nat} (h : MdO w0 w n e ww X S G) (hn : n ≤ 10) : Py w0.heap.size w0 w ww X 0 :=
  ⟨⟨S, ⟨[], 0, G, _, _, _, h.pw, by simp, fun d => Nat.le_refl _⟩, h.set⟩, by rw [h.n]; exact hn, h.bel⟩
set_option maxHeartbeats 8000000 in
theorem plays_in {a : Option Addr} {len cap : Nat} {f : Nat → Op3} (hS : IsOp w a len f) (n : Nat) (h2 : 2 ≤ n) (h10 : n ≤ 10) : Calls Tryz.prog 3 #[.int .i64 (n : Int), .slice a len cap] w fun e w' => e = .returned (.bool true) ∧ Below w.heap.size w w' := by
  have CA : Hid (∀ wx, Calls Tryz.prog 9 #[] wx fun e w' => e = .returned (.bool true) ∧ Below wx.heap.size wx w') := fun wx => awake10 wx
  have CM : Hid (Calls Tryz.prog 10 #[.int .i64 (n : Int)] w fun e w' => ∃ ww X S G, MdO w w' n e ww X S G) := made_any n h2 h10 w
  have HS : Hid (IsOp w a len f) := hS
  have n2 : ¬ (n : Int) < 2 := by omega
  have n10 : ¬ (10 : Int) < (n : Int) := by omega
  have hn10 : Hid (n ≤ 10) := h10
  clear hS h2 h10
  go_enter Tryz.func3, Tryz.ntmps3
  go_wp2_with (go_at_call 10; refine CM.out.mono ?_; rintro e w1 ⟨ww, X, S1, G1, M1⟩; have he := M1.e; subst he; have HL1 : Hid (Py w.heap.size w w1 ww X 0) := Py.new M1 hn10.out; clear M1)
  go_loopw [6] (fun iv wr => ∃ (i : Nat), i ≤ len ∧ i ≤ 60 ∧ iv = .int .i64 (i : Int) ∧ Py w.heap.size w wr ww X i) (fun iv _ => 60 - (intOf iv).toNat)
  case atStart => exact ⟨0, Nat.zero_le _, Nat.zero_le _, rfl, HL1.out⟩
  case round =>
    obtain ⟨i, hil, hi60, rfl, hL⟩ := hrel
    have HL : Hid (Py w.heap.size w wr ww X i) := hL
    clear hL
    by_cases hlt : i < len
    · have i1 : (i : Int) < (len : Int) := by omega
      by_cases h60 : i < 60
      · have i2 : (i : Int) < 60 := by omega
        obtain ⟨bb, off, ha, hr⟩ := HS.out.on rfl HL.out.bel hlt
        have CSt : Hid (Calls Tryz.prog 11 #[.pointer (some ⟨ww, 0, none⟩), .agg (opA (f i).kd (f i).id ((f i).c : Int))] wr fun e w' => e = .returned (.bool true) ∧ Py w.heap.size w w' ww X (i + 1)) := HL.out.step h60 _ _ _ (HS.out.c i hlt)
        subst ha
        have HRg : Hid (wr.rangeAt bb (off + i * 3) ((opA (f i).kd (f i).id ((f i).c : Int)).toList)) := hr
        clear HL hr
        generalize ((f i).c : Int) = cI at *
        generalize (f i).id = idI at *
        generalize (f i).kd = kdI at *
        go_wp2_with (first
          | (refine wpList_load_op (kd := kdI) (id := idI) (c := cI) _ rfl (.tmp 31) rfl rfl HRg.out ?_)
          | (go_at_call 11; refine CSt.out.mono ?_; rintro e w3 ⟨rfl, L3⟩; have HL3 : Hid (Py w.heap.size w w3 ww X (i + 1)) := L3; clear L3)
          | (go_at_call 12; refine HL3.out.lasts.mono ?_; rintro e w4 ⟨rfl, L4⟩; have HL4 : Hid (Py w.heap.size w w4 ww X (i + 1)) := L4; clear L4)
          | (go_at_call 13; refine HL4.out.table.mono ?_; rintro e w5 ⟨rfl, L5⟩; have HL5 : Hid (Py w.heap.size w w5 ww X (i + 1)) := L5; clear L5))
        go_roundw
        case rel => exact ⟨i + 1, by omega, by omega, by go_num, HL5.out⟩
        case measure => simp [intOf]; omega
      · have i2 : ¬ (i : Int) < 60 := by omega
        have HB : Hid (Below w.heap.size w wr) := HL.out.bel
        clear HL
        go_wp2_with (go_at_call 9; refine (CA.out _).mono ?_; rintro e w9 ⟨rfl, b9⟩)
        go_ret
        exact ⟨rfl, thn HB.out b9⟩
    · have i1 : ¬ (i : Int) < (len : Int) := by omega
      have HB : Hid (Below w.heap.size w wr) := HL.out.bel
      clear HL
      go_wp2_with (go_at_call 9; refine (CA.out _).mono ?_; rintro e w9 ⟨rfl, b9⟩)
      go_ret
      exact ⟨rfl, thn HB.out b9⟩
theorem plays10_walk {a : Option Addr} {len cap : Nat} {f : Nat → Op3} (n : Int) (hS : IsOp w a len f) : Calls Tryz.prog 3 #[.int .i64 n, .slice a len cap] w fun e w' => e = .returned (.bool true) ∧ Below w.heap.size w w' := by
  have CA : Hid (∀ wx, Calls Tryz.prog 9 #[] wx fun e w' => e = .returned (.bool true) ∧ Below wx.heap.size wx w') := fun wx => awake10 wx
  by_cases h1 : n < 2
  · go_enter Tryz.func3, Tryz.ntmps3
    go_wp2_with (go_at_call 9; refine (CA.out _).mono ?_; rintro e w9 ⟨rfl, b9⟩)
    go_ret
    exact ⟨rfl, b9⟩
  · by_cases h2 : 10 < n
    · go_enter Tryz.func3, Tryz.ntmps3
      go_wp2_with (go_at_call 9; refine (CA.out _).mono ?_; rintro e w9 ⟨rfl, b9⟩)
      go_ret
      exact ⟨rfl, b9⟩
    · obtain ⟨x, rfl⟩ : ∃ x : Nat, n = (x : Int) := ⟨n.toNat, by omega⟩
      exact plays_in hS x (by omega) (by omega)
end
end Go.Proofs.YtgodjnbbocnckaaGreat
