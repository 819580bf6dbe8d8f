/- RedoMeets: two logs' spans; their meeting, plain. -/
import Derived.Test.YtjlhohljkedbbabRqB
import Derived.Deep.RegionHeldLaw
namespace Go.Proofs.Ytjlhohljkedbbab.Rq
open Go.RowKit Gm
set_option linter.unusedVariables false
set_option linter.unusedSimpArgs false
set_option maxRecDepth 100000
theorem elS : El 22 24 2 (.agg #[.int .i64 0, .int .i64 0]) := ⟨Try.underlying22, by
  obtain ⟨i, h1, h2, h3, h4⟩ := info_parts (show (Try.prog.info? 24).map (fun i => (i.zero, i.size, i.bytes)) = some (some (.agg #[.int .i64 0, .int .i64 0]), 2, 16) by kernel_rfl)
  exact ⟨i, h1, h2, h3, by omega⟩, rfl, by omega⟩
theorem encSA (s : SpL) : (#[.int .i64 s.1, .int .i64 s.2] : Array Value).toList = encS s := rfl
/-- Three rows of spans; the last of them grows. -/
structure M3 (w0 wr : World) (vx vy vl : Value) (X Y L : List SpL) : Prop where
  bel : Below w0.heap.size w0 wr
  x : Row wr 24 2 vx (X.map encS)
  y : Row wr 24 2 vy (Y.map encS)
  l : Row wr 24 2 vl (L.map encS)
  ol : ∀ g, vl.ownBlock = some g → w0.heap.size ≤ g
  nx : ∀ g, vl.ownBlock = some g → vx.ownBlock ≠ some g
  ny : ∀ g, vl.ownBlock = some g → vy.ownBlock ≠ some g
section
variable {w0 wr w2 : World} {vx vy vl vl2 : Value} {X Y L : List SpL} {s : SpL}
theorem M3.below (h : M3 w0 wr vx vy vl X Y L) (hb : Below wr.heap.size wr w2) : M3 w0 w2 vx vy vl X Y L := ⟨thn h.bel hb, h.x.bel hb, h.y.bel hb, h.l.bel hb, h.ol, h.nx, h.ny⟩
theorem M3.push (h : M3 w0 wr vx vy vl X Y L) (hA : App wr w2 24 2 vl vl2 (L.map encS ++ [encS s])) : M3 w0 w2 vx vy vl2 X Y (L ++ [s]) := by
  have hk : ∀ g, vl.ownBlock ≠ some g → g < wr.heap.size → w2.heap[g]? = wr.heap[g]? := fun g hn hg => hA.grow.block g hg (fun e => hn e.symm)
  refine ⟨h.bel.trans (hA.bel (fun g e => h.ol g e) h.bel.size), h.x.keep fun g e => hk g (fun e2 => h.nx g e2 e) (h.x.lt e), h.y.keep fun g e => hk g (fun e2 => h.ny g e2 e) (h.y.lt e), by rw [List.map_append]; exact hA.row, fun g e => ?_, fun g e e2 => ?_, fun g e e2 => ?_⟩
  · rcases hA.own with e2 | e2
    · exact h.ol g (e2.symm.trans e)
    · rw [e2] at e; cases e; exact h.bel.size
  · rcases hA.own with e3 | e3
    · exact h.nx g (e3.symm.trans e) e2
    · rw [e3] at e; cases e; have := h.x.lt e2; omega
  · rcases hA.own with e3 | e3
    · exact h.ny g (e3.symm.trans e) e2
    · rw [e3] at e; cases e; have := h.y.lt e2; omega
theorem M3.turn (h : M3 w0 wr vx vy vl X Y L) : M3 w0 wr vx vl (.slice none 0 0) X L [] := ⟨h.bel, h.x, h.l, Row.nil _ _ _, fun g e => (by cases e), fun g e => (by cases e), fun g e => by cases e⟩
end
/-! ### side -/
def sideM (c m q : Nat) : List SpL := (List.range c).map (fun (i : Nat) => (1 + (i : Int), 1 + 10 * (i : Int))) ++ (List.range m).map (fun (i : Nat) => (1 + (c : Int) + 2 * (i : Int) + (q : Int), 1 + 10 * ((c : Int) + (i : Int))))
structure SiO (w : World) (L : List SpL) (e : Ending) (w' : World) : Prop where
  ex : ∃ a n d, e = .returned (.slice a n d) ∧ Hid (L.length = n) ∧ Row w' 24 2 (.slice a n d) (L.map encS) ∧ ∀ g, (Value.slice a n d).ownBlock = some g → w.heap.size ≤ g
  bel : Below w.heap.size w w'
theorem range_S {β : Type} (f : Nat → β) (i : Nat) : (List.range (i + 1)).map f = (List.range i).map f ++ [f i] := by rw [List.range_succ, List.map_append]; rfl
set_option maxHeartbeats 1000000 in
theorem side_any (w : World) {c m q : Nat} (hc : c ≤ 5) (hm : m ≤ 5) (hq : q ≤ 1) : Calls Try.prog 8 #[.int .i64 (c : Int), .int .i64 (m : Int), .int .i64 (q : Int)] w fun e w' => SiO w (sideM c m q) e w' := by
  go_enter Try.func8, Try.ntmps8
  go_wp2
  go_loopw [7, 8] (fun s7 s8 wr => ∃ (i : Nat) (a : Option Addr) (d : Nat), s8 = .int .i64 (i : Int) ∧ s7 = .slice a i d ∧ i ≤ c ∧ M3 w wr (.slice none 0 0) (.slice none 0 0) (.slice a i d) [] [] ((List.range i).map (fun (i : Nat) => (1 + (i : Int), 1 + 10 * (i : Int))))) (fun s7 s8 _ => c - (intOf s8).toNat)
  case atStart => exact ⟨0, none, 0, rfl, rfl, Nat.zero_le _, ⟨Below.refl _ _, Row.nil _ _ _, Row.nil _ _ _, Row.nil _ _ _, fun g e => (by cases e), fun g e => (by cases e), fun g e => by cases e⟩⟩
  case round =>
    obtain ⟨i, a, d, rfl, rfl, hi, hM⟩ := hrel
    rename World => wo
    have HM : Hid (M3 w wo (.slice none 0 0) (.slice none 0 0) (.slice a i d) [] [] ((List.range i).map (fun (i : Nat) => (1 + (i : Int), 1 + 10 * (i : Int))))) := hM
    clear hM
    by_cases hlt : i < c
    · have hltI : (i : Int) < (c : Int) := by omega
      go_wp2_with (refine wpList_push elS (A := #[.int .i64 (1 + (i : Int)), .int .i64 (1 + 10 * (i : Int))]) rfl _ _ rfl rfl (HM.out.l.bel (bl1 _)) rfl (At.new _ _ _) rfl (oneI _ _) (by simp; omega) ?_; intro a2 c2 w9 A9; rw [List.length_map, List.length_map, List.length_range] at A9 ⊢)
      have V9 := (HM.out.below (bl1 _)).push (s := (1 + (i : Int), 1 + 10 * (i : Int))) A9
      go_roundw
      case rel => exact ⟨i + 1, a2, c2, by rfl, rfl, by omega, by rw [range_S]; exact V9⟩
      case measure => simp [intOf]; omega
    · obtain rfl : i = c := by omega
      have hltI : ¬ (i : Int) < (i : Int) := by omega
      go_wp2
      go_loopw [7, 9] (fun s7 s9 wr => ∃ (j : Nat) (a : Option Addr) (d : Nat), s9 = .int .i64 (j : Int) ∧ s7 = .slice a (i + j) d ∧ j ≤ m ∧ M3 w wr (.slice none 0 0) (.slice none 0 0) (.slice a (i + j) d) [] [] (sideM i j q)) (fun s7 s9 _ => m - (intOf s9).toNat)
      case atStart => exact ⟨0, a, d, rfl, rfl, Nat.zero_le _, by unfold sideM; rw [List.range_zero, List.map_nil, List.append_nil]; exact HM.out⟩
      case round =>
        clear hi hlt hltI HM
        obtain ⟨j, a, d, rfl, rfl, hj, hM⟩ := hrel
        rename World => wo
        have HM : Hid (M3 w wo (.slice none 0 0) (.slice none 0 0) (.slice a (i + j) d) [] [] (sideM i j q)) := hM
        clear hM
        have hlen : (sideM i j q).length = i + j := by unfold sideM; simp
        by_cases hlt : j < m
        · have hltI : (j : Int) < (m : Int) := by omega
          have HLn : Hid ((sideM i j q).length = i + j) := hlen
          have hS : Hid (sideM i (j + 1) q = sideM i j q ++ [(1 + (i : Int) + 2 * (j : Int) + (q : Int), 1 + 10 * ((i : Int) + (j : Int)))]) := by
            show _ = _
            unfold sideM
            rw [range_S, List.append_assoc]
          clear hlen
          go_wp2_with (refine wpList_push elS (A := #[.int .i64 (1 + (i : Int) + 2 * (j : Int) + (q : Int)), .int .i64 (1 + 10 * ((i : Int) + (j : Int)))]) rfl _ _ rfl rfl (HM.out.l.bel (bl1 _)) rfl (At.new _ _ _) rfl (oneI _ _) (by rw [List.length_map, HLn.out]; omega) ?_; intro a2 c2 w9 A9; rw [List.length_map, HLn.out] at A9 ⊢)
          have V9 := (HM.out.below (bl1 _)).push (s := (1 + (i : Int) + 2 * (j : Int) + (q : Int), 1 + 10 * ((i : Int) + (j : Int)))) A9
          go_roundw
          case rel => exact ⟨j + 1, a2, c2, by rfl, rfl, by omega, by rw [hS.out]; exact V9⟩
          case measure => simp [intOf]; omega
        · obtain rfl : j = m := by omega
          have hltI : ¬ (j : Int) < (j : Int) := by omega
          have HLn2 : Hid ((sideM i j q).length = i + j) := hlen
          clear hlen
          go_wp2
          go_ret
          exact ⟨⟨_, _, _, rfl, HLn2.out, HM.out.l, HM.out.ol⟩, HM.out.bel⟩
/-! ### The meeting -/
def lastM (L : List SpL) : Int := (L.getLast?.map (·.1)).getD 0
def mt (X : List SpL) (other c : Int) : Nat → List SpL → Int → Bool
  | 0, _, _ => false
  | k + 1, Y, en =>
    let l := Y.filter fun s => decide (s.2 < en)
    let p := partM X (lastM l) other
    if p.1 = lastM l ∧ en ≤ p.2 then decide (p.1 ≤ c ∧ en ≤ 1 + 10 * c) else mt X other c k l (keepM l p.1 p.2 en)
theorem mt_all : ∀ c, c < 6 → ∀ a, a < 6 → ∀ b, b < 6 → ∀ x : Nat, x < 10 → 1 ≤ c → mt (sideM c a 0) (1 + 10 * ((c : Int) + (a : Int))) (c : Int) 20 (sideM c b 1) (1 + 10 * ((c : Int) + (b : Int)) + (x : Int)) = true := by decide +kernel
end Go.Proofs.Ytjlhohljkedbbab.Rq
