/- fold: bounds of what a fold holds; the law's same; slices that read as cells. -/
import Derived.Test.YtkcpclmkbmeigabFdF
import Derived.Test.YtkcpclmkbmeigabGmE
import Derived.BigRegion
import Derived.BigQuiet
import Derived.Deep.LoopGhost
namespace Go.Proofs.Ytkcpclmkbmeigab.Fd
open Go.RowKit Gm Go.Maps
set_option linter.unusedVariables false
set_option linter.unusedSimpArgs false
set_option maxRecDepth 100000
def sumG (G : List Gt) : Nat := (G.map fun g => g.ks.length).sum
/-- At most i records were noted. -/
structure Bd (s : Fs) (i : Nat) : Prop where
  wt : s.K.length + sumG s.G ≤ i
  gl : s.G.length ≤ i
  n0 : 0 ≤ s.n
  n1 : s.n ≤ i
theorem Bd.zero : Bd ⟨[], [], 0⟩ 0 := ⟨by decide, by decide, by decide, by decide⟩
theorem Bd.up {s : Fs} {i : Nat} (h : Bd s i) : Bd s (i + 1) := ⟨by have := h.wt; omega, by have := h.gl; omega, h.n0, by have := h.n1; omega⟩
theorem putH_le (ks : List (ByteArray × Hs)) (k : ByteArray) (x : Hs) : (putH ks k x).length ≤ ks.length + 1 := by
  unfold putH
  rw [List.length_append, List.length_singleton]
  have := List.length_filter_le (fun p : ByteArray × Hs => p.1.data.toList != k.data.toList) ks
  omega
theorem sumG_drop (G : List Gt) (t : Int) : sumG (dropG G t) + (ksG G t).length ≤ sumG G := by
  unfold sumG dropG ksG lkG
  induction G with
  | nil => simp
  | cons g G ih =>
    rw [List.filter_cons, List.find?_cons]
    by_cases h : g.txn = t
    · have h1 : (g.txn != t) = false := by simpa using h
      have h2 : (g.txn == t) = true := by simpa using h
      rw [h1, h2]
      simp only [List.map_cons, List.sum_cons, Option.map_some, Option.getD_some, Bool.false_eq_true, if_false]
      have : (List.map (fun g => g.ks.length) (List.filter (fun g => g.txn != t) G)).sum ≤ (List.map (fun g : Gt => g.ks.length) G).sum := by omega
      omega
    · have h1 : (g.txn != t) = true := by simpa using h
      have h2 : (g.txn == t) = false := by simpa using h
      rw [h1, h2]
      simp only [List.map_cons, List.sum_cons, if_true]
      omega
theorem cmsK_len (ks : List (ByteArray × Hs)) : ∀ K, (cmsK K ks).length ≤ K.length + ks.length := by
  induction ks with
  | nil => intro K; simp [cmsK]
  | cons p ks ih =>
    intro K
    have h1 := ih (comK K p.1 p.2)
    have h2 := comK_len K p.1 p.2
    show (cmsK (comK K p.1 p.2) ks).length ≤ _
    rw [List.length_cons]
    omega
theorem sumG_turn (t : Int) (k : ByteArray) (x : Hs) : ∀ G : List Gt, (G.Pairwise fun a b => a.txn ≠ b.txn) → sumG (G.map (tnG t k x)) ≤ sumG G + 1
  | [], _ => by simp [sumG]
  | g :: G, hp => by
    rw [List.pairwise_cons] at hp
    have ih := sumG_turn t k x G hp.2
    unfold sumG at ih ⊢
    simp only [List.map_cons, List.sum_cons]
    by_cases h : g.txn = t
    · have e : G.map (tnG t k x) = G := by
        conv => rhs; rw [← List.map_id G]
        refine List.map_congr_left fun y hy => ?_
        unfold tnG
        rw [if_neg (fun e2 => hp.1 y hy (h.trans e2.symm))]
        rfl
      rw [e]
      have h1 := putH_le g.ks k x
      unfold tnG
      rw [if_pos h]
      dsimp only
      omega
    · have h1 : tnG t k x g = g := by unfold tnG; rw [if_neg h]
      rw [h1]
      omega
theorem sumG_put (G : List Gt) (t : Int) (k : ByteArray) (x : Hs) (hp : G.Pairwise fun a b => a.txn ≠ b.txn) : sumG (putG G t k x) ≤ sumG G + 1 ∧ (putG G t k x).length ≤ G.length + 1 := by
  unfold putG
  split
  · exact ⟨sumG_turn t k x G hp, by rw [List.length_map]; omega⟩
  · unfold sumG
    rw [List.map_append, List.sum_append, List.length_append]
    simp
theorem Bd.note {s : Fs} {i : Nat} (h : Bd s i) (hp : s.G.Pairwise fun a b => a.txn ≠ b.txn) (r : Rc) : Bd (noteF s r) (i + 1) := by
  have h1 := h.wt
  have h2 := h.gl
  have h3 := h.n0
  have h4 := h.n1
  have hd := List.length_filter_le (fun g : Gt => g.txn != r.tx) s.G
  unfold noteF
  split
  · have a1 := cmsK_len (ksG s.G r.tx) s.K
    have a2 := sumG_drop s.G r.tx
    exact ⟨by dsimp only; omega, by dsimp only; unfold dropG; omega, by dsimp only; omega, by dsimp only; omega⟩
  · split
    · have a2 := sumG_drop s.G r.tx
      exact ⟨by dsimp only; omega, by dsimp only; unfold dropG; omega, by dsimp only; omega, by dsimp only; omega⟩
    · cases bhd r with
      | none => exact ⟨by dsimp only; omega, by dsimp only; omega, by dsimp only; omega, by dsimp only; omega⟩
      | some x =>
        obtain ⟨a1, a2⟩ := sumG_put s.G r.tx r.ky x hp
        exact ⟨by dsimp only; omega, by dsimp only; omega, by dsimp only; omega, by dsimp only; omega⟩
theorem sum_mem {G : List Gt} {g : Gt} (h : g ∈ G) : g.ks.length ≤ sumG G := by
  unfold sumG
  induction G with
  | nil => cases h
  | cons a G ih =>
    rw [List.map_cons, List.sum_cons]
    rcases List.mem_cons.1 h with rfl | h1
    · omega
    · have := ih h1; omega
theorem ksG_le (G : List Gt) (t : Int) : (ksG G t).length ≤ sumG G := by have := sumG_drop G t; omega
section
variable {W W' : Nat → Prop} {w w' : World} {fb i : Nat} {s : Fs} {r : Rc} {I T : Value}
theorem Note_bd (h : Fo W w fb s.K s.G s.n) (hb : Bd s i) (hi : i ≤ 500) (hw : wfT r.tx) (hs : r.ky.size ≤ 9223372036854775807) : Calls Try.prog 6 #[.pointer (some ⟨fb, 0, none⟩), .agg (r.A I T)] w fun e w' => e = .returned (.tuple #[]) ∧ FoO W w w' fb (noteF s r).K (noteF s r).G (noteF s r).n := by
  have h1 := hb.wt
  have h2 := ksG_le s.G r.tx
  exact Note_any h hw hs (by omega) ⟨hb.n0, by have := hb.n1; omega⟩ (fun g hg => by have := sum_mem hg; omega) (by have := hb.gl; omega)
end
/-! ### Slices that read as cells -/
structure Rv (w : World) (v : Value) (C : List CL) : Prop where
  ex : ∃ a c, v = .slice a C.length c ∧ ∀ i (hi : i < C.length), ∃ g o, a = some ⟨g, o, none⟩ ∧ g < w.heap.size ∧ w.cell? ⟨g, o + i * 2, none⟩ = some (.string C[i].1) ∧ w.cell? ⟨g, o + i * 2 + 1, none⟩ = some (.string C[i].2)
theorem Rv.bel {w w' : World} {v : Value} {C : List CL} (h : Rv w v C) (hb : Below w.heap.size w w') : Rv w' v C := by
  obtain ⟨a, c, e, h⟩ := h.ex
  refine ⟨a, c, e, fun i hi => ?_⟩
  obtain ⟨g, o, ea, hg, h1, h2⟩ := h i hi
  exact ⟨g, o, ea, Nat.lt_of_lt_of_le hg hb.size, by rw [World.cell?_of_block (hb.block g hg)]; exact h1, by rw [World.cell?_of_block (hb.block g hg)]; exact h2⟩
theorem Rv.at_ {w : World} {a : Option Addr} {n c : Nat} {C : List CL} (h : Rv w (.slice a n c) C) {i : Nat} (hi : i < C.length) : ∃ g o, a = some ⟨g, o, none⟩ ∧ g < w.heap.size ∧ w.cell? ⟨g, o + i * 2, none⟩ = some (.string C[i].1) ∧ w.cell? ⟨g, o + i * 2 + 1, none⟩ = some (.string C[i].2) := by
  obtain ⟨a', c', e, hh⟩ := h.ex
  cases e
  exact hh i hi
theorem Rv.of_row {w : World} {v : Value} {C : List CL} (h : Row w 41 2 v (C.map encC)) : Rv w v C := by
  obtain ⟨a, c, e, _⟩ := h.sl
  rw [List.length_map] at e
  refine ⟨a, c, e, fun i hi => ?_⟩
  subst e
  have h2 : Row w 41 2 (.slice a C.length c) (C.map encC) := h
  obtain ⟨g, ea, hg, hat⟩ := h2.at_ (i := i) (by rw [List.length_map]; exact hi)
  have hra := (hat w rfl).1
  rw [List.getElem_map] at hra
  exact ⟨g, 0, ea, hg, by have := hra 0 _ rfl; simpa using this, by have := hra 1 _ rfl; simpa using this⟩
def eqC (x y : CL) : Bool := (x.1.toList == y.1.toList) && ((x.2.toList == y.2.toList) && true)
theorem tl_eq {a b : ByteArray} : (a.toList == b.toList) = true ↔ a = b := by
  rw [beq_iff_eq, ByteArray.toList_eq, ByteArray.toList_eq]
  exact ⟨ba_eq, fun h => by rw [h]⟩
theorem eqC_iff {x y : CL} : eqC x y = true ↔ x = y := by
  unfold eqC
  rw [Bool.and_true, Bool.and_eq_true, tl_eq, tl_eq]
  exact ⟨fun h => Prod.ext h.1 h.2, fun h => by rw [h]; exact ⟨rfl, rfl⟩⟩
theorem eqlsC (w : World) (x y : CL) : (binOp .eql 41 (.agg #[.string x.1, .string x.2]) (.agg #[.string y.1, .string y.2])).run Try.prog w = .ok (.bool (eqC x y)) w ∧ (binOp .neq 41 (.agg #[.string x.1, .string x.2]) (.agg #[.string y.1, .string y.2])).run Try.prog w = .ok (.bool (!eqC x y)) w := by
  refine eql_of (by kernel_rfl) (by kernel_rfl) (fs := [⟨ "Key", 9, 0, false, "", "", 0⟩, ⟨ "Val", 9, 1, false, "", "", 16⟩]) (by kernel_rfl) ?_
  exact eq_field w 9998 (by decide) (by kernel_rfl) rfl rfl (run_equalIn_string w 9998 _ _ _ Try.underlying9) (eq_field w 9998 (by decide) (by kernel_rfl) rfl rfl (run_equalIn_string w 9998 _ _ _ Try.underlying9) (eq_none w _ _ _))
/-- Are two lists one? -/
def sameK (K L : List CL) : Bool := decide (K = L)
theorem sameK_len {K L : List CL} (h : K.length ≠ L.length) : sameK K L = false := by
  unfold sameK
  exact decide_eq_false fun e => h (by rw [e])
theorem sameK_at {K L : List CL} {i : Nat} (h1 : i < K.length) (h2 : i < L.length) (h : K[i] ≠ L[i]) : sameK K L = false := by
  unfold sameK
  exact decide_eq_false fun e => h (by subst e; rfl)
theorem sameK_all {K L : List CL} (h : K.length = L.length) (h2 : ∀ j (h1 : j < K.length) (h2 : j < L.length), K[j] = L[j]) : sameK K L = true := by
  unfold sameK
  exact decide_eq_true (List.ext_getElem h h2)
section
variable {w : World} {v1 v2 : Value} {K L : List CL}
set_option maxHeartbeats 2000000 in
theorem same_any (h1 : Rv w v1 K) (h2 : Rv w v2 L) (hn : K.length ≤ 100000) (hn2 : L.length ≤ 100000) : Calls Try.prog 9 #[v1, v2] w fun e w' => e = .returned (.bool (sameK K L)) ∧ Below w.heap.size w w' := by
  obtain ⟨a0, c0, rfl, -⟩ := h1.ex
  obtain ⟨a1, c1, rfl, -⟩ := h2.ex
  have H1 : Hid (Rv w (.slice a0 K.length c0) K) := h1
  have H2 : Hid (Rv w (.slice a1 L.length c1) L) := h2
  have mixed : Try.prog.follows .mixedOrders = true := by kernel_rfl
  clear h1 h2
  by_cases hl : K.length = L.length
  · obtain ⟨m, hm⟩ : ∃ m, L.length = m := ⟨_, rfl⟩
    have Hm : Hid (K.length = m ∧ L.length = m) := ⟨hl.trans hm, hm⟩
    rw [hl] at H1 hn ⊢
    rw [hm] at H1 H2 hn ⊢
    clear hm hl hn2
    go_enter Try.func9, Try.ntmps9
    go_wp2
    go_loopg [5] m (fun k vi wr => ∃ i : Nat, vi = .int .i64 (i : Int) ∧ m - i ≤ k ∧ i ≤ m ∧ Below w.heap.size w wr ∧ Hid (∀ j (h1 : j < K.length) (h2 : j < L.length), j < i → K[j] = L[j]))
    case atStart => exact ⟨0, rfl, by omega, by omega, Below.refl _ _, fun j _ _ hj => by omega⟩
    case round =>
      obtain ⟨i, rfl, hk, him, hB, HA⟩ := hrel
      have HB : Hid (Below w.heap.size w wr) := hB
      by_cases hlt : i < m
      · have hltI : (i : Int) < (m : Int) := by omega
        have hi1 : i < K.length := by have := Hm.out; omega
        have hi2 : i < L.length := by have := Hm.out; omega
        obtain ⟨g, o, rfl, _, c0', c1'⟩ := (H1.out.bel HB.out).at_ hi1
        obtain ⟨g', o', rfl, _, e0', e1'⟩ := (H2.out.bel HB.out).at_ hi2
        have d0 : wr.drew.cell? ⟨g, o + i * 2, none⟩ = some (.string K[i].1) := c0'
        have d1 : wr.drew.cell? ⟨g, o + i * 2 + 1, none⟩ = some (.string K[i].2) := c1'
        have f0 : wr.drew.cell? ⟨g', o' + i * 2, none⟩ = some (.string L[i].1) := e0'
        have f1 : wr.drew.cell? ⟨g', o' + i * 2 + 1, none⟩ = some (.string L[i].2) := e1'
        have heq : ∀ wx, (binOp .neq 41 (.agg #[.string K[i].1, .string K[i].2]) (.agg #[.string L[i].1, .string L[i].2])).run Try.prog wx = .ok (.bool (!eqC K[i] L[i])) wx := fun wx => (eqlsC wx K[i] L[i]).2
        have HL : Hid (eqC K[i] L[i] = true ↔ K[i] = L[i]) := eqC_iff
        generalize hl : eqC K[i] L[i] = bb at heq HL
        clear hl hB
        cases bb with
        | true =>
          have HT : Hid (K[i] = L[i]) := HL.out.1 rfl
          clear HL
          generalize K[i].1 = ka at c0' d0 heq
          generalize K[i].2 = kb at c1' d1 heq
          generalize L[i].1 = kc at e0' f0 heq
          generalize L[i].2 = kd at e1' f1 heq
          go_wp2_with fail
          go_big_region
          all_goals go_wp2
          go_roundg (m - (i + 1))
          case measure => omega
          case rel => exact ⟨i + 1, by first | rfl | go_num, Nat.le_refl _, by omega, bdr HB.out 1, fun j h1 h2 hj => by
            rcases Nat.lt_or_ge j i with h3 | h3
            · exact HA.out j h1 h2 h3
            · obtain rfl : j = i := by omega
              exact HT.out⟩
        | false =>
          have HT : Hid (sameK K L = false) := sameK_at hi1 hi2 (fun h => by have := HL.out.2 h; cases this)
          clear HL
          generalize K[i].1 = ka at c0' d0 heq
          generalize K[i].2 = kb at c1' d1 heq
          generalize L[i].1 = kc at e0' f0 heq
          generalize L[i].2 = kd at e1' f1 heq
          go_wp2_with fail
          go_big_region
          all_goals go_wp2
          go_ret
          exact ⟨by rw [HT.out]; rfl, bdr HB.out 1⟩
      · have hltI : ¬ (i : Int) < (m : Int) := by omega
        have HT : Hid (sameK K L = true) := sameK_all (Hm.out.1.trans Hm.out.2.symm) (fun j h1 h2 => HA.out j h1 h2 (by have := Hm.out; omega))
        go_wp2
        go_ret
        exact ⟨by rw [HT.out]; rfl, HB.out⟩
  · have HT : Hid (sameK K L = false) := sameK_len hl
    have hlI : ¬ ((K.length : Int) = (L.length : Int)) := by omega
    clear H1 H2
    generalize K.length = m1 at *
    generalize L.length = m2 at *
    go_enter Try.func9, Try.ntmps9
    go_wp2
    go_ret
    exact ⟨by rw [HT.out]; rfl, Below.refl _ _⟩
end
end Go.Proofs.Ytkcpclmkbmeigab.Fd
