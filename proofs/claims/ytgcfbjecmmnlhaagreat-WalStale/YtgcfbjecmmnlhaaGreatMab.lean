/- A strings.Builder, in a block of its own (Bo) and in a log's field (Bf): its calls. The small callees of the layer pack: isWidth and limit, for every argument that is named. -/
import Derived.Test.YtgcfbjecmmnlhaaGreatMaa
import Derived.Shelf.RegionOpenPlain
import Derived.Lib.Walk
import Derived.Lib.Builder
import Derived.Lib.UnsafeStr
import Derived.Lib.SmallJoins
import Derived.Laws.Externs
import Derived.BigRegion
import Derived.Test.YtgcfbjecmmnlhaaGreatProg
import Derived.WalkKit
import Derived.ProofKit
import Derived.WalkSpells
import Derived.WalkLawsBesides
import Derived.Deep.QuietTactic
import Derived.BigQuiet
namespace Go.Proofs.YtgcfbjecmmnlhaaGreat
open Go.RowKit Go.Maps Go.ChangeMaps
set_option linter.unusedVariables false
set_option linter.unusedSimpArgs false
set_option maxRecDepth 100000

/-- Rows of bytes. -/
def is5 : Obj → Prop
  | .cells _ t _ => t = 5
  | _ => False
theorem is5_L {B : Nat} {w w' : World} (h : Kp is5 B w w') : Kp isL B w w' := h.mono (fun o e => by
  cases o with
  | cells cs t fz => exact Or.inr (Or.inl e)
  | _ => exact e)
/-- Rows of bytes, and logs. -/
def isT : Obj → Prop
  | .cells _ t _ => t = 5 ∨ t = 87
  | _ => False
theorem isT_L {B : Nat} {w w' : World} (h : Kp isT B w w') : Kp isL B w w' := h.mono (fun o e => by
  cases o with
  | cells cs t fz => exact Or.inr e
  | _ => exact e)
/-- Rows of bytes, and builders. -/
def isB : Obj → Prop
  | .cells _ t _ => t = 5 ∨ t = 85
  | _ => False
theorem infoU8 : (Tryz.prog.info? 5).map (fun i => (i.zero, i.size, i.bytes)) = some (some (.int .u8 0), 1, 1) := by kernel_rfl
theorem cellsU8 : Tryz.prog.cellsOf 5 = 1 := by kernel_rfl
theorem infoBld : (Tryz.prog.info? 85).map (·.size) = some 2 := by kernel_rfl
theorem setSame {w : World} {g i : Nat} {cs : Array Value} {t : TypeId} {fr : Nat × Nat} {v : Value} (h : w.heap[g]? = some (.cells cs t fr)) (hv : cs[i]? = some v) : w.setCell ⟨g, i, none⟩ v = w := by
  rw [setCell_eq_setRow w g i cs t fr v h]
  have : cs.setIfInBounds i v = cs := by
    apply Array.ext
    · simp
    · intro j h1 h2
      rw [Array.getElem_setIfInBounds]
      split
      · rename_i e
        subst e
        exact (Array.getElem?_eq_some_iff.1 hv).2.symm
      · rfl
  rw [this, setRow_self w g cs t fr h]
theorem ownF_slice {w : World} {B n : Nat} {v : Value} {xs : List Value} (h : w.ownsRowF B 5 1 v n xs) : ∃ ao cap, v = .slice ao n cap := by
  rcases h.2 with ⟨hv, h0⟩ | ⟨g, cap, cur, fz, hv, _⟩
  · exact ⟨none, 0, by rw [hv, h0]⟩
  · exact ⟨_, _, hv⟩
theorem ownF_of {w w' : World} {B n : Nat} {v : Value} {xs : List Value} (h : w.ownsRowF B 5 1 v n xs) (hb : ∀ (k : Nat) (cur : Array Value) (fz : Nat × Nat), w.heap[k]? = some (Obj.cells cur 5 fz) → w'.heap[k]? = some (Obj.cells cur 5 fz)) : w'.ownsRowF B 5 1 v n xs := by
  refine ⟨h.1, ?_⟩
  rcases h.2 with hn | ⟨g, cap, cur, fz, hv, hbg, hg, rest⟩
  · exact .inl hn
  · exact .inr ⟨g, cap, cur, fz, hv, hbg, hb _ _ _ hg, rest⟩
theorem ownF_kp {A : Obj → Prop} {B B' : Nat} {w w' : World} {n : Nat} {v : Value} {xs : List Value} (h : w.ownsRowF B 5 1 v n xs) (hk : Kp A B' w w') (hA : ∀ cur fz, ¬ A (.cells cur 5 fz)) : w'.ownsRowF B 5 1 v n xs :=
  ownF_of h (fun k cur fz e => hk.block k _ e (hA cur fz))
theorem ownF_below {B : Nat} {w w' : World} {n : Nat} {v : Value} {xs : List Value} (h : w.ownsRowF B 5 1 v n xs) (hk : Below w.heap.size w w') : w'.ownsRowF B 5 1 v n xs :=
  ownF_of h (fun k cur fz e => (hk.block k (lt_of_some e)).trans e)
theorem ownF_ne {w : World} {B : Nat} {T : TypeId} {v : Value} {n : Nat} {xs : List Value} {b : Nat} {cs : Array Value} {fr : Nat × Nat} (hown : w.ownsRowF B 5 1 v n xs) (hb : w.heap[b]? = some (.cells cs T fr)) (hT : T ≠ 5) : v.ownBlock ≠ some b := Lib.ownBlock_neF hown hb hT
/-- An append onto the buffer turns its row alone. -/
theorem kp_grown {A : Obj → Prop} {w w' : World} {B n : Nat} {v : Value} {xs : List Value} (h : w.ownsRowF B 5 1 v n xs) (hg : w.grownBy w' v.ownBlock) (hB : B ≤ w.heap.size) (hA : ∀ cur fz, A (.cells cur 5 fz)) : Kp A B w w' := by
  refine ⟨(Below.refl B w).grown hg hB (fun k hk => (h.lt k hk).1), fun k o e hn => ?_⟩
  refine (hg.block k (lt_of_some e) (fun e2 => ?_)).trans e
  rcases h.2 with ⟨rfl, _⟩ | ⟨g, cap, cur, fz, rfl, _, hgg, _⟩
  · simp [Value.ownBlock] at e2
  · simp only [Value.ownBlock, Option.some.injEq] at e2
    subst e2
    rw [hgg] at e
    cases e
    exact hn (hA _ _)
theorem kp_freeze {A : Obj → Prop} {w : World} {B g n : Nat} {cur : Array Value} {fz : Nat × Nat} (hg : w.heap[g]? = some (.cells cur 5 fz)) (hB : B ≤ g) (hA : ∀ cur fz, A (.cells cur 5 fz)) : Kp A B w (w.freeze ⟨g, 0, none⟩ n) := by
  refine ⟨Lib.below_freeze (Below.refl B w) (p := ⟨g, 0, none⟩) hB _, fun k o e hn => ?_⟩
  unfold World.freeze
  split
  · exact e
  · by_cases hk : g = k
    · subst hk
      rw [hg] at e
      cases e
      exact absurd (hA _ _) hn
    · simp only [Array.getElem?_modify]
      rw [if_neg hk]
      exact e
theorem ownF_freeze {w : World} {B g n cap : Nat} {xs : List Value} (h : w.ownsRowF B 5 1 (.slice (some ⟨g, 0, none⟩) n cap) n xs) : (w.freeze ⟨g, 0, none⟩ n).ownsRowF B 5 1 (.slice (some ⟨g, 0, none⟩) n cap) n xs := by
  unfold World.freeze
  split
  · exact h
  · refine ⟨h.1, ?_⟩
    rcases h.2 with ⟨hv, _⟩ | ⟨g', cap', cur, fz, hv, hbg, hg, hfz, rest⟩
    · cases hv
    · injection hv with ha _ hcap
      injection ha with ha
      injection ha with hgg _ _
      subst hgg
      subst hcap
      obtain ⟨lo, hi⟩ := fz
      refine .inr ⟨g, _, cur, (if lo == hi then (0, 0 + n) else (min lo 0, max hi (0 + n))), rfl, hbg, ?_, ?_, rest⟩
      · simp [Array.getElem?_modify, hg]
      · simp only at hfz
        split <;> simp <;> omega

/-! ### Bo -/
theorem Bo_lies : liesAt Tryz.prog Tryz.prog.depth 85 (2 / Tryz.prog.cellsOf 85) 0 85 1 = true := by kernel_rfl
section
variable {b : Nat} {p v : Value} {w : World}
set_option maxHeartbeats 1000000 in
theorem Bo_copyCheck (h : w.heap[b]? = some (.cells #[p, v] 85 (0, 0))) (hp : p = .pointer none ∨ p = (.pointer (some ⟨b, 0, none⟩))) : Calls Tryz.prog 90 #[(.pointer (some ⟨b, 0, none⟩))] w fun e w' => e = .returned (.tuple #[]) ∧ w' = w.setCell ⟨b, 0, none⟩ (.pointer (some ⟨b, 0, none⟩)) := by
  obtain ⟨j, hj, hjs⟩ := Option.map_eq_some_iff.1 infoBld
  have c0 : w.cell? ⟨b, 0, none⟩ = some p := by rw [Lib.cell_of_heap h]; rfl
  have hsh : w.shape? b = some (85, 2) := by simp [World.shape?, h]
  have hfz : w.frozen? ⟨b, 0, none⟩ = false := Lib.frozen_of_heap h 0
  rcases hp with rfl | rfl
  · go_enter Tryz.func90, Tryz.ntmps90
    go_wp2
    rw [Lib.run_to_unsafe w ⟨b, 0, none⟩ Tryz.underlying82 Tryz.underlying157 hj (by rw [hjs]; decide) hsh (by show 0 < 2; omega)]
    simp only [Result.andThen]
    rw [Oper.upon_value]
    go_wp2
    rw [run_callFunc_extern Tryz.func111 (by kernel_rfl) (by kernel_rfl) (by kernel_rfl) (e := Extern.AbiNoEscape.same) (by kernel_rfl)]
    rw [Lib.run_noEscape]
    simp only [Result.andThen]
    rw [Oper.upon_value]
    go_wp2
    rw [Lib.run_from_unsafe w ⟨b, 0, none⟩ Tryz.underlying157 Tryz.underlying82 hj hsh Bo_lies]
    simp only [Result.andThen]
    rw [Oper.upon_value]
    go_wp2
    go_end0
    exact ⟨rfl, rfl⟩
  · go_enter Tryz.func90, Tryz.ntmps90
    go_wp2
    rw [Lib.run_neq_ptr_same w _ Tryz.underlying82 hj]
    go_wp2
    go_end0
    exact ⟨rfl, (setSame h rfl).symm⟩
theorem Bo_Len {n : Nat} (ao : Option Addr) (cap : Nat) (h : w.heap[b]? = some (.cells #[p, (.slice ao n cap)] 85 (0, 0))) : Calls Tryz.prog 60 #[(.pointer (some ⟨b, 0, none⟩))] w fun e w' => e = .returned (.int .i64 (n : Int)) ∧ w' = w := by
  have c1 : w.cell? ⟨b, 1, none⟩ = some (.slice ao n cap) := by rw [Lib.cell_of_heap h]; rfl
  go_enter Tryz.func60, Tryz.ntmps60
  go_wp2
  go_ret
  exact ⟨rfl, rfl⟩
set_option maxHeartbeats 2000000 in
theorem Bo_WriteString {B : Nat} {xs : List Value} {n : Nat} (h : w.heap[b]? = some (.cells #[p, v] 85 (0, 0))) (hp : p = .pointer none ∨ p = (.pointer (some ⟨b, 0, none⟩))) (hown : w.ownsRowF B 5 1 v n xs) (s : ByteArray) (hlen : n + s.size ≤ 140737488355328) (hB : B ≤ b) (hBw : B ≤ w.heap.size) :
    Calls Tryz.prog 71 #[(.pointer (some ⟨b, 0, none⟩)), .string s] w fun e w' => (∃ v', w'.heap[b]? = some (.cells #[(.pointer (some ⟨b, 0, none⟩)), v'] 85 (0, 0)) ∧ w'.ownsRowF B 5 1 v' (n + s.size) (xs ++ Lib.strCells s)) ∧ e = .returned (.tuple #[.int .i64 s.size, .nilIface]) ∧ Kp isB B w w' := by
  obtain ⟨i0, hi, hz0, hz1, hz2⟩ := info_parts infoU8
  have CC : Hid (Calls Tryz.prog 90 #[(.pointer (some ⟨b, 0, none⟩))] w fun e w' => e = .returned (.tuple #[]) ∧ w' = w.setCell ⟨b, 0, none⟩ (.pointer (some ⟨b, 0, none⟩))) := Bo_copyCheck h hp
  have hb1 : (w.setCell ⟨b, 0, none⟩ (.pointer (some ⟨b, 0, none⟩))).heap[b]? = some (.cells #[(.pointer (some ⟨b, 0, none⟩)), v] 85 (0, 0)) := Joins.block_setCell h _
  have ho1 : (w.setCell ⟨b, 0, none⟩ (.pointer (some ⟨b, 0, none⟩))).ownsRowF B 5 1 v n xs := hown.kept (row := some b) ⟨rfl, rfl, rfl, by simp [World.setCell], fun k _ hk => Below.heap_setCell _ _ _ _ (fun e => hk (by simp [e]))⟩ (Or.inr (ownF_ne hown h (by decide)))
  have k1 : Kp isB B w (w.setCell ⟨b, 0, none⟩ (.pointer (some ⟨b, 0, none⟩))) := ⟨(Below.refl B w).setCell (p := ⟨b, 0, none⟩) hB _, fun k o e hn => by
    by_cases hk : b = k
    · subst hk; rw [h] at e; cases e; exact absurd (by simp [isB]) hn
    · rw [Below.heap_setCell _ _ _ _ (fun e => hk e.symm)]; exact e⟩
  have hz : (w.setCell ⟨b, 0, none⟩ (.pointer (some ⟨b, 0, none⟩))).heap.size = w.heap.size := by simp [World.setCell]
  have H : Hid _ := h
  clear h
  generalize hw1 : w.setCell ⟨b, 0, none⟩ (.pointer (some ⟨b, 0, none⟩)) = w1 at *
  have c0 : w1.cell? ⟨b, 0, none⟩ = some (.pointer (some ⟨b, 0, none⟩)) := by rw [Lib.cell_of_heap hb1]; rfl
  have c1 : w1.cell? ⟨b, 1, none⟩ = some v := by rw [Lib.cell_of_heap hb1]; rfl
  clear hw1
  go_enter Tryz.func71, Tryz.ntmps71
  go_wp2_with (first
    | (go_at_call 90; refine CC.out.mono ?_; rintro e w' ⟨rfl, rfl⟩)
    | (at_builtin; refine Lib.wpList_append_own_stringF _ rfl _ _ 83 9 rfl B 5 i0 Tryz.underlying83 Tryz.underlying9 hi hz0 hz1 hz2 _ _ _ rfl ho1 s rfl ?c3 ?c4 ?c5 ?_))
  case c3 => unfold maxLen; omega
  case c4 => omega
  case c5 => omega
  intro v' w2 hown' hgrow _
  have hb2 : w2.heap[b]? = some (.cells #[(.pointer (some ⟨b, 0, none⟩)), v] 85 (0, 0)) := by
    rw [hgrow.block b (lt_of_some hb1) (fun e => ownF_ne ho1 hb1 (by decide) e.symm)]
    exact hb1
  have d0 : w2.cell? ⟨b, 0, none⟩ = some (.pointer (some ⟨b, 0, none⟩)) := by rw [Lib.cell_of_heap hb2]; rfl
  have d1 : w2.cell? ⟨b, 1, none⟩ = some v := by rw [Lib.cell_of_heap hb2]; rfl
  have f1 : w2.frozen? ⟨b, 1, none⟩ = false := Lib.frozen_of_heap hb2 1
  obtain ⟨ao, cap, rfl⟩ := ownF_slice hown'
  go_wp2
  go_ret2
  have k2 := k1.trans (kp_grown (A := isB) ho1 hgrow (by omega) (fun _ _ => by simp [isB]))
  refine ⟨⟨_, Joins.block_setCell hb2 _, ?_⟩, rfl, ?_⟩
  · exact hown'.kept (row := some b) ⟨rfl, rfl, rfl, by simp [World.setCell], fun k _ hk => Below.heap_setCell _ _ _ _ (fun e => hk (by simp [e]))⟩ (Or.inr (ownF_ne hown' hb2 (by decide)))
  · refine k2.trans ⟨(Below.refl B w2).setCell (p := ⟨b, 1, none⟩) hB _, fun k o e hn => ?_⟩
    by_cases hk : b = k
    · subst hk; rw [hb2] at e; cases e; exact absurd (by simp [isB]) hn
    · rw [Below.heap_setCell _ _ _ _ (fun e => hk e.symm)]; exact e
set_option maxHeartbeats 2000000 in
theorem Bo_String {B : Nat} (s : ByteArray) (h : w.heap[b]? = some (.cells #[p, v] 85 (0, 0))) (hown : w.ownsRowF B 5 1 v s.size (Lib.strCells s)) (hBw : B ≤ w.heap.size) :
    Calls Tryz.prog 57 #[(.pointer (some ⟨b, 0, none⟩))] w fun e w' => e = .returned (.string s) ∧ w'.heap[b]? = some (.cells #[p, v] 85 (0, 0)) ∧ w'.ownsRowF B 5 1 v s.size (Lib.strCells s) ∧ Kp is5 B w w' ∧ Ce w w' := by
  have hb := lt_of_some h
  have hUS : ∀ W q, (Builtin.unsafeString_ #[128, 3] 9 #[.pointer q, .int .i64 0]).run Tryz.prog W = .ok (.string .empty) W := fun W q => Lib.run_unsafeString_none W _ _ _ q
  rcases hown.2 with ⟨rfl, h0⟩ | ⟨g, cap, cur, fz, rfl, hbg, hg, hfz, hnc, hcm, hcs, htake⟩
  · have hs : s = ⟨#[]⟩ := by
      apply ByteArray.ext
      exact Array.eq_empty_of_size_eq_zero h0
    subst hs
    have c1 : w.drew.cell? ⟨b, 1, none⟩ = some (.slice none 0 0) := by
      have : w.drew.heap[b]? = some (.cells #[p, (.slice none 0 0)] 85 (0, 0)) := h
      rw [Lib.cell_of_heap this]; rfl
    have hSD : (Builtin.unsafeSliceData_ #[83] 128 #[.slice none 0 0]).run Tryz.prog w.drew = .ok (.pointer none) w.drew := rfl
    have H : Hid _ := h
    have HO : Hid (w.ownsRowF B 5 1 (.slice none 0 0) (⟨#[]⟩ : ByteArray).size (Lib.strCells ⟨#[]⟩)) := hown
    clear h hown h0
    go_enter Tryz.func57, Tryz.ntmps57
    go_wp2
    go_region
    all_goals (go_wp2; go_ret; exact ⟨rfl, H.out, HO.out, ⟨(Below.refl B w).drew, fun k o e _ => e⟩, Ce.of_below (Below.refl _ w).drew⟩)
  · by_cases hc0 : cap = 0
    · subst hc0
      have hz : s.size = 0 := by omega
      have hs : s = ⟨#[]⟩ := by
        apply ByteArray.ext
        exact Array.eq_empty_of_size_eq_zero hz
      subst hs
      have h' : w.heap[b]? = some (.cells #[p, (.slice (some ⟨g, 0, none⟩) 0 0)] 85 (0, 0)) := h
      have c1 : w.drew.cell? ⟨b, 1, none⟩ = some (.slice (some ⟨g, 0, none⟩) 0 0) := by
        have : w.drew.heap[b]? = some (.cells #[p, (.slice (some ⟨g, 0, none⟩) 0 0)] 85 (0, 0)) := h'
        rw [Lib.cell_of_heap this]; rfl
      have hSD : (Builtin.unsafeSliceData_ #[83] 128 #[.slice (some ⟨g, 0, none⟩) 0 0]).run Tryz.prog w.drew = .ok (.pointer (some ⟨w.drew.heap.size, 0, none⟩)) (w.drew.alloc (.view ⟨g, 0, none⟩ 5)) :=
        Lib.run_unsafeSliceData_zero w.drew _ _ 5 Tryz.underlying128 ⟨g, 0, none⟩ 0 (5, cur.size) (by have hg' : w.drew.heap[g]? = some (.cells cur 5 fz) := hg; simp [World.shape?, hg'])
      have c2 : (w.drew.alloc (.view ⟨g, 0, none⟩ 5)).cell? ⟨b, 1, none⟩ = some (.slice (some ⟨g, 0, none⟩) 0 0) := by
        have : (w.drew.alloc (.view ⟨g, 0, none⟩ 5)).heap[b]? = _ := (Lib.alloc_old w.drew _ b hb).trans h'
        rw [Lib.cell_of_heap this]; rfl
      have c3 : (w.alloc (.view ⟨g, 0, none⟩ 5)).drew.cell? ⟨b, 1, none⟩ = some (.slice (some ⟨g, 0, none⟩) 0 0) := c2
      have c0 : w.cell? ⟨b, 1, none⟩ = some (.slice (some ⟨g, 0, none⟩) 0 0) := c1
      have bel : Below w.heap.size w (w.drew.alloc (.view ⟨g, 0, none⟩ 5)) := (Below.refl w.heap.size w).drew.alloc (Nat.le_refl _) _
      have HK : Hid (Kp is5 B w (w.drew.alloc (.view ⟨g, 0, none⟩ 5)) ∧ Ce w (w.drew.alloc (.view ⟨g, 0, none⟩ 5))) := (⟨Kp.of_below bel hBw, Ce.of_below bel⟩ : Kp is5 B w (w.drew.alloc (.view ⟨g, 0, none⟩ 5)) ∧ Ce w (w.drew.alloc (.view ⟨g, 0, none⟩ 5)))
      have HO : Hid ((w.drew.alloc (.view ⟨g, 0, none⟩ 5)).ownsRowF B 5 1 (.slice (some ⟨g, 0, none⟩) 0 0) (⟨#[]⟩ : ByteArray).size (Lib.strCells ⟨#[]⟩)) := ownF_below hown bel
      have HB : Hid ((w.drew.alloc (.view ⟨g, 0, none⟩ 5)).heap[b]? = some (.cells #[p, (.slice (some ⟨g, 0, none⟩) 0 0)] 85 (0, 0))) := (bel.block b hb).trans h'
      clear h h' hown hnc hcm hcs htake hfz hz bel
      go_enter Tryz.func57, Tryz.ntmps57
      go_wp2
      go_region
      all_goals (go_wp2; go_ret; exact ⟨rfl, HB.out, HO.out, HK.out.1, HK.out.2⟩)
    · have c1 : w.drew.cell? ⟨b, 1, none⟩ = some (.slice (some ⟨g, 0, none⟩) s.size cap) := by
        have : w.drew.heap[b]? = some (.cells #[p, (.slice (some ⟨g, 0, none⟩) s.size cap)] 85 (0, 0)) := h
        rw [Lib.cell_of_heap this]; rfl
      have hSD : (Builtin.unsafeSliceData_ #[83] 128 #[.slice (some ⟨g, 0, none⟩) s.size cap]).run Tryz.prog w.drew = .ok (.pointer (some ⟨g, 0, none⟩)) w.drew :=
        Lib.run_unsafeSliceData_row _ _ _ _ _ _ hc0
      by_cases hz : s.size = 0
      · have hs : s = ⟨#[]⟩ := by
          apply ByteArray.ext
          exact Array.eq_empty_of_size_eq_zero hz
        subst hs
        have c1' : w.drew.cell? ⟨b, 1, none⟩ = some (.slice (some ⟨g, 0, none⟩) 0 cap) := c1
        have hSD' : (Builtin.unsafeSliceData_ #[83] 128 #[.slice (some ⟨g, 0, none⟩) 0 cap]).run Tryz.prog w.drew = .ok (.pointer (some ⟨g, 0, none⟩)) w.drew := hSD
        have H : Hid _ := h
        have HO : Hid (w.ownsRowF B 5 1 (.slice (some ⟨g, 0, none⟩) (⟨#[]⟩ : ByteArray).size cap) (⟨#[]⟩ : ByteArray).size (Lib.strCells ⟨#[]⟩)) := hown
        clear h hown hnc hcm hcs htake hfz hz hc0 c1 hSD
        go_enter Tryz.func57, Tryz.ntmps57
        go_wp2
        go_region
        all_goals (go_wp2; go_ret; exact ⟨rfl, H.out, HO.out, ⟨(Below.refl B w).drew, fun k o e _ => e⟩, Ce.of_below (Below.refl _ w).drew⟩)
      · have hl : s.data.toList ≠ [] := fun e => hz (by show s.data.size = 0; rw [← Array.length_toList, e]; rfl)
        have hzl : s.data.toList.length = s.size := Array.length_toList
        have hUS2 : (Builtin.unsafeString_ #[128, 3] 9 #[.pointer (some ⟨g, 0, none⟩), .int .i64 s.size]).run Tryz.prog w.drew = .ok (.string s) (w.drew.freeze ⟨g, 0, none⟩ s.size) := by
          have := Lib.run_unsafeString_row (P := Tryz.prog) w.drew 128 3 9 5 Tryz.underlying128 cellsU8 g cur.size (by have hg' : w.drew.heap[g]? = some (.cells cur 5 fz) := hg; simp [World.shape?, hg']) s.data.toList hl (by omega) (by unfold maxLen at hcm; omega) (fun j x hx => by
            have := hown.cells (g := g) rfl j (.int .u8 x.toNat) (by rw [Lib.strCells_eq]; simp [Lib.byteCells, hx])
            exact this)
          rw [hzl] at this
          exact this
        have hfr : (w.drew.freeze ⟨g, 0, none⟩ s.size).heap[b]? = some (.cells #[p, (.slice (some ⟨g, 0, none⟩) s.size cap)] 85 (0, 0)) := by
          have hgb : g ≠ b := fun e => by subst e; rw [hg] at h; cases h
          unfold World.freeze
          split
          · exact h
          · simp only [Array.getElem?_modify]
            rw [if_neg hgb]
            exact h
        have HB : Hid _ := hfr
        have HO : Hid ((w.drew.freeze ⟨g, 0, none⟩ s.size).ownsRowF B 5 1 (.slice (some ⟨g, 0, none⟩) s.size cap) s.size (Lib.strCells s)) := ownF_freeze (w := w.drew) hown
        have k1 : Kp is5 B w w.drew := ⟨(Below.refl B w).drew, fun k o e _ => e⟩
        have k2 : Kp is5 B w.drew (w.drew.freeze ⟨g, 0, none⟩ s.size) := kp_freeze (w := w.drew) hg hbg (fun _ _ => rfl)
        have HK : Hid (Kp is5 B w (w.drew.freeze ⟨g, 0, none⟩ s.size) ∧ Ce w (w.drew.freeze ⟨g, 0, none⟩ s.size)) := (⟨k1.trans k2, (Ce.of_below (Below.refl _ w).drew).trans (Ce.freeze w.drew g s.size)⟩ : Kp is5 B w (w.drew.freeze ⟨g, 0, none⟩ s.size) ∧ Ce w (w.drew.freeze ⟨g, 0, none⟩ s.size))
        clear hfr k1 k2 h hown hnc hcm hcs htake hfz hz hc0 hUS hl hzl
        go_enter Tryz.func57, Tryz.ntmps57
        go_wp2
        go_region
        all_goals (go_wp2; go_ret; exact ⟨rfl, HB.out, HO.out, HK.out.1, HK.out.2⟩)
end

/-! ### Bf -/
theorem Bf_lies : liesAt Tryz.prog Tryz.prog.depth 87 (10 / Tryz.prog.cellsOf 87) 5 85 1 = true := by kernel_rfl
section
variable {x0 x1 x2 x3 x4 x7 x8 x9 : Value} {b : Nat} {p v : Value} {w : World}
set_option maxHeartbeats 1000000 in
theorem Bf_copyCheck (h : w.heap[b]? = some (.cells #[x0, x1, x2, x3, x4, p, v, x7, x8, x9] 87 (0, 0))) (hp : p = .pointer none ∨ p = (.pointer (some ⟨b, 5, none⟩))) : Calls Tryz.prog 90 #[(.pointer (some ⟨b, 5, none⟩))] w fun e w' => e = .returned (.tuple #[]) ∧ w' = w.setCell ⟨b, 5, none⟩ (.pointer (some ⟨b, 5, none⟩)) := by
  obtain ⟨j, hj, hjs⟩ := Option.map_eq_some_iff.1 infoBld
  have c0 : w.cell? ⟨b, 5, none⟩ = some p := by rw [Lib.cell_of_heap h]; rfl
  have hsh : w.shape? b = some (87, 10) := by simp [World.shape?, h]
  have hfz : w.frozen? ⟨b, 5, none⟩ = false := Lib.frozen_of_heap h 5
  rcases hp with rfl | rfl
  · go_enter Tryz.func90, Tryz.ntmps90
    go_wp2
    rw [Lib.run_to_unsafe w ⟨b, 5, none⟩ Tryz.underlying82 Tryz.underlying157 hj (by rw [hjs]; decide) hsh (by show 5 < 10; omega)]
    simp only [Result.andThen]
    rw [Oper.upon_value]
    go_wp2
    rw [run_callFunc_extern Tryz.func111 (by kernel_rfl) (by kernel_rfl) (by kernel_rfl) (e := Extern.AbiNoEscape.same) (by kernel_rfl)]
    rw [Lib.run_noEscape]
    simp only [Result.andThen]
    rw [Oper.upon_value]
    go_wp2
    rw [Lib.run_from_unsafe w ⟨b, 5, none⟩ Tryz.underlying157 Tryz.underlying82 hj hsh Bf_lies]
    simp only [Result.andThen]
    rw [Oper.upon_value]
    go_wp2
    go_end0
    exact ⟨rfl, rfl⟩
  · go_enter Tryz.func90, Tryz.ntmps90
    go_wp2
    rw [Lib.run_neq_ptr_same w _ Tryz.underlying82 hj]
    go_wp2
    go_end0
    exact ⟨rfl, (setSame h rfl).symm⟩
theorem Bf_Len {n : Nat} (ao : Option Addr) (cap : Nat) (h : w.heap[b]? = some (.cells #[x0, x1, x2, x3, x4, p, (.slice ao n cap), x7, x8, x9] 87 (0, 0))) : Calls Tryz.prog 60 #[(.pointer (some ⟨b, 5, none⟩))] w fun e w' => e = .returned (.int .i64 (n : Int)) ∧ w' = w := by
  have c1 : w.cell? ⟨b, 6, none⟩ = some (.slice ao n cap) := by rw [Lib.cell_of_heap h]; rfl
  go_enter Tryz.func60, Tryz.ntmps60
  go_wp2
  go_ret
  exact ⟨rfl, rfl⟩
set_option maxHeartbeats 2000000 in
theorem Bf_WriteString {B : Nat} {xs : List Value} {n : Nat} (h : w.heap[b]? = some (.cells #[x0, x1, x2, x3, x4, p, v, x7, x8, x9] 87 (0, 0))) (hp : p = .pointer none ∨ p = (.pointer (some ⟨b, 5, none⟩))) (hown : w.ownsRowF B 5 1 v n xs) (s : ByteArray) (hlen : n + s.size ≤ 140737488355328) (hB : B ≤ b) (hBw : B ≤ w.heap.size) :
    Calls Tryz.prog 71 #[(.pointer (some ⟨b, 5, none⟩)), .string s] w fun e w' => (∃ v', w'.heap[b]? = some (.cells #[x0, x1, x2, x3, x4, (.pointer (some ⟨b, 5, none⟩)), v', x7, x8, x9] 87 (0, 0)) ∧ w'.ownsRowF B 5 1 v' (n + s.size) (xs ++ Lib.strCells s)) ∧ e = .returned (.tuple #[.int .i64 s.size, .nilIface]) ∧ Kp isT B w w' := by
  obtain ⟨i0, hi, hz0, hz1, hz2⟩ := info_parts infoU8
  have CC : Hid (Calls Tryz.prog 90 #[(.pointer (some ⟨b, 5, none⟩))] w fun e w' => e = .returned (.tuple #[]) ∧ w' = w.setCell ⟨b, 5, none⟩ (.pointer (some ⟨b, 5, none⟩))) := Bf_copyCheck h hp
  have hb1 : (w.setCell ⟨b, 5, none⟩ (.pointer (some ⟨b, 5, none⟩))).heap[b]? = some (.cells #[x0, x1, x2, x3, x4, (.pointer (some ⟨b, 5, none⟩)), v, x7, x8, x9] 87 (0, 0)) := Joins.block_setCell h _
  have ho1 : (w.setCell ⟨b, 5, none⟩ (.pointer (some ⟨b, 5, none⟩))).ownsRowF B 5 1 v n xs := hown.kept (row := some b) ⟨rfl, rfl, rfl, by simp [World.setCell], fun k _ hk => Below.heap_setCell _ _ _ _ (fun e => hk (by simp [e]))⟩ (Or.inr (ownF_ne hown h (by decide)))
  have k1 : Kp isT B w (w.setCell ⟨b, 5, none⟩ (.pointer (some ⟨b, 5, none⟩))) := ⟨(Below.refl B w).setCell (p := ⟨b, 5, none⟩) hB _, fun k o e hn => by
    by_cases hk : b = k
    · subst hk; rw [h] at e; cases e; exact absurd (by simp [isT]) hn
    · rw [Below.heap_setCell _ _ _ _ (fun e => hk e.symm)]; exact e⟩
  have hz : (w.setCell ⟨b, 5, none⟩ (.pointer (some ⟨b, 5, none⟩))).heap.size = w.heap.size := by simp [World.setCell]
  have H : Hid _ := h
  clear h
  generalize hw1 : w.setCell ⟨b, 5, none⟩ (.pointer (some ⟨b, 5, none⟩)) = w1 at *
  have c0 : w1.cell? ⟨b, 5, none⟩ = some (.pointer (some ⟨b, 5, none⟩)) := by rw [Lib.cell_of_heap hb1]; rfl
  have c1 : w1.cell? ⟨b, 6, none⟩ = some v := by rw [Lib.cell_of_heap hb1]; rfl
  clear hw1
  go_enter Tryz.func71, Tryz.ntmps71
  go_wp2_with (first
    | (go_at_call 90; refine CC.out.mono ?_; rintro e w' ⟨rfl, rfl⟩)
    | (at_builtin; refine Lib.wpList_append_own_stringF _ rfl _ _ 83 9 rfl B 5 i0 Tryz.underlying83 Tryz.underlying9 hi hz0 hz1 hz2 _ _ _ rfl ho1 s rfl ?c3 ?c4 ?c5 ?_))
  case c3 => unfold maxLen; omega
  case c4 => omega
  case c5 => omega
  intro v' w2 hown' hgrow _
  have hb2 : w2.heap[b]? = some (.cells #[x0, x1, x2, x3, x4, (.pointer (some ⟨b, 5, none⟩)), v, x7, x8, x9] 87 (0, 0)) := by
    rw [hgrow.block b (lt_of_some hb1) (fun e => ownF_ne ho1 hb1 (by decide) e.symm)]
    exact hb1
  have d0 : w2.cell? ⟨b, 5, none⟩ = some (.pointer (some ⟨b, 5, none⟩)) := by rw [Lib.cell_of_heap hb2]; rfl
  have d1 : w2.cell? ⟨b, 6, none⟩ = some v := by rw [Lib.cell_of_heap hb2]; rfl
  have f1 : w2.frozen? ⟨b, 6, none⟩ = false := Lib.frozen_of_heap hb2 6
  obtain ⟨ao, cap, rfl⟩ := ownF_slice hown'
  go_wp2
  go_ret2
  have k2 := k1.trans (kp_grown (A := isT) ho1 hgrow (by omega) (fun _ _ => by simp [isT]))
  refine ⟨⟨_, Joins.block_setCell hb2 _, ?_⟩, rfl, ?_⟩
  · exact hown'.kept (row := some b) ⟨rfl, rfl, rfl, by simp [World.setCell], fun k _ hk => Below.heap_setCell _ _ _ _ (fun e => hk (by simp [e]))⟩ (Or.inr (ownF_ne hown' hb2 (by decide)))
  · refine k2.trans ⟨(Below.refl B w2).setCell (p := ⟨b, 6, none⟩) hB _, fun k o e hn => ?_⟩
    by_cases hk : b = k
    · subst hk; rw [hb2] at e; cases e; exact absurd (by simp [isT]) hn
    · rw [Below.heap_setCell _ _ _ _ (fun e => hk e.symm)]; exact e
set_option maxHeartbeats 2000000 in
theorem Bf_String {B : Nat} (s : ByteArray) (h : w.heap[b]? = some (.cells #[x0, x1, x2, x3, x4, p, v, x7, x8, x9] 87 (0, 0))) (hown : w.ownsRowF B 5 1 v s.size (Lib.strCells s)) (hBw : B ≤ w.heap.size) :
    Calls Tryz.prog 57 #[(.pointer (some ⟨b, 5, none⟩))] w fun e w' => e = .returned (.string s) ∧ w'.heap[b]? = some (.cells #[x0, x1, x2, x3, x4, p, v, x7, x8, x9] 87 (0, 0)) ∧ w'.ownsRowF B 5 1 v s.size (Lib.strCells s) ∧ Kp is5 B w w' ∧ Ce w w' := by
  have hb := lt_of_some h
  have hUS : ∀ W q, (Builtin.unsafeString_ #[128, 3] 9 #[.pointer q, .int .i64 0]).run Tryz.prog W = .ok (.string .empty) W := fun W q => Lib.run_unsafeString_none W _ _ _ q
  rcases hown.2 with ⟨rfl, h0⟩ | ⟨g, cap, cur, fz, rfl, hbg, hg, hfz, hnc, hcm, hcs, htake⟩
  · have hs : s = ⟨#[]⟩ := by
      apply ByteArray.ext
      exact Array.eq_empty_of_size_eq_zero h0
    subst hs
    have c1 : w.drew.cell? ⟨b, 6, none⟩ = some (.slice none 0 0) := by
      have : w.drew.heap[b]? = some (.cells #[x0, x1, x2, x3, x4, p, (.slice none 0 0), x7, x8, x9] 87 (0, 0)) := h
      rw [Lib.cell_of_heap this]; rfl
    have hSD : (Builtin.unsafeSliceData_ #[83] 128 #[.slice none 0 0]).run Tryz.prog w.drew = .ok (.pointer none) w.drew := rfl
    have H : Hid _ := h
    have HO : Hid (w.ownsRowF B 5 1 (.slice none 0 0) (⟨#[]⟩ : ByteArray).size (Lib.strCells ⟨#[]⟩)) := hown
    clear h hown h0
    go_enter Tryz.func57, Tryz.ntmps57
    go_wp2
    go_region
    all_goals (go_wp2; go_ret; exact ⟨rfl, H.out, HO.out, ⟨(Below.refl B w).drew, fun k o e _ => e⟩, Ce.of_below (Below.refl _ w).drew⟩)
  · by_cases hc0 : cap = 0
    · subst hc0
      have hz : s.size = 0 := by omega
      have hs : s = ⟨#[]⟩ := by
        apply ByteArray.ext
        exact Array.eq_empty_of_size_eq_zero hz
      subst hs
      have h' : w.heap[b]? = some (.cells #[x0, x1, x2, x3, x4, p, (.slice (some ⟨g, 0, none⟩) 0 0), x7, x8, x9] 87 (0, 0)) := h
      have c1 : w.drew.cell? ⟨b, 6, none⟩ = some (.slice (some ⟨g, 0, none⟩) 0 0) := by
        have : w.drew.heap[b]? = some (.cells #[x0, x1, x2, x3, x4, p, (.slice (some ⟨g, 0, none⟩) 0 0), x7, x8, x9] 87 (0, 0)) := h'
        rw [Lib.cell_of_heap this]; rfl
      have hSD : (Builtin.unsafeSliceData_ #[83] 128 #[.slice (some ⟨g, 0, none⟩) 0 0]).run Tryz.prog w.drew = .ok (.pointer (some ⟨w.drew.heap.size, 0, none⟩)) (w.drew.alloc (.view ⟨g, 0, none⟩ 5)) :=
        Lib.run_unsafeSliceData_zero w.drew _ _ 5 Tryz.underlying128 ⟨g, 0, none⟩ 0 (5, cur.size) (by have hg' : w.drew.heap[g]? = some (.cells cur 5 fz) := hg; simp [World.shape?, hg'])
      have c2 : (w.drew.alloc (.view ⟨g, 0, none⟩ 5)).cell? ⟨b, 6, none⟩ = some (.slice (some ⟨g, 0, none⟩) 0 0) := by
        have : (w.drew.alloc (.view ⟨g, 0, none⟩ 5)).heap[b]? = _ := (Lib.alloc_old w.drew _ b hb).trans h'
        rw [Lib.cell_of_heap this]; rfl
      have c3 : (w.alloc (.view ⟨g, 0, none⟩ 5)).drew.cell? ⟨b, 6, none⟩ = some (.slice (some ⟨g, 0, none⟩) 0 0) := c2
      have c0 : w.cell? ⟨b, 6, none⟩ = some (.slice (some ⟨g, 0, none⟩) 0 0) := c1
      have bel : Below w.heap.size w (w.drew.alloc (.view ⟨g, 0, none⟩ 5)) := (Below.refl w.heap.size w).drew.alloc (Nat.le_refl _) _
      have HK : Hid (Kp is5 B w (w.drew.alloc (.view ⟨g, 0, none⟩ 5)) ∧ Ce w (w.drew.alloc (.view ⟨g, 0, none⟩ 5))) := (⟨Kp.of_below bel hBw, Ce.of_below bel⟩ : Kp is5 B w (w.drew.alloc (.view ⟨g, 0, none⟩ 5)) ∧ Ce w (w.drew.alloc (.view ⟨g, 0, none⟩ 5)))
      have HO : Hid ((w.drew.alloc (.view ⟨g, 0, none⟩ 5)).ownsRowF B 5 1 (.slice (some ⟨g, 0, none⟩) 0 0) (⟨#[]⟩ : ByteArray).size (Lib.strCells ⟨#[]⟩)) := ownF_below hown bel
      have HB : Hid ((w.drew.alloc (.view ⟨g, 0, none⟩ 5)).heap[b]? = some (.cells #[x0, x1, x2, x3, x4, p, (.slice (some ⟨g, 0, none⟩) 0 0), x7, x8, x9] 87 (0, 0))) := (bel.block b hb).trans h'
      clear h h' hown hnc hcm hcs htake hfz hz bel
      go_enter Tryz.func57, Tryz.ntmps57
      go_wp2
      go_region
      all_goals (go_wp2; go_ret; exact ⟨rfl, HB.out, HO.out, HK.out.1, HK.out.2⟩)
    · have c1 : w.drew.cell? ⟨b, 6, none⟩ = some (.slice (some ⟨g, 0, none⟩) s.size cap) := by
        have : w.drew.heap[b]? = some (.cells #[x0, x1, x2, x3, x4, p, (.slice (some ⟨g, 0, none⟩) s.size cap), x7, x8, x9] 87 (0, 0)) := h
        rw [Lib.cell_of_heap this]; rfl
      have hSD : (Builtin.unsafeSliceData_ #[83] 128 #[.slice (some ⟨g, 0, none⟩) s.size cap]).run Tryz.prog w.drew = .ok (.pointer (some ⟨g, 0, none⟩)) w.drew :=
        Lib.run_unsafeSliceData_row _ _ _ _ _ _ hc0
      by_cases hz : s.size = 0
      · have hs : s = ⟨#[]⟩ := by
          apply ByteArray.ext
          exact Array.eq_empty_of_size_eq_zero hz
        subst hs
        have c1' : w.drew.cell? ⟨b, 6, none⟩ = some (.slice (some ⟨g, 0, none⟩) 0 cap) := c1
        have hSD' : (Builtin.unsafeSliceData_ #[83] 128 #[.slice (some ⟨g, 0, none⟩) 0 cap]).run Tryz.prog w.drew = .ok (.pointer (some ⟨g, 0, none⟩)) w.drew := hSD
        have H : Hid _ := h
        have HO : Hid (w.ownsRowF B 5 1 (.slice (some ⟨g, 0, none⟩) (⟨#[]⟩ : ByteArray).size cap) (⟨#[]⟩ : ByteArray).size (Lib.strCells ⟨#[]⟩)) := hown
        clear h hown hnc hcm hcs htake hfz hz hc0 c1 hSD
        go_enter Tryz.func57, Tryz.ntmps57
        go_wp2
        go_region
        all_goals (go_wp2; go_ret; exact ⟨rfl, H.out, HO.out, ⟨(Below.refl B w).drew, fun k o e _ => e⟩, Ce.of_below (Below.refl _ w).drew⟩)
      · have hl : s.data.toList ≠ [] := fun e => hz (by show s.data.size = 0; rw [← Array.length_toList, e]; rfl)
        have hzl : s.data.toList.length = s.size := Array.length_toList
        have hUS2 : (Builtin.unsafeString_ #[128, 3] 9 #[.pointer (some ⟨g, 0, none⟩), .int .i64 s.size]).run Tryz.prog w.drew = .ok (.string s) (w.drew.freeze ⟨g, 0, none⟩ s.size) := by
          have := Lib.run_unsafeString_row (P := Tryz.prog) w.drew 128 3 9 5 Tryz.underlying128 cellsU8 g cur.size (by have hg' : w.drew.heap[g]? = some (.cells cur 5 fz) := hg; simp [World.shape?, hg']) s.data.toList hl (by omega) (by unfold maxLen at hcm; omega) (fun j x hx => by
            have := hown.cells (g := g) rfl j (.int .u8 x.toNat) (by rw [Lib.strCells_eq]; simp [Lib.byteCells, hx])
            exact this)
          rw [hzl] at this
          exact this
        have hfr : (w.drew.freeze ⟨g, 0, none⟩ s.size).heap[b]? = some (.cells #[x0, x1, x2, x3, x4, p, (.slice (some ⟨g, 0, none⟩) s.size cap), x7, x8, x9] 87 (0, 0)) := by
          have hgb : g ≠ b := fun e => by subst e; rw [hg] at h; cases h
          unfold World.freeze
          split
          · exact h
          · simp only [Array.getElem?_modify]
            rw [if_neg hgb]
            exact h
        have HB : Hid _ := hfr
        have HO : Hid ((w.drew.freeze ⟨g, 0, none⟩ s.size).ownsRowF B 5 1 (.slice (some ⟨g, 0, none⟩) s.size cap) s.size (Lib.strCells s)) := ownF_freeze (w := w.drew) hown
        have k1 : Kp is5 B w w.drew := ⟨(Below.refl B w).drew, fun k o e _ => e⟩
        have k2 : Kp is5 B w.drew (w.drew.freeze ⟨g, 0, none⟩ s.size) := kp_freeze (w := w.drew) hg hbg (fun _ _ => rfl)
        have HK : Hid (Kp is5 B w (w.drew.freeze ⟨g, 0, none⟩ s.size) ∧ Ce w (w.drew.freeze ⟨g, 0, none⟩ s.size)) := (⟨k1.trans k2, (Ce.of_below (Below.refl _ w).drew).trans (Ce.freeze w.drew g s.size)⟩ : Kp is5 B w (w.drew.freeze ⟨g, 0, none⟩ s.size) ∧ Ce w (w.drew.freeze ⟨g, 0, none⟩ s.size))
        clear hfr k1 k2 h hown hnc hcm hcs htake hfz hz hc0 hUS hl hzl
        go_enter Tryz.func57, Tryz.ntmps57
        go_wp2
        go_region
        all_goals (go_wp2; go_ret; exact ⟨rfl, HB.out, HO.out, HK.out.1, HK.out.2⟩)
end
end Go.Proofs.YtgcfbjecmmnlhaaGreat

namespace Go.Proofs.YtgcfbjecmmnlhaaGreat.Pk
open Go.RowKit
set_option linter.unusedVariables false
set_option maxRecDepth 100000

theorem isWidth_any (n : Int) (w : World) :
    Calls Tryz.prog 77 #[.int .i64 n] w fun e w' => e = .returned (.bool (decide (1 ≤ n) && decide (n ≤ 6))) ∧ w' = w := by
  by_cases h1 : 1 ≤ n
  · have h1' : decide (1 ≤ n) = true := by simpa using h1
    go_enter Tryz.func77, Tryz.ntmps77
    go_wp2
    go_ret
    exact ⟨by simp [h1], rfl⟩
  · have h1' : decide (1 ≤ n) = false := by simpa using h1
    go_enter Tryz.func77, Tryz.ntmps77
    go_wp2
    go_ret
    exact ⟨by simp, rfl⟩

def limI (k : Nat) : Int := (256 : Int) ^ k
theorem limI_succ (k : Nat) : limI (k + 1) = 256 * limI k := by unfold limI; rw [Int.pow_succ]; omega
theorem limI_bd (k : Nat) (h : k ≤ 6) : 1 ≤ limI k ∧ limI k ≤ 281474976710656 := by
  have : k = 0 ∨ k = 1 ∨ k = 2 ∨ k = 3 ∨ k = 4 ∨ k = 5 ∨ k = 6 := by omega
  rcases this with rfl | rfl | rfl | rfl | rfl | rfl | rfl <;> decide

end Go.Proofs.YtgcfbjecmmnlhaaGreat.Pk
