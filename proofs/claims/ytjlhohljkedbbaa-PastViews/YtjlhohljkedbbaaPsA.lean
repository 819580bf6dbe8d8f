/- The developers' past in memory; isMade, New, told. -/
import Derived.Test.YtjlhohljkedbbaaPaG
import Derived.Test.YtjlhohljkedbbaaGp
import Derived.WalkSpells

namespace Go.Proofs.Ytjlhohljkedbbaa.Pa
open Go.RowKit Gm Go.Maps
set_option linter.unusedVariables false
set_option linter.unusedSimpArgs false
set_option maxRecDepth 100000
/-- One that goes on, and the block of its keys' map. -/
structure Dv where
  g : Gn
  b : Nat
  deriving Inhabited
def lkD (L : List Dv) (t : Int) : Option Dv := L.find? fun d => d.g.txn == t
def fL (L : List Dv) : Lit → Option Value
  | .int .i64 t => (lkD L t).map fun d => .int .i64 d.g.last
  | _ => none
def fW (L : List Dv) : Lit → Option Value
  | .int .i64 t => (lkD L t).map fun d => .map (some d.b)
  | _ => none
def lkK (ks : List (ByteArray × Ws)) (k : List UInt8) : Option (ByteArray × Ws) := ks.find? fun p => p.1.data.toList == k
def fK (ks : List (ByteArray × Ws)) : Lit → Option Value
  | .string k => (lkK ks k).map fun p => .agg p.2.A
  | _ => none
theorem KI : Keyed Try.prog 3 := int_keyed Try.underlying3
theorem KS : Keyed Try.prog 9 := string_keyed Try.underlying9
theorem uL : Try.prog.underlying 48 = some (.map 3 3) := Try.underlying48
theorem uW : Try.prog.underlying 49 = some (.map 3 52) := Try.underlying49
theorem uK : Try.prog.underlying 52 = some (.map 9 31) := Try.underlying52
theorem zLv (w : World) : (zeroValue 3).run Try.prog w = .ok (.int .i64 0) w := by kernel_rfl
theorem zWv (w : World) : (zeroValue 52).run Try.prog w = .ok (.map none) w := by kernel_rfl
theorem zKv (w : World) : (zeroValue 31).run Try.prog w = .ok (.agg zW.A) w := by kernel_rfl
/-- The past, its two maps at bl and bw, the keys' maps at the blocks of L; all blocks among W. -/
structure DpI (W : Nat → Prop) (w : World) (pb bl bw : Nat) (L : List Dv) : Prop where
  is : At w pb 51 #[.map (some bl), .map (some bw)]
  la : Mp w 3 bl L.length (fL L)
  wa : Mp w 3 bw L.length (fW L)
  ks : ∀ d ∈ L, Mp w 9 d.b d.g.ks.length (fK d.g.ks)
  nd : L.Pairwise fun a b => a.g.txn ≠ b.g.txn ∧ a.b ≠ b.b
  kn : ∀ d ∈ L, d.g.ks.Pairwise fun a b => a.1.data.toList ≠ b.1.data.toList
  ne : bl ≠ bw ∧ ∀ d ∈ L, d.b ≠ bl ∧ d.b ≠ bw
  w1 : W pb ∧ W bl ∧ W bw
  w2 : ∀ d ∈ L, W d.b
structure Dp (W : Nat → Prop) (w : World) (pb : Nat) (P : List Gn) : Prop where
  ex : ∃ bl bw L, DpI W w pb bl bw L ∧ L.map (·.g) = P
  lt : ∀ j, W j → j < w.heap.size
section
variable {W W' : Nat → Prop} {w w' : World} {pb bl bw : Nat} {L : List Dv} {P : List Gn}
theorem DpI.keep (h : DpI W w pb bl bw L) (hb : ∀ j, W j → w'.heap[j]? = w.heap[j]?) : DpI W w' pb bl bw L :=
  ⟨h.is.keep (hb _ h.w1.1), h.la.keep (hb _ h.w1.2.1), h.wa.keep (hb _ h.w1.2.2), fun d hd => (h.ks d hd).keep (hb _ (h.w2 d hd)), h.nd, h.kn, h.ne, h.w1, h.w2⟩
theorem Dp.keep (h : Dp W w pb P) (hb : ∀ j, W j → w'.heap[j]? = w.heap[j]?) (hs : w.heap.size ≤ w'.heap.size) : Dp W w' pb P := by
  obtain ⟨bl, bw, L, h1, h2⟩ := h.ex
  exact ⟨⟨bl, bw, L, h1.keep hb, h2⟩, fun j hj => Nat.lt_of_lt_of_le (h.lt j hj) hs⟩
theorem Dp.bel (h : Dp W w pb P) (hb : Below w.heap.size w w') : Dp W w' pb P := h.keep (fun j hj => hb.block j (h.lt j hj)) hb.size
theorem lkD_mem {t : Int} {d : Dv} (h : lkD L t = some d) : d ∈ L ∧ d.g.txn = t := ⟨List.mem_of_find?_eq_some h, by simpa using List.find?_some h⟩
theorem isMade_nil (w : World) : Calls Try.prog 14 #[.pointer none] w fun e w' => e = .returned (.bool false) ∧ w' = w := by
  go_enter Try.func14, Try.ntmps14
  go_wp2
  go_ret
  exact ⟨rfl, rfl⟩
theorem neW (w : World) (x : Option Nat) : (binOp .neq 49 (.map x) (.map none)).run Try.prog w = .ok (.bool (!x.isNone)) w := run_neq_map_nil w _ _ _ x uW
theorem isMade_zero {z : Nat} {x : Option Nat} (h : At w z 51 #[.map x, .map none]) : Calls Try.prog 14 #[.pointer (some ⟨z, 0, none⟩)] w fun e w' => e = .returned (.bool false) ∧ w' = w := by
  have c1 := h.c 1
  simp only [List.getElem?_toArray, List.getElem?_cons_succ, List.getElem?_cons_zero] at c1
  clear h
  have hq := neW
  go_enter Try.func14, Try.ntmps14
  go_wp2
  go_ret
  exact ⟨rfl, rfl⟩
theorem isMade_ok {x b : Nat} (h : At w pb 51 #[.map (some x), .map (some b)]) : Calls Try.prog 14 #[.pointer (some ⟨pb, 0, none⟩)] w fun e w' => e = .returned (.bool true) ∧ w' = w := by
  have c1 := h.c 1
  simp only [List.getElem?_toArray, List.getElem?_cons_succ, List.getElem?_cons_zero] at c1
  clear h
  have hq := neW
  go_enter Try.func14, Try.ntmps14
  go_wp2
  go_ret
  exact ⟨rfl, rfl⟩
theorem stP : St 51 2 := ⟨⟨_, Try.underlying51⟩, by kernel_rfl⟩
/-- New. -/
structure NwP (w w' : World) (pb : Nat) : Prop where
  ex : ∃ W, Dp W w' pb [] ∧ ∀ j, W j → w.heap.size ≤ j
theorem New_ok (w : World) : Calls Try.prog 5 #[] w fun e w' => e = .returned (.pointer (some ⟨w.heap.size + 2, 0, none⟩)) ∧ Below w.heap.size w w' ∧ NwP w w' (w.heap.size + 2) := by
  have hm : ∀ t w, (Instr.makeMap t none).run Try.prog w = .ok (.map (some w.heap.size)) (w.alloc (.map #[] 0)) := fun t w => rfl
  go_enter Try.func5, Try.ntmps5
  go_wp2
  go_ret
  have m1 := Mp.made w 3
  have m2 := Mp.made (w.alloc (.map #[] 0)) 3
  have b2 := bl1 (w := w.alloc (.map #[] 0)) (.map #[] 0)
  have b3 := bl1 (w := (w.alloc (.map #[] 0)).alloc (.map #[] 0)) (.cells #[.map (some w.heap.size), .map (some (w.heap.size + 1))] 51)
  refine ⟨rfl, thn (thn (bl1 _) b2) b3, fun j => w.heap.size ≤ j ∧ j < w.heap.size + 3, ⟨⟨w.heap.size, w.heap.size + 1, [], ⟨?_, ?_, ?_, fun d hd => (by cases hd), List.Pairwise.nil, fun d hd => (by cases hd), ⟨by omega, fun d hd => (by cases hd)⟩, ⟨⟨by omega, by omega⟩, ⟨by omega, by omega⟩, by omega, by omega⟩, fun d hd => (by cases hd)⟩, rfl⟩, fun j hj => ?_⟩, fun j hj => hj.1⟩
  · have := At.new ((w.alloc (.map #[] 0)).alloc (.map #[] 0)) #[.map (some w.heap.size), .map (some (w.heap.size + 1))] 51
    simpa using this
  · exact ((m1.bel b2).bel b3).ext fun l => by cases l <;> first | rfl | (rename_i q a; cases q <;> rfl)
  · have e : (w.alloc (.map #[] 0)).heap.size = w.heap.size + 1 := by simp
    rw [e] at m2
    exact (m2.bel b3).ext fun l => by cases l <;> first | rfl | (rename_i q a; cases q <;> rfl)
  · have := hj.2
    simpa using this
/-- told. -/
theorem told_any (r : Rc) (I T : Value) (w : World) : Calls Try.prog 15 #[.agg (r.A I T)] w fun e w' => e = .returned (.tuple #[.agg ((tellsM r).getD zW).A, .bool (tellsM r).isSome]) ∧ Below w.heap.size w w' := by
  obtain ⟨kd, tx, pv, pg, ac, ky, ol, nw, nx, ep, nd⟩ := r
  have h2 := stW
  have KK : Hid (∀ wx b1 w1 w2 b2, New wx w1 b1 29 (Rc.A ⟨kd, tx, pv, pg, ac, ky, ol, nw, nx, ep, nd⟩ I T) → New w1 w2 b2 31 zW.A → w2.cell? ⟨b1, 0, none⟩ = some (.int .i64 kd) ∧ w2.cell? ⟨b1, 6, none⟩ = some (.string ol)) := fun wx b1 w1 w2 b2 N1 N2 => ⟨(N1.is.bel N2.bel).c 0, (N1.is.bel N2.bel).c 6⟩
  have BB : Hid (∀ wx b1 w1 w2 b2 w3 A, New wx w1 b1 29 (Rc.A ⟨kd, tx, pv, pg, ac, ky, ol, nw, nx, ep, nd⟩ I T) → New w1 w2 b2 31 zW.A → Put w2 w3 b2 31 A → Below wx.heap.size wx w3) := fun wx b1 w1 w2 b2 w3 A N1 N2 P3 => N1.bel.trans ((N2.bel.trans ((P3.fr (· = b2) rfl).bel (fun j hj => by rw [hj]; rw [N2.eq]; exact Nat.le_refl _) N2.bel.size)).mono N1.bel.size)
  by_cases h3 : kd = 3
  · subst h3
    go_enter Try.func15, Try.ntmps15
    go_wp2_with first
      | (refine wpList_box_at (A := Rc.A ⟨_, tx, pv, pg, ac, ky, ol, nw, nx, ep, nd⟩ I T) _ rfl _ rfl rfl ?_; intro w1 b1 N1)
      | (refine wpList_new_at (A := zW.A) _ zKv rfl rfl ?_; intro w2 b2 N2; obtain ⟨k0, k6⟩ := KK.out _ _ _ _ _ N1 N2)
      | (refine wpList_put_at (A := zW.A) (A' := zW.A) h2 _ rfl _ _ rfl rfl rfl N2.is rfl rfl (by decide) ?_; intro w3 P3)
    refine bodyPost_ret (results_at2 h2 rfl _ _ rfl P3.is rfl) rfl ?_
    exact ⟨rfl, BB.out _ _ _ _ _ _ _ N1 N2 P3⟩
  · by_cases h4 : kd = 4 ∨ kd = 5
    · have e1 : tellsM ⟨kd, tx, pv, pg, ac, ky, ol, nw, nx, ep, nd⟩ = some ⟨ol, true⟩ := by simp only [tellsM]; rw [if_neg h3, if_pos h4]
      rw [e1]
      rcases h4 with rfl | rfl
      all_goals
        go_enter Try.func15, Try.ntmps15
        go_wp2_with first
          | (refine wpList_box_at (A := Rc.A ⟨_, tx, pv, pg, ac, ky, ol, nw, nx, ep, nd⟩ I T) _ rfl _ rfl rfl ?_; intro w1 b1 N1)
          | (refine wpList_new_at (A := zW.A) _ zKv rfl rfl ?_; intro w2 b2 N2; obtain ⟨k0, k6⟩ := KK.out _ _ _ _ _ N1 N2)
          | (refine wpList_put_at (A := zW.A) (A' := Ws.A ⟨ol, true⟩) h2 _ rfl _ _ rfl rfl rfl N2.is rfl rfl (by intro v hv; simp [Ws.A] at hv; rcases hv with rfl | rfl <;> rfl) ?_; intro w3 P3)
        refine bodyPost_ret (results_at2 h2 rfl _ _ rfl P3.is rfl) rfl ?_
        exact ⟨rfl, BB.out _ _ _ _ _ _ _ N1 N2 P3⟩
    · have e1 : tellsM ⟨kd, tx, pv, pg, ac, ky, ol, nw, nx, ep, nd⟩ = none := by simp only [tellsM]; rw [if_neg h3, if_neg h4]
      rw [e1]
      have h5 : ¬ kd = 4 := fun e => h4 (Or.inl e)
      have h6 : ¬ kd = 5 := fun e => h4 (Or.inr e)
      clear e1 h4
      go_enter Try.func15, Try.ntmps15
      go_wp2_with first
        | (refine wpList_box_at (A := Rc.A ⟨_, tx, pv, pg, ac, ky, ol, nw, nx, ep, nd⟩ I T) _ rfl _ rfl rfl ?_; intro w1 b1 N1)
        | (refine wpList_new_at (A := zW.A) _ zKv rfl rfl ?_; intro w2 b2 N2; obtain ⟨k0, k6⟩ := KK.out _ _ _ _ _ N1 N2)
        | (refine wpList_put_at (A := zW.A) (A' := zW.A) h2 _ rfl _ _ rfl rfl rfl N2.is rfl rfl (by decide) ?_; intro w3 P3)
      refine bodyPost_ret (results_at2 h2 rfl _ _ rfl P3.is rfl) rfl ?_
      exact ⟨rfl, BB.out _ _ _ _ _ _ _ N1 N2 P3⟩
end
end Go.Proofs.Ytjlhohljkedbbaa.Pa
