/- Holds and rows of holds in memory. -/
import Derived.Test.YtkpjamdlpofgcaaLkM
namespace Go.Proofs.Ytkpjamdlpofgcaa
open Go.RowKit
set_option linter.unusedVariables false
set_option linter.unusedSimpArgs false
set_option maxRecDepth 100000

/-- A hold lies whole in block b. -/
structure HdAt (w : World) (b : Nat) (h : Hd) : Prop where
  blk : w.heap[b]? = some (.cells h.A 23)
section
variable {w w' : World} {b c : Nat} {n n' : Hd}
theorem HdAt.c0 (h : HdAt w b n) : w.cell? ⟨b, 0, none⟩ = some (.int .i64 n.x) := Joins.cell_of_block h.blk 0
theorem HdAt.c1 (h : HdAt w b n) : w.cell? ⟨b, 1, none⟩ = some (.int .i64 n.m) := Joins.cell_of_block h.blk 1
theorem HdAt.c2 (h : HdAt w b n) : w.cell? ⟨b, 2, none⟩ = some (.string n.lo) := Joins.cell_of_block h.blk 2
theorem HdAt.c3 (h : HdAt w b n) : w.cell? ⟨b, 3, none⟩ = some (.string n.hi) := Joins.cell_of_block h.blk 3
theorem HdAt.c4 (h : HdAt w b n) : w.cell? ⟨b, 4, none⟩ = some (.bool n.op) := Joins.cell_of_block h.blk 4
theorem HdAt.f (h : HdAt w b n) (i : Nat) : w.frozen? ⟨b, i, none⟩ = false := Joins.unfrozen_of_block h.blk i
theorem HdAt.lt (h : HdAt w b n) : b < w.heap.size := (Array.getElem?_eq_some_iff.1 h.blk).1
theorem HdAt.below (h : HdAt w b n) {B : Nat} (hb : Below B w w') (hB : b < B) : HdAt w' b n := ⟨(hb.block b hB).trans h.blk⟩
theorem HdAt.bel (h : HdAt w b n) (hb : Below w.heap.size w w') : HdAt w' b n := h.below hb h.lt
end
theorem thn {w w1 w2 : World} (h : Below w.heap.size w w1) (k : Below w1.heap.size w1 w2) : Below w.heap.size w w2 := h.trans (k.mono h.size)
theorem info_hd (n : Hd) : (Try.prog.info? 23).map (·.size) = some n.A.size := by
  have : (Try.prog.info? 23).map (·.size) = some 5 := by kernel_rfl
  exact this
def zH : Hd := ⟨0, 0, ByteArray.empty, ByteArray.empty, false⟩
theorem zero_hd (w : World) : (zeroValue 23).run Try.prog w = .ok (.agg zH.A) w := by kernel_rfl
structure NewH (w w' : World) (b : Nat) (n : Hd) : Prop where
  hd : HdAt w' b n
  below : Below w.heap.size w w'
  eq : b = w.heap.size
structure PutH (w w' : World) (b : Nat) (n : Hd) : Prop where
  hd : HdAt w' b n
  off : ∀ j, j ≠ b → w'.heap[j]? = w.heap[j]?
  below : ∀ B, B ≤ b → B ≤ w.heap.size → Below B w w'
section
variable {ops : Array Oper} {rest : List Oper} {o : Oper} {a : Act} {Q : Exit → Act → World → Prop}
theorem wpList_box_hd {n : Hd} (w : World) (hg : o.guard = none) (x : Operand) (hop : o.op = Op.box 23 x) (hx : a.eval x = .agg n.A)
    (h : ∀ w' b, NewH w w' b n → wpList Try.prog ops Q rest (a.put o.dst (.pointer (some ⟨b, 0, none⟩))) w') : wpList Try.prog ops Q (o :: rest) a w := by
  refine wpList_plain hg fun K' hK' => ?_
  unfold Oper.wp
  simp [execOp, hop, hx, Instr.box, Result.andThen, Value.cells]
  exact hK' _ _ (h _ _ ⟨⟨(MapKept.heap_alloc w _).1⟩, (Below.refl _ _).alloc (Nat.le_refl _) _, rfl⟩)
theorem wpList_new_hd (w : World) (hg : o.guard = none) (hop : o.op = Op.alloc 23)
    (h : ∀ w' b, NewH w w' b zH → wpList Try.prog ops Q rest (a.put o.dst (.pointer (some ⟨b, 0, none⟩))) w') : wpList Try.prog ops Q (o :: rest) a w := by
  refine wpList_plain hg fun K' hK' => ?_
  unfold Oper.wp
  simp [execOp, hop, Instr.alloc, zero_hd, Result.andThen, Value.cells]
  exact hK' _ _ (h _ _ ⟨⟨(MapKept.heap_alloc w _).1⟩, (Below.refl _ _).alloc (Nat.le_refl _) _, rfl⟩)
theorem wpList_load_hd {b : Nat} {n : Hd} (w : World) (hg : o.guard = none) (x : Operand) (hop : o.op = Op.load 23 x) (hx : a.eval x = .pointer (some ⟨b, 0, none⟩)) (hs : HdAt w b n)
    (h : wpList Try.prog ops Q rest (a.put o.dst (.agg n.A)) w) : wpList Try.prog ops Q (o :: rest) a w :=
  wpList_load_row hg 23 x hop b hx 23 _ (0, 0) _ hs.blk Try.underlying23 rfl (info_hd n) h
theorem wpList_load_hdm {g of : Nat} {n : Hd} (w : World) (hg : o.guard = none) (x : Operand) (hop : o.op = Op.load 23 x) (hx : a.eval x = .pointer (some ⟨g, of, none⟩)) (hr : w.rangeAt g of n.A.toList)
    (h : wpList Try.prog ops Q rest (a.put o.dst (.agg n.A)) w) : wpList Try.prog ops Q (o :: rest) a w :=
  wpList_load_mid hg 23 x hop g of hx _ _ hr Try.underlying23 rfl (info_hd n) h
theorem hd_one {n : Hd} : ∀ v ∈ n.A.toList, v.oneCell' = true := by
  intro v hv
  simp [Hd.A] at hv
  rcases hv with rfl | rfl | rfl | rfl | rfl
  all_goals rfl
theorem setCells_hd {w : World} {b : Nat} {s : Hd} (h : HdAt w b s) (s' : Hd) : w.setCells b 0 s'.A.toList = w.setRow b s'.A := by
  have hth : ∀ j, j < 5 → ((w.cell? ⟨b, 0 + j, none⟩).isSome = true) := fun j hj => by
    rw [cell_of_row w b _ _ 23 (0, 0) h.blk]
    simp [Hd.A, hj]
  have e1 := run_storeCells_at Try.prog b 0 23 s'.A.toList 0 s.A w h.blk (by simp [Hd.A]) hd_one
  have e2 := run_storeCells_cells (P := Try.prog) b 0 s'.A.toList 0 w (fun j hj => by have := hth j (by simpa [Hd.A] using hj); simpa using this) (fun j hj => by have := h.f (0 + 0 + j); simpa using this) hd_one
  have e : (List.take (0 + 0) s.A.toList ++ s'.A.toList ++ List.drop (0 + 0 + s'.A.toList.length) s.A.toList).toArray = s'.A := rfl
  rw [e, e2] at e1
  simpa using e1
theorem wpList_put_hd {b : Nat} {s s' : Hd} (w : World) (hg : o.guard = none) (x y : Operand) (hop : o.op = Op.store 23 x y)
    (hx : a.eval x = .pointer (some ⟨b, 0, none⟩)) (hy : a.eval y = .agg s'.A) (hs : HdAt w b s)
    (h : ∀ w', PutH w w' b s' → wpList Try.prog ops Q rest (a.put o.dst undef) w') : wpList Try.prog ops Q (o :: rest) a w := by
  refine wpList_store_mid hg 23 x y hop b 0 s'.A hx hy ?_ (info_hd s') (Array.all_eq_true_iff_forall_mem.2 (fun v hv => hd_one v (by simpa using hv))) ?_
  · intro j hj
    refine ⟨?_, hs.f _⟩
    rw [cell_of_row w b _ _ 23 (0, 0) hs.blk]
    have : j < 5 := hj
    simp [Hd.A, this]
  · rw [setCells_hd hs s']
    refine h _ ⟨⟨setRow_heap w b _ _ 23 _ hs.blk⟩, fun k hk => setRow_other w b k _ hk, fun B h1 h2 => ⟨rfl, rfl, rfl, by simp, fun k hk => setRow_other w b k _ (by omega)⟩⟩
end
/-! ### Rows of holds -/
def flatH : List Hd → List Value
  | [] => []
  | e :: l => e.A.toList ++ flatH l
theorem flatH_append (l m : List Hd) : flatH (l ++ m) = flatH l ++ flatH m := by
  induction l with
  | nil => rfl
  | cons e l ih => simp only [List.cons_append, flatH, ih, List.append_assoc]
theorem hdl (e : Hd) : e.A.toList.length = 5 := rfl
theorem flatH_length (l : List Hd) : (flatH l).length = l.length * 5 := by
  induction l with
  | nil => rfl
  | cons e l ih => simp only [flatH, List.length_append, hdl, ih, List.length_cons]; omega
theorem flatH_get (l : List Hd) : ∀ (i : Nat) (hi : i < l.length) (j : Nat), j < 5 → (flatH l)[i * 5 + j]? = (l[i].A.toList)[j]? := by
  induction l with
  | nil => intro i hi; exact absurd hi (Nat.not_lt_zero _)
  | cons e l ih =>
    intro i hi j hj
    cases i with
    | zero => rw [flatH, Nat.zero_mul, Nat.zero_add, List.getElem?_append_left (by rw [hdl]; exact hj)]; rfl
    | succ i =>
      have := ih i (by simpa using hi) j hj
      rw [flatH, List.getElem?_append_right (by rw [hdl]; omega), hdl, show (i + 1) * 5 + j - 5 = i * 5 + j by omega, this]
      rfl
/-- A row of holds of one's own, from block B on. -/
structure Hs (B : Nat) (w : World) (v : Value) (L : List Hd) : Prop where
  row : w.ownsRow B 23 5 v L.length (flatH L)
section
variable {B C : Nat} {w w' : World} {v : Value} {L : List Hd}
theorem Hs.nil (B : Nat) (w : World) : Hs B w (.slice none 0 0) [] := ⟨rfl, Or.inl ⟨rfl, rfl⟩⟩
theorem Hs.slice (h : Hs B w v L) : ∃ a c, v = .slice a L.length c ∧ (a = none → L = []) := by
  obtain ⟨h1, h2⟩ := h.row
  rcases h2 with ⟨rfl, h2⟩ | ⟨g, cap, cur, e, hB, hg, h3⟩
  · exact ⟨none, 0, by rw [h2], fun _ => List.length_eq_zero_iff.1 h2⟩
  · exact ⟨_, _, e, fun e => by cases e⟩
theorem Hs.blkAt {g : Nat} (h : Hs B w v L) (e : v.ownBlock = some g) : B ≤ g ∧ g < w.heap.size ∧ ∃ cur, w.heap[g]? = some (.cells cur 23) := by
  obtain ⟨h1, h2⟩ := h.row
  rcases h2 with ⟨rfl, h2⟩ | ⟨g', cap, cur, e', hB, hg, h3⟩
  · cases e
  · subst e'
    cases e
    exact ⟨hB, (Array.getElem?_eq_some_iff.1 hg).1, cur, hg⟩
theorem Hs.keep (h : Hs B w v L) (hb : ∀ g, v.ownBlock = some g → w'.heap[g]? = w.heap[g]?) : Hs B w' v L := by
  obtain ⟨h1, h2⟩ := h.row
  refine ⟨h1, ?_⟩
  rcases h2 with h2 | ⟨g, cap, cur, e, hB, hg, h3⟩
  · exact Or.inl h2
  · exact Or.inr ⟨g, cap, cur, e, hB, (hb g (by rw [e]; rfl)).trans hg, h3⟩
theorem Hs.bel (h : Hs B w v L) (hb : Below w.heap.size w w') : Hs B w' v L := h.keep fun g e => hb.block g (h.blkAt e).2.1
theorem Hs.less (h : Hs B w v L) (hC : C ≤ B) : Hs C w v L := by
  obtain ⟨h1, h2⟩ := h.row
  refine ⟨h1, ?_⟩
  rcases h2 with h2 | ⟨g, cap, cur, e, hB, h3⟩
  · exact Or.inl h2
  · exact Or.inr ⟨g, cap, cur, e, Nat.le_trans hC hB, h3⟩
theorem Hs.at_ {a : Option Addr} {n c : Nat} (h : Hs B w (.slice a n c) L) {i : Nat} (hi : i < L.length) : ∃ g, a = some ⟨g, 0, none⟩ ∧ g < w.heap.size ∧ ∀ w' : World, w'.heap[g]? = w.heap[g]? → w'.rangeAt g (i * 5) (L[i].A.toList) := by
  obtain ⟨h1, h2⟩ := h.row
  rcases h2 with ⟨_, h2⟩ | ⟨g, cap, cur, e, hB, hg, h3, h4, h5, h6⟩
  · omega
  · cases e
    refine ⟨g, rfl, (Array.getElem?_eq_some_iff.1 hg).1, fun w' hw => ?_⟩
    intro j u hu
    have hj : j < 5 := by
      have := (List.getElem?_eq_some_iff.1 hu).1
      rwa [hdl] at this
    have hk := flatH_get L i hi j hj
    rw [hu] at hk
    rw [cell_of_row w' g _ cur 23 (0, 0) (hw.trans hg)]
    rw [← h6, List.getElem?_take] at hk
    split at hk
    · simpa using hk
    · cases hk
end
theorem infoH : ∃ i, Try.prog.info? 23 = some i ∧ i.zero = some (.agg zH.A) ∧ i.size = 5 ∧ i.bytes = 56 :=
  info_parts (show (Try.prog.info? 23).map (fun i => (i.zero, i.size, i.bytes)) = some (some (.agg zH.A), 5, 56) by kernel_rfl)
theorem append_hs {B : Nat} {w : World} {v : Value} {L : List Hd} (h : Hs B w v L) {g of c : Nat} {M : List Hd} (hM : M ≠ []) (hg : ∀ j u, (flatH M)[j]? = some u → w.cell? ⟨g, of + j, none⟩ = some u) (hB : B ≤ w.heap.size) (hl : L.length + M.length ≤ 100000) (ty : TypeId) :
    ∃ v' w', (Builtin.append_ #[32, 32] ty #[v, .slice (some ⟨g, of, none⟩) M.length c]).run Try.prog w = .ok v' w' ∧ Hs B w' v' (L ++ M) ∧ w.grownBy w' v.ownBlock ∧ (v'.ownBlock = v.ownBlock ∨ v'.ownBlock = some w.heap.size) := by
  obtain ⟨i, hi, hz0, hz1, hz2⟩ := infoH
  have hm : 0 < M.length := List.length_pos_iff.2 hM
  have hadd : ∀ (g of j : Nat), (⟨g, of, none⟩ : Addr).add j = ⟨g, of + j, none⟩ := fun g of j => by unfold Addr.add; split <;> simp_all
  have hnews : ∀ j u, (flatH M)[j]? = some u → w.cell? ((⟨g, of, none⟩ : Addr).add j) = some u := fun j u hu => by rw [hadd]; exact hg j u hu
  have hone : ∀ u ∈ flatH M, u.oneCell' = true := by
    clear hnews hg hm hM hl
    induction M with
    | nil => intro u hu; cases hu
    | cons e l ih =>
      intro u hu
      rcases List.mem_append.1 hu with h | h
      · exact hd_one u h
      · exact ih u h
  have hby : (L.length + M.length) * i.bytes ≤ 140737488355328 := by rw [hz2]; omega
  have hrow := h.row
  obtain ⟨v', w', hr, ho, hgr, _⟩ := run_append_own (P := Try.prog) w B 32 ty 23 i (.agg zH.A) 5 i.bytes Try.underlying32 hi hz0 hz1 rfl rfl (by omega) v L.length (flatH L) hrow ⟨g, of, none⟩ M.length c (flatH M) (flatH_length M) hnews hone (by unfold maxLen; omega) hby hB
  refine ⟨v', w', hr, ⟨by rw [List.length_append, flatH_append]; exact ho⟩, hgr, ?_⟩
  have hl1 : (flatH M).length = M.length * i.size := by rw [hz1]; exact flatH_length M
  rcases hrow.2 with ⟨rfl, hn0⟩ | ⟨b, cap, cur, rfl, hbg, hgg, hnc, hcm, hcs, htake⟩
  · have hr2 := run_append_nil (P := Try.prog) w 32 ty 23 i (.agg zH.A) Try.underlying32 hi hz0 ⟨g, of, none⟩ M.length c (flatH M) hl1 hnews hm (by omega) (by rw [hz2]; omega)
    rw [hr2] at hr
    injection hr with e1 e2
    subst e1
    exact Or.inr rfl
  · by_cases hroom : L.length + M.length ≤ cap
    · have hr2 := run_append_room (P := Try.prog) w 32 ty 23 i Try.underlying32 hi b L.length cap cur hgg ⟨g, of, none⟩ M.length c (flatH M) hl1 hnews hone hroom (by rw [hz1, hcs, flatH_length, ← Nat.add_mul]; exact Nat.mul_le_mul_right _ hroom)
      rw [hr2] at hr
      injection hr with e1 e2
      subst e1
      exact Or.inl rfl
    · have holds : ∀ j u, (flatH L)[j]? = some u → w.cell? ((⟨b, 0, none⟩ : Addr).add j) = some u := by
        intro j u hu
        rw [hadd, Nat.zero_add, cell_of_row w b j cur 23 (0, 0) hgg]
        rw [← htake, List.getElem?_take] at hu
        split at hu
        · simpa using hu
        · cases hu
      have hr2 := run_append_grow (P := Try.prog) w 32 ty 23 i (.agg zH.A) Try.underlying32 hi hz0 ⟨b, 0, none⟩ L.length cap (flatH L) (by rw [hz1, hrow.1]) holds ⟨g, of, none⟩ M.length c (flatH M) hl1 hnews (by omega) (by omega) (growslice_fits (by omega) (by omega))
      rw [hr2] at hr
      injection hr with e1 e2
      subst e1
      exact Or.inr rfl
theorem run_build_hd (n : Hd) (w : World) : (Instr.buildSlice 32 1 #[(0, .agg n.A)]).run Try.prog w = .ok (.slice (some ⟨w.heap.size, 0, none⟩) 1 1) (w.alloc (.cells n.A 23)) := by kernel_rfl
section
variable {ops : Array Oper} {rest : List Oper} {o : Oper} {act : Act} {Q : Exit → Act → World → Prop}
theorem wpList_build_hd {n : Hd} (w : World) (hg : o.guard = none) (x : Operand) (hop : o.op = Op.buildSlice 32 1 #[(0, x)]) (hx : act.eval x = .agg n.A)
    (h : ∀ w' b, NewH w w' b n → wpList Try.prog ops Q rest (act.put o.dst (.slice (some ⟨b, 0, none⟩) 1 1)) w') : wpList Try.prog ops Q (o :: rest) act w := by
  refine wpList_plain hg fun K' hK' => ?_
  have hr := run_build_hd n w
  unfold Oper.wp execOp
  simp only [hop, List.map_toArray, List.map_cons, List.map_nil, hx, Sem.run_bind, Sem.run_pure, Result.andThen_ok, hr]
  exact hK' _ _ (h _ _ ⟨⟨(MapKept.heap_alloc w _).1⟩, (Below.refl _ _).alloc (Nat.le_refl _) _, rfl⟩)
/-- What an append of one hold leaves. -/
structure App (B : Nat) (w w' : World) (v v' : Value) (L : List Hd) : Prop where
  hs : Hs B w' v' L
  grow : w.grownBy w' v.ownBlock
  own : v'.ownBlock = v.ownBlock ∨ v'.ownBlock = some w.heap.size
  sl : ∃ a c, v' = .slice a L.length c
theorem wpList_append_hd {B : Nat} {w : World} (hgd : o.guard = none) (s x : Operand)
    (ho : o.op = .call { callee := .builtin .append, args := #[s, x], argTypes := #[32, 32] }) {v : Value} {L : List Hd} (hs : act.eval s = v) (hrow : Hs B w v L) {b c : Nat} {n : Hd}
    (hx : act.eval x = .slice (some ⟨b, 0, none⟩) 1 c) (hn : HdAt w b n) (hB : B ≤ w.heap.size) (hl : L.length ≤ 90000)
    (K : ∀ a' c' w', App B w w' v (.slice a' (L.length + 1) c') (L ++ [n]) → wpList Try.prog ops Q rest (act.put o.dst (.slice a' (L.length + 1) c')) w') : wpList Try.prog ops Q (o :: rest) act w := by
  refine wpList_plain hgd fun K' hK => ?_
  obtain ⟨v', w', hr, h2, h3, h4⟩ := append_hs hrow (g := b) (of := 0) (c := c) (M := [n]) (by simp) (fun j u hu => by
    have hj := hu
    simp only [flatH, List.append_nil] at hu
    rw [Nat.zero_add, cell_of_row w b j _ 23 (0, 0) hn.blk]
    simpa using hu) hB (by simp; omega) o.type
  obtain ⟨a', c', e, _⟩ := h2.slice
  unfold Oper.wp execOp
  simp only [ho, resolve, invoke, builtin, Sem.run_bind, Sem.run_pure, Result.andThen_ok, List.map_toArray, List.map_cons, List.map_nil, hs, hx]
  rw [List.length_singleton] at hr
  simp only [hr]
  subst e
  rw [List.length_append, List.length_singleton] at h2 h4 ⊢
  exact hK _ _ (K _ _ w' ⟨h2, h3, h4, ⟨_, _, by rw [List.length_append, List.length_singleton]⟩⟩)
end
end Go.Proofs.Ytkpjamdlpofgcaa
