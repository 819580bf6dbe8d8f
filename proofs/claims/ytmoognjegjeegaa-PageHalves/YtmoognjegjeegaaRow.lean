/- A row of cells of the program's own, and append onto it. -/
import Derived.Test.YtmoognjegjeegaaLaw
import Derived.Deep.RegionLaw
namespace Go.Proofs.Ytmoognjegjeegaa
open Go.RowKit
set_option linter.unusedVariables false
set_option linter.unusedSimpArgs false
set_option maxRecDepth 100000

/-- The cells of a list in memory. -/
def prs : List Cl → List Value
  | [] => []
  | c :: r => .string c.k :: .string c.v :: prs r
theorem prs_length : ∀ xs : List Cl, (prs xs).length = xs.length * 2
  | [] => rfl
  | c :: r => by simp only [prs, List.length_cons, prs_length r]; omega
theorem prs_append : ∀ xs ys : List Cl, prs (xs ++ ys) = prs xs ++ prs ys
  | [], _ => rfl
  | c :: r, ys => by simp only [List.cons_append, prs, prs_append r ys]
theorem prs_get : ∀ (xs : List Cl) (i : Nat) (hi : i < xs.length), (prs xs)[i * 2]? = some (.string xs[i].k) ∧ (prs xs)[i * 2 + 1]? = some (.string xs[i].v)
  | c :: r, 0, _ => ⟨rfl, rfl⟩
  | c :: r, i + 1, hi => by
    have := prs_get r i (by simpa using hi)
    rw [show (i + 1) * 2 = i * 2 + 1 + 1 by omega]
    simpa [prs] using this
theorem prs_one : ∀ xs : List Cl, ∀ u ∈ prs xs, u.oneCell' = true
  | [], u, hu => by cases hu
  | c :: r, u, hu => by
    rcases List.mem_cons.1 hu with rfl | hu
    · rfl
    · rcases List.mem_cons.1 hu with rfl | hu
      · rfl
      · exact prs_one r u hu
/-- The slice 'a, as long as xs, cap' bears the cells xs. -/
def Row (w : World) (a : Option Addr) (cap : Nat) (xs : List Cl) : Prop :=
  (a = none ∧ cap = 0 ∧ xs = []) ∨
  ∃ g cur, a = some ⟨g, 0, none⟩ ∧ w.heap[g]? = some (.cells cur 28 (0, 0)) ∧ xs.length ≤ cap ∧ cap ≤ maxLen ∧ cap * 2 ≤ cur.size ∧ cur.toList.take (xs.length * 2) = prs xs
def own (a : Option Addr) : Option Nat := a.map (·.block)
theorem Row.nil (w : World) : Row w none 0 [] := .inl ⟨rfl, rfl, rfl⟩
theorem Row.cs {w : World} {a : Option Addr} {cap : Nat} {xs : List Cl} (h : Row w a cap xs) : Cs w a xs := ⟨fun i hi => by
  rcases h with ⟨_, _, rfl⟩ | ⟨g, cur, rfl, hg, h1, h2, h3, h4⟩
  · exact absurd hi (Nat.not_lt_zero _)
  · have hp := prs_get xs i hi
    rw [← h4, List.getElem?_take, if_pos (by omega), List.getElem?_take, if_pos (by omega)] at hp
    refine ⟨g, 0, rfl, (Array.getElem?_eq_some_iff.1 hg).1, ?_, ?_⟩
    · rw [cell_of_row w g _ cur 28 (0, 0) hg, Nat.zero_add]; simpa using hp.1
    · rw [cell_of_row w g _ cur 28 (0, 0) hg, Nat.zero_add]; simpa using hp.2⟩
theorem Row.lt {w : World} {a : Option Addr} {cap : Nat} {xs : List Cl} (h : Row w a cap xs) : ∀ k, own a = some k → k < w.heap.size := by
  intro k hk
  rcases h with ⟨rfl, _, _⟩ | ⟨g, cur, rfl, hg, _⟩
  · cases hk
  · simp [own] at hk
    subst hk
    exact (Array.getElem?_eq_some_iff.1 hg).1
theorem Row.kept {w w' : World} {a : Option Addr} {cap : Nat} {xs : List Cl} (h : Row w a cap xs) (hb : ∀ k, own a = some k → w'.heap[k]? = w.heap[k]?) : Row w' a cap xs := by
  rcases h with h0 | ⟨g, cur, rfl, hg, h1⟩
  · exact .inl h0
  · exact .inr ⟨g, cur, rfl, (hb g rfl).trans hg, h1⟩
theorem Row.below {w w' : World} {a : Option Addr} {cap : Nat} {xs : List Cl} (h : Row w a cap xs) (hb : Below w.heap.size w w') : Row w' a cap xs := h.kept (fun k hk => hb.block k (h.lt k hk))
theorem Row.made (w : World) : Row (w.alloc (.cells #[] 28)) (some ⟨w.heap.size, 0, none⟩) 0 [] :=
  .inr ⟨w.heap.size, #[], rfl, heap_alloc_new w _, Nat.le_refl _, Nat.zero_le _, Nat.zero_le _, rfl⟩
theorem cs_prs {w : World} {b off : Nat} {news : List Cl} (h : Cs w (some ⟨b, off, none⟩) news) : ∀ j u, (prs news)[j]? = some u → w.cell? ((⟨b, off, none⟩ : Addr).add j) = some u := by
  intro j u hu
  have hj : j < news.length * 2 := by
    have := (List.getElem?_eq_some_iff.1 hu).1
    rwa [prs_length] at this
  obtain ⟨b', off', h0, _, h2, h3⟩ := h.at_ (j / 2) (by omega)
  cases h0
  have hp := prs_get news (j / 2) (by omega)
  rw [Addr.add_mid]
  rcases Nat.mod_two_eq_zero_or_one j with e | e
  · have ej : j / 2 * 2 = j := by omega
    rw [ej] at hp h2
    rw [hp.1] at hu
    cases hu
    exact h2
  · have ej : j / 2 * 2 + 1 = j := by omega
    rw [ej] at hp
    rw [hp.2] at hu
    cases hu
    rw [← h3]
    congr 2
    omega
/-- append onto a row of cells. -/
theorem row_append {w : World} (ty : TypeId) {a : Option Addr} {cap : Nat} {xs : List Cl} (h : Row w a cap xs) (ad : Addr) (m c : Nat) (news : List Cl) (hm : news.length = m)
    (hnews : ∀ j u, (prs news)[j]? = some u → w.cell? (ad.add j) = some u) (hz : xs.length + m ≤ 100000) :
    ∃ a' cap' w', (Builtin.append_ #[22, 22] ty #[.slice a xs.length cap, .slice (some ad) m c]).run Try.prog w = .ok (.slice a' (xs.length + m) cap') w' ∧ Row w' a' cap' (xs ++ news) ∧
      w.grownBy w' (own a) ∧ (own a' = own a ∨ own a' = some w.heap.size) := by
  obtain ⟨i, hi, hz0, hz1, hz2⟩ := info_cellz
  have hl : (prs news).length = m * i.size := by rw [prs_length, hz1, hm]
  have hlen : (xs ++ news).length = xs.length + m := by rw [List.length_append, hm]
  have grown : ∀ (old : Nat), old < xs.length + m → ∀ (row : Option Nat),
      Row (w.drew.alloc (.cells ((prs xs).toArray ++ (prs news).toArray ++ Builtin.zeroCells (Value.agg #[.string ⟨#[]⟩, .string ⟨#[]⟩]).cells (grownCap w (xs.length + m) old 28 - (xs.length + m))) 28)) (some ⟨w.heap.size, 0, none⟩) (grownCap w (xs.length + m) old 28) (xs ++ news) ∧
      w.grownBy (w.drew.alloc (.cells ((prs xs).toArray ++ (prs news).toArray ++ Builtin.zeroCells (Value.agg #[.string ⟨#[]⟩, .string ⟨#[]⟩]).cells (grownCap w (xs.length + m) old 28 - (xs.length + m))) 28)) row := by
    intro old ho row
    have hge := grownCap_ge w (xs.length + m) old 28
    have hcm : grownCap w (xs.length + m) old 28 ≤ maxLen := grownCap_le_maxLen w (xs.length + m) old 28 (by unfold maxLen; omega)
    refine ⟨.inr ⟨w.heap.size, _, rfl, heap_alloc_new w.drew _, by rw [hlen]; exact hge, hcm, ?_, ?_⟩, ⟨rfl, rfl, rfl, by simp, fun k hk _ => heap_alloc_old w.drew _ hk⟩⟩
    · have e1 : (Value.agg #[.string ⟨#[]⟩, .string ⟨#[]⟩]).cells.size = 2 := rfl
      simp only [Array.size_append, List.size_toArray, size_zeroCells, prs_length, e1]
      omega
    · rw [hlen]
      simp only [Array.toList_append]
      rw [← prs_append, List.take_left' (by rw [prs_length, hlen])]
  rcases h with ⟨rfl, rfl, rfl⟩ | ⟨g, cur, rfl, hg, h1, h2, h3, h4⟩
  · simp only [List.length_nil, Nat.zero_add, List.nil_append] at hlen grown ⊢
    by_cases hm0 : m = 0
    · subst hm0
      have hn0 : news = [] := List.eq_nil_of_length_eq_zero hm
      subst hn0
      refine ⟨none, 0, w, ?_, Row.nil w, ⟨rfl, rfl, rfl, Nat.le_refl _, fun _ _ _ => rfl⟩, .inl rfl⟩
      simp [Builtin.append_, run_underlying Try.underlying22, sizeOf, typeInfo, hi, Builtin.lenOf, Builtin.firstCells, loadCells, loadCellsFrom]
    · have hr := run_append_nil (P := Try.prog) w 22 ty 28 i _ Try.underlying22 hi hz0 ad m c (prs news) hl hnews (by omega) (by omega) (by rw [hz2]; omega)
      have hgr := grown 0 (by omega) (own none)
      have e0 : (prs []).toArray = (#[] : Array Value) := rfl
      rw [e0, Array.empty_append] at hgr
      exact ⟨_, _, _, hr, hgr.1, hgr.2, .inr rfl⟩
  · by_cases hroom : xs.length + m ≤ cap
    · have hfit : xs.length * i.size + (prs news).length ≤ cur.size := by rw [hl, hz1]; omega
      have hr := run_append_room (P := Try.prog) w 22 ty 28 i Try.underlying22 hi g xs.length cap cur hg ad m c (prs news) hl hnews (prs_one _) hroom hfit
      refine ⟨_, _, _, hr, .inr ⟨g, _, rfl, setRow_heap w g cur _ 28 _ hg, by rw [hlen]; exact hroom, h2, ?_, ?_⟩, ⟨rfl, rfl, rfl, by simp, fun k _ hk => setRow_other w g k _ (fun e => hk (by simp [own, e]))⟩, .inl rfl⟩
      · simp only [List.size_toArray, List.length_append, List.length_take, List.length_drop, Array.length_toList]
        omega
      · rw [hz1, h4, ← prs_append, List.take_left' (by rw [prs_length])]
    · have holds : ∀ j u, (prs xs)[j]? = some u → w.cell? ((⟨g, 0, none⟩ : Addr).add j) = some u := by
        intro j u hu
        have hadd : (⟨g, 0, none⟩ : Addr).add j = ⟨g, j, none⟩ := by unfold Addr.add; split <;> simp_all
        rw [hadd, cell_of_row w g j cur 28 (0, 0) hg]
        rw [← h4, List.getElem?_take] at hu
        split at hu
        · simpa using hu
        · cases hu
      have hr := run_append_grow (P := Try.prog) w 22 ty 28 i _ Try.underlying22 hi hz0 ⟨g, 0, none⟩ xs.length cap (prs xs) (by rw [prs_length, hz1]) holds ad m c (prs news) hl hnews (by omega) (by omega) (growslice_fits (by omega) (by rw [hz2]; omega))
      have hgr := grown cap (by omega) (own (some ⟨g, 0, none⟩))
      exact ⟨_, _, _, hr, hgr.1, hgr.2, .inr rfl⟩
/-- Nothing is appended. -/
theorem row_append_none {w : World} (ty : TypeId) {a : Option Addr} {cap : Nat} {xs : List Cl} (h : Row w a cap xs) :
    (Builtin.append_ #[22, 22] ty #[.slice a xs.length cap, .slice none 0 0]).run Try.prog w = .ok (.slice a xs.length cap) w := by
  obtain ⟨i, hi, hz0, hz1, hz2⟩ := info_cellz
  have hle : xs.length ≤ cap := by
    rcases h with ⟨rfl, rfl, rfl⟩ | ⟨g, cur, rfl, hg, h1, h2, h3, h4⟩
    · simp
    · exact h1
  rcases h with ⟨rfl, rfl, rfl⟩ | ⟨g, cur, rfl, hg, h1, h2, h3, h4⟩
  · simp [Builtin.append_, run_underlying Try.underlying22, sizeOf, typeInfo, hi, Builtin.lenOf, Builtin.firstCells, loadCells, loadCellsFrom]
  · simp [Builtin.append_, run_underlying Try.underlying22, sizeOf, typeInfo, hi, Builtin.lenOf, Builtin.firstCells, loadCells, loadCellsFrom, hle, storeCells]
/-- A row of the call's own: its block is new since the heap had B blocks. -/
structure Own (B : Nat) (w : World) (a : Option Addr) (cap : Nat) (xs : List Cl) : Prop where
  row : Row w a cap xs
  fresh : ∀ k, own a = some k → B ≤ k
theorem Own.nil (B : Nat) (w : World) : Own B w none 0 [] := ⟨Row.nil w, fun k h => by cases h⟩
theorem Own.made {B : Nat} (w : World) (h : B ≤ w.heap.size) : Own B (w.alloc (.cells #[] 28)) (some ⟨w.heap.size, 0, none⟩) 0 [] := ⟨Row.made w, fun k e => by simp [own] at e; omega⟩
theorem Own.below {B : Nat} {w w' : World} {a : Option Addr} {cap : Nat} {xs : List Cl} (h : Own B w a cap xs) (hb : Below w.heap.size w w') : Own B w' a cap xs := ⟨h.row.below hb, h.fresh⟩
theorem Own.drewN {B : Nat} {w : World} {a : Option Addr} {cap : Nat} {xs : List Cl} (h : Own B w a cap xs) (n : Nat) : Own B (w.drewN n) a cap xs := ⟨h.row.kept (fun _ _ => rfl), h.fresh⟩
theorem own_append {B : Nat} {w : World} (ty : TypeId) {a : Option Addr} {cap : Nat} {xs : List Cl} (h : Own B w a cap xs) (hB : B ≤ w.heap.size) (src : Option Addr) (m c : Nat) (news : List Cl) (hm : news.length = m) (hc : src = none → c = 0) (hn : Cs w src news) (hz : xs.length + m ≤ 100000) :
    ∃ a' cap' w', (Builtin.append_ #[22, 22] ty #[.slice a xs.length cap, .slice src m c]).run Try.prog w = .ok (.slice a' (xs.length + m) cap') w' ∧ Own B w' a' cap' (xs ++ news) ∧ Below B w w' := by
  have fin : ∀ {a' : Option Addr} {cap' : Nat} {w' : World}, Row w' a' cap' (xs ++ news) → w.grownBy w' (own a) → (own a' = own a ∨ own a' = some w.heap.size) → Own B w' a' cap' (xs ++ news) ∧ Below B w w' := by
    intro a' cap' w' h1 h2 h3
    refine ⟨⟨h1, fun k hk => ?_⟩, ⟨h2.os, h2.tape, h2.output, h2.size, fun k hk => h2.block k (by omega) (fun e => ?_)⟩⟩
    · rcases h3 with e | e
      · exact h.fresh k (e ▸ hk)
      · rw [e] at hk; cases hk; exact hB
    · have := h.fresh k e.symm
      omega
  by_cases hnil : news = []
  · subst hnil
    simp at hm
    subst hm
    cases src with
    | none =>
      have := hc rfl
      subst this
      exact ⟨a, cap, w, by rw [Nat.add_zero]; exact row_append_none ty h.row, by rw [List.append_nil]; exact h, Below.refl _ _⟩
    | some ad =>
      obtain ⟨a', cap', w', hr, h1, h2, h3⟩ := row_append ty h.row ad 0 c [] rfl (fun j u hu => by simp [prs] at hu) hz
      exact ⟨a', cap', w', hr, fin h1 h2 h3⟩
  · obtain ⟨b, off, e, _⟩ := hn.at_ 0 (List.length_pos_iff.2 hnil)
    subst e
    obtain ⟨a', cap', w', hr, h1, h2, h3⟩ := row_append ty h.row ⟨b, off, none⟩ m c news hm (cs_prs hn) hz
    exact ⟨a', cap', w', hr, fin h1 h2 h3⟩
theorem wp_append_own {B : Nat} {w : World} {o : Oper} {act : Act} {K : Act → World → Prop} {Q : Exit → Act → World → Prop} (s x : Operand)
    (ho : o.op = .call { callee := .builtin .append, args := #[s, x], argTypes := #[22, 22] })
    {a : Option Addr} {cap n : Nat} {xs : List Cl} (hs : act.eval s = .slice a n cap) (hl : n = xs.length) (hrow : Own B w a cap xs) (hB : B ≤ w.heap.size)
    {src : Option Addr} {m c : Nat} {news : List Cl} (hx : act.eval x = .slice src m c) (hm : news.length = m) (hc : src = none → c = 0) (hn : Cs w src news) (hz : n + m ≤ 100000)
    (h : ∀ a' cap' w', Own B w' a' cap' (xs ++ news) → Below B w w' → K (act.put o.dst (.slice a' (n + m) cap')) w') : o.wp Try.prog act w K Q := by
  subst hl
  obtain ⟨a', cap', w', hr, h2, h3⟩ := own_append o.type hrow hB src m c news hm hc hn hz
  unfold Oper.wp execOp
  simp only [ho, resolve, invoke, builtin, Sem.run_bind, Sem.run_pure, Result.andThen_ok, List.map_toArray, List.map_cons, List.map_nil, hs, hx, hr]
  exact h a' cap' w' h2 h3
theorem wpList_append_own' {B : Nat} {w : World} {ops : Array Oper} {rest : List Oper} {o : Oper} {act : Act} {Q : Exit → Act → World → Prop} (hgd : o.guard = none) (s x : Operand)
    (ho : o.op = .call { callee := .builtin .append, args := #[s, x], argTypes := #[22, 22] })
    {a : Option Addr} {cap n : Nat} {xs : List Cl} (hs : act.eval s = .slice a n cap) (hl : n = xs.length) (hrow : Own B w a cap xs) (hB : B ≤ w.heap.size)
    {src : Option Addr} {m c : Nat} {news : List Cl} (hx : act.eval x = .slice src m c) (hm : news.length = m) (hc : src = none → c = 0) (hn : Cs w src news) (hz : n + m ≤ 100000)
    (h : ∀ a' cap' w', Own B w' a' cap' (xs ++ news) → Below B w w' → wpList Try.prog ops Q rest (act.put o.dst (.slice a' (n + m) cap')) w') : wpList Try.prog ops Q (o :: rest) act w :=
  wpList_plain hgd fun _ hK => wp_append_own s x ho hs hl hrow hB hx hm hc hn hz fun a' cap' w' h2 h3 => hK _ _ (h a' cap' w' h2 h3)
end Go.Proofs.Ytmoognjegjeegaa
