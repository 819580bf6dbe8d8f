/- Slices of pairs of cells in memory (images, and who goes on), and append onto a row of the program's own. -/
import Derived.Test.YtakdfdnndogaiaaRxMath
import Derived.Deep.RegionLaw
import Derived.Deep.OwnRows
namespace Go.Proofs.Ytakdfdnndogaiaa
open Go.RowKit
set_option linter.unusedVariables false
set_option linter.unusedSimpArgs false
set_option maxRecDepth 100000

abbrev P2 := Value × Value
/-- The pairs of a list lie from a on. -/
structure Cs (w : World) (a : Option Addr) (L : List P2) : Prop where
  at_ : ∀ i (hi : i < L.length), ∃ b off, a = some ⟨b, off, none⟩ ∧ b < w.heap.size ∧ w.cell? ⟨b, off + i * 2, none⟩ = some L[i].1 ∧ w.cell? ⟨b, off + i * 2 + 1, none⟩ = some L[i].2
section
variable {w w' : World} {a : Option Addr} {L : List P2}
theorem Cs.nil (w : World) (a : Option Addr) : Cs w a [] := ⟨fun i hi => absurd hi (Nat.not_lt_zero _)⟩
theorem Cs.below (h : Cs w a L) (hb : Below w.heap.size w w') : Cs w' a L := ⟨fun i hi => by
  obtain ⟨b, off, h0, h1, h2, h3⟩ := h.at_ i hi
  exact ⟨b, off, h0, Nat.lt_of_lt_of_le h1 hb.size, (hb.cell (by exact h1)).trans h2, (hb.cell (by exact h1)).trans h3⟩⟩
theorem Cs.drewN (h : Cs w a L) (n : Nat) : Cs (w.drewN n) a L := ⟨h.at_⟩
theorem Cs.drew (h : Cs w a L) : Cs w.drew a L := ⟨h.at_⟩
theorem Cs.off {c : Nat} (h : Cs w a L) (hb : Pk.Off c w w') (hn : ∀ b off, a = some ⟨b, off, none⟩ → b ≠ c) : Cs w' a L := ⟨fun i hi => by
  obtain ⟨b, off, h0, h1, h2, h3⟩ := h.at_ i hi
  have e := hb.block b h1 (hn b off h0)
  exact ⟨b, off, h0, Nat.lt_of_lt_of_le h1 hb.size, (World.cell?_of_block e).trans h2, (World.cell?_of_block e).trans h3⟩⟩
theorem Cs.take (h : Cs w a L) (n : Nat) : Cs w a (L.take n) := ⟨fun i hi => by
  rw [List.length_take] at hi
  obtain ⟨b, off, h0, h1, h2, h3⟩ := h.at_ i (by omega)
  refine ⟨b, off, h0, h1, ?_, ?_⟩
  · rw [List.getElem_take]; exact h2
  · rw [List.getElem_take]; exact h3⟩
end
/-- What is known of an element type of two cells, and of its slices' type. -/
structure Two (sl el : TypeId) (z : P2) : Prop where
  un : Try.prog.underlying sl = some (.slice el)
  info : ∃ i, Try.prog.info? el = some i ∧ i.zero = some (.agg #[z.1, z.2]) ∧ i.size = 2 ∧ i.bytes ≤ 32 ∧ 0 < i.bytes
  one1 : z.1.oneCell' = true
  one2 : z.2.oneCell' = true
/-- The cells of a list in memory. -/
def prs : List P2 → List Value
  | [] => []
  | c :: r => c.1 :: c.2 :: prs r
theorem prs_length : ∀ xs : List P2, (prs xs).length = xs.length * 2
  | [] => rfl
  | c :: r => by simp only [prs, List.length_cons, prs_length r]; omega
theorem prs_append : ∀ xs ys : List P2, prs (xs ++ ys) = prs xs ++ prs ys
  | [], _ => rfl
  | c :: r, ys => by simp only [List.cons_append, prs, prs_append r ys]
theorem prs_get : ∀ (xs : List P2) (i : Nat) (hi : i < xs.length), (prs xs)[i * 2]? = some xs[i].1 ∧ (prs xs)[i * 2 + 1]? = some xs[i].2
  | c :: r, 0, _ => ⟨rfl, rfl⟩
  | c :: r, i + 1, hi => by
    have := prs_get r i (by simpa using hi)
    rw [show (i + 1) * 2 = i * 2 + 1 + 1 by omega]
    simpa [prs] using this
/-- Each is one cell. -/
def Ones (xs : List P2) : Prop := ∀ p ∈ xs, p.1.oneCell' = true ∧ p.2.oneCell' = true
theorem prs_one : ∀ xs : List P2, Ones xs → ∀ u ∈ prs xs, u.oneCell' = true
  | [], _, u, hu => by cases hu
  | c :: r, h, u, hu => by
    rcases List.mem_cons.1 hu with rfl | hu
    · exact (h c (List.mem_cons_self ..)).1
    · rcases List.mem_cons.1 hu with rfl | hu
      · exact (h c (List.mem_cons_self ..)).2
      · exact prs_one r (fun p hp => h p (List.mem_cons_of_mem _ hp)) u hu
/-- The slice 'a, as long as xs, cap' bears the cells xs. -/
def Row (el : TypeId) (w : World) (a : Option Addr) (cap : Nat) (xs : List P2) : Prop :=
  (a = none ∧ cap = 0 ∧ xs = []) ∨
  ∃ g cur, a = some ⟨g, 0, none⟩ ∧ w.heap[g]? = some (.cells cur el (0, 0)) ∧ xs.length ≤ cap ∧ cap ≤ maxLen ∧ cap * 2 ≤ cur.size ∧ cur.toList.take (xs.length * 2) = prs xs
def own (a : Option Addr) : Option Nat := a.map (·.block)
theorem Row.nil (el : TypeId) (w : World) : Row el w none 0 [] := .inl ⟨rfl, rfl, rfl⟩
theorem Row.cs {el : TypeId} {w : World} {a : Option Addr} {cap : Nat} {xs : List P2} (h : Row el w a cap xs) : Cs w a xs := ⟨fun i hi => by
  rcases h with ⟨_, _, rfl⟩ | ⟨g, cur, rfl, hg, h1, h2, h3, h4⟩
  · exact absurd hi (Nat.not_lt_zero _)
  · have hp := prs_get xs i hi
    rw [← h4, List.getElem?_take, if_pos (by omega), List.getElem?_take, if_pos (by omega)] at hp
    refine ⟨g, 0, rfl, (Array.getElem?_eq_some_iff.1 hg).1, ?_, ?_⟩
    · rw [cell_of_row w g _ cur el (0, 0) hg, Nat.zero_add]; simpa using hp.1
    · rw [cell_of_row w g _ cur el (0, 0) hg, Nat.zero_add]; simpa using hp.2⟩
theorem Row.lt {el : TypeId} {w : World} {a : Option Addr} {cap : Nat} {xs : List P2} (h : Row el w a cap xs) : ∀ k, own a = some k → k < w.heap.size := by
  intro k hk
  rcases h with ⟨rfl, _, _⟩ | ⟨g, cur, rfl, hg, _⟩
  · cases hk
  · simp [own] at hk
    subst hk
    exact (Array.getElem?_eq_some_iff.1 hg).1
theorem Row.kept {el : TypeId} {w w' : World} {a : Option Addr} {cap : Nat} {xs : List P2} (h : Row el w a cap xs) (hb : ∀ k, own a = some k → w'.heap[k]? = w.heap[k]?) : Row el w' a cap xs := by
  rcases h with h0 | ⟨g, cur, rfl, hg, h1⟩
  · exact .inl h0
  · exact .inr ⟨g, cur, rfl, (hb g rfl).trans hg, h1⟩
theorem Row.below {el : TypeId} {w w' : World} {a : Option Addr} {cap : Nat} {xs : List P2} (h : Row el w a cap xs) (hb : Below w.heap.size w w') : Row el w' a cap xs := h.kept (fun k hk => hb.block k (h.lt k hk))
theorem Row.made (el : TypeId) (w : World) : Row el (w.alloc (.cells #[] el)) (some ⟨w.heap.size, 0, none⟩) 0 [] :=
  .inr ⟨w.heap.size, #[], rfl, heap_alloc_new w _, Nat.le_refl _, Nat.zero_le _, Nat.zero_le _, rfl⟩
theorem cs_prs {w : World} {b off : Nat} {news : List P2} (h : Cs w (some ⟨b, off, none⟩) news) : ∀ j u, (prs news)[j]? = some u → w.cell? ((⟨b, off, none⟩ : Addr).add j) = some u := by
  intro j u hu
  have hj : j < news.length * 2 := by
    have := (List.getElem?_eq_some_iff.1 hu).1
    rwa [prs_length] at this
  obtain ⟨b', off', h0, _, h2, h3⟩ := h.at_ (j / 2) (by omega)
  cases h0
  have hp := prs_get news (j / 2) (by omega)
  rw [Addr.add_mid]
  rcases Nat.mod_two_eq_zero_or_one j with e | e
  · have ej : j / 2 * 2 = j := by omega
    rw [ej] at hp h2
    rw [hp.1] at hu
    cases hu
    exact h2
  · have ej : j / 2 * 2 + 1 = j := by omega
    rw [ej] at hp
    rw [hp.2] at hu
    cases hu
    rw [← h3]
    congr 2
    omega
/-- append onto a row of cells. -/
theorem row_append {sl el : TypeId} {z : P2} (hT : Two sl el z) {w : World} (ty : TypeId) {a : Option Addr} {cap : Nat} {xs : List P2} (h : Row el w a cap xs) (ad : Addr) (m c : Nat) (news : List P2) (hm : news.length = m)
    (hnews : ∀ j u, (prs news)[j]? = some u → w.cell? (ad.add j) = some u) (ho1 : Ones news) (hz : xs.length + m ≤ 100000) :
    ∃ a' cap' w', (Builtin.append_ #[sl, sl] ty #[.slice a xs.length cap, .slice (some ad) m c]).run Try.prog w = .ok (.slice a' (xs.length + m) cap') w' ∧ Row el w' a' cap' (xs ++ news) ∧
      w.grownBy w' (own a) ∧ (own a' = own a ∨ own a' = some w.heap.size) := by
  obtain ⟨i, hi, hz0, hz1, hz2, hz3⟩ := hT.info
  have hl : (prs news).length = m * i.size := by rw [prs_length, hz1, hm]
  have hlen : (xs ++ news).length = xs.length + m := by rw [List.length_append, hm]
  have grown : ∀ (old : Nat), old < xs.length + m → ∀ (row : Option Nat),
      Row el (w.drew.alloc (.cells ((prs xs).toArray ++ (prs news).toArray ++ Builtin.zeroCells (Value.agg #[z.1, z.2]).cells (grownCap w (xs.length + m) old el - (xs.length + m))) el)) (some ⟨w.heap.size, 0, none⟩) (grownCap w (xs.length + m) old el) (xs ++ news) ∧
      w.grownBy (w.drew.alloc (.cells ((prs xs).toArray ++ (prs news).toArray ++ Builtin.zeroCells (Value.agg #[z.1, z.2]).cells (grownCap w (xs.length + m) old el - (xs.length + m))) el)) row := by
    intro old ho row
    have hge := grownCap_ge w (xs.length + m) old el
    have hcm : grownCap w (xs.length + m) old el ≤ maxLen := grownCap_le_maxLen w (xs.length + m) old el (by unfold maxLen; omega)
    refine ⟨.inr ⟨w.heap.size, _, rfl, heap_alloc_new w.drew _, by rw [hlen]; exact hge, hcm, ?_, ?_⟩, ⟨rfl, rfl, rfl, by simp, fun k hk _ => heap_alloc_old w.drew _ hk⟩⟩
    · have e1 : (Value.agg #[z.1, z.2]).cells.size = 2 := rfl
      simp only [Array.size_append, List.size_toArray, size_zeroCells, prs_length, e1]
      omega
    · rw [hlen]
      simp only [Array.toList_append]
      rw [← prs_append, List.take_left' (by rw [prs_length, hlen])]
  rcases h with ⟨rfl, rfl, rfl⟩ | ⟨g, cur, rfl, hg, h1, h2, h3, h4⟩
  · simp only [List.length_nil, Nat.zero_add, List.nil_append] at hlen grown ⊢
    by_cases hm0 : m = 0
    · subst hm0
      have hn0 : news = [] := List.eq_nil_of_length_eq_zero hm
      subst hn0
      refine ⟨none, 0, w, ?_, Row.nil el w, ⟨rfl, rfl, rfl, Nat.le_refl _, fun _ _ _ => rfl⟩, .inl rfl⟩
      simp [Builtin.append_, run_underlying hT.un, sizeOf, typeInfo, hi, Builtin.lenOf, Builtin.firstCells, loadCells, loadCellsFrom]
    · have hr := run_append_nil (P := Try.prog) w sl ty el i _ hT.un hi hz0 ad m c (prs news) hl hnews (by omega) (by omega) (by have := Nat.mul_le_mul_left m hz2; omega)
      have hgr := grown 0 (by omega) (own none)
      have e0 : (prs []).toArray = (#[] : Array Value) := rfl
      rw [e0, Array.empty_append] at hgr
      exact ⟨_, _, _, hr, hgr.1, hgr.2, .inr rfl⟩
  · by_cases hroom : xs.length + m ≤ cap
    · have hfit : xs.length * i.size + (prs news).length ≤ cur.size := by rw [hl, hz1]; omega
      have hr := run_append_room (P := Try.prog) w sl ty el i hT.un hi g xs.length cap cur hg ad m c (prs news) hl hnews (prs_one _ ho1) hroom hfit
      refine ⟨_, _, _, hr, .inr ⟨g, _, rfl, setRow_heap w g cur _ el _ hg, by rw [hlen]; exact hroom, h2, ?_, ?_⟩, ⟨rfl, rfl, rfl, by simp, fun k _ hk => setRow_other w g k _ (fun e => hk (by simp [own, e]))⟩, .inl rfl⟩
      · simp only [List.size_toArray, List.length_append, List.length_take, List.length_drop, Array.length_toList]
        omega
      · rw [hz1, h4, ← prs_append, List.take_left' (by rw [prs_length])]
    · have holds : ∀ j u, (prs xs)[j]? = some u → w.cell? ((⟨g, 0, none⟩ : Addr).add j) = some u := by
        intro j u hu
        have hadd : (⟨g, 0, none⟩ : Addr).add j = ⟨g, j, none⟩ := by unfold Addr.add; split <;> simp_all
        rw [hadd, cell_of_row w g j cur el (0, 0) hg]
        rw [← h4, List.getElem?_take] at hu
        split at hu
        · simpa using hu
        · cases hu
      have hr := run_append_grow (P := Try.prog) w sl ty el i _ hT.un hi hz0 ⟨g, 0, none⟩ xs.length cap (prs xs) (by rw [prs_length, hz1]) holds ad m c (prs news) hl hnews (by omega) (by omega) (growslice_fits (by omega) (by have := Nat.mul_le_mul_left (xs.length + m) hz2; omega))
      have hgr := grown cap (by omega) (own (some ⟨g, 0, none⟩))
      exact ⟨_, _, _, hr, hgr.1, hgr.2, .inr rfl⟩
/-- Nothing is appended. -/
theorem row_append_none {sl el : TypeId} {z : P2} (hT : Two sl el z) {w : World} (ty : TypeId) {a : Option Addr} {cap : Nat} {xs : List P2} (h : Row el w a cap xs) :
    (Builtin.append_ #[sl, sl] ty #[.slice a xs.length cap, .slice none 0 0]).run Try.prog w = .ok (.slice a xs.length cap) w := by
  obtain ⟨i, hi, hz0, hz1, hz2, hz3⟩ := hT.info
  have hle : xs.length ≤ cap := by
    rcases h with ⟨rfl, rfl, rfl⟩ | ⟨g, cur, rfl, hg, h1, h2, h3, h4⟩
    · simp
    · exact h1
  rcases h with ⟨rfl, rfl, rfl⟩ | ⟨g, cur, rfl, hg, h1, h2, h3, h4⟩
  · simp [Builtin.append_, run_underlying hT.un, sizeOf, typeInfo, hi, Builtin.lenOf, Builtin.firstCells, loadCells, loadCellsFrom]
  · simp [Builtin.append_, run_underlying hT.un, sizeOf, typeInfo, hi, Builtin.lenOf, Builtin.firstCells, loadCells, loadCellsFrom, hle, storeCells]
/-- A row of the call's own: its block is new since the heap had B blocks. -/
structure Own (el : TypeId) (B : Nat) (w : World) (a : Option Addr) (cap : Nat) (xs : List P2) : Prop where
  row : Row el w a cap xs
  fresh : ∀ k, own a = some k → B ≤ k
theorem Own.nil (el : TypeId) (B : Nat) (w : World) : Own el B w none 0 [] := ⟨Row.nil el w, fun k h => by cases h⟩
theorem Own.made {el : TypeId} {B : Nat} (w : World) (h : B ≤ w.heap.size) : Own el B (w.alloc (.cells #[] el)) (some ⟨w.heap.size, 0, none⟩) 0 [] := ⟨Row.made el w, fun k e => by simp [own] at e; omega⟩
theorem Own.below {el : TypeId} {B : Nat} {w w' : World} {a : Option Addr} {cap : Nat} {xs : List P2} (h : Own el B w a cap xs) (hb : Below w.heap.size w w') : Own el B w' a cap xs := ⟨h.row.below hb, h.fresh⟩
theorem Own.drewN {el : TypeId} {B : Nat} {w : World} {a : Option Addr} {cap : Nat} {xs : List P2} (h : Own el B w a cap xs) (n : Nat) : Own el B (w.drewN n) a cap xs := ⟨h.row.kept (fun _ _ => rfl), h.fresh⟩
theorem own_append {sl el : TypeId} {z : P2} (hT : Two sl el z) {B : Nat} {w : World} (ty : TypeId) {a : Option Addr} {cap : Nat} {xs : List P2} (h : Own el B w a cap xs) (hB : B ≤ w.heap.size) (src : Option Addr) (m c : Nat) (news : List P2) (hm : news.length = m) (hc : src = none → c = 0) (hn : Cs w src news) (ho1 : Ones news) (hz : xs.length + m ≤ 100000) :
    ∃ a' cap' w', (Builtin.append_ #[sl, sl] ty #[.slice a xs.length cap, .slice src m c]).run Try.prog w = .ok (.slice a' (xs.length + m) cap') w' ∧ Own el B w' a' cap' (xs ++ news) ∧ Below B w w' := by
  have fin : ∀ {a' : Option Addr} {cap' : Nat} {w' : World}, Row el w' a' cap' (xs ++ news) → w.grownBy w' (own a) → (own a' = own a ∨ own a' = some w.heap.size) → Own el B w' a' cap' (xs ++ news) ∧ Below B w w' := by
    intro a' cap' w' h1 h2 h3
    refine ⟨⟨h1, fun k hk => ?_⟩, ⟨h2.os, h2.tape, h2.output, h2.size, fun k hk => h2.block k (by omega) (fun e => ?_)⟩⟩
    · rcases h3 with e | e
      · exact h.fresh k (e ▸ hk)
      · rw [e] at hk; cases hk; exact hB
    · have := h.fresh k e.symm
      omega
  by_cases hnil : news = []
  · subst hnil
    simp at hm
    subst hm
    cases src with
    | none =>
      have := hc rfl
      subst this
      exact ⟨a, cap, w, by rw [Nat.add_zero]; exact row_append_none hT ty h.row, by rw [List.append_nil]; exact h, Below.refl _ _⟩
    | some ad =>
      obtain ⟨a', cap', w', hr, h1, h2, h3⟩ := row_append hT ty h.row ad 0 c [] rfl (fun j u hu => by simp [prs] at hu) (fun p hp => by cases hp) hz
      exact ⟨a', cap', w', hr, fin h1 h2 h3⟩
  · obtain ⟨b, off, e, _⟩ := hn.at_ 0 (List.length_pos_iff.2 hnil)
    subst e
    obtain ⟨a', cap', w', hr, h1, h2, h3⟩ := row_append hT ty h.row ⟨b, off, none⟩ m c news hm (cs_prs hn) ho1 hz
    exact ⟨a', cap', w', hr, fin h1 h2 h3⟩
theorem wp_append_own {sl el : TypeId} {z : P2} (hT : Two sl el z) {B : Nat} {w : World} {o : Oper} {act : Act} {K : Act → World → Prop} {Q : Exit → Act → World → Prop} (s x : Operand)
    (ho : o.op = .call { callee := .builtin .append, args := #[s, x], argTypes := #[sl, sl] })
    {a : Option Addr} {cap n : Nat} {xs : List P2} (hs : act.eval s = .slice a n cap) (hl : n = xs.length) (hrow : Own el B w a cap xs) (hB : B ≤ w.heap.size)
    {src : Option Addr} {m c : Nat} {news : List P2} (hx : act.eval x = .slice src m c) (hm : news.length = m) (hc : src = none → c = 0) (hn : Cs w src news) (ho1 : Ones news) (hz : n + m ≤ 100000)
    (h : ∀ a' cap' w', Own el B w' a' cap' (xs ++ news) → Below B w w' → K (act.put o.dst (.slice a' (n + m) cap')) w') : o.wp Try.prog act w K Q := by
  subst hl
  obtain ⟨a', cap', w', hr, h2, h3⟩ := own_append hT o.type hrow hB src m c news hm hc hn ho1 hz
  unfold Oper.wp execOp
  simp only [ho, resolve, invoke, builtin, Sem.run_bind, Sem.run_pure, Result.andThen_ok, List.map_toArray, List.map_cons, List.map_nil, hs, hx, hr]
  exact h a' cap' w' h2 h3
theorem wpList_append_own' {sl el : TypeId} {z : P2} (hT : Two sl el z) {B : Nat} {w : World} {ops : Array Oper} {rest : List Oper} {o : Oper} {act : Act} {Q : Exit → Act → World → Prop} (hgd : o.guard = none) (s x : Operand)
    (ho : o.op = .call { callee := .builtin .append, args := #[s, x], argTypes := #[sl, sl] })
    {a : Option Addr} {cap n : Nat} {xs : List P2} (hs : act.eval s = .slice a n cap) (hl : n = xs.length) (hrow : Own el B w a cap xs) (hB : B ≤ w.heap.size)
    {src : Option Addr} {m c : Nat} {news : List P2} (hx : act.eval x = .slice src m c) (hm : news.length = m) (hc : src = none → c = 0) (hn : Cs w src news) (ho1 : Ones news) (hz : n + m ≤ 100000)
    (h : ∀ a' cap' w', Own el B w' a' cap' (xs ++ news) → Below B w w' → wpList Try.prog ops Q rest (act.put o.dst (.slice a' (n + m) cap')) w') : wpList Try.prog ops Q (o :: rest) act w :=
  wpList_plain hgd fun _ hK => wp_append_own hT s x ho hs hl hrow hB hx hm hc hn ho1 hz fun a' cap' w' h2 h3 => hK _ _ (h a' cap' w' h2 h3)

theorem two_im : Two 22 44 (.int .i64 0, .string ⟨#[]⟩) :=
  ⟨Try.underlying22, by
    obtain ⟨i, h1, h2, h3, h4⟩ := info_parts (show (Try.prog.info? 44).map (fun i => (i.zero, i.size, i.bytes)) = some (some (.agg #[.int .i64 0, .string ⟨#[]⟩]), 2, 24) by kernel_rfl)
    exact ⟨i, h1, h2, h3, by omega, by omega⟩, rfl, rfl⟩
theorem two_tb : Two 23 55 (.int .i64 0, .int .i64 0) :=
  ⟨Try.underlying23, by
    obtain ⟨i, h1, h2, h3, h4⟩ := info_parts (show (Try.prog.info? 55).map (fun i => (i.zero, i.size, i.bytes)) = some (some (.agg #[.int .i64 0, .int .i64 0]), 2, 16) by kernel_rfl)
    exact ⟨i, h1, h2, h3, by omega, by omega⟩, rfl, rfl⟩
def encI (l : List Im) : List P2 := l.map fun p => (.int .i64 p.1, .string p.2)
def encT (l : List Tb) : List P2 := l.map fun p => (.int .i64 p.1, .int .i64 p.2)
theorem encI_length (l : List Im) : (encI l).length = l.length := by simp [encI]
theorem encT_length (l : List Tb) : (encT l).length = l.length := by simp [encT]
theorem encI_ones (l : List Im) : Ones (encI l) := by
  intro p hp
  obtain ⟨q, _, rfl⟩ := List.mem_map.1 hp
  exact ⟨rfl, rfl⟩
theorem encT_ones (l : List Tb) : Ones (encT l) := by
  intro p hp
  obtain ⟨q, _, rfl⟩ := List.mem_map.1 hp
  exact ⟨rfl, rfl⟩
theorem encI_append (a b : List Im) : encI (a ++ b) = encI a ++ encI b := by simp [encI]
theorem encT_append (a b : List Tb) : encT (a ++ b) = encT a ++ encT b := by simp [encT]
theorem encI_take (l : List Im) (n : Nat) : encI (l.take n) = (encI l).take n := by simp [encI]
theorem encT_take (l : List Tb) (n : Nat) : encT (l.take n) = (encT l).take n := by simp [encT]
/-- A slice that bears images (or who goes on): where it lies, and that it is nil only as a whole. -/
structure SlI (w : World) (v : Value) (l : List Im) : Prop where
  ex : ∃ a c, v = .slice a l.length c ∧ Cs w a (encI l) ∧ (a = none → c = 0) ∧ l.length ≤ c ∧ (l ≠ [] → ∀ ad, a = some ad → ad.spot = none)
structure SlT (w : World) (v : Value) (l : List Tb) : Prop where
  ex : ∃ a c, v = .slice a l.length c ∧ Cs w a (encT l) ∧ (a = none → c = 0) ∧ l.length ≤ c ∧ (l ≠ [] → ∀ ad, a = some ad → ad.spot = none)
section
variable {w w' : World} {v : Value} {l : List Im} {g : List Tb}
theorem SlI.below (h : SlI w v l) (hb : Below w.heap.size w w') : SlI w' v l := by
  obtain ⟨a, c, h0, h1, h2⟩ := h.ex; exact ⟨a, c, h0, h1.below hb, h2⟩
theorem SlT.below (h : SlT w v g) (hb : Below w.heap.size w w') : SlT w' v g := by
  obtain ⟨a, c, h0, h1, h2⟩ := h.ex; exact ⟨a, c, h0, h1.below hb, h2⟩
theorem SlI.one (h : SlI w v l) : v.oneCell' = true := by obtain ⟨a, c, rfl, _⟩ := h.ex; rfl
theorem SlT.one (h : SlT w v g) : v.oneCell' = true := by obtain ⟨a, c, rfl, _⟩ := h.ex; rfl
theorem SlI.nil (w : World) : SlI w nilV [] := ⟨none, 0, rfl, Cs.nil _ _, fun _ => rfl, Nat.le_refl _, fun _ _ h => by cases h⟩
theorem SlT.nil (w : World) : SlT w nilV [] := ⟨none, 0, rfl, Cs.nil _ _, fun _ => rfl, Nat.le_refl _, fun _ _ h => by cases h⟩
/-- The i-th image, in every world that keeps the blocks of w. -/
theorem csI_at {a : Option Addr} (h : Cs w a (encI l)) {i : Nat} (hi : i < l.length) : ∃ b off, a = some ⟨b, off, none⟩ ∧ b < w.heap.size ∧ ∀ w', Below w.heap.size w w' → w'.cell? ⟨b, off + i * 2, none⟩ = some (.int .i64 l[i].1) ∧ w'.cell? ⟨b, off + i * 2 + 1, none⟩ = some (.string l[i].2) := by
  obtain ⟨b, off, h0, h1, h2, h3⟩ := h.at_ i (by rw [encI_length]; exact hi)
  simp only [encI, List.getElem_map] at h2 h3
  exact ⟨b, off, h0, h1, fun w' hb => ⟨(hb.cell (by exact h1)).trans h2, (hb.cell (by exact h1)).trans h3⟩⟩
theorem csT_at {a : Option Addr} (h : Cs w a (encT g)) {i : Nat} (hi : i < g.length) : ∃ b off, a = some ⟨b, off, none⟩ ∧ b < w.heap.size ∧ ∀ w', Below w.heap.size w w' → w'.cell? ⟨b, off + i * 2, none⟩ = some (.int .i64 g[i].1) ∧ w'.cell? ⟨b, off + i * 2 + 1, none⟩ = some (.int .i64 g[i].2) := by
  obtain ⟨b, off, h0, h1, h2, h3⟩ := h.at_ i (by rw [encT_length]; exact hi)
  simp only [encT, List.getElem_map] at h2 h3
  exact ⟨b, off, h0, h1, fun w' hb => ⟨(hb.cell (by exact h1)).trans h2, (hb.cell (by exact h1)).trans h3⟩⟩
end
/-- A slice of the call's own: its block is new since the heap had B blocks. -/
structure Fr (w : World) (v : Value) (L : List P2) (B : Nat) : Prop where
  ex : ∃ a c, v = .slice a L.length c ∧ Cs w a L ∧ (a = none → c = 0) ∧ L.length ≤ c ∧ (∀ ad, a = some ad → ad.spot = none) ∧ (∀ b off, a = some ⟨b, off, none⟩ → B ≤ b)
theorem Fr.off {w w' : World} {v : Value} {L : List P2} {B b : Nat} (h : Fr w v L B) (o : Pk.Off b w w') (hb : b < B) : Fr w' v L B := by
  obtain ⟨a, c, h0, h1, h2, h3, h4, h5⟩ := h.ex
  exact ⟨a, c, h0, h1.off o (fun b' off e => by have := h5 b' off e; omega), h2, h3, h4, h5⟩
theorem Fr.below {w w' : World} {v : Value} {L : List P2} {B : Nat} (h : Fr w v L B) (o : Below w.heap.size w w') : Fr w' v L B := by
  obtain ⟨a, c, h0, h1, h2, h3, h4, h5⟩ := h.ex
  exact ⟨a, c, h0, h1.below o, h2, h3, h4, h5⟩
theorem Own.fr {el : TypeId} {B : Nat} {w : World} {a : Option Addr} {cap : Nat} {L : List P2} (h : Own el B w a cap L) : Fr w (.slice a L.length cap) L B := by
  refine ⟨a, cap, rfl, h.row.cs, ?_, ?_, ?_, fun b off e => h.fresh b (by simp [own, e])⟩
  · rintro rfl
    rcases h.row with ⟨_, h1, _⟩ | ⟨g, cur, h1, _⟩
    · exact h1
    · cases h1
  · rcases h.row with ⟨_, h1, h2⟩ | ⟨g, cur, h1, _, h2, _⟩
    · rw [h2]; exact Nat.zero_le _
    · exact h2
  · intro ad e
    rcases h.row with ⟨h0, _, _⟩ | ⟨g, cur, h1, _, h2, _⟩
    · rw [h0] at e; cases e
    · rw [h1] at e; cases e; rfl
theorem Own.frI {el : TypeId} {B : Nat} {w : World} {a : Option Addr} {cap : Nat} (l : List Im) (h : Own el B w a cap ([] ++ encI l)) : Fr w (.slice a l.length cap) (encI l) B := by
  have := h.fr
  rw [List.nil_append, encI_length] at this
  exact this
theorem Own.frT {el : TypeId} {B : Nat} {w : World} {a : Option Addr} {cap : Nat} (l : List Tb) (h : Own el B w a cap ([] ++ encT l)) : Fr w (.slice a l.length cap) (encT l) B := by
  have := h.fr
  rw [List.nil_append, encT_length] at this
  exact this
theorem Fr.slI {w : World} {v : Value} {l : List Im} {B : Nat} (h : Fr w v (encI l) B) : SlI w v l := by
  obtain ⟨a, c, h0, h1, h2, h3, h4, h5⟩ := h.ex
  rw [encI_length] at h0 h3
  exact ⟨a, c, h0, h1, h2, h3, fun _ => h4⟩
theorem Fr.slT {w : World} {v : Value} {l : List Tb} {B : Nat} (h : Fr w v (encT l) B) : SlT w v l := by
  obtain ⟨a, c, h0, h1, h2, h3, h4, h5⟩ := h.ex
  rw [encT_length] at h0 h3
  exact ⟨a, c, h0, h1, h2, h3, fun _ => h4⟩
/-- A record as a value. -/
structure RecV (w : World) (v : Value) (m : Rm) : Prop where
  ex : ∃ I T, v = .agg (m.s.A I T) ∧ SlI w I m.im ∧ SlT w T m.tb
theorem RecV.below {w w' : World} {v : Value} {m : Rm} (h : RecV w v m) (hb : Below w.heap.size w w') : RecV w' v m := by
  obtain ⟨I, T, h0, h1, h2⟩ := h.ex; exact ⟨I, T, h0, h1.below hb, h2.below hb⟩
end Go.Proofs.Ytakdfdnndogaiaa
