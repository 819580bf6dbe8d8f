/- The developers' Note as a whole; Get, Acts. -/
import Derived.Test.YtjlhohljkedbbaaPsP
namespace Go.Proofs.Ytjlhohljkedbbaa.Pa
open Go.RowKit Gm Go.Maps
set_option linter.unusedVariables false
set_option linter.unusedSimpArgs false
set_option maxRecDepth 100000
/-- What Get tells: of the least number that turned the key. -/
structure GtO (P : List Gn) (k : List UInt8) (x : Ws) (is : Bool) : Prop where
  no : is = false → x = zW ∧ ∀ g ∈ P, lkK g.ks k = none
  yes : is = true → ∃ g ∈ P, ∃ p, lkK g.ks k = some p ∧ x = p.2 ∧ ∀ g' ∈ P, lkK g'.ks k ≠ none → g.txn ≤ g'.txn
/-- The same of those that came already. -/
structure GtI (L : List Dv) (k : List UInt8) (left : Lit → Bool) (x : Ws) (t : Int) (is : Bool) : Prop where
  no : is = false → x = zW ∧ ∀ d ∈ L, left (.int .i64 d.g.txn) = false → lkK d.g.ks k = none
  yes : is = true → ∃ d ∈ L, ∃ p, lkK d.g.ks k = some p ∧ x = p.2 ∧ t = d.g.txn ∧ ∀ d' ∈ L, left (.int .i64 d'.g.txn) = false → lkK d'.g.ks k ≠ none → t ≤ d'.g.txn
structure GtR (w : World) (P : List Gn) (k : List UInt8) (e : Ending) (w' : World) : Prop where
  ex : ∃ x is, e = .returned (.tuple #[.agg (Ws.A x), .bool is]) ∧ GtO P k x is
  bel : Below w.heap.size w w'
section
variable {W W' : Nat → Prop} {w w' : World} {pb bl bw : Nat} {L : List Dv} {P : List Gn} {r : Rc} {I T : Value} {k : List UInt8} {left : Lit → Bool} {x : Ws} {t : Int} {is : Bool}
theorem Note_any (h : Dp W w pb P) (hw : wfT r.tx) (hs : r.ky.size ≤ 9223372036854775807) (hn : P.length < 100000) (hk : ∀ g ∈ P, g.ks.length < 100000) (lsn : Int) : Calls Try.prog 7 #[.pointer (some ⟨pb, 0, none⟩), .agg (r.A I T), .int .i64 lsn] w fun e w' => e = .returned (.tuple #[]) ∧ NpO W w w' pb (noteM P r lsn) := by
  by_cases h0 : r.tx = 0
  · have e : noteM P r lsn = P := by unfold noteM; rw [if_pos h0]
    rw [e]
    exact Note_zero h h0 lsn
  · by_cases h7 : r.kd = 7 ∨ r.kd = 8
    · exact Note_gone h h0 h7 hw lsn
    · obtain ⟨bl, bw, L, hI, rfl⟩ := h.ex
      cases hd : lkD L r.tx with
      | none => exact Note_new hI h.lt h0 h7 hw hs (by simpa using hn) hd lsn
      | some d => exact Note_on hI h.lt h0 h7 hw hs (by simpa using hn) hd (hk _ (List.mem_map.2 ⟨d, (lkD_mem hd).1, rfl⟩)) lsn
theorem GtI.start : GtI L k (fun l => (fW L l).isSome) zW 0 false := by
  refine ⟨fun _ => ⟨rfl, fun d hd h => ?_⟩, fun h => by cases h⟩
  have : (fW L (.int .i64 d.g.txn)).isSome = true := by
    rw [fW_at, Option.isSome_map, lkD, List.find?_isSome]
    exact ⟨d, hd, by simp⟩
  rw [this] at h
  cases h
theorem leftI {left : Lit → Bool} {a b : Int} (h : (left (.int .i64 a) && !(Lit.int .i64 a).sameKey (.int .i64 b)) = false) : left (.int .i64 a) = false ∨ a = b := by
  by_cases e : a = b
  · exact Or.inr e
  · rw [sameKey_ne (fun e2 => e (by cases e2; rfl))] at h
    exact Or.inl (by simpa using h)
theorem GtI.skip (h : GtI L k left x t is) (hn : L.Pairwise fun a b => a.g.txn ≠ b.g.txn ∧ a.b ≠ b.b) {d : Dv} (hd : lkD L d.g.txn = some d) (hc : lkK d.g.ks k = none ∨ (is = true ∧ ¬ d.g.txn < t)) : GtI L k (fun z => left z && !z.sameKey (.int .i64 d.g.txn)) x t is := by
  refine ⟨fun e => ⟨(h.no e).1, fun y hy hl => ?_⟩, fun e => ?_⟩
  · rcases leftI hl with h1 | h1
    · exact (h.no e).2 y hy h1
    · have e2 := lkD_of hn hy
      rw [h1, hd] at e2
      cases e2
      rcases hc with h2 | h2
      · exact h2
      · rw [e] at h2; cases h2.1
  · obtain ⟨d0, hd0, p, h1, h2, h3, h4⟩ := h.yes e
    refine ⟨d0, hd0, p, h1, h2, h3, fun y hy hl hne => ?_⟩
    rcases leftI hl with h5 | h5
    · exact h4 y hy h5 hne
    · have e2 := lkD_of hn hy
      rw [h5, hd] at e2
      cases e2
      rcases hc with h6 | h6
      · exact absurd h6 hne
      · omega
theorem GtI.take (h : GtI L k left x t is) (hn : L.Pairwise fun a b => a.g.txn ≠ b.g.txn ∧ a.b ≠ b.b) {d : Dv} (hd : lkD L d.g.txn = some d) {p : ByteArray × Ws} (hp : lkK d.g.ks k = some p) (hc : is = false ∨ d.g.txn < t) : GtI L k (fun z => left z && !z.sameKey (.int .i64 d.g.txn)) p.2 d.g.txn true := by
  refine ⟨(fun e => by cases e), fun _ => ⟨d, (lkD_mem hd).1, p, hp, rfl, rfl, fun y hy hl hne => ?_⟩⟩
  rcases leftI hl with h5 | h5
  · rcases hc with h6 | h6
    · exact absurd ((h.no h6).2 y hy h5) hne
    · cases is with
      | false => exact absurd ((h.no rfl).2 y hy h5) hne
      | true =>
        obtain ⟨d0, hd0, p0, h1, h2, h3, h4⟩ := h.yes rfl
        have := h4 y hy h5 hne
        omega
  · omega
theorem GtI.done (h : GtI L k left x t is) (hl : ∀ l, left l = false) : GtO (L.map (·.g)) k x is := by
  refine ⟨fun e => ⟨(h.no e).1, fun g hg => ?_⟩, fun e => ?_⟩
  · obtain ⟨d, hd, rfl⟩ := List.mem_map.1 hg
    exact (h.no e).2 d hd (hl _)
  · obtain ⟨d0, hd0, p, h1, h2, h3, h4⟩ := h.yes e
    refine ⟨d0.g, List.mem_map.2 ⟨d0, hd0, rfl⟩, p, h1, h2, fun g hg hne => ?_⟩
    obtain ⟨d, hd, rfl⟩ := List.mem_map.1 hg
    rw [← h3]
    exact h4 d hd (hl _) hne
theorem fW_inv {t : Int} {v : Value} (h : fW L (.int .i64 t) = some v) : ∃ d, lkD L t = some d ∧ v = .map (some d.b) := by
  rw [fW_at] at h
  cases hd : lkD L t with
  | none => rw [hd] at h; cases h
  | some d => rw [hd] at h; cases h; exact ⟨d, rfl, rfl⟩
theorem invI {key : Value} {l : Lit} (h : keyOf Try.prog 3 key = some l) : ∃ x : Int, key = .int .i64 x ∧ l = .int .i64 x := by
  obtain ⟨x, h1, h2, _⟩ := Maps.keyOf_int_inv Try.underlying3 h
  exact ⟨x, h1, h2⟩
/-- Get's memory in its loop. -/
structure GtM (W : Nat → Prop) (w wr : World) (pb bl bw b4 b6 rb : Nat) (L : List Dv) (left : Lit → Bool) (cnt : Nat) (x : Ws) : Prop where
  bel : Below w.heap.size w wr
  r : Mr wr 3 bw rb L.length (fW L) left cnt
  c4 : At wr b4 31 zW.A
  c6 : At wr b6 31 (Ws.A x)
  ge : w.heap.size ≤ b4 ∧ w.heap.size ≤ b6 ∧ w.heap.size ≤ rb ∧ b4 ≠ b6 ∧ b4 ≠ rb ∧ b6 ≠ rb
theorem GtM.dp {wr : World} {b4 b6 rb cnt : Nat} (h : GtM W w wr pb bl bw b4 b6 rb L left cnt x) (H : DpI W w pb bl bw L) (HL : ∀ j, W j → j < w.heap.size) : DpI W wr pb bl bw L := H.keep fun j hj => h.bel.block j (HL j hj)
theorem GtM.next {wr w2 : World} {b4 b6 rb cnt cnt2 : Nat} {l2 : Lit → Bool} (h : GtM W w wr pb bl bw b4 b6 rb L left cnt x) (hr : Mr w2 3 bw rb L.length (fW L) l2 cnt2) (ho : ∀ j, j ≠ rb → w2.heap[j]? = wr.heap[j]?) (hf : Fr (· = rb) (· = rb) wr w2) : GtM W w w2 pb bl bw b4 b6 rb L l2 cnt2 x :=
  ⟨h.bel.trans (hf.bel (fun j hj => by have := h.ge.2.2.1; omega) h.bel.size), hr, h.c4.keep (ho _ h.ge.2.2.2.2.1), h.c6.keep (ho _ h.ge.2.2.2.2.2), h.ge⟩
theorem GtM.below {wr w2 : World} {b4 b6 rb cnt : Nat} (h : GtM W w wr pb bl bw b4 b6 rb L left cnt x) (hb : Below wr.heap.size wr w2) : GtM W w w2 pb bl bw b4 b6 rb L left cnt x :=
  ⟨thn h.bel hb, h.r.bel hb, h.c4.bel hb, h.c6.bel hb, h.ge⟩
theorem GtM.put {wr w2 : World} {b4 b6 rb cnt : Nat} {y : Ws} (H : DpI W w pb bl bw L) (HL : ∀ j, W j → j < w.heap.size) (h : GtM W w wr pb bl bw b4 b6 rb L left cnt x) (P : Put wr w2 b6 31 (Ws.A y)) : GtM W w w2 pb bl bw b4 b6 rb L left cnt y :=
  ⟨h.bel.trans ((P.fr (· = b6) rfl).bel (fun j hj => by have := h.ge.2.1; omega) h.bel.size), h.r.keep (P.off _ (by have := HL _ H.w1.2.2; have := h.ge.2.1; omega)) (P.off _ (Ne.symm h.ge.2.2.2.2.2)), h.c4.keep (P.off _ h.ge.2.2.2.1), P.is, h.ge⟩
end
end Go.Proofs.Ytjlhohljkedbbaa.Pa
