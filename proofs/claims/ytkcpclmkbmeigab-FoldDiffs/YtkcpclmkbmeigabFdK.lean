/- FoldEnds: records that a law is handed; two folds side by side. -/
import Derived.Test.YtkcpclmkbmeigabFdJ
import Derived.Test.YtkcpclmkbmeigabFdI
import Derived.Test.YtkcpclmkbmeigabFdH
import Derived.Test.YtkcpclmkbmeigabGmO
namespace Go.Proofs.Ytkcpclmkbmeigab.Fd
open Go.RowKit Gm Go.Maps
set_option linter.unusedVariables false
set_option linter.unusedSimpArgs false
set_option maxRecDepth 100000
/-- What reads as a record; its two slices told to be slices. -/
structure RecS (cs : List Value) : Prop where
  ex : ∃ r i1 i2 i3 t1 t2 t3, cs = (Rc.A r (.slice i1 i2 i3) (.slice t1 t2 t3)).toList ∧ wfT r.tx ∧ r.ky.size ≤ 9223372036854775807
theorem open_rs {H : Type} {enc : TypeId × Value → H} {w : World} {fuel : Nat} {cs : List Value} {x : DataW H × List MemPlace} (h : DataW.trod enc Try.prog w 0 (fun _ => true) true fuel 28 cs = some x) (hcs : cs.length = 13) : RecS cs := by
  have h3 : Try.prog.cellsOf 3 = 1 := by kernel_rfl
  have h9 : Try.prog.cellsOf 9 = 1 := by kernel_rfl
  have hi : Try.prog.cellsOf 25 = 1 := by kernel_rfl
  have ht : Try.prog.cellsOf 26 = 1 := by kernel_rfl
  obtain ⟨xs, k, hk, hx, _, hxl, hf⟩ := DataW.trod_struct Try.underlying28 h
  match xs, hxl, cs, hcs with
  | [y0, y1, y2, y3, y4, y5, y6, y7, y8, y9, y10, y11, y12], _, [v0, v1, v2, v3, v4, v5, v6, v7, v8, v9, v10, v11, v12], _ =>
    have f0 := hf 0 _ rfl
    have f1 := hf 1 _ rfl
    have f2 := hf 2 _ rfl
    have f3 := hf 3 _ rfl
    have f4 := hf 4 _ rfl
    have f5 := hf 5 _ rfl
    have f6 := hf 6 _ rfl
    have f7 := hf 7 _ rfl
    have f8 := hf 8 _ rfl
    have f9 := hf 9 _ rfl
    have f10 := hf 10 _ rfl
    have f11 := hf 11 _ rfl
    have f12 := hf 12 _ rfl
    simp [h3, h9, hi, ht] at f0 f1 f2 f3 f4 f5 f6 f7 f8 f9 f10 f11 f12
    obtain ⟨n0, i0, _, _⟩ := DataW.trod_int Try.underlying3 f0
    obtain ⟨n1, i1, _, b1⟩ := DataW.trod_int Try.underlying3 f1
    obtain ⟨n2, i2, _, _⟩ := DataW.trod_int Try.underlying3 f2
    obtain ⟨n3, i3, _, _⟩ := DataW.trod_int Try.underlying3 f3
    obtain ⟨n4, i4, _, _⟩ := DataW.trod_int Try.underlying3 f4
    obtain ⟨n5, i5, _, z5⟩ := DataW.trod_string Try.underlying9 f5
    obtain ⟨n6, i6, _, z6⟩ := DataW.trod_string Try.underlying9 f6
    obtain ⟨n7, i7, _, z7⟩ := DataW.trod_string Try.underlying9 f7
    obtain ⟨n8, i8, _, _⟩ := DataW.trod_int Try.underlying3 f8
    obtain ⟨a9, b9, c9, rfl⟩ : ∃ a b c, v9 = Value.slice a b c := by
      rcases Go.Deep.open_slice Try.underlying25 f9 with ⟨h, _⟩ | ⟨ad, len, cap, m, n, D5, P5, h, _⟩
      · exact ⟨_, _, _, by simpa using h⟩
      · exact ⟨_, _, _, by simpa using h⟩
    obtain ⟨a10, b10, c10, rfl⟩ : ∃ a b c, v10 = Value.slice a b c := by
      rcases Go.Deep.open_slice Try.underlying26 f10 with ⟨h, _⟩ | ⟨ad, len, cap, m, n, D5, P5, h, _⟩
      · exact ⟨_, _, _, by simpa using h⟩
      · exact ⟨_, _, _, by simpa using h⟩
    obtain ⟨n11, i11, _, _⟩ := DataW.trod_int Try.underlying3 f11
    obtain ⟨n12, i12, _, _⟩ := DataW.trod_int Try.underlying3 f12
    simp at i0 i1 i2 i3 i4 i5 i6 i7 i8 i11 i12
    subst i0 i1 i2 i3 i4 i5 i6 i7 i8 i11 i12
    exact ⟨⟨n0, n1, n2, n3, n4, n5, n6, n7, n8, n11, n12⟩, a9, b9, c9, a10, b10, c10, rfl, b1, z5⟩
/-! ### Two folds, plain -/
theorem lkG_drop (G : List Gt) (t a : Int) : lkG (dropG G t) a = if a = t then none else lkG G a := by
  unfold lkG dropG
  rw [List.find?_filter]
  by_cases h : a = t
  · subst h
    rw [if_pos rfl, List.find?_eq_none]
    intro x hx
    simp
  · rw [if_neg h]
    congr 1
    funext d
    by_cases h2 : d.txn = a
    · simp [h2, h]
    · simp [h2]
theorem dropG_comm (G : List Gt) (t u : Int) : dropG (dropG G u) t = dropG (dropG G t) u := by
  unfold dropG
  rw [List.filter_filter, List.filter_filter]
  congr 1
  funext g
  exact Bool.and_comm _ _
theorem dropG_dropG (G : List Gt) (t : Int) : dropG (dropG G t) t = dropG G t := by
  unfold dropG
  rw [List.filter_filter]
  congr 1
  funext g
  exact Bool.and_self _
theorem dropG_map (G : List Gt) (t u : Int) (k : ByteArray) (x : Hs) : dropG (G.map (tnG u k x)) t = (dropG G t).map (tnG u k x) := by
  unfold dropG
  rw [List.filter_map]
  congr 2
  funext g
  show ((tnG u k x g).txn != t) = (g.txn != t)
  rw [tnG_txn]
theorem dropG_put {G : List Gt} {t u : Int} (h : u ≠ t) (k : ByteArray) (x : Hs) : dropG (putG G u k x) t = putG (dropG G t) u k x := by
  unfold putG
  rw [lkG_drop, if_neg h]
  split
  · exact dropG_map G t u k x
  · have : (u != t) = true := by simpa using h
    unfold dropG
    rw [List.filter_append]
    simp [this]
theorem dropG_putS (G : List Gt) (t : Int) (k : ByteArray) (x : Hs) : dropG (putG G t k x) t = dropG G t := by
  unfold putG
  split
  · rw [dropG_map]
    conv => rhs; rw [← List.map_id (dropG G t)]
    refine List.map_congr_left fun g hg => ?_
    have h2 := (List.mem_filter.1 hg).2
    have : g.txn ≠ t := by simpa using h2
    unfold tnG
    rw [if_neg this]
    rfl
  · unfold dropG
    rw [List.filter_append]
    simp
/-- A is B, but for one transaction that goes on. -/
structure SmE (t : Int) (A B : Fs) : Prop where
  k : A.K = B.K
  n : A.n = B.n
  g : dropG A.G t = B.G
theorem SmE.both {t : Int} {A B : Fs} (h : SmE t A B) {r : Rc} (hr : r.tx ≠ t) : SmE t (noteF A r) (noteF B r) := by
  have hk : ksG B.G r.tx = ksG A.G r.tx := by unfold ksG; rw [← h.g, lkG_drop, if_neg hr]
  unfold noteF
  split
  · exact ⟨by dsimp only; rw [h.k, hk], by dsimp only; rw [h.n], by dsimp only; rw [dropG_comm, h.g]⟩
  · split
    · exact ⟨h.k, h.n, by dsimp only; rw [dropG_comm, h.g]⟩
    · cases bhd r with
      | none => exact ⟨h.k, h.n, h.g⟩
      | some x => exact ⟨h.k, h.n, by dsimp only; rw [dropG_put hr, h.g]⟩
theorem SmE.one {t : Int} {A B : Fs} (h : SmE t A B) {r : Rc} (hr : r.tx = t) (h7 : r.kd ≠ 7) : SmE t (noteF A r) B := by
  unfold noteF
  rw [if_neg h7]
  split
  · exact ⟨h.k, h.n, by dsimp only; rw [hr, dropG_dropG, h.g]⟩
  · cases bhd r with
    | none => exact ⟨h.k, h.n, h.g⟩
    | some x => exact ⟨h.k, h.n, by dsimp only; rw [hr, dropG_putS, h.g]⟩
/-! ### .. in memory -/
structure EnS (w0 w : World) (fa fb : Nat) (A B : Fs) : Prop where
  ex : ∃ WA WB, Fo WA w fa A.K A.G A.n ∧ Fo WB w fb B.K B.G B.n ∧ (∀ j, WA j → w0.heap.size ≤ j ∧ ¬ WB j) ∧ (∀ j, WB j → w0.heap.size ≤ j)
  bel : Below w0.heap.size w0 w
section
variable {w0 w w' : World} {fa fb i : Nat} {A B : Fs} {r : Rc} {I T : Value}
theorem EnS.below (h : EnS w0 w fa fb A B) (hb : Below w.heap.size w w') : EnS w0 w' fa fb A B := by
  obtain ⟨WA, WB, h1, h2, h3, h4⟩ := h.ex
  exact ⟨⟨WA, WB, h1.bel hb, h2.bel hb, h3, h4⟩, thn h.bel hb⟩
theorem EnS.a (h : EnS w0 w fa fb A B) : ∃ WA, Fo WA w fa A.K A.G A.n := by obtain ⟨WA, WB, h1, _⟩ := h.ex; exact ⟨WA, h1⟩
theorem EnS.b (h : EnS w0 w fa fb A B) : ∃ WB, Fo WB w fb B.K B.G B.n := by obtain ⟨WA, WB, _, h1, _⟩ := h.ex; exact ⟨WB, h1⟩
theorem EnS.noteA (h : EnS w0 w fa fb A B) (hb : Bd A i) (hi : i ≤ 500) (hw : wfT r.tx) (hs : r.ky.size ≤ 9223372036854775807) : Calls Try.prog 6 #[.pointer (some ⟨fa, 0, none⟩), .agg (r.A I T)] w fun e w' => e = .returned (.tuple #[]) ∧ EnS w0 w' fa fb (noteF A r) B := by
  obtain ⟨WA, WB, h1, h2, h3, h4⟩ := h.ex
  refine (Note_bd h1 hb hi hw hs).mono ?_
  rintro e w' ⟨rfl, W', k1, k2⟩
  refine ⟨rfl, ⟨W', WB, k1, h2.keep (fun j hj => k2.blk j (h2.lt j hj) (fun e => (h3 j e).2 hj)) k2.size, fun j hj => ?_, h4⟩, h.bel.trans (k2.bel (fun j hj => (h3 j hj).1) h.bel.size)⟩
  rcases k2.sub j hj with e | e
  · exact h3 j e
  · exact ⟨Nat.le_trans h.bel.size e, fun e2 => by have := h2.lt j e2; omega⟩
theorem EnS.noteB (h : EnS w0 w fa fb A B) (hb : Bd B i) (hi : i ≤ 500) (hw : wfT r.tx) (hs : r.ky.size ≤ 9223372036854775807) : Calls Try.prog 6 #[.pointer (some ⟨fb, 0, none⟩), .agg (r.A I T)] w fun e w' => e = .returned (.tuple #[]) ∧ EnS w0 w' fa fb A (noteF B r) := by
  obtain ⟨WA, WB, h1, h2, h3, h4⟩ := h.ex
  refine (Note_bd h2 hb hi hw hs).mono ?_
  rintro e w' ⟨rfl, W', k1, k2⟩
  refine ⟨rfl, ⟨WA, W', h1.keep (fun j hj => k2.blk j (h1.lt j hj) (h3 j hj).2) k2.size, k1, fun j hj => ⟨(h3 j hj).1, fun e => ?_⟩, fun j hj => ?_⟩, h.bel.trans (k2.bel h4 h.bel.size)⟩
  · rcases k2.sub j e with e2 | e2
    · exact (h3 j hj).2 e2
    · have := h1.lt j hj; omega
  · rcases k2.sub j hj with e2 | e2
    · exact h4 j e2
    · exact Nat.le_trans h.bel.size e2
theorem EnS.pa (h : EnS w0 w fa fb A B) : A.G.Pairwise fun a b => a.txn ≠ b.txn := by obtain ⟨W, h1⟩ := h.a; exact h1.nd
theorem EnS.pb (h : EnS w0 w fa fb A B) : B.G.Pairwise fun a b => a.txn ≠ b.txn := by obtain ⟨W, h1⟩ := h.b; exact h1.nd
theorem en_new {w1 w2 : World} {fa fb : Nat} (h1 : NwF w w1 fa) (h2 : NwF w1 w2 fb) : EnS w w2 fa fb ⟨[], [], 0⟩ ⟨[], [], 0⟩ := by
  obtain ⟨WA, a1, a2⟩ := h1.ex
  obtain ⟨WB, b1, b2⟩ := h2.ex
  exact ⟨⟨WA, WB, a1.bel h2.bel, b1, fun j hj => ⟨a2 j hj, fun e => by have := a1.lt j hj; have := b2 j e; omega⟩, fun j hj => Nat.le_trans h1.bel.size (b2 j hj)⟩, thn h1.bel h2.bel⟩
end
end Go.Proofs.Ytkcpclmkbmeigab.Fd
