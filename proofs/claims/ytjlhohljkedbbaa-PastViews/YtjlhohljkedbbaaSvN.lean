/- PastViews: what its world is. -/
import Derived.Test.YtjlhohljkedbbaaSvM
import Derived.Test.YtjlhohljkedbbaaPsW
namespace Go.Proofs.Ytjlhohljkedbbaa.Pa
open Go.RowKit Gm Go.Maps Go.Sort
open Go.Proofs.Ytjlhohljkedbbaa.So (CL encC encL encO cfC)
set_option linter.unusedVariables false
set_option linter.unusedSimpArgs false
set_option maxRecDepth 100000
/-- What reads as a record; its two slices told to be slices. -/
structure RecS (cs : List Value) : Prop where
  ex : ∃ r i1 i2 i3 t1 t2 t3, cs = (Rc.A r (.slice i1 i2 i3) (.slice t1 t2 t3)).toList ∧ wfT r.tx ∧ r.ky.size ≤ 9223372036854775807
theorem open_rs {H : Type} {enc : TypeId × Value → H} {w : World} {fuel : Nat} {cs : List Value} {x : DataW H × List MemPlace} (h : DataW.trod enc Try.prog w 0 (fun _ => true) true fuel 29 cs = some x) (hcs : cs.length = 13) : RecS cs := by
  have h3 : Try.prog.cellsOf 3 = 1 := by kernel_rfl
  have h9 : Try.prog.cellsOf 9 = 1 := by kernel_rfl
  have hi : Try.prog.cellsOf 26 = 1 := by kernel_rfl
  have ht : Try.prog.cellsOf 27 = 1 := by kernel_rfl
  obtain ⟨xs, k, hk, hx, _, hxl, hf⟩ := DataW.trod_struct Try.underlying29 h
  match xs, hxl, cs, hcs with
  | [y0, y1, y2, y3, y4, y5, y6, y7, y8, y9, y10, y11, y12], _, [v0, v1, v2, v3, v4, v5, v6, v7, v8, v9, v10, v11, v12], _ =>
    have f0 := hf 0 _ rfl
    have f1 := hf 1 _ rfl
    have f2 := hf 2 _ rfl
    have f3 := hf 3 _ rfl
    have f4 := hf 4 _ rfl
    have f5 := hf 5 _ rfl
    have f6 := hf 6 _ rfl
    have f7 := hf 7 _ rfl
    have f8 := hf 8 _ rfl
    have f9 := hf 9 _ rfl
    have f10 := hf 10 _ rfl
    have f11 := hf 11 _ rfl
    have f12 := hf 12 _ rfl
    simp [h3, h9, hi, ht] at f0 f1 f2 f3 f4 f5 f6 f7 f8 f9 f10 f11 f12
    obtain ⟨n0, i0, _, _⟩ := DataW.trod_int Try.underlying3 f0
    obtain ⟨n1, i1, _, b1⟩ := DataW.trod_int Try.underlying3 f1
    obtain ⟨n2, i2, _, _⟩ := DataW.trod_int Try.underlying3 f2
    obtain ⟨n3, i3, _, _⟩ := DataW.trod_int Try.underlying3 f3
    obtain ⟨n4, i4, _, _⟩ := DataW.trod_int Try.underlying3 f4
    obtain ⟨n5, i5, _, z5⟩ := DataW.trod_string Try.underlying9 f5
    obtain ⟨n6, i6, _, z6⟩ := DataW.trod_string Try.underlying9 f6
    obtain ⟨n7, i7, _, z7⟩ := DataW.trod_string Try.underlying9 f7
    obtain ⟨n8, i8, _, _⟩ := DataW.trod_int Try.underlying3 f8
    obtain ⟨a9, b9, c9, rfl⟩ : ∃ a b c, v9 = Value.slice a b c := by
      rcases Go.Deep.open_slice Try.underlying26 f9 with ⟨h, _⟩ | ⟨ad, len, cap, m, n, D5, P5, h, _⟩
      · exact ⟨_, _, _, by simpa using h⟩
      · exact ⟨_, _, _, by simpa using h⟩
    obtain ⟨a10, b10, c10, rfl⟩ : ∃ a b c, v10 = Value.slice a b c := by
      rcases Go.Deep.open_slice Try.underlying27 f10 with ⟨h, _⟩ | ⟨ad, len, cap, m, n, D5, P5, h, _⟩
      · exact ⟨_, _, _, by simpa using h⟩
      · exact ⟨_, _, _, by simpa using h⟩
    obtain ⟨n11, i11, _, _⟩ := DataW.trod_int Try.underlying3 f11
    obtain ⟨n12, i12, _, _⟩ := DataW.trod_int Try.underlying3 f12
    simp at i0 i1 i2 i3 i4 i5 i6 i7 i8 i11 i12
    subst i0 i1 i2 i3 i4 i5 i6 i7 i8 i11 i12
    exact ⟨⟨n0, n1, n2, n3, n4, n5, n6, n7, n8, n11, n12⟩, a9, b9, c9, a10, b10, c10, rfl, b1, z5⟩
theorem zRcV (w : World) : (zeroValue 29).run Try.prog w = .ok (.agg (Rc.A ⟨0, 0, 0, 0, 0, ⟨#[]⟩, ⟨#[]⟩, ⟨#[]⟩, 0, 0, 0⟩ (.slice none 0 0) (.slice none 0 0))) w := by kernel_rfl
theorem oneRc (r : Rc) (i1 : Option Addr) (i2 i3 : Nat) (t1 : Option Addr) (t2 t3 : Nat) : ∀ u ∈ (Rc.A r (.slice i1 i2 i3) (.slice t1 t2 t3)).toList, u.oneCell' = true := by
  intro u hu
  simp [Rc.A] at hu
  rcases hu with rfl | rfl | rfl | rfl | rfl | rfl | rfl | rfl | rfl | rfl | rfl | rfl | rfl <;> rfl
/-- The past of a law, all that lay before stands. -/
structure Bv (w0 w : World) (xb : Nat) (P : List Gn) (i : Nat) : Prop where
  ex : ∃ W, Dp W w xb P ∧ ∀ j, W j → w0.heap.size ≤ j
  bel : Below w0.heap.size w0 w
  b : PiB P i
  acts : actsM P ≤ i
section
variable {W : Nat → Prop} {w0 w w' : World} {xb i : Nat} {P : List Gn} {r : Rc} {I T v : Value} {C D : List CL} {lo hi : ByteArray} {most : Int}
theorem Bv.below (h : Bv w0 w xb P i) (hb : Below w.heap.size w w') : Bv w0 w' xb P i := by
  obtain ⟨W, h1, h2⟩ := h.ex
  exact ⟨⟨W, h1.bel hb, h2⟩, thn h.bel hb, h.b, h.acts⟩
theorem Bv.up (h : Bv w0 w xb P i) : Bv w0 w xb P (i + 1) := ⟨h.ex, h.bel, ⟨h.b.wf, h.b.ks, by have := h.b.le; omega, fun g hg => by have := h.b.kl g hg; omega⟩, by have := h.acts; omega⟩
theorem Bv.pi (h : Bv w0 w xb P i) (hi : i ≤ 40) : Pi P := by
  obtain ⟨W, h1, h2⟩ := h.ex
  exact h1.pi h.b.wf h.b.ks (by have := h.b.le; omega) (fun g hg => by have := h.b.kl g hg; omega)
theorem Bv.note (h : Bv w0 w xb P i) (hi : i ≤ 40) (hw : wfT r.tx) (hs : r.ky.size ≤ 9223372036854775807) (n : Int) : Calls Try.prog 7 #[.pointer (some ⟨xb, 0, none⟩), .agg (r.A I T), .int .i64 n] w fun e w' => e = .returned (.tuple #[]) ∧ Bv w0 w' xb (noteM P r n) (i + 1) := by
  obtain ⟨W, h1, h4⟩ := h.ex
  refine (Note_any h1 hw hs (by have := h.b.le; omega) (fun g hg => by have := h.b.kl g hg; omega) n).mono ?_
  rintro e w' ⟨rfl, ⟨W', g1, g2⟩⟩
  refine ⟨rfl, ⟨W', g1, fun j hj => ?_⟩, h.bel.trans (g2.bel h4 h.bel.size), h.b.note hw hs n, by have := acts_note (P := P) r n; have := h.acts; omega⟩
  rcases g2.sub j hj with h6 | h6
  · exact h4 j h6
  · exact Nat.le_trans h.bel.size h6
theorem Bv.get (h : Bv w0 w xb P i) {kb : ByteArray} (hs : kb.size ≤ 9223372036854775807) : Calls Try.prog 6 #[.pointer (some ⟨xb, 0, none⟩), .string kb] w fun e w' => GtR w P kb.data.toList e w' := by
  obtain ⟨W, h1, h4⟩ := h.ex
  exact Get_any h1 kb hs
/-- What View gives. -/
structure VvO (w : World) (P : List Gn) (C : List CL) (lo hi : ByteArray) (most : Int) (e : Ending) (w' : World) : Prop where
  ex : ∃ b q d F D, e = .returned (.slice b q d) ∧ Al P F ∧ Vs F C lo hi D ∧ Rv w' (.slice b q d) (D.take q) ∧ q = mostN most D.length ∧ D.length ≤ 1000 ∧ D.Pairwise ltK
  bel : Below w.heap.size w w'
theorem Bv.view (h : Bv w0 w xb P i) (hi40 : i ≤ 40) (hv : Rv w v C) (hn : C.length ≤ 60) (hks : ∀ c ∈ C, c.1.size ≤ 9223372036854775807) (hC : C.Pairwise ltK) : Calls Try.prog 10 #[.pointer (some ⟨xb, 0, none⟩), v, .string lo, .string hi, .int .i64 most] w fun e w' => VvO w P C lo hi most e w' := by
  have hP := h.pi hi40
  obtain ⟨W, h1, h4⟩ := h.ex
  refine (View_P h1 hP hv (by omega) hks).mono ?_
  rintro e w' ⟨F, hA, D, hS, u, rfl, hu⟩
  obtain ⟨b, d, e, -⟩ := hu.row.sl
  have hq : ((D.map encC).take (mostN most D.length)).length = mostN most D.length := by
    rw [List.length_take, List.length_map]
    exact Nat.min_eq_left (mostN_le _ _)
  rw [hq] at e
  subst e
  obtain ⟨M2, hM, hp, _⟩ := hS.ex
  refine ⟨⟨b, _, d, F, D, rfl, hA, hS, Rv.of_row (by rw [List.map_take]; exact hu.row), rfl, ?_, hS.up' hA hC⟩, hu.bel⟩
  rw [hp.length_eq, List.length_append]
  have := List.length_filter_le (keepC F) C
  have := hM.len hA
  have := h.acts
  omega
theorem rising_yes (h : Rv w v D) (hn : D.length ≤ 100000) (ha : adj D) : Calls Try.prog 8 #[v] w fun e w' => e = .returned (.bool true) ∧ Below w.heap.size w w' := by
  refine (rising_any h hn).mono ?_
  rintro e w' ⟨⟨r, rfl, hr⟩, q⟩
  rw [hr.2 ha]
  exact ⟨rfl, q⟩
theorem rising_no (h : Rv w v D) (hn : D.length ≤ 100000) (ha : ¬ adj D) : Calls Try.prog 8 #[v] w fun e w' => e = .returned (.bool false) ∧ Below w.heap.size w w' := by
  refine (rising_any h hn).mono ?_
  rintro e w' ⟨⟨r, rfl, hr⟩, q⟩
  cases r with
  | true => exact absurd (hr.1 rfl) ha
  | false => exact ⟨rfl, q⟩
theorem most_3 {most : Int} {q3 q4 : Nat} (h : q3 = mostN most q4) : (most < (q4 : Int) ∧ most < 0 ∧ (q3 : Int) = 0) ∨ (most < (q4 : Int) ∧ ¬ most < 0 ∧ (q3 : Int) = most) ∨ (¬ most < (q4 : Int) ∧ ¬ (q4 : Int) < 0 ∧ (q3 : Int) = (q4 : Int)) := by
  unfold mostN at h
  omega
/-- Both views, told together. -/
structure V2O (w w3 w4 : World) (xb : Nat) (P : List Gn) (i : Nat) (C : List CL) (a1 : Option Addr) (n1 c1 : Nat) (b3 : Option Addr) (q3 d3 : Nat) (D3 : List CL) (lo hi : ByteArray) (most : Int) (e : Ending) : Prop where
  ex : ∃ b4 q4 d4, e = .returned (.slice b4 q4 d4) ∧ Hid (∀ wx, Below w4.heap.size w4 wx → Rv wx (.slice b4 q4 d4) D3) ∧ Hid (∀ wx, Below w3.heap.size w3 wx → Rv wx (.slice b3 q3 d3) (D3.take q3)) ∧ Hid (q4 = D3.length) ∧ Hid (q3 = mostN most q4 ∧ q4 ≤ 1000) ∧
    Hid (∀ wx, Below w4.heap.size w4 wx → Calls Try.prog 8 #[.slice b4 q4 d4] wx fun e w' => e = .returned (.bool true) ∧ Below wx.heap.size wx w') ∧
    Hid (∀ wx, Bv w wx xb P i → Below w4.heap.size w4 wx → Calls Try.prog 11 #[.pointer (some ⟨xb, 0, none⟩), .slice a1 n1 c1, .slice b4 q4 d4, .string lo, .string hi] wx fun e w' => e = .returned (.bool true) ∧ Below wx.heap.size wx w') ∧ Below w3.heap.size w3 w4
theorem v2_of {w w3 w4 : World} {a1 b3 : Option Addr} {n1 c1 q3 d3 : Nat} {F3 : Lit → Option Value} {D3 : List CL} {e : Ending} (hz : Bv w w3 xb P i) (hP : Pi P) (hC : C.Pairwise ltK) (hv : Rv w (.slice a1 n1 c1) C) (h60 : C.length ≤ 60) (hn1 : C.length = n1) (hks : ∀ c ∈ C, c.1.size ≤ 9223372036854775807)
    (h3 : Al P F3 ∧ Vs F3 C lo hi D3 ∧ Rv w3 (.slice b3 q3 d3) (D3.take q3) ∧ q3 = mostN most D3.length ∧ D3.length ≤ 1000 ∧ D3.Pairwise ltK) (h4 : VvO w3 P C lo hi 1000 e w4) : V2O w w3 w4 xb P i C a1 n1 c1 b3 q3 d3 D3 lo hi most e := by
  obtain ⟨hA3, hS3, hR3, hq3, hl3, hP3⟩ := h3
  obtain ⟨⟨b4, q4, d4, F4, D4, rfl, hA4, hS4, hR4, hq4, hl4, hP4⟩, hb⟩ := h4
  have eD : D3 = D4 := Vs.uniq hP.nd hA3 hA4 hC hS3 hS4
  subst eD
  have e4 : q4 = D3.length := by rw [hq4]; unfold mostN; omega
  rw [List.take_of_length_le (by omega)] at hR4
  refine ⟨b4, q4, d4, rfl, fun wx hb => hR4.bel hb, fun wx hb => hR3.bel hb, e4, ⟨by rw [e4]; exact hq3, by omega⟩, fun wx hb => rising_yes (hR4.bel hb) (by omega) (pw_adj hP3), fun wx hz hb => ?_, hb⟩
  obtain ⟨W, hD, _⟩ := hz.ex
  exact viewed_any hD hP hA4 (by omega) hks (hv.bel hz.bel) hn1 (hR4.bel hb) e4.symm hS4 (by omega)
end
end Go.Proofs.Ytjlhohljkedbbaa.Pa
