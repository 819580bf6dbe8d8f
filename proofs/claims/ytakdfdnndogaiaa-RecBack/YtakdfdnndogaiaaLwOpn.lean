/- The record that a law is handed: what lies in memory where it reads as data. -/
import Derived.Test.YtakdfdnndogaiaaLwCom
import Derived.Deep.Slices
import Derived.OpenShut
namespace Go.Proofs.Ytakdfdnndogaiaa
open Go.RowKit
set_option linter.unusedVariables false
set_option linter.unusedSimpArgs false
set_option maxRecDepth 100000

section
variable {H : Type} {enc : TypeId × Value → H} {w : World}
theorem open_imgs {fuel : Nat} {cs : List Value} {x : DataW H × List MemPlace} (h : DataW.trod enc Try.prog w 0 (fun _ => true) true fuel 22 cs = some x) :
    ∃ v l, cs = [v] ∧ SlI w v l ∧ l.length ≤ 9223372036854775807 ∧ ∀ p ∈ l, p.2.size ≤ 9223372036854775807 := by
  rcases Go.Deep.open_slice Try.underlying22 h with ⟨hcs, _⟩ | ⟨ad, len, cap, m, n, D, Pl, hcs, _, hl, hm, hmm, _, hall⟩
  · exact ⟨_, [], hcs, SlI.nil w, Nat.zero_le _, fun p hp => by cases hp⟩
  · rw [if_pos rfl] at hmm
    subst hmm
    have h2 : Try.prog.cellsOf 44 = 2 := by kernel_rfl
    have h3 : Try.prog.cellsOf 3 = 1 := by kernel_rfl
    have h9 : Try.prog.cellsOf 9 = 1 := by kernel_rfl
    have each : ∀ i, i < m → ∃ q : Im, (w.cell? (ad.add (i * 2)) = some (.int .i64 q.1) ∧ w.cell? (ad.add (i * 2 + 1)) = some (.string q.2)) ∧ q.2.size ≤ 9223372036854775807 := by
      intro i hi
      obtain ⟨cs', g1, g2⟩ := hall i hi
      rw [h2] at g1
      obtain ⟨_, hlen, hcell⟩ := World.cells?_some g1
      obtain ⟨xs, k, hk, _, _, hxl, hf⟩ := DataW.trod_struct Try.underlying44 g2
      match xs, hxl, cs', hlen with
      | [y0, y1], _, [v0, v1], _ =>
        have e0 := hcell 0 (by omega)
        have e1 := hcell 1 (by omega)
        rw [Go.Deep.add_add] at e0 e1
        have f0 := hf 0 _ rfl
        have f1 := hf 1 _ rfl
        simp [h3, h9] at f0 f1
        obtain ⟨n0, i0, _, _⟩ := DataW.trod_int Try.underlying3 f0
        obtain ⟨s1, i1, _, z1⟩ := DataW.trod_string Try.underlying9 f1
        simp at i0 i1
        subst i0 i1
        exact ⟨(n0, s1), ⟨by simpa using e0, by simpa using e1⟩, z1⟩
    haveI : Inhabited Im := ⟨(0, ⟨#[]⟩)⟩
    obtain ⟨q, hq⟩ := Go.Deep.choose_lt each
    have hlm : len ≤ m := hl
    have hz : ((List.range len).map q).length = len := by simp
    obtain ⟨b, off, spot⟩ := ad
    have hsp : 0 < m → spot = none := fun hi => by
      have g0 := (hq 0 hi).1.1
      simpa [Addr.add] using World.cell?_spot g0
    refine ⟨_, (List.range len).map q, hcs, ⟨some ⟨b, off, spot⟩, m, by rw [hz], ?_, (fun e => by cases e), by rw [hz]; exact hl, ?_⟩, by rw [hz]; exact Nat.le_trans hl hm, ?_⟩
    · refine ⟨fun i hi => ?_⟩
      rw [encI_length, hz] at hi
      have := hsp (by omega)
      subst this
      obtain ⟨⟨g1, g2⟩, _⟩ := hq i (by omega)
      have hadd : ∀ k, (⟨b, off, none⟩ : Addr).add k = ⟨b, off + k, none⟩ := fun k => by unfold Addr.add; split <;> simp_all
      rw [hadd] at g1 g2
      refine ⟨b, off, rfl, ?_, ?_, ?_⟩
      · rcases Nat.lt_or_ge b w.heap.size with h' | h'
        · exact h'
        · simp [World.cell?, Array.getElem?_eq_none h'] at g1
      · simpa [encI] using g1
      · simpa [encI, Nat.add_assoc] using g2
    · intro hne ad' e
      cases e
      have : 0 < len := by
        rcases Nat.eq_zero_or_pos len with h0 | h0
        · subst h0; exact absurd rfl hne
        · exact h0
      exact hsp (by omega)
    · intro p hp
      obtain ⟨i, hi, rfl⟩ := List.mem_map.1 hp
      exact (hq i (by have := List.mem_range.1 hi; omega)).2
theorem open_tabs {fuel : Nat} {cs : List Value} {x : DataW H × List MemPlace} (h : DataW.trod enc Try.prog w 0 (fun _ => true) true fuel 23 cs = some x) :
    ∃ v l, cs = [v] ∧ SlT w v l ∧ l.length ≤ 9223372036854775807 := by
  rcases Go.Deep.open_slice Try.underlying23 h with ⟨hcs, _⟩ | ⟨ad, len, cap, m, n, D, Pl, hcs, _, hl, hm, hmm, _, hall⟩
  · exact ⟨_, [], hcs, SlT.nil w, Nat.zero_le _⟩
  · rw [if_pos rfl] at hmm
    subst hmm
    have h2 : Try.prog.cellsOf 55 = 2 := by kernel_rfl
    have h3 : Try.prog.cellsOf 3 = 1 := by kernel_rfl
    have each : ∀ i, i < m → ∃ q : Tb, w.cell? (ad.add (i * 2)) = some (.int .i64 q.1) ∧ w.cell? (ad.add (i * 2 + 1)) = some (.int .i64 q.2) := by
      intro i hi
      obtain ⟨cs', g1, g2⟩ := hall i hi
      rw [h2] at g1
      obtain ⟨_, hlen, hcell⟩ := World.cells?_some g1
      obtain ⟨xs, k, hk, _, _, hxl, hf⟩ := DataW.trod_struct Try.underlying55 g2
      match xs, hxl, cs', hlen with
      | [y0, y1], _, [v0, v1], _ =>
        have e0 := hcell 0 (by omega)
        have e1 := hcell 1 (by omega)
        rw [Go.Deep.add_add] at e0 e1
        have f0 := hf 0 _ rfl
        have f1 := hf 1 _ rfl
        simp [h3] at f0 f1
        obtain ⟨n0, i0, _, _⟩ := DataW.trod_int Try.underlying3 f0
        obtain ⟨n1, i1, _, _⟩ := DataW.trod_int Try.underlying3 f1
        simp at i0 i1
        subst i0 i1
        exact ⟨(n0, n1), by simpa using e0, by simpa using e1⟩
    haveI : Inhabited Tb := ⟨(0, 0)⟩
    obtain ⟨q, hq⟩ := Go.Deep.choose_lt each
    have hlm : len ≤ m := hl
    have hz : ((List.range len).map q).length = len := by simp
    obtain ⟨b, off, spot⟩ := ad
    have hsp : 0 < m → spot = none := fun hi => by
      have g0 := (hq 0 hi).1
      simpa [Addr.add] using World.cell?_spot g0
    refine ⟨_, (List.range len).map q, hcs, ⟨some ⟨b, off, spot⟩, m, by rw [hz], ?_, (fun e => by cases e), by rw [hz]; exact hl, ?_⟩, by rw [hz]; exact Nat.le_trans hl hm⟩
    · refine ⟨fun i hi => ?_⟩
      rw [encT_length, hz] at hi
      have := hsp (by omega)
      subst this
      obtain ⟨g1, g2⟩ := hq i (by omega)
      have hadd : ∀ k, (⟨b, off, none⟩ : Addr).add k = ⟨b, off + k, none⟩ := fun k => by unfold Addr.add; split <;> simp_all
      rw [hadd] at g1 g2
      refine ⟨b, off, rfl, ?_, ?_, ?_⟩
      · rcases Nat.lt_or_ge b w.heap.size with h' | h'
        · exact h'
        · simp [World.cell?, Array.getElem?_eq_none h'] at g1
      · simpa [encT] using g1
      · simpa [encT, Nat.add_assoc] using g2
    · intro hne ad' e
      cases e
      have : 0 < len := by
        rcases Nat.eq_zero_or_pos len with h0 | h0
        · subst h0; exact absurd rfl hne
        · exact h0
      exact hsp (by omega)
theorem open_rec {fuel : Nat} {cs : Array Value} {x : DataW H × List MemPlace} (hcs : cs.size = Try.prog.cellsOf 25)
    (h : DataW.trod enc Try.prog w 0 (fun _ => true) true fuel 25 cs.toList = some x) : ∃ m : Rm, RecV w (.agg cs) m ∧ Held m := by
  have h13 : Try.prog.cellsOf 25 = 13 := by kernel_rfl
  have h3 : Try.prog.cellsOf 3 = 1 := by kernel_rfl
  have h9 : Try.prog.cellsOf 9 = 1 := by kernel_rfl
  have hi : Try.prog.cellsOf 22 = 1 := by kernel_rfl
  have ht : Try.prog.cellsOf 23 = 1 := by kernel_rfl
  rw [h13] at hcs
  obtain ⟨xs, k, hk, hx, _, hxl, hf⟩ := DataW.trod_struct Try.underlying25 h
  obtain ⟨l⟩ := cs
  match xs, hxl, l, hcs with
  | [y0, y1, y2, y3, y4, y5, y6, y7, y8, y9, y10, y11, y12], _, [v0, v1, v2, v3, v4, v5, v6, v7, v8, v9, v10, v11, v12], _ =>
    have f0 := hf 0 _ rfl
    have f1 := hf 1 _ rfl
    have f2 := hf 2 _ rfl
    have f3 := hf 3 _ rfl
    have f4 := hf 4 _ rfl
    have f5 := hf 5 _ rfl
    have f6 := hf 6 _ rfl
    have f7 := hf 7 _ rfl
    have f8 := hf 8 _ rfl
    have f9 := hf 9 _ rfl
    have f10 := hf 10 _ rfl
    have f11 := hf 11 _ rfl
    have f12 := hf 12 _ rfl
    simp [h3, h9, hi, ht] at f0 f1 f2 f3 f4 f5 f6 f7 f8 f9 f10 f11 f12
    obtain ⟨n0, i0, _, _⟩ := DataW.trod_int Try.underlying3 f0
    obtain ⟨n1, i1, _, _⟩ := DataW.trod_int Try.underlying3 f1
    obtain ⟨n2, i2, _, _⟩ := DataW.trod_int Try.underlying3 f2
    obtain ⟨n3, i3, _, _⟩ := DataW.trod_int Try.underlying3 f3
    obtain ⟨n4, i4, _, _⟩ := DataW.trod_int Try.underlying3 f4
    obtain ⟨s5, i5, _, z5⟩ := DataW.trod_string Try.underlying9 f5
    obtain ⟨s6, i6, _, z6⟩ := DataW.trod_string Try.underlying9 f6
    obtain ⟨s7, i7, _, z7⟩ := DataW.trod_string Try.underlying9 f7
    obtain ⟨n8, i8, _, _⟩ := DataW.trod_int Try.underlying3 f8
    obtain ⟨w9, l9, i9, hI, zI, tI⟩ := open_imgs f9
    obtain ⟨w10, l10, i10, hT, zT⟩ := open_tabs f10
    obtain ⟨n11, i11, _, _⟩ := DataW.trod_int Try.underlying3 f11
    obtain ⟨n12, i12, _, _⟩ := DataW.trod_int Try.underlying3 f12
    simp at i0 i1 i2 i3 i4 i5 i6 i7 i8 i9 i10 i11 i12
    subst i0 i1 i2 i3 i4 i5 i6 i7 i8 i9 i10 i11 i12
    exact ⟨⟨⟨n0, n1, n2, n3, n4, s5, s6, s7, n8, n11, n12⟩, l9, l10⟩, ⟨_, _, rfl, hI, hT⟩, ⟨zI, zT, tI, z5, z6, z7⟩⟩
end
end Go.Proofs.Ytakdfdnndogaiaa
