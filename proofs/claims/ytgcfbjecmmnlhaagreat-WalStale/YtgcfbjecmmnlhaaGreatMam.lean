/- The record that a law is handed: what lies in memory where it reads as data. Slices of records that a law is handed; what appending one of them comes to. WalSectors: what the disk has. -/
import Derived.Test.YtgcfbjecmmnlhaaGreatMaf
import Derived.Deep.Slices
import Derived.OpenShut
import Derived.Test.YtgcfbjecmmnlhaaGreatMal
namespace Go.Proofs.YtgcfbjecmmnlhaaGreat
open Go.RowKit
set_option linter.unusedVariables false
set_option linter.unusedSimpArgs false
set_option maxRecDepth 100000

section
variable {H : Type} {enc : TypeId × Value → H} {w : World}
theorem open_imgs {fuel : Nat} {cs : List Value} {x : DataW H × List MemPlace} (h : DataW.trod enc Tryz.prog w 0 (fun _ => true) true fuel 34 cs = some x) :
    ∃ v l, cs = [v] ∧ SlI w v l ∧ l.length ≤ 9223372036854775807 ∧ ∀ p ∈ l, p.2.size ≤ 9223372036854775807 := by
  rcases Go.Deep.open_slice Tryz.underlying34 h with ⟨hcs, _⟩ | ⟨ad, len, cap, m, n, D, Pl, hcs, _, hl, hm, hmm, _, hall⟩
  · exact ⟨_, [], hcs, SlI.nil w, Nat.zero_le _, fun p hp => by cases hp⟩
  · rw [if_pos rfl] at hmm
    subst hmm
    have h2 : Tryz.prog.cellsOf 111 = 2 := by kernel_rfl
    have h3 : Tryz.prog.cellsOf 3 = 1 := by kernel_rfl
    have h9 : Tryz.prog.cellsOf 9 = 1 := by kernel_rfl
    have each : ∀ i, i < m → ∃ q : Im, (w.cell? (ad.add (i * 2)) = some (.int .i64 q.1) ∧ w.cell? (ad.add (i * 2 + 1)) = some (.string q.2)) ∧ q.2.size ≤ 9223372036854775807 := by
      intro i hi
      obtain ⟨cs', g1, g2⟩ := hall i hi
      rw [h2] at g1
      obtain ⟨_, hlen, hcell⟩ := World.cells?_some g1
      obtain ⟨xs, k, hk, _, _, hxl, hf⟩ := DataW.trod_struct Tryz.underlying111 g2
      match xs, hxl, cs', hlen with
      | [y0, y1], _, [v0, v1], _ =>
        have e0 := hcell 0 (by omega)
        have e1 := hcell 1 (by omega)
        rw [Go.Deep.add_add] at e0 e1
        have f0 := hf 0 _ rfl
        have f1 := hf 1 _ rfl
        simp [h3, h9] at f0 f1
        obtain ⟨n0, i0, _, _⟩ := DataW.trod_int Tryz.underlying3 f0
        obtain ⟨s1, i1, _, z1⟩ := DataW.trod_string Tryz.underlying9 f1
        simp at i0 i1
        subst i0 i1
        exact ⟨(n0, s1), ⟨by simpa using e0, by simpa using e1⟩, z1⟩
    haveI : Inhabited Im := ⟨(0, ⟨#[]⟩)⟩
    obtain ⟨q, hq⟩ := Go.Deep.choose_lt each
    have hlm : len ≤ m := hl
    have hz : ((List.range len).map q).length = len := by simp
    obtain ⟨b, off, spot⟩ := ad
    have hsp : 0 < m → spot = none := fun hi => by
      have g0 := (hq 0 hi).1.1
      simpa [Addr.add] using World.cell?_spot g0
    refine ⟨_, (List.range len).map q, hcs, ⟨some ⟨b, off, spot⟩, m, by rw [hz], ?_, (fun e => by cases e), by rw [hz]; exact hl, ?_⟩, by rw [hz]; exact Nat.le_trans hl hm, ?_⟩
    · refine ⟨fun i hi => ?_⟩
      rw [encI_length, hz] at hi
      have := hsp (by omega)
      subst this
      obtain ⟨⟨g1, g2⟩, _⟩ := hq i (by omega)
      have hadd : ∀ k, (⟨b, off, none⟩ : Addr).add k = ⟨b, off + k, none⟩ := fun k => by unfold Addr.add; split <;> simp_all
      rw [hadd] at g1 g2
      refine ⟨b, off, rfl, ?_, ?_, ?_⟩
      · rcases Nat.lt_or_ge b w.heap.size with h' | h'
        · exact h'
        · simp [World.cell?, Array.getElem?_eq_none h'] at g1
      · simpa [encI] using g1
      · simpa [encI, Nat.add_assoc] using g2
    · intro hne ad' e
      cases e
      have : 0 < len := by
        rcases Nat.eq_zero_or_pos len with h0 | h0
        · subst h0; exact absurd rfl hne
        · exact h0
      exact hsp (by omega)
    · intro p hp
      obtain ⟨i, hi, rfl⟩ := List.mem_map.1 hp
      exact (hq i (by have := List.mem_range.1 hi; omega)).2
theorem open_tabs {fuel : Nat} {cs : List Value} {x : DataW H × List MemPlace} (h : DataW.trod enc Tryz.prog w 0 (fun _ => true) true fuel 35 cs = some x) :
    ∃ v l, cs = [v] ∧ SlT w v l ∧ l.length ≤ 9223372036854775807 := by
  rcases Go.Deep.open_slice Tryz.underlying35 h with ⟨hcs, _⟩ | ⟨ad, len, cap, m, n, D, Pl, hcs, _, hl, hm, hmm, _, hall⟩
  · exact ⟨_, [], hcs, SlT.nil w, Nat.zero_le _⟩
  · rw [if_pos rfl] at hmm
    subst hmm
    have h2 : Tryz.prog.cellsOf 113 = 2 := by kernel_rfl
    have h3 : Tryz.prog.cellsOf 3 = 1 := by kernel_rfl
    have each : ∀ i, i < m → ∃ q : Tb, w.cell? (ad.add (i * 2)) = some (.int .i64 q.1) ∧ w.cell? (ad.add (i * 2 + 1)) = some (.int .i64 q.2) := by
      intro i hi
      obtain ⟨cs', g1, g2⟩ := hall i hi
      rw [h2] at g1
      obtain ⟨_, hlen, hcell⟩ := World.cells?_some g1
      obtain ⟨xs, k, hk, _, _, hxl, hf⟩ := DataW.trod_struct Tryz.underlying113 g2
      match xs, hxl, cs', hlen with
      | [y0, y1], _, [v0, v1], _ =>
        have e0 := hcell 0 (by omega)
        have e1 := hcell 1 (by omega)
        rw [Go.Deep.add_add] at e0 e1
        have f0 := hf 0 _ rfl
        have f1 := hf 1 _ rfl
        simp [h3] at f0 f1
        obtain ⟨n0, i0, _, _⟩ := DataW.trod_int Tryz.underlying3 f0
        obtain ⟨n1, i1, _, _⟩ := DataW.trod_int Tryz.underlying3 f1
        simp at i0 i1
        subst i0 i1
        exact ⟨(n0, n1), by simpa using e0, by simpa using e1⟩
    haveI : Inhabited Tb := ⟨(0, 0)⟩
    obtain ⟨q, hq⟩ := Go.Deep.choose_lt each
    have hlm : len ≤ m := hl
    have hz : ((List.range len).map q).length = len := by simp
    obtain ⟨b, off, spot⟩ := ad
    have hsp : 0 < m → spot = none := fun hi => by
      have g0 := (hq 0 hi).1
      simpa [Addr.add] using World.cell?_spot g0
    refine ⟨_, (List.range len).map q, hcs, ⟨some ⟨b, off, spot⟩, m, by rw [hz], ?_, (fun e => by cases e), by rw [hz]; exact hl, ?_⟩, by rw [hz]; exact Nat.le_trans hl hm⟩
    · refine ⟨fun i hi => ?_⟩
      rw [encT_length, hz] at hi
      have := hsp (by omega)
      subst this
      obtain ⟨g1, g2⟩ := hq i (by omega)
      have hadd : ∀ k, (⟨b, off, none⟩ : Addr).add k = ⟨b, off + k, none⟩ := fun k => by unfold Addr.add; split <;> simp_all
      rw [hadd] at g1 g2
      refine ⟨b, off, rfl, ?_, ?_, ?_⟩
      · rcases Nat.lt_or_ge b w.heap.size with h' | h'
        · exact h'
        · simp [World.cell?, Array.getElem?_eq_none h'] at g1
      · simpa [encT] using g1
      · simpa [encT, Nat.add_assoc] using g2
    · intro hne ad' e
      cases e
      have : 0 < len := by
        rcases Nat.eq_zero_or_pos len with h0 | h0
        · subst h0; exact absurd rfl hne
        · exact h0
      exact hsp (by omega)
theorem open_rec {fuel : Nat} {cs : Array Value} {x : DataW H × List MemPlace} (hcs : cs.size = Tryz.prog.cellsOf 37)
    (h : DataW.trod enc Tryz.prog w 0 (fun _ => true) true fuel 37 cs.toList = some x) : ∃ m : Rm, RecV w (.agg cs) m ∧ Held m := by
  have h13 : Tryz.prog.cellsOf 37 = 13 := by kernel_rfl
  have h3 : Tryz.prog.cellsOf 3 = 1 := by kernel_rfl
  have h9 : Tryz.prog.cellsOf 9 = 1 := by kernel_rfl
  have hi : Tryz.prog.cellsOf 34 = 1 := by kernel_rfl
  have ht : Tryz.prog.cellsOf 35 = 1 := by kernel_rfl
  rw [h13] at hcs
  obtain ⟨xs, k, hk, hx, _, hxl, hf⟩ := DataW.trod_struct Tryz.underlying37 h
  obtain ⟨l⟩ := cs
  match xs, hxl, l, hcs with
  | [y0, y1, y2, y3, y4, y5, y6, y7, y8, y9, y10, y11, y12], _, [v0, v1, v2, v3, v4, v5, v6, v7, v8, v9, v10, v11, v12], _ =>
    have f0 := hf 0 _ rfl
    have f1 := hf 1 _ rfl
    have f2 := hf 2 _ rfl
    have f3 := hf 3 _ rfl
    have f4 := hf 4 _ rfl
    have f5 := hf 5 _ rfl
    have f6 := hf 6 _ rfl
    have f7 := hf 7 _ rfl
    have f8 := hf 8 _ rfl
    have f9 := hf 9 _ rfl
    have f10 := hf 10 _ rfl
    have f11 := hf 11 _ rfl
    have f12 := hf 12 _ rfl
    simp [h3, h9, hi, ht] at f0 f1 f2 f3 f4 f5 f6 f7 f8 f9 f10 f11 f12
    obtain ⟨n0, i0, _, _⟩ := DataW.trod_int Tryz.underlying3 f0
    obtain ⟨n1, i1, _, _⟩ := DataW.trod_int Tryz.underlying3 f1
    obtain ⟨n2, i2, _, _⟩ := DataW.trod_int Tryz.underlying3 f2
    obtain ⟨n3, i3, _, _⟩ := DataW.trod_int Tryz.underlying3 f3
    obtain ⟨n4, i4, _, _⟩ := DataW.trod_int Tryz.underlying3 f4
    obtain ⟨s5, i5, _, z5⟩ := DataW.trod_string Tryz.underlying9 f5
    obtain ⟨s6, i6, _, z6⟩ := DataW.trod_string Tryz.underlying9 f6
    obtain ⟨s7, i7, _, z7⟩ := DataW.trod_string Tryz.underlying9 f7
    obtain ⟨n8, i8, _, _⟩ := DataW.trod_int Tryz.underlying3 f8
    obtain ⟨w9, l9, i9, hI, zI, tI⟩ := open_imgs f9
    obtain ⟨w10, l10, i10, hT, zT⟩ := open_tabs f10
    obtain ⟨n11, i11, _, _⟩ := DataW.trod_int Tryz.underlying3 f11
    obtain ⟨n12, i12, _, _⟩ := DataW.trod_int Tryz.underlying3 f12
    simp at i0 i1 i2 i3 i4 i5 i6 i7 i8 i9 i10 i11 i12
    subst i0 i1 i2 i3 i4 i5 i6 i7 i8 i9 i10 i11 i12
    exact ⟨⟨⟨n0, n1, n2, n3, n4, s5, s6, s7, n8, n11, n12⟩, l9, l10⟩, ⟨_, _, rfl, hI, hT⟩, ⟨zI, zT, tI, z5, z6, z7⟩⟩
end
end Go.Proofs.YtgcfbjecmmnlhaaGreat

namespace Go.Proofs.YtgcfbjecmmnlhaaGreat
open Go.RowKit Go.Maps Go.ChangeMaps
set_option linter.unusedVariables false
set_option linter.unusedSimpArgs false
set_option maxRecDepth 100000

/-- A slice of records that is only read. -/
structure RsV (w : World) (a : Option Addr) (n : Nat) (ms : List Rm) : Prop where
  len : ms.length = n
  at_ : ∀ i, (h : i < ms.length) → ∃ g o I T, a = some ⟨g, o, none⟩ ∧ g < w.heap.size ∧ w.rangeAt g (o + i * 13) ((ms[i].s.A I T).toList) ∧ RecV w (.agg (ms[i].s.A I T)) ms[i] ∧ Held ms[i]
section
variable {H : Type} {enc : TypeId × Value → H} {w w' : World}
theorem open_recs {fuel : Nat} {a0 : Option Addr} {n0 c0 : Nat} {x : DataW H × List MemPlace} (h : DataW.trod enc Tryz.prog w 0 (fun _ => true) true fuel 49 [.slice a0 n0 c0] = some x) :
    ∃ ms, RsV w a0 n0 ms ∧ n0 ≤ 9223372036854775807 := by
  rcases Go.Deep.open_slice Tryz.underlying49 h with ⟨hcs, _⟩ | ⟨ad, len, cap, m, n, D, Pl, hcs, _, hl, hm, hmm, _, hall⟩
  · simp at hcs
    obtain ⟨rfl, rfl, rfl⟩ := hcs
    exact ⟨[], ⟨rfl, fun i hi => absurd hi (Nat.not_lt_zero _)⟩, by omega⟩
  · simp at hcs
    obtain ⟨rfl, rfl, rfl⟩ := hcs
    rw [if_pos rfl] at hmm
    subst hmm
    have h13 : Tryz.prog.cellsOf 37 = 13 := by kernel_rfl
    have each : ∀ i, i < m → ∃ q : Rm, (∃ I T, (∀ j u, ((q.s.A I T).toList)[j]? = some u → w.cell? ((ad.add (i * 13)).add j) = some u) ∧ RecV w (.agg (q.s.A I T)) q) ∧ Held q := by
      intro i hi
      obtain ⟨cs', g1, g2⟩ := hall i hi
      rw [h13] at g1
      obtain ⟨_, hlen, hcell⟩ := World.cells?_some g1
      obtain ⟨q, hv, hh⟩ := open_rec (cs := cs'.toArray) (by rw [h13]; simpa using hlen) (by simpa using g2)
      obtain ⟨I, T, e, hI, hT⟩ := hv.ex
      refine ⟨q, ⟨I, T, fun j u hu => ?_, by rw [← e]; exact hv⟩, hh⟩
      injection e with e
      rw [← e] at hu
      have hj : j < cs'.length := by simpa using (List.getElem?_eq_some_iff.1 hu).1
      have := hcell j (by omega)
      rw [this]
      simpa using hu
    haveI : Inhabited Rm := ⟨zM⟩
    obtain ⟨q, hq⟩ := Go.Deep.choose_lt each
    obtain ⟨b, off, spot⟩ := ad
    refine ⟨(List.range n0).map q, ⟨by simp, fun i hi => ?_⟩, by have : n0 ≤ m := hl; have := hm; unfold maxLen at this; omega⟩
    have hi' : i < n0 := by simpa using hi
    have hlm : n0 ≤ m := hl
    obtain ⟨⟨I, T, hc, hv⟩, hh⟩ := hq i (by omega)
    have hsp : spot = none := by
      obtain ⟨⟨I0, T0, hc0, _⟩, _⟩ := hq 0 (by omega)
      have := hc0 0 (.int .i64 (q 0).s.kd) rfl
      simpa [Addr.add] using World.cell?_spot this
    subst hsp
    have hadd : ∀ k, (⟨b, off, none⟩ : Addr).add k = ⟨b, off + k, none⟩ := fun k => by unfold Addr.add; split <;> simp_all
    have hadd2 : ∀ k j, (⟨b, k, none⟩ : Addr).add j = ⟨b, k + j, none⟩ := fun k j => by unfold Addr.add; split <;> simp_all
    have hget : ((List.range n0).map q)[i] = q i := by simp
    rw [hget]
    refine ⟨b, off, I, T, rfl, ?_, fun j u hu => ?_, hv, hh⟩
    · have := hc 0 (.int .i64 (q i).s.kd) rfl
      rw [hadd, hadd2] at this
      rcases Nat.lt_or_ge b w.heap.size with h' | h'
      · exact h'
      · simp [World.cell?, Array.getElem?_eq_none h'] at this
    · have := hc j u hu
      rw [hadd, hadd2] at this
      exact this
end
section
variable {B l k db bs sc run r r' sure lo : Nat} {w w' w0 wx : World} {S S' : Dk} {fs gs : List ByteArray}
theorem wpList_load_rcs {ops : Array Oper} {rest : List Oper} {o : Oper} {a : Act} {Q : Exit → Act → World → Prop} {g of : Nat} {s : Sc} {I T : Value} (w : World) (hg : o.guard = none) (x : Operand) (hop : o.op = Op.load 37 x) (hx : a.eval x = .pointer (some ⟨g, of, none⟩)) (hr : w.rangeAt g of ((s.A I T).toList))
    (h : wpList Tryz.prog ops Q rest (a.put o.dst (.agg (s.A I T))) w) : wpList Tryz.prog ops Q (o :: rest) a w :=
  wpList_load_mid hg 37 x hop g of hx _ _ hr Tryz.underlying37 rfl (info_rc s I T) h
theorem rangeAt_below {g o : Nat} {L : List Value} (h : w.rangeAt g o L) (hg : g < w.heap.size) (hb : Below w.heap.size w w') : w'.rangeAt g o L := fun j u hu => (World.cell?_of_block (hb.block g hg)).trans (h j u hu)
/-- Append of any record: what becomes of the log. -/
theorem Lv.appendAny {v : Value} {m : Rm} (h : Lv B w l k S db bs sc run fs sure) (hv : RecV w v m) (hm : Small m) :
    Calls Tryz.prog 20 #[.pointer (some ⟨l, 0, none⟩), v] w fun e w' => ∃ x y fs', e = .returned (.tuple #[.int .i64 x, .int .i64 y]) ∧ Lv B w' l k S db bs sc run fs' sure ∧ Kp isL B w w' ∧ ((y = 0 ∧ (frameM m).2 = 0 ∧ fs' = fs ++ [(frameM m).1] ∧ x = ((cat fs).size : Int) + 1 ∧ (cat fs).size + (frameM m).1.size ≤ 58 * sc) ∨ (y ≠ 0 ∧ fs' = fs ∧ x = 0 ∧ (((frameM m).2 ≠ 0 ∧ y = (frameM m).2) ∨ ((frameM m).2 = 0 ∧ y = 7 ∧ ¬ (cat fs).size + (frameM m).1.size ≤ 58 * sc)))) := by
  have hle := h.lx.le
  by_cases he : (frameM m).2 = 0
  · by_cases hn : (cat fs).size + (frameM m).1.size ≤ 58 * sc
    · refine (h.append hv hm he hn).mono ?_
      rintro e w' ⟨he', h1, k1⟩
      exact ⟨_, _, _, he', h1, k1, Or.inl ⟨rfl, he, rfl, rfl, hn⟩⟩
    · refine (append_full h.lx h.fit hv hm he hn).mono ?_
      rintro e w' ⟨he', b1⟩
      exact ⟨_, _, _, he', h.below b1, Kp.of_below b1 hle, Or.inr ⟨by omega, rfl, rfl, Or.inr ⟨he, rfl, hn⟩⟩⟩
  · refine (append_err h.lx h.fit hv hm he).mono ?_
    rintro e w' ⟨he', b1⟩
    exact ⟨_, _, _, he', h.below b1, Kp.of_below b1 hle, Or.inr ⟨he, rfl, rfl, Or.inl ⟨he, rfl⟩⟩⟩
end
end Go.Proofs.YtgcfbjecmmnlhaaGreat

namespace Go.Proofs.YtgcfbjecmmnlhaaGreat
open Go.RowKit Go.Maps Go.ChangeMaps
set_option linter.unusedVariables false
set_option linter.unusedSimpArgs false
set_option maxRecDepth 100000

section
variable {B l k db run : Nat} {w w' w0 wx : World} {S S' : Dk} {fs gs : List ByteArray}
/-- The law's log, nothing of which was flushed. -/
structure SeS (w0 wx : World) (l : Nat) (S : Dk) (db run : Nat) (fs : List ByteArray) : Prop where
  lv : Lv w0.heap.size wx l 31 S db 1 30 run fs 0
  set : S.set = false
  n : S.n = 31
  one : S.now 1 = encQ (run, ⟨#[]⟩)
  bel : Below w0.heap.size w0 wx
theorem SeS.below (h : SeS w0 wx l S db run fs) (hb : Below wx.heap.size wx w') : SeS w0 w' l S db run fs := ⟨h.lv.below hb, h.set, h.n, h.one, thn h.bel hb⟩
theorem SeS.size (h : SeS w0 wx l S db run fs) : (cat fs).size ≤ 1740 := h.lv.fit.sz
/-- The law's disk behind the flush. -/
structure SeD (w0 wx : World) (S : Dk) (db run : Nat) (t : ByteArray) : Prop where
  d : Ds w0.heap.size wx db 62 S
  up : S.up = true
  n : S.n = 31
  at_ : ∀ i, i < 30 → (58 * i < t.size ∨ i = 0) → S.now (1 + i) = encQ (run, part t i)
  bel : Below w0.heap.size w0 wx
theorem SeD.below {t : ByteArray} (h : SeD w0 wx S db run t) (hb : Below wx.heap.size wx w') : SeD w0 w' S db run t := ⟨h.d.below hb, h.up, h.n, h.at_, thn h.bel hb⟩
theorem se_new (w : World) : Calls Tryz.prog 9 #[.int .i64 31] w fun e w' => e = .returned (.tuple #[.pointer (some ⟨w.heap.size + 2, 0, none⟩), .int .i64 0]) ∧ Ds w.heap.size w' (w.heap.size + 2) 0 (newDk 31) ∧ Below w.heap.size w w' := Ds.new 31 (by omega) (by omega) w
theorem se_open (h : Ds w0.heap.size wx db 0 (newDk 31)) (hb : Below w0.heap.size w0 wx) (h1 : 1 ≤ run) (h2 : run ≤ 4294967295) : Calls Tryz.prog 10 #[.pointer (some ⟨db, 0, none⟩), .int .i64 1, .int .i64 30, .int .i64 (run : Int)] wx fun e w' => ∃ S' l, e = .returned (.tuple #[.pointer (some ⟨l, 0, none⟩), .int .i64 0]) ∧ SeS w0 w' l S' db run [] := by
  refine ((new_wt 31 1 30 (by omega)).open2 (fit_nil (by omega) (by omega)) (Nat.le_refl _) h (by omega) (by omega) h2 (by show 1 + 30 ≤ 31; omega) rfl rfl).mono ?_
  rintro e w' ⟨j, S', l, he, ⟨_, hj, hs, hn⟩, hlv, hK, hop⟩
  have hj0 : j = 0 := by simpa using hj
  subst hj0
  refine ⟨S', l, he, hlv, hs, hn, ?_, hb.trans hK.bel⟩
  rcases hop with ⟨q, _⟩ | ⟨_, hL⟩
  · exact absurd q (by decide)
  · obtain ⟨_, hw, hsu⟩ := hL.ok rfl
    unfold Dk.now
    rw [hw, hsu]
    rfl
theorem SeS.append {v : Value} {m : Rm} (h : SeS w0 wx l S db run fs) (hv : RecV wx v m) (hm : Small m) : Calls Tryz.prog 20 #[.pointer (some ⟨l, 0, none⟩), v] wx fun e w' => ∃ x y fs', e = .returned (.tuple #[.int .i64 x, .int .i64 y]) ∧ SeS w0 w' l S db run fs' ∧ ((y = 0 ∧ (frameM m).2 = 0 ∧ fs' = fs ++ [(frameM m).1]) ∨ (y ≠ 0 ∧ fs' = fs)) := by
  refine (h.lv.appendAny hv hm).mono ?_
  rintro e w' ⟨x, y, fs', he, h1, k1, hor⟩
  refine ⟨x, y, fs', he, ⟨h1, h.set, h.n, h.one, h.bel.trans k1.bel⟩, ?_⟩
  rcases hor with ⟨a, b, c, _⟩ | ⟨a, b, _⟩
  · exact Or.inl ⟨a, b, c⟩
  · exact Or.inr ⟨a, b⟩
theorem SeS.flush (h : SeS w0 wx l S db run fs) : Calls Tryz.prog 21 #[.pointer (some ⟨l, 0, none⟩)] wx fun e w' => e = .returned (.int .i64 0) ∧ ∃ S', SeD w0 w' S' db run (cat fs) := by
  have hlv := h.lv
  have hz := h.size
  rcases Nat.lt_or_ge 0 (cat fs).size with hd | hd
  · refine (flush_any hlv.lx (by omega) hlv.fit hd (by have := hlv.r2; omega) hlv.n hlv.up).mono ?_
    rintro e w' ⟨S', x, he, hF⟩
    obtain ⟨rfl, _⟩ := hF.ld.calm h.set
    obtain ⟨hu, hw, hsu⟩ := hF.ld.ok rfl
    refine ⟨he, S', hF.lx.d.mono (by omega), hu, by rw [hF.ld.n]; exact h.n, fun i hi hc => ?_, h.bel.trans hF.kp.bel⟩
    unfold Dk.now
    rw [hw, hsu]
    show (nw 1 (cat fs) run (off fs 0 / 58) (((cat fs).size - 1) / 58 + 1) (1 + i)).getD _ = _
    unfold nw
    rw [if_pos (by rw [off_zero]; omega), show 1 + i - 1 = i by omega]
    rfl
  · have hd2 : off fs 0 = (cat fs).size := by rw [off_zero]; omega
    refine (flush_same hlv.lx hlv.fit hd2).mono ?_
    rintro e w' ⟨he, hb⟩
    refine ⟨he, S, (hlv.lx.d.below hb).mono (by omega), hlv.up, h.n, fun i hi hc => ?_, thn h.bel hb⟩
    have : i = 0 := by omega
    subst this
    rw [part_none (by omega)]
    exact h.one
end
end Go.Proofs.YtgcfbjecmmnlhaaGreat
