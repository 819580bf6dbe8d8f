/- The law DiskPlays: its list of calls; the rows of the law's disk as they are laid. -/
import Derived.Test.YtoafoopenmppgaaWts
import Derived.Deep.Slices
import Derived.Deep.AppendLies
namespace Go.Proofs.Ytoafoopenmppgaa
open Go.RowKit Go.Maps Go.ChangeMaps Go.Sort
set_option linter.unusedVariables false
set_option linter.unusedSimpArgs false
set_option maxRecDepth 100000
variable {w w' : World} {db lb mb m pb rb cap : Nat} {pl pk : Int} {S : Dk}

/-- What is known of the calls: each one's kind, number, text and bits. -/
def IsOps (w : World) (a : Option Addr) (len : Nat) (f : Nat → Int × Int × ByteArray × Int) : Prop :=
  ∀ i, i < len → ∃ b off, a = some ⟨b, off, none⟩ ∧ b < w.heap.size ∧ w.cell? ⟨b, off + i * 4, none⟩ = some (.int .i64 (f i).1) ∧ w.cell? ⟨b, off + i * 4 + 1, none⟩ = some (.int .i64 (f i).2.1) ∧ w.cell? ⟨b, off + i * 4 + 2, none⟩ = some (.string (f i).2.2.1) ∧ w.cell? ⟨b, off + i * 4 + 3, none⟩ = some (.int .u64 (f i).2.2.2)
    ∧ (f i).2.1 ≤ 9223372036854775807 ∧ (f i).2.2.1.size ≤ 9223372036854775807 ∧ 0 ≤ (f i).2.2.2 ∧ (f i).2.2.2 ≤ 18446744073709551615
theorem open_ops {H : Type} {enc : TypeId × Value → H} {w : World} {fuel : Nat} {a : Option Addr} {len cap : Nat} {x : DataW H × List MemPlace}
    (h : DataW.trod enc Try.prog w 0 (fun _ => true) true fuel 22 [.slice a len cap] = some x) : ∃ f, IsOps w a len f := by
  rcases Go.Deep.open_slice Try.underlying22 h with ⟨hcs, _⟩ | ⟨ad, l, c, m, n, D, Pl, hcs, _, hl, hm, hmm, _, hall⟩
  · simp at hcs
    obtain ⟨rfl, rfl, rfl⟩ := hcs
    exact ⟨fun _ => (0, 0, ⟨#[]⟩, 0), fun i hi => absurd hi (by omega)⟩
  · simp at hcs
    obtain ⟨rfl, rfl, rfl⟩ := hcs
    rw [if_pos rfl] at hmm
    subst hmm
    have h38 : Try.prog.cellsOf 38 = 4 := by kernel_rfl
    have h3 : Try.prog.cellsOf 3 = 1 := by kernel_rfl
    have h9 : Try.prog.cellsOf 9 = 1 := by kernel_rfl
    have h30 : Try.prog.cellsOf 30 = 1 := by kernel_rfl
    have each : ∀ i, i < len → ∃ q : Int × Int × ByteArray × Int, w.cell? (ad.add (i * 4)) = some (.int .i64 q.1) ∧ w.cell? (ad.add (i * 4 + 1)) = some (.int .i64 q.2.1) ∧ w.cell? (ad.add (i * 4 + 2)) = some (.string q.2.2.1) ∧ w.cell? (ad.add (i * 4 + 3)) = some (.int .u64 q.2.2.2) ∧ q.2.1 ≤ 9223372036854775807 ∧ q.2.2.1.size ≤ 9223372036854775807 ∧ 0 ≤ q.2.2.2 ∧ q.2.2.2 ≤ 18446744073709551615 := by
      intro i hi
      obtain ⟨cs', g1, g2⟩ := hall i (by omega)
      rw [h38] at g1
      obtain ⟨_, hlen, hcell⟩ := World.cells?_some g1
      obtain ⟨xs, k, hk, _, _, hxl, hf⟩ := DataW.trod_struct Try.underlying38 g2
      match xs, hxl, cs', hlen with
      | [y0, y1, y2, y3], _, [v0, v1, v2, v3], _ =>
        have e0 := hcell 0 (by omega)
        have e1 := hcell 1 (by omega)
        have e2 := hcell 2 (by omega)
        have e3 := hcell 3 (by omega)
        rw [Go.Deep.add_add] at e0 e1 e2 e3
        have f0 := hf 0 _ rfl
        have f1 := hf 1 _ rfl
        have f2 := hf 2 _ rfl
        have f3 := hf 3 _ rfl
        simp [h3, h9, h30] at f0 f1 f2 f3
        obtain ⟨n0, i0, _, _⟩ := DataW.trod_int Try.underlying3 f0
        obtain ⟨n1, i1, _, b1⟩ := DataW.trod_int Try.underlying3 f1
        obtain ⟨s2, i2, _, b2⟩ := DataW.trod_string Try.underlying9 f2
        obtain ⟨n3, i3, _, b3⟩ := DataW.trod_int Try.underlying30 f3
        simp at i0 i1 i2 i3
        subst i0 i1 i2 i3
        exact ⟨(n0, n1, s2, n3), by simpa using e0, by simpa using e1, by simpa using e2, by simpa using e3, (bounds_i64 b1).2, by unfold maxLen at b2; simp only []; omega, (bounds_u64 b3).1, (bounds_u64 b3).2⟩
    obtain ⟨q, hq⟩ := Go.Deep.choose_lt each
    refine ⟨q, fun i hi => ?_⟩
    obtain ⟨b, off, spot⟩ := ad
    have g0 := (hq 0 (by omega)).1
    have hspot : spot = none := by simpa [Addr.add] using World.cell?_spot g0
    subst hspot
    have hadd : ∀ k, (⟨b, off, none⟩ : Addr).add k = ⟨b, off + k, none⟩ := fun k => by unfold Addr.add; split <;> simp_all
    obtain ⟨g1, g2, g3, g4, g5⟩ := hq i hi
    rw [hadd] at g1 g2 g3 g4
    exact ⟨b, off, rfl, World.block_lt_of_cell? _ _ g1, g1, by simpa [Nat.add_assoc] using g2, by simpa [Nat.add_assoc] using g3, by simpa [Nat.add_assoc] using g4, g5⟩

/-- The cells of n new rows. -/
def xsN (n : Nat) : List Value := (List.range (n * 3)).map (fun j => if j % 3 = 2 then .bool false else .string zs64)
theorem xsN_succ (n : Nat) : xsN n ++ [.string zs64, .string zs64, .bool false] = xsN (n + 1) := by
  have e : (n + 1) * 3 = n * 3 + 1 + 1 + 1 := by omega
  have a0 : ¬ (n * 3) % 3 = 2 := by omega
  have a1 : ¬ (n * 3 + 1) % 3 = 2 := by omega
  have a2 : (n * 3 + 1 + 1) % 3 = 2 := by omega
  unfold xsN
  rw [e, List.range_succ, List.range_succ, List.range_succ]
  simp only [List.map_append, List.map_cons, List.map_nil, a0, a1, a2, if_true, if_false, List.append_assoc, List.cons_append, List.nil_append]
theorem xsN_get (n j : Nat) (hj : j < n * 3) : (xsN n)[j]? = some (if j % 3 = 2 then .bool false else .string zs64) := by
  simp [xsN, hj]
/-- The law's disk behind its making. -/
theorem pl_new {n : Nat} {g cap base : Nat} (hn : 1 ≤ n) (hb : w.heap[pb]? = some (.cells (plCells n g cap false false 0 0 0 0) 32)) (hr : w.ownsRow base 35 3 (.slice (some ⟨g, 0, none⟩) n cap) n (xsN n)) (hne : pb ≠ g) : PlIs w pb g cap 0 0 (newDk n) := by
  have hz : zs64 = (newDk n).now 0 := rfl
  rcases hr.2 with ⟨h0, _⟩ | ⟨g', cap', cur, hv, hbase, hg, h1, h2, h3, h4⟩
  · cases h0
  cases hv
  have hc : ∀ j, j < n * 3 → w.cell? ⟨g, j, none⟩ = some (if j % 3 = 2 then .bool false else .string zs64) := fun j hj => by rw [hr.cellAt j hj, xsN_get n j hj]
  refine ⟨hb, fun h => (by cases h), ⟨(Array.getElem?_eq_some_iff.1 hg).1, fun i hi => ?_, fun i hi => ?_, fun i hi => ?_, fun j => Joins.unfrozen_of_block hg j⟩, hne⟩
  · have hi' : i < n := hi
    rw [hc _ (by omega), if_neg (by omega)]; rfl
  · have hi' : i < n := hi
    rw [hc _ (by omega), if_neg (by omega)]; rfl
  · have hi' : i < n := hi
    rw [hc _ (by omega), if_pos (by omega)]; rfl
end Go.Proofs.Ytoafoopenmppgaa
