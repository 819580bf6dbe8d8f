/- The law DiskPlays: both disks between two calls. -/
import Derived.Test.YtoafoopenmppgaaPly
namespace Go.Proofs.Ytoafoopenmppgaa
open Go.RowKit Go.Maps Go.ChangeMaps Go.Sort
set_option linter.unusedVariables false
set_option linter.unusedSimpArgs false
set_option maxRecDepth 100000
variable {w0 w w' : World} {B pb rb cap n m : Nat} {u : Bool} {ac dn : Int}

/-- Both disks stand alike behind m calls, and nothing below B has turned. -/
def Rd (w0 w : World) (B pb rb cap n m : Nat) (u : Bool) (ac dn : Int) : Prop :=
  ∃ S : Dk, DkIs w (B + 2) B (B + 1) m S ∧ (∃ pl pk, PlIs w pb rb cap pl pk S) ∧ S.Ok ∧ S.n = n ∧ S.up = u ∧ S.acts = ac ∧ S.downs = dn ∧ ac ≤ m ∧ dn ≤ m ∧ Apart (B + 2) B (B + 1) pb rb ∧ Below B w0 w ∧ B ≤ w0.heap.size ∧ B ≤ pb ∧ B ≤ rb
theorem Rd.down (h : Rd w0 w B pb rb cap n m u ac dn) : w.cell? ⟨pb, 1, none⟩ = some (.bool (!u)) := by
  obtain ⟨S, _, ⟨pl, pk, hP⟩, _, _, rfl, _⟩ := h
  exact hP.pw.d1
theorem Rd.acts (h : Rd w0 w B pb rb cap n m u ac dn) : w.cell? ⟨pb, 5, none⟩ = some (.int .i64 ac) := by
  obtain ⟨S, _, ⟨pl, pk, hP⟩, _, _, _, rfl, _⟩ := h
  exact hP.pw.d5
theorem Rd.downs (h : Rd w0 w B pb rb cap n m u ac dn) : w.cell? ⟨pb, 6, none⟩ = some (.int .i64 dn) := by
  obtain ⟨S, _, ⟨pl, pk, hP⟩, _, _, _, _, rfl, _⟩ := h
  exact hP.pw.d6
theorem Rd.bel (h : Rd w0 w B pb rb cap n m u ac dn) : Below B w0 w := by
  obtain ⟨S, _, _, _, _, _, _, _, _, _, _, hb, _⟩ := h
  exact hb
theorem Rd.hB (h : Rd w0 w B pb rb cap n m u ac dn) : B ≤ w.heap.size := by
  obtain ⟨S, _, _, _, _, _, _, _, _, _, _, hb, h2, _⟩ := h
  exact Nat.le_trans h2 hb.size
theorem Rd.below (h : Rd w0 w B pb rb cap n m u ac dn) (hb : Below w.heap.size w w') : Rd w0 w' B pb rb cap n m u ac dn := by
  have hB := h.hB
  obtain ⟨S, hD, ⟨pl, pk, hP⟩, a1, a2, a3, a4, a5, a6, a7, a8, a9, a10⟩ := h
  exact ⟨S, hD.below hb, ⟨pl, pk, hP.below hb⟩, a1, a2, a3, a4, a5, a6, a7, a8, a9.trans (hb.mono hB), a10⟩
theorem Rd.drew (h : Rd w0 w B pb rb cap n m u ac dn) : Rd w0 w.drew B pb rb cap n m u ac dn := h.below (below_drewN w 1)
theorem Rd.up_c (w : World) (h : Rd w0 w B pb rb cap n m u ac dn) : Calls Try.prog 11 #[.pointer (some ⟨B + 2, 0, none⟩)] w fun e w' => e = .returned (.bool u) ∧ w' = w := by
  obtain ⟨S, hD, _, hS, _, rfl, _⟩ := h
  exact Up_any w hD hS.n1
theorem Rd.size_c (w : World) (h : Rd w0 w B pb rb cap n m u ac dn) : Calls Try.prog 12 #[.pointer (some ⟨B + 2, 0, none⟩)] w fun e w' => e = .returned (.int .i64 (n : Int)) ∧ w' = w := by
  obtain ⟨S, hD, _, hS, rfl, _⟩ := h
  exact Size_any w hD hS.n1
theorem Rd.acts_c (w : World) (h : Rd w0 w B pb rb cap n m u ac dn) : Calls Try.prog 13 #[.pointer (some ⟨B + 2, 0, none⟩)] w fun e w' => e = .returned (.int .i64 ac) ∧ w' = w := by
  obtain ⟨S, hD, _, hS, _, _, rfl, _⟩ := h
  exact Acts_any w hD hS.n1
theorem Rd.downs_c (w : World) (h : Rd w0 w B pb rb cap n m u ac dn) : Calls Try.prog 14 #[.pointer (some ⟨B + 2, 0, none⟩)] w fun e w' => e = .returned (.int .i64 dn) ∧ w' = w := by
  obtain ⟨S, hD, _, hS, _, _, _, rfl, _⟩ := h
  exact Downs_any w hD hS.n1
theorem Rd.waits_c (w : World) (h : Rd w0 w B pb rb cap n m u ac dn) (hm : m ≤ 1000) : Calls Try.prog 15 #[.pointer (some ⟨B + 2, 0, none⟩), .pointer (some ⟨pb, 0, none⟩)] w fun e w' => e = .returned (.bool true) ∧ Rd w0 w' B pb rb cap n m u ac dn := by
  have h' := h
  obtain ⟨S, hD, ⟨pl, pk, hP⟩, hS, _⟩ := h
  exact (waits_any w hD hP hS hm).mono fun e w' ⟨h1, h2⟩ => ⟨h1, h'.below h2⟩
theorem Rd.step_c (w : World) (h : Rd w0 w B pb rb cap n m u ac dn) (hm : m < 1000) (kind i k : Int) (i1 : i ≤ 9223372036854775807) (k0 : 0 ≤ k) (k1 : k ≤ 18446744073709551615) (s : ByteArray) (hs : s.size ≤ 9223372036854775807) :
    Calls Try.prog 10 #[.pointer (some ⟨B + 2, 0, none⟩), .pointer (some ⟨pb, 0, none⟩), .agg #[.int .i64 kind, .int .i64 i, .string s, .int .u64 k]] w fun e w' => e = .returned (.bool true) ∧ ∃ u' ac' dn', Rd w0 w' B pb rb cap n (m + 1) u' ac' dn' := by
  have hB := h.hB
  obtain ⟨S, hD, hP, hS, rfl, rfl, rfl, rfl, a5, a6, hA, a8, a9, a10, a11⟩ := h
  refine (step_any w hD hP hS hm hA (by omega) (by omega) kind i k i1 k0 k1 s hs).mono ?_
  rintro e w' ⟨rfl, S', hk, hD', hP', ho⟩
  refine ⟨rfl, _, _, _, S', hD', hP', hk.ok, hk.n, rfl, rfl, rfl, ?_, ?_, hA, a8.trans (ho.below ?_ hB), a9, a10, a11⟩
  · have := hk.acts; omega
  · have := hk.downs; omega
  · rintro j ((rfl | rfl | rfl) | (rfl | rfl)) <;> omega
theorem Rd.new {v : Value} (h1 : 1 ≤ n) (h2 : n ≤ 100) (hD : DkIs w (B + 2) B (B + 1) 0 (newDk n)) (hblk : w.heap[pb]? = some (.cells #[v, .bool false, .bool false, .int .i64 0, .int .u64 0, .int .i64 0, .int .i64 0] 32))
    (hrow : w.ownsRow (pb + 1) 35 3 v n (xsN n)) (hb : Below B w0 w) (hB : B ≤ w0.heap.size) (hp : B + 2 < pb) : ∃ rb cap, Rd w0 w B pb rb cap n 0 true 0 0 := by
  rcases hrow.2 with ⟨_, h0⟩ | ⟨g, cap, cur, hv, hbase, _⟩
  · omega
  subst hv
  have hne : pb ≠ g := by omega
  refine ⟨g, cap, newDk n, hD, ⟨0, 0, pl_new h1 hblk hrow hne⟩, newDk_ok h1 (by omega), rfl, rfl, rfl, rfl, Int.le_refl _, Int.le_refl _, ⟨?_, ?_⟩, hb, hB, by omega, by omega⟩
  · rintro (e | e | e) <;> omega
  · rintro (e | e | e) <;> omega
end Go.Proofs.Ytoafoopenmppgaa
