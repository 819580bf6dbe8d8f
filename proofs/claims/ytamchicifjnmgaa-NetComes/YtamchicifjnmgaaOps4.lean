/- The calls that a law is handed: what lies in memory where a list of them reads as data. -/
import Derived.Test.YtamchicifjnmgaaMem
import Derived.Deep.Slices
namespace Go.Proofs.Ytamchicifjnmgaa
open Go.RowKit
set_option linter.unusedVariables false
set_option linter.unusedSimpArgs false
set_option maxRecDepth 100000

structure Call4 where
  kd : Int
  i : Int
  k : Int
  s : ByteArray
/-- What is known of the calls: the first len of them, from block b on. -/
def IsOps (w : World) (a : Option Addr) (len : Nat) (f : Nat → Call4) : Prop :=
  ∀ i, i < len → ∃ b off, a = some ⟨b, off, none⟩ ∧ b < w.heap.size ∧ w.cell? ⟨b, off + i * 4, none⟩ = some (.int .i64 (f i).kd) ∧ w.cell? ⟨b, off + i * 4 + 1, none⟩ = some (.int .i64 (f i).i) ∧ w.cell? ⟨b, off + i * 4 + 2, none⟩ = some (.int .i64 (f i).k) ∧ w.cell? ⟨b, off + i * 4 + 3, none⟩ = some (.string (f i).s)

theorem open_ops {H : Type} {enc : TypeId × Value → H} {w : World} {fuel : Nat} {a : Option Addr} {len cap : Nat} {x : DataW H × List MemPlace}
    (h : DataW.trod enc Try.prog w 0 (fun _ => true) true fuel 22 [.slice a len cap] = some x) : ∃ f, IsOps w a len f := by
  rcases Go.Deep.open_slice Try.underlying22 h with ⟨hcs, _⟩ | ⟨ad, l, c, m, n, D, Pl, hcs, _, hl, hm, hmm, _, hall⟩
  · simp at hcs
    obtain ⟨rfl, rfl, rfl⟩ := hcs
    exact ⟨fun _ => ⟨0, 0, 0, ⟨#[]⟩⟩, fun i hi => absurd hi (by omega)⟩
  · simp at hcs
    obtain ⟨rfl, rfl, rfl⟩ := hcs
    rw [if_pos rfl] at hmm
    subst hmm
    have h31 : Try.prog.cellsOf 31 = 4 := by kernel_rfl
    have h3 : Try.prog.cellsOf 3 = 1 := by kernel_rfl
    have h9 : Try.prog.cellsOf 9 = 1 := by kernel_rfl
    have each : ∀ i, i < len → ∃ q : Call4, w.cell? (ad.add (i * 4)) = some (.int .i64 q.kd) ∧ w.cell? (ad.add (i * 4 + 1)) = some (.int .i64 q.i) ∧ w.cell? (ad.add (i * 4 + 2)) = some (.int .i64 q.k) ∧ w.cell? (ad.add (i * 4 + 3)) = some (.string q.s) := by
      intro i hi
      obtain ⟨cs', g1, g2⟩ := hall i (by omega)
      rw [h31] at g1
      obtain ⟨_, hlen, hcell⟩ := World.cells?_some g1
      obtain ⟨xs, k, hk, _, _, hxl, hf⟩ := DataW.trod_struct Try.underlying31 g2
      match xs, hxl, cs', hlen with
      | [y0, y1, y2, y3], _, [v0, v1, v2, v3], _ =>
        have e0 := hcell 0 (by omega)
        have e1 := hcell 1 (by omega)
        have e2 := hcell 2 (by omega)
        have e3 := hcell 3 (by omega)
        rw [Go.Deep.add_add] at e0 e1 e2 e3
        have f0 := hf 0 _ rfl
        have f1 := hf 1 _ rfl
        have f2 := hf 2 _ rfl
        have f3 := hf 3 _ rfl
        simp [h3, h9] at f0 f1 f2 f3
        obtain ⟨n0, i0, _, _⟩ := DataW.trod_int Try.underlying3 f0
        obtain ⟨n1, i1, _, _⟩ := DataW.trod_int Try.underlying3 f1
        obtain ⟨n2, i2, _, _⟩ := DataW.trod_int Try.underlying3 f2
        obtain ⟨s3, i3, _, _⟩ := DataW.trod_string Try.underlying9 f3
        simp at i0 i1 i2 i3
        subst i0 i1 i2 i3
        exact ⟨⟨n0, n1, n2, s3⟩, by simpa using e0, by simpa using e1, by simpa using e2, by simpa using e3⟩
    haveI : Inhabited Call4 := ⟨⟨0, 0, 0, ⟨#[]⟩⟩⟩
    obtain ⟨q, hq⟩ := Go.Deep.choose_lt each
    refine ⟨q, fun i hi => ?_⟩
    obtain ⟨b, off, spot⟩ := ad
    have g0 := (hq 0 (by omega)).1
    have hspot : spot = none := by simpa [Addr.add] using World.cell?_spot g0
    subst hspot
    have hadd : ∀ k, (⟨b, off, none⟩ : Addr).add k = ⟨b, off + k, none⟩ := fun k => by unfold Addr.add; split <;> simp_all
    obtain ⟨g1, g2, g3, g4⟩ := hq i hi
    rw [hadd] at g1 g2 g3 g4
    refine ⟨b, off, rfl, ?_, g1, g2, g3, g4⟩
    rcases Nat.lt_or_ge b w.heap.size with h' | h'
    · exact h'
    · simp [World.cell?, Array.getElem?_eq_none h'] at g1
theorem IsOps.at_ {w wr : World} {B : Nat} {a : Option Addr} {len : Nat} {f : Nat → Call4} (h : IsOps w a len f) (hB : B = w.heap.size) (hb : Below B w wr) {i : Nat} (hi : i < len) :
    ∃ b off, a = some ⟨b, off, none⟩ ∧ b < B ∧ wr.cell? ⟨b, off + i * 4, none⟩ = some (.int .i64 (f i).kd) ∧ wr.cell? ⟨b, off + i * 4 + 1, none⟩ = some (.int .i64 (f i).i) ∧ wr.cell? ⟨b, off + i * 4 + 2, none⟩ = some (.int .i64 (f i).k) ∧ wr.cell? ⟨b, off + i * 4 + 3, none⟩ = some (.string (f i).s) := by
  subst hB
  obtain ⟨b, off, h0, h1, g1, g2, g3, g4⟩ := h i hi
  exact ⟨b, off, h0, h1, (hb.cell (by exact h1)).trans g1, (hb.cell (by exact h1)).trans g2, (hb.cell (by exact h1)).trans g3, (hb.cell (by exact h1)).trans g4⟩
end Go.Proofs.Ytamchicifjnmgaa
