/- The writes that a law is handed: what lies in memory where a list of them reads as data. -/
import Derived.Test.YtdgnfglghiecpaaAw
import Derived.Deep.Slices
import Derived.OpenShut
namespace Go.Proofs.Ytdgnfglghiecpaa
open Go.RowKit
set_option linter.unusedVariables false
set_option linter.unusedSimpArgs false
set_option maxRecDepth 100000

structure Wr3 where
  id : Int
  c : Int
  sy : Bool
/-- What is known of the writes: the first len of them. -/
structure IsWrs (w : World) (a : Option Addr) (len : Nat) (f : Nat → Wr3) : Prop where
  at_ : ∀ i, i < len → ∃ b off, a = some ⟨b, off, none⟩ ∧ b < w.heap.size ∧ w.cell? ⟨b, off + i * 3, none⟩ = some (.int .i64 (f i).id) ∧ w.cell? ⟨b, off + i * 3 + 1, none⟩ = some (.int .u8 (f i).c) ∧ w.cell? ⟨b, off + i * 3 + 2, none⟩ = some (.bool (f i).sy)
  c : ∀ i, i < len → 0 ≤ (f i).c ∧ (f i).c ≤ 255
theorem open_wrs {H : Type} {enc : TypeId × Value → H} {w : World} {fuel : Nat} {a : Option Addr} {len cap : Nat} {x : DataW H × List MemPlace}
    (h : DataW.trod enc Try.prog w 0 (fun _ => true) true fuel 47 [.slice a len cap] = some x) : ∃ f, IsWrs w a len f := by
  rcases Go.Deep.open_slice Try.underlying47 h with ⟨hcs, _⟩ | ⟨ad, l, c, m, n, D, Pl, hcs, _, hl, hm, hmm, _, hall⟩
  · simp at hcs
    obtain ⟨rfl, rfl, rfl⟩ := hcs
    exact ⟨fun _ => ⟨0, 0, false⟩, ⟨fun i hi => absurd hi (by omega), fun i hi => absurd hi (by omega)⟩⟩
  · simp at hcs
    obtain ⟨rfl, rfl, rfl⟩ := hcs
    rw [if_pos rfl] at hmm
    subst hmm
    have hop : Try.prog.cellsOf 51 = 3 := by kernel_rfl
    have h3 : Try.prog.cellsOf 3 = 1 := by kernel_rfl
    have h5 : Try.prog.cellsOf 5 = 1 := by kernel_rfl
    have h4 : Try.prog.cellsOf 4 = 1 := by kernel_rfl
    have each : ∀ i, i < len → ∃ q : Wr3, (w.cell? (ad.add (i * 3)) = some (.int .i64 q.id) ∧ w.cell? (ad.add (i * 3 + 1)) = some (.int .u8 q.c) ∧ w.cell? (ad.add (i * 3 + 2)) = some (.bool q.sy)) ∧ 0 ≤ q.c ∧ q.c ≤ 255 := by
      intro i hi
      obtain ⟨cs', g1, g2⟩ := hall i (by omega)
      rw [hop] at g1
      obtain ⟨_, hlen, hcell⟩ := World.cells?_some g1
      obtain ⟨xs, k, hk, _, _, hxl, hf⟩ := DataW.trod_struct Try.underlying51 g2
      match xs, hxl, cs', hlen with
      | [y0, y1, y2], _, [v0, v1, v2], _ =>
        have e0 := hcell 0 (by omega)
        have e1 := hcell 1 (by omega)
        have e2 := hcell 2 (by omega)
        rw [Go.Deep.add_add] at e0 e1 e2
        have f0 := hf 0 _ rfl
        have f1 := hf 1 _ rfl
        have f2 := hf 2 _ rfl
        simp [h3, h5, h4] at f0 f1 f2
        obtain ⟨n0, i0, _, _⟩ := DataW.trod_int Try.underlying3 f0
        obtain ⟨n1, i1, _, b1⟩ := DataW.trod_int Try.underlying5 f1
        obtain ⟨n2, i2, _⟩ := DataW.trod_bool Try.underlying4 f2
        simp at i0 i1 i2
        subst i0 i1 i2
        exact ⟨⟨n0, n1, n2⟩, ⟨by simpa using e0, by simpa using e1, by simpa using e2⟩, (bounds_u8 b1).1, (bounds_u8 b1).2⟩
    haveI : Inhabited Wr3 := ⟨⟨0, 0, false⟩⟩
    obtain ⟨q, hq⟩ := Go.Deep.choose_lt each
    refine ⟨q, ⟨fun i hi => ?_, fun i hi => (hq i hi).2⟩⟩
    obtain ⟨b, off, spot⟩ := ad
    have g0 := (hq 0 (by omega)).1.1
    have hspot : spot = none := by simpa [Addr.add] using World.cell?_spot g0
    subst hspot
    have hadd : ∀ k, (⟨b, off, none⟩ : Addr).add k = ⟨b, off + k, none⟩ := fun k => by unfold Addr.add; split <;> simp_all
    obtain ⟨⟨g1, g2, g3⟩, _⟩ := hq i hi
    rw [hadd] at g1 g2 g3
    refine ⟨b, off, rfl, ?_, g1, g2, g3⟩
    rcases Nat.lt_or_ge b w.heap.size with h' | h'
    · exact h'
    · simp [World.cell?, Array.getElem?_eq_none h'] at g1
theorem IsWrs.on {w : World} {B : Nat} {a : Option Addr} {len : Nat} {f : Nat → Wr3} (h : IsWrs w a len f) (hB : B = w.heap.size) {i : Nat} (hi : i < len) :
    ∃ b off, a = some ⟨b, off, none⟩ ∧ b < B ∧ ∀ wr, Below B w wr → wr.cell? ⟨b, off + i * 3, none⟩ = some (.int .i64 (f i).id) ∧ wr.cell? ⟨b, off + i * 3 + 1, none⟩ = some (.int .u8 (f i).c) ∧ wr.cell? ⟨b, off + i * 3 + 2, none⟩ = some (.bool (f i).sy) := by
  subst hB
  obtain ⟨b, off, h0, h1, g1, g2, g3⟩ := h.at_ i hi
  exact ⟨b, off, h0, h1, fun wr hb => ⟨(hb.cell (by exact h1)).trans g1, (hb.cell (by exact h1)).trans g2, (hb.cell (by exact h1)).trans g3⟩⟩
end Go.Proofs.Ytdgnfglghiecpaa
