/- The calls that PagePlays is handed, in memory. -/
import Derived.Test.YtmoognjegjeegaaStt
import Derived.Deep.RegionHeld3
import Derived.Deep.Slices
namespace Go.Proofs.Ytmoognjegjeegaa
open Go.RowKit
set_option linter.unusedVariables false
set_option linter.unusedSimpArgs false
set_option maxRecDepth 100000

structure Call3 where
  kd : Int
  c : Cl
/-- What is known of the calls: the first len of them, from block b on. -/
def IsOps (w : World) (a : Option Addr) (len : Nat) (f : Nat → Call3) : Prop :=
  ∀ i, i < len → ∃ b off, a = some ⟨b, off, none⟩ ∧ b < w.heap.size ∧ w.cell? ⟨b, off + i * 3, none⟩ = some (.int .i64 (f i).kd) ∧ w.cell? ⟨b, off + i * 3 + 1, none⟩ = some (.string (f i).c.k) ∧ w.cell? ⟨b, off + i * 3 + 2, none⟩ = some (.string (f i).c.v)
theorem open_ops {H : Type} {enc : TypeId × Value → H} {w : World} {fuel : Nat} {a : Option Addr} {len cap : Nat} {x : DataW H × List MemPlace}
    (h : DataW.trod enc Try.prog w 0 (fun _ => true) true fuel 55 [.slice a len cap] = some x) : ∃ f, IsOps w a len f := by
  rcases Go.Deep.open_slice Try.underlying55 h with ⟨hcs, _⟩ | ⟨ad, l, c, m, n, D, Pl, hcs, _, hl, hm, hmm, _, hall⟩
  · simp at hcs
    obtain ⟨rfl, rfl, rfl⟩ := hcs
    exact ⟨fun _ => ⟨0, ⟨⟨#[]⟩, ⟨#[]⟩⟩⟩, fun i hi => absurd hi (by omega)⟩
  · simp at hcs
    obtain ⟨rfl, rfl, rfl⟩ := hcs
    rw [if_pos rfl] at hmm
    subst hmm
    have h57 : Try.prog.cellsOf 57 = 3 := by kernel_rfl
    have h28 : Try.prog.cellsOf 28 = 2 := by kernel_rfl
    have h3 : Try.prog.cellsOf 3 = 1 := by kernel_rfl
    have h9 : Try.prog.cellsOf 9 = 1 := by kernel_rfl
    have each : ∀ i, i < len → ∃ q : Call3, w.cell? (ad.add (i * 3)) = some (.int .i64 q.kd) ∧ w.cell? (ad.add (i * 3 + 1)) = some (.string q.c.k) ∧ w.cell? (ad.add (i * 3 + 2)) = some (.string q.c.v) := by
      intro i hi
      obtain ⟨cs', g1, g2⟩ := hall i (by omega)
      rw [h57] at g1
      obtain ⟨_, hlen, hcell⟩ := World.cells?_some g1
      obtain ⟨xs, k, hk, _, _, hxl, hf⟩ := DataW.trod_struct Try.underlying57 g2
      match xs, hxl, cs', hlen with
      | [y0, y1], _, [v0, v1, v2], _ =>
        have e0 := hcell 0 (by omega)
        have e1 := hcell 1 (by omega)
        have e2 := hcell 2 (by omega)
        rw [Go.Deep.add_add] at e0 e1 e2
        have f0 := hf 0 _ rfl
        have f1 := hf 1 _ rfl
        simp [h3, h28] at f0 f1
        obtain ⟨n0, i0, _, _⟩ := DataW.trod_int Try.underlying3 f0
        obtain ⟨xs', k', hk', _, _, hxl', hf'⟩ := DataW.trod_struct Try.underlying28 f1
        match xs', hxl' with
        | [z0, z1], _ =>
          have f2 := hf' 0 _ rfl
          have f3 := hf' 1 _ rfl
          simp [h9] at f2 f3
          obtain ⟨s1, i1, _, _⟩ := DataW.trod_string Try.underlying9 f2
          obtain ⟨s2, i2, _, _⟩ := DataW.trod_string Try.underlying9 f3
          simp at i0 i1 i2
          subst i0 i1 i2
          exact ⟨⟨n0, ⟨s1, s2⟩⟩, by simpa using e0, by simpa using e1, by simpa using e2⟩
    haveI : Inhabited Call3 := ⟨⟨0, ⟨⟨#[]⟩, ⟨#[]⟩⟩⟩⟩
    obtain ⟨q, hq⟩ := Go.Deep.choose_lt each
    refine ⟨q, fun i hi => ?_⟩
    obtain ⟨b, off, spot⟩ := ad
    have g0 := (hq 0 (by omega)).1
    have hspot : spot = none := by simpa [Addr.add] using World.cell?_spot g0
    subst hspot
    obtain ⟨g1, g2, g3⟩ := hq i hi
    rw [Addr.add_mid] at g1 g2 g3
    refine ⟨b, off, rfl, ?_, g1, g2, g3⟩
    rcases Nat.lt_or_ge b w.heap.size with h' | h'
    · exact h'
    · simp [World.cell?, Array.getElem?_eq_none h'] at g1
end Go.Proofs.Ytmoognjegjeegaa
