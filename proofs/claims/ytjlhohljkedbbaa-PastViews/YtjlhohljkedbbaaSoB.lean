/- The worlds that a sort of cells passes through; swapRange. -/
import Derived.Test.YtjlhohljkedbbaaSoA
import Derived.Shelf.SlSortCmp.InsertionK
import Derived.WalkKit
namespace Go.Proofs.Ytjlhohljkedbbaa.So
open Go.Sort Go.RowKit
set_option linter.unusedVariables false
set_option linter.unusedSimpArgs false
set_option maxRecDepth 1000000
abbrev CL := ByteArray × ByteArray
instance : Inhabited CL := ⟨(⟨#[]⟩, ⟨#[]⟩)⟩
def encC (c : CL) : List Value := [.string c.1, .string c.2]
theorem encL (x : CL) : (encC x).length = 2 := rfl
theorem encO (x : CL) : ∀ v ∈ encC x, v.oneCell' = true := fun v hv => by
  simp only [encC, List.mem_cons, List.not_mem_nil, or_false] at hv
  rcases hv with rfl | rfl <;> rfl
/-- A world of the sort's: its row holds d; draws and blocks of the callee's lie behind. -/
structure Wd (w w' : World) (blk : Nat) (d : Array CL) : Prop where
  ex : ∃ m os, w' = sortWorldK encC 2 w blk 0 m d os
/-- What a call finds. -/
structure Rw (w : World) (blk : Nat) (d : Array CL) : Prop where
  holds : HoldsK encC 2 w blk 0 d
  lt : blk < w.heap.size
  few : d.size ≤ 100000
section
variable {w w1 w2 : World} {blk : Nat} {d d1 d2 : Array CL}
theorem Rw.self (h : Rw w blk d) : Wd w w blk d := ⟨0, #[], by unfold sortWorldK; rw [grow_empty]; exact (putRowK_self encC 2 w blk 0 d h.holds).symm⟩
theorem Rw.wd (h : Rw w blk d) (h1 : Wd w w1 blk d1) (hs : d1.size = d.size) : Rw w1 blk d1 := by
  obtain ⟨m, os, rfl⟩ := h1.ex
  exact ⟨holdsK_sortWorldK_c encC 2 w blk 0 d d1 m os h.holds h.lt hs, Nat.lt_of_lt_of_le h.lt (size_sortWorldK_c encC 2 w blk 0 m d1 os), by rw [hs]; exact h.few⟩
theorem sw_sw (h : Rw w blk d) (m m2 : Nat) (os os2 : Array Obj) (hs : d1.size = d2.size) : sortWorldK encC 2 (sortWorldK encC 2 w blk 0 m d1 os) blk 0 m2 d2 os2 = sortWorldK encC 2 w blk 0 (m + m2) d2 (os ++ os2) := by
  unfold sortWorldK
  exact grow_step_growK encC 2 w os os2 m m2 blk 0 d1 d2 h.lt hs.symm
theorem Wd.trans (h : Rw w blk d) (h1 : Wd w w1 blk d1) (h2 : Wd w1 w2 blk d2) (hs : d1.size = d2.size) : Wd w w2 blk d2 := by
  obtain ⟨m, os, rfl⟩ := h1.ex
  obtain ⟨m2, os2, rfl⟩ := h2.ex
  exact ⟨_, _, sw_sw h m m2 os os2 hs⟩
theorem Rw.cmp {g : Nat} {cb : Array Value} {cf : CL → CL → Int} (h : Rw w blk d) (h1 : Wd w w1 blk d1) (hs : d1.size = d.size) (hc : CmpLays Try.prog g cb encC 2 cf blk 0 d.size w) : CmpLays Try.prog g cb encC 2 cf blk 0 d1.size w1 := by
  obtain ⟨m, os, rfl⟩ := h1.ex
  intro m2 os2 dk hk x y
  rw [sw_sw h m m2 os os2 hk.symm]
  exact hc _ _ _ (hk.trans hs) x y
theorem Rw.cells {k v : ByteArray} {i : Nat} (h : Rw w blk d) (hi : i < d.size) (e : d[i]! = (k, v)) : w.cell? ⟨blk, i * 2, none⟩ = some (.string k) ∧ w.cell? ⟨blk, i * 2 + 1, none⟩ = some (.string v) ∧ w.frozen? ⟨blk, i * 2, none⟩ = false ∧ w.frozen? ⟨blk, i * 2 + 1, none⟩ = false := by
  have h0 := h.holds.cell (i := i) (c := 0) hi (by omega)
  have h1 := h.holds.cell (i := i) (c := 1) hi (by omega)
  rw [e, Nat.zero_add] at h0 h1
  exact ⟨h0.1, h1.1, h0.2, h1.2⟩
theorem Wd.swp {ka va kb vb : ByteArray} {i j : Nat} (h : Rw w blk d) (h1 : Wd w w1 blk d1) (hi : i < d1.size) (hj : j < d1.size) (ei : d1[i]! = (ka, va)) (ej : d1[j]! = (kb, vb)) :
    Wd w ((((w1.setCell ⟨blk, i * 2, none⟩ (.string kb)).setCell ⟨blk, i * 2 + 1, none⟩ (.string vb)).setCell ⟨blk, j * 2, none⟩ (.string ka)).setCell ⟨blk, j * 2 + 1, none⟩ (.string va)).drew blk (Sort.swp d1 i j) := by
  obtain ⟨m, os, e1⟩ := h1.ex
  have := sortWorldK_swp_c encC 2 w blk 0 encL m d1 os h.lt i j hi hj
  rw [ei, ej, Nat.zero_add, Nat.zero_add, ← e1] at this
  refine ⟨m + 1, os, ?_⟩
  rw [← this]
  clear this e1
  rfl
end
/-- What a call leaves. -/
structure Lv (w w' : World) (blk : Nat) (lo hi : Nat) (f : Nat → Nat) (d : Array CL) (e : Ending) : Prop where
  ret : e = .returned (.tuple #[])
  ex : ∃ d', Wd w w' blk d' ∧ Mv lo hi f d d'
theorem zeC (w : World) : (Go.sizeOf 39).run Try.prog w = .ok 2 w := by kernel_rfl
theorem agC (w : World) : (isAgg 39).run Try.prog w = .ok true w := by kernel_rfl
section
variable {w : World} {blk cap a b n lo hi g : Nat} {cb : Array Value} {d : Array CL}
set_option maxHeartbeats 4000000 in
theorem swapR (hR : Rw w blk d) (h1 : a + n ≤ b) (h2 : b + n ≤ hi) (h3 : lo ≤ a) (h4 : hi ≤ d.size) : Calls Try.prog 51 #[.slice (some ⟨blk, 0, none⟩) d.size cap, .int .i64 a, .int .i64 b, .int .i64 n, .func (.func g) #[] cb] w fun e w' => Lv w w' blk lo hi (swx a b n) d e := by
  have HR : Hid (Rw w blk d) := hR
  have few := hR.few
  have mixed : Try.prog.follows .mixedOrders = true := by kernel_rfl
  clear hR
  go_enter Try.func51, Try.ntmps51
  go_wp2
  go_loopg [10] n (fun k vi wr => ∃ (i : Nat) (dk : Array CL), vi = .int .i64 i ∧ i ≤ n ∧ n - i ≤ k ∧ Wd w wr blk dk ∧ Mv lo hi (swx a b i) d dk)
  case atStart => exact ⟨0, d, rfl, by omega, by omega, HR.out.self, Mv.refl _ _ (fun x => by unfold swx; (repeat' split) <;> omega) d⟩
  case round =>
    obtain ⟨i, dk, rfl, hin, hk, hW, hM⟩ := hrel
    have HW : Hid (Wd w wr blk dk) := hW
    have HM : Hid (Mv lo hi (swx a b i) d dk) := hM
    by_cases hlt : i < n
    · have hsk : dk.size = d.size := hM.size
      have hr := HR.out.wd hW hsk
      obtain ⟨ka, va, ea⟩ : ∃ k v, dk[a + i]! = (k, v) := ⟨_, _, rfl⟩
      obtain ⟨kb, vb, eb⟩ : ∃ k v, dk[b + i]! = (k, v) := ⟨_, _, rfl⟩
      obtain ⟨ca0, ca1, fa0, fa1⟩ := hr.cells (by omega) ea
      obtain ⟨cb0, cb1, fb0, fb1⟩ := hr.cells (by omega) eb
      have da0 : wr.drew.cell? ⟨blk, (a + i) * 2, none⟩ = some (.string ka) := ca0
      have da1 : wr.drew.cell? ⟨blk, (a + i) * 2 + 1, none⟩ = some (.string va) := ca1
      have db0 : wr.drew.cell? ⟨blk, (b + i) * 2, none⟩ = some (.string kb) := cb0
      have db1 : wr.drew.cell? ⟨blk, (b + i) * 2 + 1, none⟩ = some (.string vb) := cb1
      have SW := HW.out.swp HR.out (i := a + i) (j := b + i) (by omega) (by omega) ea eb
      have SW : Hid _ := SW
      have ne1 : a + i < b + i := by omega
      clear hr hW hM ea eb
      go_wp2_with fail
      go_big_region_o
      all_goals go_wp2
      go_roundg (n - (i + 1))
      case measure => omega
      case rel => exact ⟨i + 1, swp dk (a + i) (b + i), by first | rfl | go_num, by omega, Nat.le_refl _, SW.out, swx_step HM.out hlt h1 h2 h3 h4⟩
    · clear hW hM
      go_wp2
      go_end0
      have : i = n := by omega
      subst this
      exact ⟨rfl, dk, HW.out, HM.out⟩
end
end Go.Proofs.Ytjlhohljkedbbaa.So
