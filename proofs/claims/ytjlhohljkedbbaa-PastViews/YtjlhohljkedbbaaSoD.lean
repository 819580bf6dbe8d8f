/- symMerge: one element on the left, or on the right. -/
import Derived.Test.YtjlhohljkedbbaaSoC
namespace Go.Proofs.Ytjlhohljkedbbaa.So
open Go.Sort Go.RowKit
set_option linter.unusedVariables false
set_option linter.unusedSimpArgs false
set_option maxRecDepth 1000000
section
variable {w w1 : World} {blk g : Nat} {cb : Array Value} {d d1 : Array CL} {cf : CL → CL → Int}
theorem Rw.world (h : Rw w blk d) (n : Nat) (os : Array Obj) : grow (w.drewN n) os = sortWorldK encC 2 w blk 0 n d os := by
  have e : sortWorldK encC 2 w blk 0 0 d #[] = w := by unfold sortWorldK; rw [grow_empty]; exact putRowK_self encC 2 w blk 0 d h.holds
  have := sortWorldK_grown_c encC 2 w blk 0 0 n d #[] os
  rw [e, Nat.zero_add, Array.empty_append] at this
  exact this
theorem Rw.call (h : Rw w blk d) (hc : CmpLays Try.prog g cb encC 2 cf blk 0 d.size w) (x y : CL) (n : Nat) (os : Array Obj) : Calls Try.prog g (#[.agg #[.string x.1, .string x.2], .agg #[.string y.1, .string y.2]] ++ cb) (grow (w.drewN n) os) fun e w' => e = .returned (.int .i64 (cf x y)) ∧ ∃ q os'', w' = grow ((grow (w.drewN n) os).drewN q) os'' := by
  rw [h.world n os]
  exact hc n os d rfl x y
theorem Wd.grown (h1 : Wd w w1 blk d1) (n : Nat) (os : Array Obj) : Wd w (grow (w1.drewN n) os) blk d1 := by
  obtain ⟨m, os1, rfl⟩ := h1.ex
  exact ⟨m + n, os1 ++ os, sortWorldK_grown_c encC 2 w blk 0 m n d1 os1 os⟩
theorem Wd.drew (h1 : Wd w w1 blk d1) : Wd w w1.drew blk d1 := by
  have := h1.grown 1 #[]
  rw [grow_empty] at this
  exact this
/-- An element's cells, in every world that the comparing function leaves. -/
theorem Rw.cellsG {k v : ByteArray} {i : Nat} (h : Rw w blk d) (hi : i < d.size) (e : d[i]! = (k, v)) : (∀ n os, (grow (w.drewN n) os).cell? ⟨blk, i * 2, none⟩ = some (.string k)) ∧ ∀ n os, (grow (w.drewN n) os).cell? ⟨blk, i * 2 + 1, none⟩ = some (.string v) := by
  obtain ⟨h0, h1, _, _⟩ := h.cells hi e
  exact ⟨fun n os => cell_grown h.lt h0 n os, fun n os => cell_grown h.lt h1 n os⟩
theorem ltof_t {x y : CL} (h : cf x y < 0) : ltOf cf x y = true := decide_eq_true h
theorem ltof_f {x y : CL} (h : ¬ cf x y < 0) : ltOf cf x y = false := decide_eq_false h
end
/-- What symMerge leaves. -/
structure Ly (w w' : World) (blk : Nat) (cf : CL → CL → Int) (a m b : Nat) (d : Array CL) (e : Ending) : Prop where
  ret : e = .returned (.tuple #[])
  ex : ∃ d', Wd w w' blk d' ∧ Mg (ltOf cf) a m b d d'
section
variable {w : World} {blk cap a m b g : Nat} {cb : Array Value} {d : Array CL} {cf : CL → CL → Int}
set_option maxHeartbeats 4000000 in
theorem sym1 (hS : SWO (ltOf cf)) (eg : ∀ args w, (callFunc g args).run Try.prog w = .ok (.enter g args) w) (hR : Rw w blk d) (hC : CmpLays Try.prog g cb encC 2 cf blk 0 d.size w) (h1 : m = a + 1) (h2 : m < b) (h3 : b ≤ d.size) : Calls Try.prog 37 #[.slice (some ⟨blk, 0, none⟩) d.size cap, .int .i64 a, .int .i64 m, .int .i64 b, .func (.func g) #[] cb] w fun e w' => Ly w w' blk cf a m b d e := by
  have HR : Hid (Rw w blk d) := hR
  have HC : Hid (CmpLays Try.prog g cb encC 2 cf blk 0 d.size w) := hC
  have HS : Hid (SWO (ltOf cf)) := hS
  have few := hR.few
  have mixed : Try.prog.follows .mixedOrders = true := by kernel_rfl
  have e1 : (m : Int) - (a : Int) = 1 := by omega
  have H1 : Hid (m = a + 1) := h1
  clear hR hC hS h1
  go_enter Try.func37, Try.ntmps37
  go_wp2
  go_loopg [10, 11] (b - m) (fun k vi vj wr => ∃ (i j : Nat), vi = .int .i64 i ∧ vj = .int .i64 j ∧ m ≤ i ∧ i ≤ j ∧ j ≤ b ∧ j - i ≤ k ∧ Wd w wr blk d ∧ SeL (ltOf cf) a m b i j d)
  case atStart => exact ⟨m, b, rfl, rfl, by omega, by omega, by omega, by omega, HR.out.self, SeL.start⟩
  case round =>
    obtain ⟨i, j, rfl, rfl, hmi, hij, hjb, hk, hW, hM⟩ := hrel
    have HW : Hid (Wd w wr blk d) := hW
    have HM : Hid (SeL (ltOf cf) a m b i j d) := hM
    clear hW hM
    by_cases hlt : i < j
    · obtain ⟨h, eh⟩ : ∃ h, (i + j) / 2 = h := ⟨_, rfl⟩
      have ec : ((i : Int) + (j : Int)) / 2 = (h : Int) := by omega
      obtain ⟨kh, vh, eh1⟩ : ∃ k v, d[h]! = (k, v) := ⟨_, _, rfl⟩
      obtain ⟨ka, va, ea1⟩ : ∃ k v, d[a]! = (k, v) := ⟨_, _, rfl⟩
      have hr := HR.out.wd HW.out rfl
      obtain ⟨ch0, ch1⟩ := hr.cellsG (i := h) (by omega) eh1
      obtain ⟨ca0, ca1⟩ := hr.cellsG (i := a) (by omega) ea1
      have CA : Hid (∀ n os, Calls Try.prog g (#[.agg #[.string kh, .string vh], .agg #[.string ka, .string va]] ++ cb) (grow (wr.drewN n) os) fun e w' => e = .returned (.int .i64 (cf (kh, vh) (ka, va))) ∧ ∃ q os'', w' = grow ((grow (wr.drewN n) os).drewN q) os'') := fun n os => hr.call (HR.out.cmp HW.out rfl HC.out) (kh, vh) (ka, va) n os
      have EH : Hid (d[h]! = (kh, vh) ∧ d[a]! = (ka, va)) := ⟨eh1, ea1⟩
      clear hr eh1 ea1
      have hz : (h : Int) < (d.size : Int) := by omega
      have az : (a : Int) < (d.size : Int) := by omega
      by_cases hl : cf (kh, vh) (ka, va) < 0
      · go_wp2_with fail
        go_quiet_grown (first | (go_at_fn g; refine Calls.grown_of (CA.out _ _)))
        go_wp2
        go_roundg (j - (h + 1))
        case measure => omega
        case rel => exact ⟨h + 1, j, by go_num, rfl, by omega, by omega, hjb, Nat.le_refl _, HW.out.grown _ _, HM.out.up HS.out (by omega) (by rw [EH.out.1, EH.out.2]; exact ltof_t hl)⟩
      · go_wp2_with fail
        go_quiet_grown (first | (go_at_fn g; refine Calls.grown_of (CA.out _ _)))
        go_wp2
        go_roundg (h - i)
        case measure => omega
        case rel => exact ⟨i, h, rfl, by go_num, hmi, by omega, by omega, Nat.le_refl _, HW.out.grown _ _, HM.out.down HS.out (by omega) (by rw [EH.out.1, EH.out.2]; exact ltof_f (by omega))⟩
    · obtain ⟨ip, rfl⟩ : ∃ ip, i = ip + 1 := ⟨i - 1, by omega⟩
      obtain rfl : j = ip + 1 := by omega
      have hai : a ≤ ip := by omega
      clear hlt hij
      go_wp2
      go_loopg [13] (ip - a) (fun k vk wr2 => ∃ (x : Nat) (dk : Array CL), vk = .int .i64 x ∧ a ≤ x ∧ x ≤ ip ∧ ip - x ≤ k ∧ Wd w wr2 blk dk ∧ Mv a b (shl a x) d dk)
      case atStart => exact ⟨a, d, rfl, by omega, by omega, by omega, HW.out, Mv.refl _ _ (fun x => by unfold shl; (repeat' split) <;> omega) d⟩
      case round =>
        obtain ⟨x, dk, rfl, hax, hxi, hk2, hW2, hM2⟩ := hrel
        have HW2 : Hid (Wd w wr blk dk) := hW2
        have HM2 : Hid (Mv a b (shl a x) d dk) := hM2
        by_cases hxlt : x < ip
        · have hsk : dk.size = d.size := hM2.size
          obtain ⟨ka, va, ea⟩ : ∃ k v, dk[x]! = (k, v) := ⟨_, _, rfl⟩
          obtain ⟨kb, vb, eb⟩ : ∃ k v, dk[x + 1]! = (k, v) := ⟨_, _, rfl⟩
          have hr := HR.out.wd hW2 hsk
          obtain ⟨ca0, ca1, fa0, fa1⟩ := hr.cells (i := x) (by omega) ea
          obtain ⟨cb0, cb1, fb0, fb1⟩ := hr.cells (i := x + 1) (by omega) eb
          have da0 : wr.drew.cell? ⟨blk, x * 2, none⟩ = some (.string ka) := ca0
          have da1 : wr.drew.cell? ⟨blk, x * 2 + 1, none⟩ = some (.string va) := ca1
          have db0 : wr.drew.cell? ⟨blk, (x + 1) * 2, none⟩ = some (.string kb) := cb0
          have db1 : wr.drew.cell? ⟨blk, (x + 1) * 2 + 1, none⟩ = some (.string vb) := cb1
          have SW := HW2.out.swp HR.out (i := x) (j := x + 1) (by omega) (by omega) ea eb
          have SW : Hid _ := SW
          have ie : ((x : Int) + 1).toNat = x + 1 := by omega
          clear hr hW2 hM2 ea eb
          go_wp2_with fail
          go_big_region_o
          all_goals go_wp2
          go_roundg (ip - (x + 1))
          case measure => omega
          case rel => exact ⟨x + 1, Sort.swp dk x (x + 1), by first | rfl | go_num, by omega, by omega, Nat.le_refl _, SW.out, shl_step HM2.out hax (by omega) (by omega) h3⟩
        · clear hW2 hM2
          obtain rfl : x = ip := by omega
          go_wp2
          (try simp only [Exit.inBlock, Exit.then]); refine bodyPost_ret (results_none rfl _ _ _) rfl ?_
          exact ⟨rfl, dk, HW2.out, SeL.done HS.out HM.out H1.out hmi (by omega) HM2.out⟩
end
end Go.Proofs.Ytjlhohljkedbbaa.So
