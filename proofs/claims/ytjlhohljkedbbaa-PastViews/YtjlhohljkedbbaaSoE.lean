/- symMerge: one element on the right. -/
import Derived.Test.YtjlhohljkedbbaaSoD
namespace Go.Proofs.Ytjlhohljkedbbaa.So
open Go.Sort Go.RowKit
set_option linter.unusedVariables false
set_option linter.unusedSimpArgs false
set_option maxRecDepth 1000000
section
variable {w : World} {blk cap a m b g : Nat} {cb : Array Value} {d : Array CL} {cf : CL → CL → Int}
set_option maxHeartbeats 4000000 in
theorem sym2 (hS : SWO (ltOf cf)) (eg : ∀ args w, (callFunc g args).run Try.prog w = .ok (.enter g args) w) (hR : Rw w blk d) (hC : CmpLays Try.prog g cb encC 2 cf blk 0 d.size w) (h0 : a + 1 < m) (h1 : b = m + 1) (h3 : b ≤ d.size) : Calls Try.prog 37 #[.slice (some ⟨blk, 0, none⟩) d.size cap, .int .i64 a, .int .i64 m, .int .i64 b, .func (.func g) #[] cb] w fun e w' => Ly w w' blk cf a m b d e := by
  have HR : Hid (Rw w blk d) := hR
  have HC : Hid (CmpLays Try.prog g cb encC 2 cf blk 0 d.size w) := hC
  have HS : Hid (SWO (ltOf cf)) := hS
  have few := hR.few
  have mixed : Try.prog.follows .mixedOrders = true := by kernel_rfl
  have n1 : ((m : Int) - (a : Int) == 1) = false := beq_eq_false_iff_ne.2 (by omega)
  have e1 : (b : Int) - (m : Int) = 1 := by omega
  have H1 : Hid (b = m + 1) := h1
  clear hR hC hS h1
  go_enter Try.func37, Try.ntmps37
  go_wp2
  go_loopg [14, 15] (m - a) (fun k vi vj wr => ∃ (i j : Nat), vi = .int .i64 i ∧ vj = .int .i64 j ∧ a ≤ i ∧ i ≤ j ∧ j ≤ m ∧ j - i ≤ k ∧ Wd w wr blk d ∧ SeR (ltOf cf) a m i j d)
  case atStart => exact ⟨a, m, rfl, rfl, by omega, by omega, by omega, by omega, HR.out.self, SeR.start⟩
  case round =>
    obtain ⟨i, j, rfl, rfl, hmi, hij, hjb, hk, hW, hM⟩ := hrel
    have HW : Hid (Wd w wr blk d) := hW
    have HM : Hid (SeR (ltOf cf) a m i j d) := hM
    clear hW hM
    by_cases hlt : i < j
    · obtain ⟨h, eh⟩ : ∃ h, (i + j) / 2 = h := ⟨_, rfl⟩
      have ec : ((i : Int) + (j : Int)) / 2 = (h : Int) := by omega
      obtain ⟨kh, vh, eh1⟩ : ∃ k v, d[h]! = (k, v) := ⟨_, _, rfl⟩
      obtain ⟨ka, va, ea1⟩ : ∃ k v, d[m]! = (k, v) := ⟨_, _, rfl⟩
      have hr := HR.out.wd HW.out rfl
      obtain ⟨ch0, ch1⟩ := hr.cellsG (i := h) (by omega) eh1
      obtain ⟨ca0, ca1⟩ := hr.cellsG (i := m) (by omega) ea1
      have CA : Hid (∀ n os, Calls Try.prog g (#[.agg #[.string ka, .string va], .agg #[.string kh, .string vh]] ++ cb) (grow (wr.drewN n) os) fun e w' => e = .returned (.int .i64 (cf (ka, va) (kh, vh))) ∧ ∃ q os'', w' = grow ((grow (wr.drewN n) os).drewN q) os'') := fun n os => hr.call (HR.out.cmp HW.out rfl HC.out) (ka, va) (kh, vh) n os
      have EH : Hid (d[h]! = (kh, vh) ∧ d[m]! = (ka, va)) := ⟨eh1, ea1⟩
      clear hr eh1 ea1
      have hz : (h : Int) < (d.size : Int) := by omega
      have az : (m : Int) < (d.size : Int) := by omega
      by_cases hl : cf (ka, va) (kh, vh) < 0
      · go_wp2_with fail
        go_quiet_grown (first | (go_at_fn g; refine Calls.grown_of (CA.out _ _)))
        go_wp2
        go_roundg (h - i)
        case measure => omega
        case rel => exact ⟨i, h, rfl, by go_num, hmi, by omega, by omega, Nat.le_refl _, HW.out.grown _ _, HM.out.down HS.out (by omega) (by rw [EH.out.1, EH.out.2]; exact ltof_t hl)⟩
      · have hl4 : decide (cf (ka, va) (kh, vh) < 0) = false := decide_eq_false (by omega)
        go_wp2_with fail
        go_quiet_grown (first | (go_at_fn g; refine Calls.grown_of (CA.out _ _)))
        go_wp2
        go_roundg (j - (h + 1))
        case measure => omega
        case rel => exact ⟨h + 1, j, by go_num, rfl, by omega, by omega, hjb, Nat.le_refl _, HW.out.grown _ _, HM.out.up HS.out (by omega) (by rw [EH.out.1, EH.out.2]; exact ltof_f (by omega))⟩
    · obtain rfl : j = i := by omega
      clear hlt hij
      go_wp2
      go_loopg [17] (m - j) (fun k vk wr2 => ∃ (x : Nat) (dk : Array CL), vk = .int .i64 x ∧ j ≤ x ∧ x ≤ m ∧ x - j ≤ k ∧ Wd w wr2 blk dk ∧ Mv a b (shr x m) d dk)
      case atStart => exact ⟨m, d, rfl, by omega, by omega, by omega, HW.out, Mv.refl _ _ (fun x => by unfold shr; (repeat' split) <;> omega) d⟩
      case round =>
        obtain ⟨x, dk, rfl, hax, hxi, hk2, hW2, hM2⟩ := hrel
        have HW2 : Hid (Wd w wr blk dk) := hW2
        have HM2 : Hid (Mv a b (shr x m) d dk) := hM2
        by_cases hxlt : j < x
        · have hsk : dk.size = d.size := hM2.size
          obtain ⟨xp, rfl⟩ : ∃ xp, x = xp + 1 := ⟨x - 1, by omega⟩
          obtain ⟨ka, va, ea⟩ : ∃ k v, dk[xp + 1]! = (k, v) := ⟨_, _, rfl⟩
          obtain ⟨kb, vb, eb⟩ : ∃ k v, dk[xp]! = (k, v) := ⟨_, _, rfl⟩
          have hr := HR.out.wd hW2 hsk
          obtain ⟨ca0, ca1, fa0, fa1⟩ := hr.cells (i := xp + 1) (by omega) ea
          obtain ⟨cb0, cb1, fb0, fb1⟩ := hr.cells (i := xp) (by omega) eb
          have da0 : wr.drew.cell? ⟨blk, (xp + 1) * 2, none⟩ = some (.string ka) := ca0
          have da1 : wr.drew.cell? ⟨blk, (xp + 1) * 2 + 1, none⟩ = some (.string va) := ca1
          have db0 : wr.drew.cell? ⟨blk, xp * 2, none⟩ = some (.string kb) := cb0
          have db1 : wr.drew.cell? ⟨blk, xp * 2 + 1, none⟩ = some (.string vb) := cb1
          have SW := HW2.out.swp HR.out (i := xp + 1) (j := xp) (by omega) (by omega) ea eb
          have SW : Hid _ := SW
          have ie : ((xp : Int) + 1).toNat = xp + 1 := by omega
          clear hr hW2 hM2 ea eb
          go_wp2_with fail
          go_big_region_o
          all_goals go_wp2
          go_roundg (xp - j)
          case measure => omega
          case rel => exact ⟨xp, Sort.swp dk (xp + 1) xp, by first | rfl | go_num, by omega, by omega, Nat.le_refl _, SW.out, shr_step HM2.out (by omega) (by omega) (by have := H1.out; omega) h3⟩
        · clear hW2 hM2
          obtain rfl : x = j := by omega
          go_wp2
          (try simp only [Exit.inBlock, Exit.then]); refine bodyPost_ret (results_none rfl _ _ _) rfl ?_
          exact ⟨rfl, dk, HW2.out, SeR.done HS.out HM.out H1.out hmi (by omega) HM2.out⟩
end
end Go.Proofs.Ytjlhohljkedbbaa.So
