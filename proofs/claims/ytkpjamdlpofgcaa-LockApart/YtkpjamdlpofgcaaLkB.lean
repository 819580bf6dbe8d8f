/- The law's own: has. -/
import Derived.Test.YtkpjamdlpofgcaaLkZ
namespace Go.Proofs.Ytkpjamdlpofgcaa
open Go.RowKit
set_option linter.unusedVariables false
set_option linter.unusedSimpArgs false
set_option maxRecDepth 100000
section
variable {B tb : Nat} {w w' wx : World} {a : Option Addr} {c : Nat} {L : List Hd} {n : Int} {v v' : Value}
set_option maxHeartbeats 4000000 in
theorem has_any (hs : Hs B w (.slice a L.length c) L) (hl : L.length ≤ 80000) (h : Hd) :
    Calls Try.prog 23 #[.slice a L.length c, .agg h.A] w fun e w' => e = .returned (.bool (L.any (fun g => enoM g h))) ∧ Below w.heap.size w w' := by
  have HS : Hid (Hs B w (.slice a L.length c) L) := hs
  clear hs
  go_enter Try.func23, Try.ntmps23
  go_wp2_with (refine wpList_box_hd (n := h) _ rfl _ rfl rfl ?_; intro w0 b0 N0)
  go_loopw [5, 6] (fun s5 s6 wr => ∃ (i : Nat), s5 = .int .i64 (i : Int) ∧ i ≤ L.length ∧ Below w0.heap.size w0 wr ∧ (L.take i).any (fun g => enoM g h) = false) (fun s5 s6 _ => L.length - (intOf s5).toNat)
  case atStart => exact ⟨0, rfl, Nat.zero_le _, Below.refl _ _, by simp⟩
  case round =>
    obtain ⟨i, rfl, hi, hb0, hno⟩ := hrel
    have HN : Hid ((L.take i).any (fun g => enoM g h) = false) := hno
    have HB : Hid (Below w0.heap.size w0 wr) := hb0
    clear hno hb0
    by_cases hlt : i < L.length
    · have hltI : (i : Int) < (L.length : Int) := by omega
      obtain ⟨g1, e1, hg1, hc1⟩ := HS.out.at_ hlt
      subst e1
      have r1 := hc1 wr ((HB.out.block g1 (Nat.lt_of_lt_of_le hg1 N0.below.size)).trans (N0.below.block g1 hg1))
      have hh := N0.hd.bel HB.out
      have HX : Hid ((enoM L[i] h = true → L.any (fun g => enoM g h) = true) ∧ (enoM L[i] h = false → (L.take (i + 1)).any (fun g => enoM g h) = false)) := (⟨fun e => any_hit (p := fun g => enoM g h) hlt e, fun e => by rw [any_take_succ hlt, HN.out, e]; rfl⟩ : (enoM L[i] h = true → L.any (fun g => enoM g h) = true) ∧ (enoM L[i] h = false → (L.take (i + 1)).any (fun g => enoM g h) = false))
      clear hc1 hg1
      generalize L[i] = y at *
      have q0 : wr.cell? ⟨g1, i * 5, none⟩ = some (.int .i64 y.x) := by have := r1 0 (.int .i64 y.x) rfl; simpa using this
      have q1 : wr.cell? ⟨g1, i * 5 + 1, none⟩ = some (.int .i64 y.m) := r1 1 (.int .i64 y.m) rfl
      have q2 : wr.cell? ⟨g1, i * 5 + 2, none⟩ = some (.string y.lo) := r1 2 (.string y.lo) rfl
      have q3 : wr.cell? ⟨g1, i * 5 + 3, none⟩ = some (.string y.hi) := r1 3 (.string y.hi) rfl
      have q4 : wr.cell? ⟨g1, i * 5 + 4, none⟩ = some (.bool y.op) := r1 4 (.bool y.op) rfl
      have p0 := hh.c0
      have p1 := hh.c1
      have p2 := hh.c2
      have p3 := hh.c3
      have p4 := hh.c4
      have HE : Hid (enoM y h = (decide (y.x = h.x) && decide (h.m ≤ y.m) && leB y.lo h.lo && (y.op || (!h.op && leB h.hi y.hi)))) := rfl
      clear r1 hh HN HS
      generalize enoM y h = en at *
      obtain ⟨yx, ym, ylo, yhi, yop⟩ := y
      obtain ⟨hx, hm, hlo, hhi, hop⟩ := h
      simp only at *
      cases yop
      · cases hop
        · cases hqh : leB hhi yhi
          · have hqh' : (Op.bytesLess hhi.toList yhi.toList || hhi.toList == yhi.toList) = false := hqh
            by_cases hqx : yx = hx
            · subst hqx
              by_cases hqm : hm ≤ ym
              · have hqm' : decide (hm ≤ ym) = true := by simp [hqm]
                cases hql : leB ylo hlo
                · have hql' : (Op.bytesLess ylo.toList hlo.toList || ylo.toList == hlo.toList) = false := hql
                  have HF : Hid (en = false) := (by rw [HE.out]; simp [hqm, hql, hqh] : en = false)
                  clear HE
                  go_wp2
                  go_quiet (fail)
                  go_wp2
                  go_quiet (fail)
                  go_wp2
                  go_roundw
                  case rel => exact ⟨i + 1, by rfl, by omega, bdr HB.out _, HX.out.2 HF.out⟩
                  case measure => simp [intOf]; omega
                · have hql' : (Op.bytesLess ylo.toList hlo.toList || ylo.toList == hlo.toList) = true := hql
                  have HF : Hid (en = false) := (by rw [HE.out]; simp [hqm, hql, hqh] : en = false)
                  clear HE
                  go_wp2
                  go_quiet (fail)
                  go_wp2
                  go_quiet (fail)
                  go_wp2
                  go_roundw
                  case rel => exact ⟨i + 1, by rfl, by omega, bdr HB.out _, HX.out.2 HF.out⟩
                  case measure => simp [intOf]; omega
              · have hqm' : decide (hm ≤ ym) = false := by simp [hqm]
                have HF : Hid (en = false) := (by rw [HE.out]; simp [hqm, hqh] : en = false)
                clear HE
                go_wp2
                go_quiet (fail)
                go_wp2
                go_quiet (fail)
                go_wp2
                go_roundw
                case rel => exact ⟨i + 1, by rfl, by omega, bdr HB.out _, HX.out.2 HF.out⟩
                case measure => simp [intOf]; omega
            · have hqx' : (yx == hx) = false := by simp [hqx]
              have HF : Hid (en = false) := (by rw [HE.out]; simp [hqx, hqh] : en = false)
              clear HE
              go_wp2
              go_quiet (fail)
              go_wp2
              go_quiet (fail)
              go_wp2
              go_roundw
              case rel => exact ⟨i + 1, by rfl, by omega, bdr HB.out _, HX.out.2 HF.out⟩
              case measure => simp [intOf]; omega
          · have hqh' : (Op.bytesLess hhi.toList yhi.toList || hhi.toList == yhi.toList) = true := hqh
            by_cases hqx : yx = hx
            · subst hqx
              by_cases hqm : hm ≤ ym
              · have hqm' : decide (hm ≤ ym) = true := by simp [hqm]
                cases hql : leB ylo hlo
                · have hql' : (Op.bytesLess ylo.toList hlo.toList || ylo.toList == hlo.toList) = false := hql
                  have HF : Hid (en = false) := (by rw [HE.out]; simp [hqm, hql, hqh] : en = false)
                  clear HE
                  go_wp2
                  go_quiet (fail)
                  go_wp2
                  go_quiet (fail)
                  go_wp2
                  go_roundw
                  case rel => exact ⟨i + 1, by rfl, by omega, bdr HB.out _, HX.out.2 HF.out⟩
                  case measure => simp [intOf]; omega
                · have hql' : (Op.bytesLess ylo.toList hlo.toList || ylo.toList == hlo.toList) = true := hql
                  have HF : Hid (en = true) := (by rw [HE.out]; simp [hqm, hql, hqh] : en = true)
                  clear HE
                  go_wp2
                  go_quiet (fail)
                  go_wp2
                  go_quiet (fail)
                  go_wp2
                  go_ret
                  exact ⟨by rw [HX.out.1 HF.out]; rfl, thn N0.below (bdr (bdr HB.out _) _)⟩
              · have hqm' : decide (hm ≤ ym) = false := by simp [hqm]
                have HF : Hid (en = false) := (by rw [HE.out]; simp [hqm, hqh] : en = false)
                clear HE
                go_wp2
                go_quiet (fail)
                go_wp2
                go_quiet (fail)
                go_wp2
                go_roundw
                case rel => exact ⟨i + 1, by rfl, by omega, bdr HB.out _, HX.out.2 HF.out⟩
                case measure => simp [intOf]; omega
            · have hqx' : (yx == hx) = false := by simp [hqx]
              have HF : Hid (en = false) := (by rw [HE.out]; simp [hqx, hqh] : en = false)
              clear HE
              go_wp2
              go_quiet (fail)
              go_wp2
              go_quiet (fail)
              go_wp2
              go_roundw
              case rel => exact ⟨i + 1, by rfl, by omega, bdr HB.out _, HX.out.2 HF.out⟩
              case measure => simp [intOf]; omega
        · skip
          by_cases hqx : yx = hx
          · subst hqx
            by_cases hqm : hm ≤ ym
            · have hqm' : decide (hm ≤ ym) = true := by simp [hqm]
              cases hql : leB ylo hlo
              · have hql' : (Op.bytesLess ylo.toList hlo.toList || ylo.toList == hlo.toList) = false := hql
                have HF : Hid (en = false) := (by rw [HE.out]; simp [hqm, hql, ] : en = false)
                clear HE
                go_wp2
                go_quiet (fail)
                go_wp2
                go_quiet (fail)
                go_wp2
                go_roundw
                case rel => exact ⟨i + 1, by rfl, by omega, bdr HB.out _, HX.out.2 HF.out⟩
                case measure => simp [intOf]; omega
              · have hql' : (Op.bytesLess ylo.toList hlo.toList || ylo.toList == hlo.toList) = true := hql
                have HF : Hid (en = false) := (by rw [HE.out]; simp [hqm, hql, ] : en = false)
                clear HE
                go_wp2
                go_quiet (fail)
                go_wp2
                go_quiet (fail)
                go_wp2
                go_roundw
                case rel => exact ⟨i + 1, by rfl, by omega, bdr HB.out _, HX.out.2 HF.out⟩
                case measure => simp [intOf]; omega
            · have hqm' : decide (hm ≤ ym) = false := by simp [hqm]
              have HF : Hid (en = false) := (by rw [HE.out]; simp [hqm, ] : en = false)
              clear HE
              go_wp2
              go_quiet (fail)
              go_wp2
              go_quiet (fail)
              go_wp2
              go_roundw
              case rel => exact ⟨i + 1, by rfl, by omega, bdr HB.out _, HX.out.2 HF.out⟩
              case measure => simp [intOf]; omega
          · have hqx' : (yx == hx) = false := by simp [hqx]
            have HF : Hid (en = false) := (by rw [HE.out]; simp [hqx, ] : en = false)
            clear HE
            go_wp2
            go_quiet (fail)
            go_wp2
            go_quiet (fail)
            go_wp2
            go_roundw
            case rel => exact ⟨i + 1, by rfl, by omega, bdr HB.out _, HX.out.2 HF.out⟩
            case measure => simp [intOf]; omega
      · skip
        by_cases hqx : yx = hx
        · subst hqx
          by_cases hqm : hm ≤ ym
          · have hqm' : decide (hm ≤ ym) = true := by simp [hqm]
            cases hql : leB ylo hlo
            · have hql' : (Op.bytesLess ylo.toList hlo.toList || ylo.toList == hlo.toList) = false := hql
              have HF : Hid (en = false) := (by rw [HE.out]; simp [hqm, hql, ] : en = false)
              clear HE
              go_wp2
              go_quiet (fail)
              go_wp2
              go_quiet (fail)
              go_wp2
              go_roundw
              case rel => exact ⟨i + 1, by rfl, by omega, bdr HB.out _, HX.out.2 HF.out⟩
              case measure => simp [intOf]; omega
            · have hql' : (Op.bytesLess ylo.toList hlo.toList || ylo.toList == hlo.toList) = true := hql
              have HF : Hid (en = true) := (by rw [HE.out]; simp [hqm, hql, ] : en = true)
              clear HE
              go_wp2
              go_quiet (fail)
              go_wp2
              go_quiet (fail)
              go_wp2
              go_ret
              exact ⟨by rw [HX.out.1 HF.out]; rfl, thn N0.below (bdr (bdr HB.out _) _)⟩
          · have hqm' : decide (hm ≤ ym) = false := by simp [hqm]
            have HF : Hid (en = false) := (by rw [HE.out]; simp [hqm, ] : en = false)
            clear HE
            go_wp2
            go_quiet (fail)
            go_wp2
            go_quiet (fail)
            go_wp2
            go_roundw
            case rel => exact ⟨i + 1, by rfl, by omega, bdr HB.out _, HX.out.2 HF.out⟩
            case measure => simp [intOf]; omega
        · have hqx' : (yx == hx) = false := by simp [hqx]
          have HF : Hid (en = false) := (by rw [HE.out]; simp [hqx, ] : en = false)
          clear HE
          go_wp2
          go_quiet (fail)
          go_wp2
          go_quiet (fail)
          go_wp2
          go_roundw
          case rel => exact ⟨i + 1, by rfl, by omega, bdr HB.out _, HX.out.2 HF.out⟩
          case measure => simp [intOf]; omega
    · have hltI : ¬ (i : Int) < (L.length : Int) := by omega
      have HF : Hid (L.any (fun g => enoM g h) = false) := (by have := HN.out; rwa [List.take_of_length_le (by omega)] at this : L.any (fun g => enoM g h) = false)
      go_wp2
      go_ret
      exact ⟨by rw [HF.out]; rfl, thn N0.below HB.out⟩
end
end Go.Proofs.Ytkpjamdlpofgcaa
