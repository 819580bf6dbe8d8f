/- symMerge. -/
import Derived.Test.YtjlhohljkedbbaaSoE
namespace Go.Proofs.Ytjlhohljkedbbaa.So
open Go.Sort Go.RowKit
set_option linter.unusedVariables false
set_option linter.unusedSimpArgs false
set_option maxRecDepth 1000000
section
variable {w : World} {blk cap a m b g : Nat} {cb : Array Value} {d : Array CL} {cf : CL → CL → Int}
/-- The calls on shorter parts. -/
def Ih (w : World) (blk cap g : Nat) (cb : Array Value) (cf : CL → CL → Int) (d : Array CL) (N : Nat) : Prop :=
  ∀ w1 dk (x y z : Nat), Wd w w1 blk dk → dk.size = d.size → x < y → y < z → z ≤ d.size → z - x < N →
    Calls Try.prog 37 #[.slice (some ⟨blk, 0, none⟩) d.size cap, .int .i64 x, .int .i64 y, .int .i64 z, .func (.func g) #[] cb] w1 fun e w' => e = .returned (.tuple #[]) ∧ ∃ d', Wd w w' blk d' ∧ Mg (ltOf cf) x y z dk d'
set_option maxHeartbeats 8000000 in
theorem symG (hS : SWO (ltOf cf)) (eg : ∀ args w, (callFunc g args).run Try.prog w = .ok (.enter g args) w) (hR : Rw w blk d) (hC : CmpLays Try.prog g cb encC 2 cf blk 0 d.size w) (h0 : a + 1 < m) (h1 : m + 1 < b) (h3 : b ≤ d.size) (hI : Ih w blk cap g cb cf d (b - a)) : Calls Try.prog 37 #[.slice (some ⟨blk, 0, none⟩) d.size cap, .int .i64 a, .int .i64 m, .int .i64 b, .func (.func g) #[] cb] w fun e w' => Ly w w' blk cf a m b d e := by
  have HR : Hid (Rw w blk d) := hR
  have HC : Hid (CmpLays Try.prog g cb encC 2 cf blk 0 d.size w) := hC
  have HS : Hid (SWO (ltOf cf)) := hS
  have IH : Hid (Ih w blk cap g cb cf d (b - a)) := hI
  have few := hR.few
  have RO : Hid (∀ w1 (x y z : Nat), Wd w w1 blk d → a ≤ x → x < y → y < z → z ≤ b → Calls Try.prog 45 #[.slice (some ⟨blk, 0, none⟩) d.size cap, .int .i64 x, .int .i64 y, .int .i64 z, .func (.func g) #[] cb] w1 fun e w' => e = .returned (.tuple #[]) ∧ ∃ d', Wd w w' blk d' ∧ Mv a b (trn x y z) d d') := fun w1 x y z hW k0 k1 k2 k3 => by
    refine (rotateR (HR.out.wd hW rfl) k1 k2 (by omega)).mono fun e w' h => ⟨h.ret, ?_⟩
    obtain ⟨d', h4, h5⟩ := h.ex
    exact ⟨d', hW.trans HR.out h4 h5.size.symm, h5.wide k0 k3 (by omega)⟩
  have mixed : Try.prog.follows .mixedOrders = true := by kernel_rfl
  have n1 : ((m : Int) - (a : Int) == 1) = false := beq_eq_false_iff_ne.2 (by omega)
  have n2 : ((b : Int) - (m : Int) == 1) = false := beq_eq_false_iff_ne.2 (by omega)
  clear hR hC hS hI
  obtain ⟨mid, emid⟩ : ∃ mid, (a + b) / 2 = mid := ⟨_, rfl⟩
  have em : ((a : Int) + (b : Int)) / 2 = (mid : Int) := by omega
  obtain ⟨n, hn⟩ : ∃ n, n = mid + m := ⟨_, rfl⟩
  have en : (mid : Int) + (m : Int) = (n : Int) := by omega
  obtain ⟨p, hp⟩ : ∃ p, p + 1 = n := ⟨n - 1, by omega⟩
  have ep : (n : Int) - 1 = (p : Int) := by omega
  obtain ⟨s0, r0, hsr⟩ : ∃ s0 r0, (mid < m ∧ s0 + b = n ∧ r0 = mid) ∨ (m ≤ mid ∧ s0 = a ∧ r0 = m) := by
    rcases Nat.lt_or_ge mid m with h | h
    · exact ⟨n - b, mid, Or.inl ⟨h, by omega, rfl⟩⟩
    · exact ⟨a, m, Or.inr ⟨h, rfl, rfl⟩⟩
  have HSR : Hid ((mid < m ∧ s0 + b = n ∧ r0 = mid) ∨ (m ≤ mid ∧ s0 = a ∧ r0 = m)) := hsr
  have q1 : s0 ≤ r0 := by omega
  have q2 : a ≤ s0 := by omega
  have q3 : r0 ≤ m := by omega
  have q4 : r0 ≤ mid := by omega
  have q5 : n ≤ b + s0 := by omega
  have HN : Hid (n = mid + m ∧ p + 1 = n) := ⟨hn, hp⟩
  go_enter Try.func37, Try.ntmps37
  have hcs : ((m : Int) > (mid : Int) ∧ (n : Int) - (b : Int) = (s0 : Int)) ∨ ¬ (m : Int) > (mid : Int) := by omega
  clear hsr emid hn hp
  rcases hcs with ⟨hm, es⟩ | hm
  all_goals go_wp2
  all_goals
    go_loopg [20, 21] (r0 - s0) (fun k vs vr wr => ∃ (s r : Nat), vs = .int .i64 s ∧ vr = .int .i64 r ∧ s0 ≤ s ∧ s ≤ r ∧ r ≤ r0 ∧ r - s ≤ k ∧ Wd w wr blk d ∧ SeM (ltOf cf) a m b p s0 r0 s r d)
    case atStart => exact ⟨s0, r0, by have := HSR.out; first | rfl | (congr 1; omega), by have := HSR.out; first | rfl | (congr 1; omega), by omega, by omega, by omega, by omega, HR.out.self, SeM.start⟩
    case round =>
      obtain ⟨s, r, rfl, rfl, hs0, hsr, hr0, hk, hW, hM⟩ := hrel
      have HW : Hid (Wd w wr blk d) := hW
      have HM : Hid (SeM (ltOf cf) a m b p s0 r0 s r d) := hM
      clear hW hM
      by_cases hlt : s < r
      · obtain ⟨c, eh⟩ : ∃ c, (s + r) / 2 = c := ⟨_, rfl⟩
        have ec : ((s : Int) + (r : Int)) / 2 = (c : Int) := by omega
        have hcp : c ≤ p := by have := HN.out; omega
        obtain ⟨pc, hpc⟩ : ∃ pc, p - c = pc := ⟨_, rfl⟩
        have epc : (p : Int) - (c : Int) = (pc : Int) := by omega
        have hwp : IntKind.i64.wrap (pc : Int) = (pc : Int) := by rw [IntKind.wrap_i64]; omega
        have hwq : IntKind.i64.wrap ((p : Int) - (c : Int)) = (pc : Int) := by rw [epc]; exact hwp
        have k1 : pc < b := by have := HN.out; omega
        have k2 : m ≤ pc := by have := HN.out; omega
        have k3 : c < m := by omega
        obtain ⟨kh, vh, eh1⟩ : ∃ k v, d[c]! = (k, v) := ⟨_, _, rfl⟩
        obtain ⟨ka, va, ea1⟩ : ∃ k v, d[pc]! = (k, v) := ⟨_, _, rfl⟩
        have hr := HR.out.wd HW.out rfl
        obtain ⟨ch0, ch1⟩ := hr.cellsG (i := c) (by omega) eh1
        obtain ⟨ca0, ca1⟩ := hr.cellsG (i := pc) (by omega) ea1
        have CA : Hid (∀ n os, Calls Try.prog g (#[.agg #[.string ka, .string va], .agg #[.string kh, .string vh]] ++ cb) (grow (wr.drewN n) os) fun e w' => e = .returned (.int .i64 (cf (ka, va) (kh, vh))) ∧ ∃ q os'', w' = grow ((grow (wr.drewN n) os).drewN q) os'') := fun n os => hr.call (HR.out.cmp HW.out rfl HC.out) (ka, va) (kh, vh) n os
        have EH : Hid (d[p - c]! = (ka, va) ∧ d[c]! = (kh, vh)) := ⟨by rw [hpc]; exact ea1, eh1⟩
        have HPC : Hid (p - c = pc) := hpc
        clear hr eh1 ea1 hpc
        have hz : (c : Int) < (d.size : Int) := by omega
        have hz2 : (pc : Int).toNat = pc := by omega
        have az : (pc : Int) < (d.size : Int) := by omega
        have z0 : (0 : Int) ≤ (pc : Int) := by omega
        by_cases hl : cf (ka, va) (kh, vh) < 0
        · go_wp2_with fail
          go_quiet_grown (first | (go_at_fn g; refine Calls.grown_of (CA.out _ _)))
          go_wp2
          go_roundg (c - s)
          case measure => omega
          case rel => exact ⟨s, c, rfl, by go_num, hs0, by omega, by omega, Nat.le_refl _, HW.out.grown _ _, HM.out.down HS.out (by omega) q3 (by have := HN.out; have := HSR.out; omega) (by have := HN.out; omega) (by rw [EH.out.1, EH.out.2]; exact ltof_t hl)⟩
        · have hl4 : decide (cf (ka, va) (kh, vh) < 0) = false := decide_eq_false (by omega)
          go_wp2_with fail
          go_quiet_grown (first | (go_at_fn g; refine Calls.grown_of (CA.out _ _)))
          go_wp2
          go_roundg (r - (c + 1))
          case measure => omega
          case rel => exact ⟨c + 1, r, by go_num, rfl, by omega, by omega, hr0, Nat.le_refl _, HW.out.grown _ _, HM.out.up HS.out q2 k3 hcp (by have := HPC.out; omega) (by have := HN.out; omega) (by rw [EH.out.1, EH.out.2]; exact ltof_f (by omega))⟩
      · have hrs : r = s := by omega
        subst r
        clear hlt hsr
        obtain ⟨e, he⟩ : ∃ e, n - s = e := ⟨_, rfl⟩
        have z1 := HN.out
        have z2 : s ≤ mid := by omega
        have z3 : mid + m = s + e := by omega
        have z4 : m ≤ e := by omega
        have z5 : e ≤ b := by omega
        have z6 : a < mid := by omega
        have z7 : mid < b := by omega
        have ee : (n : Int) - (s : Int) = (e : Int) := by omega
        have FIN : Hid (∀ d1 d2 d3, Mv a b (trn s m e) d d1 → Mg (ltOf cf) a s mid d1 d2 → Mg (ltOf cf) mid e b d2 d3 → Mg (ltOf cf) a m b d d3) := fun d1 d2 d3 g1 g2 g3 => SeM.done HS.out HM.out h3 (by omega) (by omega) z4 z5 z3 (by omega) hs0 hr0 (fun h => by have := HSR.out; omega) (fun h => by have := HSR.out; omega) g1 g2 g3
        clear he z1
        have hc1 : ((s : Int) < (m : Int) ∧ (m : Int) < (e : Int)) ∨ (¬ (s : Int) < (m : Int) ∧ s = m ∨ ((s : Int) < (m : Int) ∧ ¬ (m : Int) < (e : Int)) ∧ e = m) := by omega
        have hc2 : ((a : Int) < (s : Int) ∧ (s : Int) < (mid : Int)) ∨ (¬ (a : Int) < (s : Int) ∧ s ≤ a ∨ ((a : Int) < (s : Int) ∧ ¬ (s : Int) < (mid : Int)) ∧ mid ≤ s) := by omega
        have hc3 : ((mid : Int) < (e : Int) ∧ (e : Int) < (b : Int)) ∨ (¬ (mid : Int) < (e : Int) ∧ e ≤ mid ∨ ((mid : Int) < (e : Int) ∧ ¬ (e : Int) < (b : Int)) ∧ b ≤ e) := by omega
        rcases hc1 with ⟨i1, i2⟩ | ⟨i1, x1⟩ | ⟨⟨i1, i2⟩, x1⟩
        all_goals (try have X1 : Hid (s = m ∨ e = m) := by (show s = m ∨ e = m); omega)
        all_goals (try clear x1)
        all_goals (first | (have X2 := X1.out; have X3 : ∀ y, trn s m e y = y := (fun y => by unfold trn; (repeat' split) <;> omega); obtain ⟨d1, hW1, hM1⟩ : ∃ d1, Wd w wr blk d1 ∧ Mv a b (trn s m e) d d1 := ⟨d, HW.out, Mv.refl _ _ X3 d⟩; clear X2 X3) | skip)
        all_goals (rcases hc2 with ⟨j1, j2⟩ | ⟨j1, x2⟩ | ⟨⟨j1, j2⟩, x2⟩)
        all_goals (try clear x2)
        all_goals (rcases hc3 with ⟨l1, l2⟩ | ⟨l1, x3⟩ | ⟨⟨l1, l2⟩, x3⟩)
        all_goals (try clear x3)
        all_goals (first | (exfalso; omega) | skip)
        all_goals
          go_wp2_with first
            | (go_at_call 45; refine (RO.out _ s m e HW.out (by omega) (by omega) (by omega) (by omega)).mono ?_; rintro e1 w2 ⟨rfl, d1, hW1, hM1⟩)
            | (go_at_call 37; have gC := hM2.perm; refine (IH.out _ _ mid e b hW2 (hM2.perm.1.trans hM1.size) (by omega) (by omega) (by omega) (by omega)).mono ?_; rintro e1 w4 ⟨rfl, d3, hW3, hM3⟩)
            | (go_at_call 37; have gB : (a : Int) < (s : Int) ∧ (s : Int) < (mid : Int) := ⟨j1, j2⟩; refine (IH.out _ _ a s mid hW1 hM1.size (by omega) (by omega) (by omega) (by omega)).mono ?_; rintro e1 w3 ⟨rfl, d2, hW2, hM2⟩)
            | (go_at_call 37; refine (IH.out _ _ mid e b hW1 hM1.size (by omega) (by omega) (by omega) (by omega)).mono ?_; rintro e1 w4 ⟨rfl, d3, hW3, hM3⟩)
          first | go_end0 | ((try simp only [Exit.inBlock, Exit.then]); refine bodyPost_ret (results_none rfl _ _ _) rfl ?_)
          first
            | exact ⟨rfl, d3, hW3, FIN.out d1 d2 d3 hM1 hM2 hM3⟩
            | exact ⟨rfl, d3, hW3, FIN.out d1 d1 d3 hM1 (Mg.none (by omega) d1) hM3⟩
            | exact ⟨rfl, d2, hW2, FIN.out d1 d2 d2 hM1 hM2 (Mg.none (by omega) d2)⟩
            | exact ⟨rfl, d1, hW1, FIN.out d1 d1 d1 hM1 (Mg.none (by omega) d1) (Mg.none (by omega) d1)⟩
end
end Go.Proofs.Ytjlhohljkedbbaa.So
