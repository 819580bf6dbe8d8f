/- The law's step: Swap. -/
import Derived.Test.YtamchicifjnmgaaStp
import Derived.BigRegion
namespace Go.Proofs.Ytamchicifjnmgaa
open Go.RowKit
set_option linter.unusedVariables false
set_option linter.unusedSimpArgs false
set_option maxRecDepth 100000
variable {B : Nat} {w0 w : World} {nb pb : Nat} {S : Nt}

/-- A kind that is none of 0 to 3. -/
structure Oth (kd : Int) : Prop where
  n0 : (kd == 0) = false
  n1 : (kd == 1) = false
  n2 : (kd == 2) = false
  n3 : (kd == 3) = false
theorem step_swap_no (h : Pair B w0 w nb pb S) (hS : S.Ok) (kd i k : Int) (s : ByteArray) (hk : Oth kd) (hi : (i < 0 ∨ (S.way.length : Int) ≤ i) ∨ (k < 0 ∨ (S.way.length : Int) ≤ k)) :
    Calls Try.prog 8 #[.pointer (some ⟨nb, 0, none⟩), .pointer (some ⟨pb, 0, none⟩), .agg #[.int .i64 kd, .int .i64 i, .int .i64 k, .string s]] w fun e w' => e = .returned (.bool true) ∧ Next B w0 w' nb pb S := by
  obtain ⟨b, capb, hp, hb⟩ := h.box
  obtain ⟨k0, k1, k2, k3⟩ := hk
  have HB : Hid (∀ oc, Both B w0 (w.alloc (.cells oc 31)) nb pb S b capb S w.heap.size oc) := hb
  have ct : ∀ (x : Int) w1 ob oc, Both B w0 w1 nb pb S b capb S ob oc → Calls Try.prog 21 #[.pointer (some ⟨pb, 0, none⟩), .int .i64 x] w1 fun e w' => e = .returned (.bool (isIn S.way.length x)) ∧ w' = w1 := fun x w1 ob oc h => there_any w1 h.p x
  have CD : Hid (∀ w1 ob oc, Both B w0 w1 nb pb S b capb S ob oc → Calls Try.prog 14 #[.pointer (some ⟨nb, 0, none⟩), .int .i64 i, .int .i64 k] w1 fun e w' => e = .returned (.int .i64 8) ∧ Both B w0 w' nb pb S b capb S ob oc) := fun w1 ob oc h => h.same (fun a cap hn => Swap_bad w1 hn i k hi)
  have HX : Hid (Nx S S) := Nx.refl hS
  clear h hp hb
  by_cases h1 : i < 0 ∨ (S.way.length : Int) ≤ i
  · have c1 := ct i
    rw [isIn_no h1] at c1
    have CT : Hid _ := c1
    clear ct c1 h1 hi
    go_enter Try.func8, Try.ntmps8
    go_wp2_with (first | (go_at_call 14; refine (CD.out _ _ _ (HB.out _)).mono ?_; rintro e w2 ⟨rfl, hBo⟩; have o1 : w2.cell? ⟨w.heap.size, 1, none⟩ = some (.int .i64 i) := hBo.c 1) | (go_at_call 21; refine (CT.out _ _ _ hBo).mono ?_; rintro e w1 ⟨rfl, hw1⟩; subst hw1))
    go_ret
    exact ⟨rfl, Next.mk hBo HX.out⟩
  · have h2 := hi.resolve_left h1
    have e1 : isIn S.way.length i = true := by simp [isIn]; omega
    have e2 : isIn S.way.length k = false := isIn_no h2
    have CT : Hid (∀ (x : Int) (v : Bool), (x = i ∧ v = true) ∨ (x = k ∧ v = false) → ∀ w1 ob oc, Both B w0 w1 nb pb S b capb S ob oc → Calls Try.prog 21 #[.pointer (some ⟨pb, 0, none⟩), .int .i64 x] w1 fun e w' => e = .returned (.bool v) ∧ w' = w1) := fun x v hx w1 ob oc h => by
      have := ct x w1 ob oc h
      rcases hx with ⟨rfl, rfl⟩ | ⟨rfl, rfl⟩
      · rwa [e1] at this
      · rwa [e2] at this
    clear ct h1 hi h2 e1 e2
    go_enter Try.func8, Try.ntmps8
    go_wp2_with (first | (go_at_call 14; refine (CD.out _ _ _ (HB.out _)).mono ?_; rintro e w2 ⟨rfl, hBo⟩; have o1 : w2.cell? ⟨w.heap.size, 1, none⟩ = some (.int .i64 i) := hBo.c 1; have o2 : w2.cell? ⟨w.heap.size, 2, none⟩ = some (.int .i64 k) := hBo.c 2) | (go_at_call 21; refine (CT.out _ _ (by first | exact Or.inl ⟨rfl, rfl⟩ | exact Or.inr ⟨rfl, rfl⟩) _ _ _ hBo).mono ?_; rintro e w1 ⟨rfl, hw1⟩; subst hw1))
    go_ret
    exact ⟨rfl, Next.mk hBo HX.out⟩
set_option maxHeartbeats 4000000 in
theorem step_swap_yes (h : Pair B w0 w nb pb S) (hS : S.Ok) (kd : Int) (i k : Nat) (s : ByteArray) (hk : Oth kd) (hi : i < S.way.length) (hk2 : k < S.way.length) :
    Calls Try.prog 8 #[.pointer (some ⟨nb, 0, none⟩), .pointer (some ⟨pb, 0, none⟩), .agg #[.int .i64 kd, .int .i64 (i : Int), .int .i64 (k : Int), .string s]] w fun e w' => e = .returned (.bool true) ∧ Next B w0 w' nb pb S := by
  obtain ⟨b, capb, hp, hb⟩ := h.box
  obtain ⟨g, rfl, hg, _, _⟩ := hp.row.form (way_ne hi)
  obtain ⟨k0, k1, k2, k3⟩ := hk
  have HB : Hid (∀ oc, Both B w0 (w.alloc (.cells oc 31)) nb pb S (some ⟨g, 0, none⟩) capb S w.heap.size oc) := hb
  have CT : Hid (∀ (x : Nat), x = i ∨ x = k → ∀ w1 Sn ob oc, Both B w0 w1 nb pb Sn (some ⟨g, 0, none⟩) capb S ob oc → Calls Try.prog 21 #[.pointer (some ⟨pb, 0, none⟩), .int .i64 (x : Int)] w1 fun e w' => e = .returned (.bool true) ∧ w' = w1) := fun x hx w1 Sn ob oc h => by
    have := there_any w1 h.p x; rwa [isIn_yes (by omega)] at this
  have CD : Hid (∀ w1 ob oc, Both B w0 w1 nb pb S (some ⟨g, 0, none⟩) capb S ob oc → Calls Try.prog 14 #[.pointer (some ⟨nb, 0, none⟩), .int .i64 (i : Int), .int .i64 (k : Int)] w1 fun e w' => e = .returned (.int .i64 0) ∧ Both B w0 w' nb pb (swapS S i k hi hk2) (some ⟨g, 0, none⟩) capb S ob oc) := fun w1 ob oc h => h.net (fun a cap hn => Swap_ok w1 hn i k hi hk2)
  have HX : Hid (Nx S (swapS S i k hi hk2)) := ⟨by have := hS.len; simp [swapS]; omega, by simp only [swapS]; omega, by simp only [swapS]; omega, by simp only [swapS]; omega, by simp only [swapS]; omega⟩
  have HC : Hid (∀ w1, NtIs w1 28 pb (some ⟨g, 0, none⟩) capb S → w1.cell? ⟨g, i, none⟩ = some (.string S.way[i]) ∧ w1.cell? ⟨g, k, none⟩ = some (.string S.way[k])) := fun w1 h => ⟨h.row.cell hi, h.row.cell hk2⟩
  have HP : Hid (∀ Sn w1 ob oc, Both B w0 w1 nb pb Sn (some ⟨g, 0, none⟩) capb S ob oc → Both B w0 (w1.setCell ⟨g, i, none⟩ (.string S.way[k])).drew nb pb Sn (some ⟨g, 0, none⟩) capb { S with way := S.way.set i S.way[k] } ob oc) := fun Sn w1 ob oc h => (h.put i hi _).drew
  have HQ : Hid (∀ Sn w1 ob oc, Both B w0 w1 nb pb Sn (some ⟨g, 0, none⟩) capb { S with way := S.way.set i S.way[k] } ob oc → Both B w0 (w1.setCell ⟨g, k, none⟩ (.string S.way[i])).drew nb pb Sn (some ⟨g, 0, none⟩) capb (swapS S i k hi hk2) ob oc) := fun Sn w1 ob oc h => (h.put k (by simpa using hk2) _).drew
  have HV : Hid (∀ w1, NtIs w1 28 pb (some ⟨g, 0, none⟩) capb { S with way := S.way.set i S.way[k] } → ∃ v, w1.cell? ⟨g, k, none⟩ = some v) := fun w1 h => ⟨_, h.row.cell (by simpa using hk2)⟩
  have hi' : (i : Int) < (S.way.length : Int) := by omega
  have hk' : (k : Int) < (S.way.length : Int) := by omega
  have HL : Hid ((S.way.set i S.way[k]).length = S.way.length) := by exact List.length_set
  clear h hp hb
  generalize swapS S i k hi hk2 = Sw at CD HX HQ
  generalize S.way[i] = xi at HC HQ
  generalize S.way[k] = xk at HC HP HQ HV HL
  clear hi hk2
  generalize hWs : S.way.set i xk = Ws at HP HQ HV HL
  clear hWs
  go_enter Try.func8, Try.ntmps8
  go_wp2_with (first | (go_at_call 14; refine (CD.out _ _ _ (HB.out _)).mono ?_; rintro e w2 ⟨rfl, hBo⟩; have o1 : w2.cell? ⟨w.heap.size, 1, none⟩ = some (.int .i64 (i : Int)) := hBo.c 1; have o2 : w2.cell? ⟨w.heap.size, 2, none⟩ = some (.int .i64 (k : Int)) := hBo.c 2; have d0 := hBo.p.c0; obtain ⟨ri, rk⟩ := HC.out _ hBo.p) | (go_at_call 21; refine (CT.out _ (by first | exact Or.inl rfl | exact Or.inr rfl) _ _ _ _ hBo).mono ?_; rintro e w1 ⟨rfl, hw1⟩; subst hw1))
  go_quiet (fail)
  go_wp2_with fail
  generalize hwq : World.drewN _ _ = wq
  have hB1 : Both B w0 wq nb pb Sw (some ⟨g, 0, none⟩) capb S w.heap.size #[.int .i64 kd, .int .i64 (i : Int), .int .i64 (k : Int), .string s] := by rw [← hwq]; exact hBo.drewN _
  clear hwq o1 o2 d0 ri rk hBo
  have o1 : wq.cell? ⟨w.heap.size, 1, none⟩ = some (.int .i64 (i : Int)) := hB1.c 1
  have o2 : wq.cell? ⟨w.heap.size, 2, none⟩ = some (.int .i64 (k : Int)) := hB1.c 2
  have d0 := hB1.p.c0
  obtain ⟨ri, rk⟩ := HC.out _ hB1.p
  have fi : wq.frozen? ⟨g, i, none⟩ = false := hB1.p.row.unfrozen i
  have H1 : Hid _ := HP.out _ _ _ _ hB1
  clear hB1
  go_region
  go_wp2_with fail
  generalize hwr : World.drew _ = wr
  have hB2 : Both B w0 wr nb pb Sw (some ⟨g, 0, none⟩) capb { S with way := Ws } w.heap.size #[.int .i64 kd, .int .i64 (i : Int), .int .i64 (k : Int), .string s] := by rw [← hwr]; exact H1.out
  clear hwr o1 o2 d0 ri rk fi H1
  have o2 : wr.cell? ⟨w.heap.size, 2, none⟩ = some (.int .i64 (k : Int)) := hB2.c 2
  have d0 := hB2.p.c0
  dsimp only at d0
  rw [HL.out] at d0
  obtain ⟨v, rk⟩ := HV.out _ hB2.p
  have fk : wr.frozen? ⟨g, k, none⟩ = false := hB2.p.row.unfrozen k
  have H2 : Hid _ := HQ.out _ _ _ _ hB2
  clear hB2
  go_region
  go_wp2_with fail
  go_ret
  exact ⟨rfl, Next.mk H2.out HX.out⟩
end Go.Proofs.Ytamchicifjnmgaa
