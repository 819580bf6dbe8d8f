/- The net's calls that turn it: put, Send, cutOut, Take, Drop, Copy. -/
import Derived.Test.YtamchicifjnmgaaLeaf
namespace Go.Proofs.Ytamchicifjnmgaa
open Go.RowKit
set_option linter.unusedVariables false
set_option linter.unusedSimpArgs false
set_option maxRecDepth 100000

variable {w w' : World} {t nb : Nat} {a : Option Addr} {cap : Nat} {S : Nt}

/-- A text more, or one more lost. -/
def putS (S : Nt) (s : ByteArray) : Nt := if 128 ≤ S.way.length then { S with lost := S.lost + 1 } else { S with way := S.way ++ [s] }
def roomB (S : Nt) : Bool := !decide (128 ≤ S.way.length)
theorem put_any (w : World) (h : NtIs w 49 nb a cap S) (hS : S.Ok) (s : ByteArray) : Calls Try.prog 22 #[.pointer (some ⟨nb, 0, none⟩), .string s] w fun e w' =>
    e = .returned (.bool (roomB S)) ∧ Got w w' 49 nb a (putS S s) := by
  have hc0 := h.c0
  have hc2 := h.c2
  have hf := h.f
  have hlt := h.lt
  have l0 := hS.l0
  have l1 := hS.l1
  by_cases hr : 128 ≤ S.way.length
  · have hr' : (128 : Int) ≤ (S.way.length : Int) := by omega
    have e1 : roomB S = false := by simp [roomB, hr]
    have e2 : putS S s = { S with lost := S.lost + 1 } := by simp [putS, hr]
    rw [e1, e2]
    have H : Hid _ := h
    clear h hr e1 e2
    go_enter Try.func22, Try.ntmps22
    go_wp2
    go_ret
    exact ⟨rfl, Got.mk (H.out.set2 _) ((Turn.refl _ _ _).set _ _)⟩
  · have hr' : ¬ (128 : Int) ≤ (S.way.length : Int) := by omega
    have e1 : roomB S = true := by simp [roomB, hr]
    have e2 : putS S s = { S with way := S.way ++ [s] } := by simp [putS, hr]
    rw [e1, e2]
    have HR : Hid (∀ o, NtIs (w.alloc o) 49 nb a cap S) := fun o => h.alloc o
    clear h e1 e2
    go_enter Try.func22, Try.ntmps22
    go_wp2_with (at_builtin; refine wpList_append_row rfl (.tmp 22) (.tmp 24) rfl rfl rfl (HR.out _).row ⟨w.heap.size, 0, none⟩ 1 1 [s] rfl rfl (one_new (by simp)) (by omega) ?_; intro a' cap' w1 hR hG hO; obtain ⟨hcn, hfn⟩ := (HR.out _).mid hG)
    go_ret
    exact ⟨rfl, Got.mk ((HR.out _).own0 hG hR (by simp)) ((Turn.grow ((Off.refl _ _).alloc _) hG hO).set _ _)⟩
def sendS (S : Nt) (s : ByteArray) : Nt := putS { S with sent := S.sent + 1 } s
theorem Send_any (w : World) (h : NtIs w 49 nb a cap S) (hS : S.Ok) (s : ByteArray) (hn : S.sent < 1000000) : Calls Try.prog 11 #[.pointer (some ⟨nb, 0, none⟩), .string s] w fun e w' =>
    e = .returned (.bool (roomB S)) ∧ Got w w' 49 nb a (sendS S s) := by
  have hc1 := h.c1
  have hf := h.f
  have s0 := hS.s0
  have C : Hid (∀ w, NtIs w 49 nb a cap { S with sent := S.sent + 1 } → Calls Try.prog 22 #[.pointer (some ⟨nb, 0, none⟩), .string s] w fun e w' => e = .returned (.bool (roomB S)) ∧ Got w w' 49 nb a (sendS S s)) :=
    fun w h => put_any w h ⟨hS.len, by simp only; omega, by simp only; omega, hS.l0, hS.l1⟩ s
  have H : Hid _ := h.set1 (S.sent + 1)
  clear h
  go_enter Try.func11, Try.ntmps11
  go_wp2_with (go_at_call 22; refine (C.out _ H.out).mono ?_; rintro e w' ⟨rfl, hg⟩)
  go_ret
  exact ⟨rfl, Got.trans ((Turn.refl _ _ _).set _ _) hg⟩
/-- What is cut out. -/
def cutS (S : Nt) (i : Nat) : Nt := { S with way := S.way.take i ++ S.way.drop (i + 1) }
theorem rest_at (w : World) {g : Nat} {xs : List ByteArray} (h : Row w (some ⟨g, 0, none⟩) cap xs) (i : Nat) (hi : i < xs.length) :
    ∃ ad : Addr, (∀ w, (Instr.slice 26 (.slice (some ⟨g, 0, none⟩) xs.length cap) (some (.int .i64 ((i : Int) + 1))) none none).run Try.prog w = .ok (.slice (some ad) (xs.length - (i + 1)) (cap - (i + 1))) w) ∧
      (∀ j s, (xs.drop (i + 1))[j]? = some s → w.cell? (ad.add j) = some (.string s)) := by
  have hsz : ∀ w, (sizeOf (Try.prog.elem 26)).run Try.prog w = .ok 1 w := fun w => by kernel_rfl
  have hel : Try.prog.underlying 26 = some (.slice (Try.prog.elem 26)) := by kernel_rfl
  have e1 : ((i : Int) + 1).toNat = i + 1 := by omega
  refine ⟨if cap = i + 1 then ⟨g, 0, none⟩ else (⟨g, 0, none⟩ : Addr).add ((i + 1) * 1), fun w => ?_, fun j s hj => ?_⟩
  · rw [run_slice_l w 26 _ _ _ hel .i64 _ (by omega) (by omega), hsz, e1]
    simp [Result.andThen, sliced]
    split <;> simp
  · rw [List.getElem?_drop] at hj
    obtain ⟨hj', e⟩ := List.getElem?_eq_some_iff.1 hj
    obtain ⟨g', eg, _, hl, _⟩ := h.form (fun e => by rw [e] at hi; exact absurd hi (Nat.not_lt_zero _))
    rw [if_neg (by omega)]
    have hadd : ∀ k, (⟨g, k, none⟩ : Addr).add j = ⟨g, k + j, none⟩ := fun k => by unfold Addr.add; split <;> simp_all
    have hadd0 : (⟨g, 0, none⟩ : Addr).add ((i + 1) * 1) = ⟨g, i + 1, none⟩ := by unfold Addr.add; split <;> simp_all
    rw [hadd0, hadd, h.cell hj', e]
theorem begin_at {g len cap : Nat} (i : Nat) (hi : i ≤ cap) : ∀ w, (Instr.slice 26 (.slice (some ⟨g, 0, none⟩) len cap) none (some (.int .i64 (i : Int))) (some (.int .i64 (i : Int)))).run Try.prog w = .ok (.slice (some ⟨g, 0, none⟩) i i) w := fun w => by
  have hsz : ∀ w, (sizeOf (Try.prog.elem 26)).run Try.prog w = .ok 1 w := fun w => by kernel_rfl
  have hel : Try.prog.underlying 26 = some (.slice (Try.prog.elem 26)) := by kernel_rfl
  rw [run_slice_hm w 26 _ _ _ hel .i64 .i64 _ _ (by omega) (by omega) (by omega), hsz]
  have hadd0 : (⟨g, 0, none⟩ : Addr).add 0 = ⟨g, 0, none⟩ := by unfold Addr.add; split <;> simp_all
  simp [Result.andThen, sliced, hadd0]
theorem cutOut_any (w : World) (h : NtIs w 49 nb a cap S) (hS : S.Ok) (i : Nat) (hi : i < S.way.length) : Calls Try.prog 24 #[.pointer (some ⟨nb, 0, none⟩), .int .i64 (i : Int)] w fun e w' =>
    e = .returned (.string S.way[i]) ∧ Got w w' 49 nb a (cutS S i) := by
  obtain ⟨g, rfl, hg, hl, hm⟩ := h.row.form (way_ne hi)
  have hc := h.c0
  have hr := h.row.cell hi
  have hf := h.f
  have hlt := h.lt
  have hz := hS.len
  have hi' : (i : Int) < (S.way.length : Int) := by omega
  obtain ⟨ad, hs2, hcells⟩ := rest_at w h.row i hi
  have hs1 := begin_at (g := g) (len := S.way.length) (cap := cap) i (by omega)
  have HC : Hid (∀ n j s, (S.way.drop (i + 1))[j]? = some s → (w.drewN n).cell? (ad.add j) = some (.string s)) := fun n j s hj => by rw [← hcells j s hj]; simp
  have H : Hid (∀ n, NtIs (w.drewN n) 49 nb (some ⟨g, 0, none⟩) cap S) := h.drewN
  have HB : Hid (∀ n, Row (w.drewN n) (some ⟨g, 0, none⟩) i (S.way.take i)) := fun n => (h.drewN n).row.head i (by omega)
  have l1 : i = (S.way.take i).length := by simp; omega
  have l2 : (S.way.drop (i + 1)).length = S.way.length - (i + 1) := by simp
  have HL1 : Hid (i = (S.way.take i).length) := l1
  have HL2 : Hid ((S.way.drop (i + 1)).length = S.way.length - (i + 1)) := l2
  clear l1 l2
  clear h hcells
  go_enter Try.func24, Try.ntmps24
  go_wp2
  go_quiet (fail)
  go_wp2_with (at_builtin; refine wpList_append_row rfl (.tmp 30) (.tmp 31) rfl rfl HL1.out (HB.out _) ad (S.way.length - (i + 1)) (cap - (i + 1)) (S.way.drop (i + 1)) rfl HL2.out (HC.out _) (by omega) ?_; intro a' cap' w1 hR hG hO; obtain ⟨hcn, hfn⟩ := (H.out _).mid hG)
  go_ret
  refine ⟨rfl, Got.mk ((H.out _).own0 hG hR ?_) ((Turn.grow ?_ hG hO).set _ _)⟩
  · simp; omega
  · exact Off.of_below (below_drewN (Below.refl _ _) _)
theorem Take_bad (w : World) (h : NtIs w 49 nb a cap S) (i : Int) (hi : i < 0 ∨ (S.way.length : Int) ≤ i) : Calls Try.prog 15 #[.pointer (some ⟨nb, 0, none⟩), .int .i64 i] w fun e w' => e = .returned (.tuple #[.string ⟨#[]⟩, .int .i64 8]) ∧ w' = w := by
  have C : Hid (∀ w, NtIs w 49 nb a cap S → Calls Try.prog 23 #[.pointer (some ⟨nb, 0, none⟩), .int .i64 i] w fun e w' => e = .returned (.int .i64 8) ∧ w' = w) := fun w h => refusalAt_bad w h i hi
  have H : Hid _ := h
  clear hi h
  go_enter Try.func15, Try.ntmps15
  go_wp2_with (go_at_call 23; refine (C.out _ H.out).mono ?_; rintro e w' ⟨rfl, rfl⟩)
  go_ret2
  exact ⟨rfl, rfl⟩
theorem Take_ok (w : World) (h : NtIs w 49 nb a cap S) (hS : S.Ok) (i : Nat) (hi : i < S.way.length) : Calls Try.prog 15 #[.pointer (some ⟨nb, 0, none⟩), .int .i64 (i : Int)] w fun e w' => e = .returned (.tuple #[.string S.way[i], .int .i64 0]) ∧ Got w w' 49 nb a (cutS S i) := by
  have C : Hid (∀ w, NtIs w 49 nb a cap S → Calls Try.prog 23 #[.pointer (some ⟨nb, 0, none⟩), .int .i64 (i : Int)] w fun e w' => e = .returned (.int .i64 0) ∧ w' = w) := fun w h => refusalAt_ok w h i hi
  have D : Hid (∀ w, NtIs w 49 nb a cap S → Calls Try.prog 24 #[.pointer (some ⟨nb, 0, none⟩), .int .i64 (i : Int)] w fun e w' => e = .returned (.string S.way[i]) ∧ Got w w' 49 nb a (cutS S i)) := fun w h => cutOut_any w h hS i hi
  have H : Hid _ := h
  clear h
  go_enter Try.func15, Try.ntmps15
  go_wp2_with (first | (go_at_call 23; refine (C.out _ H.out).mono ?_; rintro e w' ⟨rfl, rfl⟩) | (go_at_call 24; refine (D.out _ H.out).mono ?_; rintro e w1 ⟨rfl, hg⟩))
  go_ret2
  exact ⟨rfl, hg⟩
theorem Drop_bad (w : World) (h : NtIs w 49 nb a cap S) (i : Int) (hi : i < 0 ∨ (S.way.length : Int) ≤ i) : Calls Try.prog 12 #[.pointer (some ⟨nb, 0, none⟩), .int .i64 i] w fun e w' => e = .returned (.int .i64 8) ∧ w' = w := by
  have C : Hid (∀ w, NtIs w 49 nb a cap S → Calls Try.prog 23 #[.pointer (some ⟨nb, 0, none⟩), .int .i64 i] w fun e w' => e = .returned (.int .i64 8) ∧ w' = w) := fun w h => refusalAt_bad w h i hi
  have H : Hid _ := h
  clear hi h
  go_enter Try.func12, Try.ntmps12
  go_wp2_with (go_at_call 23; refine (C.out _ H.out).mono ?_; rintro e w' ⟨rfl, rfl⟩)
  go_ret
  exact ⟨rfl, rfl⟩
def dropS (S : Nt) (i : Nat) : Nt := { cutS S i with lost := S.lost + 1 }
theorem Drop_ok (w : World) (h : NtIs w 49 nb a cap S) (hS : S.Ok) (i : Nat) (hi : i < S.way.length) : Calls Try.prog 12 #[.pointer (some ⟨nb, 0, none⟩), .int .i64 (i : Int)] w fun e w' => e = .returned (.int .i64 0) ∧ Got w w' 49 nb a (dropS S i) := by
  have l0 := hS.l0
  have l1 := hS.l1
  have C : Hid (∀ w, NtIs w 49 nb a cap S → Calls Try.prog 23 #[.pointer (some ⟨nb, 0, none⟩), .int .i64 (i : Int)] w fun e w' => e = .returned (.int .i64 0) ∧ w' = w) := fun w h => refusalAt_ok w h i hi
  have D : Hid (∀ w, NtIs w 49 nb a cap S → Calls Try.prog 24 #[.pointer (some ⟨nb, 0, none⟩), .int .i64 (i : Int)] w fun e w' => e = .returned (.string S.way[i]) ∧ ∃ a' cap', (NtIs w' 49 nb a' cap' (cutS S i) ∧ Turn w w' nb a a') ∧ w'.cell? ⟨nb, 2, none⟩ = some (.int .i64 S.lost) ∧ w'.frozen? ⟨nb, 2, none⟩ = false) := fun w h =>
    (cutOut_any w h hS i hi).mono (fun e w' ⟨he, a', cap', h1, h2⟩ => ⟨he, a', cap', ⟨h1, h2⟩, h1.c2, h1.f 2⟩)
  have H : Hid _ := h
  clear h
  go_enter Try.func12, Try.ntmps12
  go_wp2_with (first | (go_at_call 23; refine (C.out _ H.out).mono ?_; rintro e w' ⟨rfl, rfl⟩) | (go_at_call 24; refine (D.out _ H.out).mono ?_; rintro e w1 ⟨rfl, a', cap', hg, hc2, hf2⟩))
  go_ret
  exact ⟨rfl, Got.mk (hg.1.set2 _) (hg.2.set _ _)⟩
theorem Copy_bad (w : World) (h : NtIs w 49 nb a cap S) (i : Int) (hi : i < 0 ∨ (S.way.length : Int) ≤ i) : Calls Try.prog 13 #[.pointer (some ⟨nb, 0, none⟩), .int .i64 i] w fun e w' => e = .returned (.int .i64 8) ∧ w' = w := by
  have C : Hid (∀ w, NtIs w 49 nb a cap S → Calls Try.prog 23 #[.pointer (some ⟨nb, 0, none⟩), .int .i64 i] w fun e w' => e = .returned (.int .i64 8) ∧ w' = w) := fun w h => refusalAt_bad w h i hi
  have H : Hid _ := h
  clear hi h
  go_enter Try.func13, Try.ntmps13
  go_wp2_with (go_at_call 23; refine (C.out _ H.out).mono ?_; rintro e w' ⟨rfl, rfl⟩)
  go_ret
  exact ⟨rfl, rfl⟩
def copyE (S : Nt) : Int := if 128 ≤ S.way.length then 7 else 0
theorem Copy_ok (w : World) (h : NtIs w 49 nb a cap S) (hS : S.Ok) (i : Nat) (hi : i < S.way.length) : Calls Try.prog 13 #[.pointer (some ⟨nb, 0, none⟩), .int .i64 (i : Int)] w fun e w' => e = .returned (.int .i64 (copyE S)) ∧ Got w w' 49 nb a (putS S S.way[i]) := by
  have C : Hid (∀ w, NtIs w 49 nb a cap S → Calls Try.prog 23 #[.pointer (some ⟨nb, 0, none⟩), .int .i64 (i : Int)] w fun e w' => e = .returned (.int .i64 0) ∧ w' = w) := fun w h => refusalAt_ok w h i hi
  have d : ∀ w, NtIs w 49 nb a cap S → Calls Try.prog 22 #[.pointer (some ⟨nb, 0, none⟩), .string S.way[i]] w fun e w' => e = .returned (.bool (roomB S)) ∧ Got w w' 49 nb a (putS S S.way[i]) := fun w h => put_any w h hS _
  obtain ⟨g, rfl, hg, hl, hm⟩ := h.row.form (way_ne hi)
  have hc := h.c0
  have hr := h.row.cell hi
  have hi' : (i : Int) < (S.way.length : Int) := by omega
  obtain ⟨P, hP⟩ : ∃ P, P = putS S S.way[i] := ⟨_, rfl⟩
  rw [← hP] at d ⊢
  have H : Hid _ := h
  clear h hP
  by_cases hr' : 128 ≤ S.way.length
  · have e1 : roomB S = false := by simp [roomB, hr']
    have e2 : copyE S = 7 := by simp [copyE, hr']
    rw [e1] at d
    rw [e2]
    have D : Hid _ := d
    clear d e1 e2 hr'
    go_enter Try.func13, Try.ntmps13
    go_wp2_with (first | (go_at_call 23; refine (C.out _ H.out).mono ?_; rintro e w' ⟨rfl, rfl⟩) | (go_at_call 22; refine (D.out _ H.out).mono ?_; rintro e w1 ⟨rfl, hg⟩))
    go_ret
    exact ⟨rfl, hg⟩
  · have e1 : roomB S = true := by simp [roomB, hr']
    have e2 : copyE S = 0 := by simp [copyE, hr']
    rw [e1] at d
    rw [e2]
    have D : Hid _ := d
    clear d e1 e2 hr'
    go_enter Try.func13, Try.ntmps13
    go_wp2_with (first | (go_at_call 23; refine (C.out _ H.out).mono ?_; rintro e w' ⟨rfl, rfl⟩) | (go_at_call 22; refine (D.out _ H.out).mono ?_; rintro e w1 ⟨rfl, hg⟩))
    go_ret
    exact ⟨rfl, hg⟩
end Go.Proofs.Ytamchicifjnmgaa
