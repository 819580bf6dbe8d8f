/- The law's Few: a record of at most 20 images, and of at most 300 transactions. -/
import Derived.Test.YtakdfdnndogaiaaRxFrm
namespace Go.Proofs.Ytakdfdnndogaiaa
open Go.RowKit
set_option linter.unusedVariables false
set_option linter.unusedSimpArgs false
set_option maxRecDepth 100000

def fewM (m : Rm) : Rm := ⟨m.s, m.im.take 20, m.tb.take 300⟩
structure Fw (w wr : World) (b0 b1 : Nat) (s : Sc) (I T : Value) : Prop where
  p : RcAt wr b0 s I T
  r : RcAt wr b1 zS nilV nilV
  bel : Below w.heap.size w wr
  ne : b1 ≠ b0
  l0 : w.heap.size ≤ b0
  l1 : w.heap.size ≤ b1
section
variable {w wr wq : World} {b0 b1 : Nat} {s : Sc} {I T J U : Value}
theorem Fw.mk' {w0 w1 : World} (N0 : NewR w w0 b0 s I T) (N1 : NewR w0 w1 b1 zS nilV nilV) : Fw w w1 b0 b1 s I T := by
  have e0 := N0.eq
  have e1 := N1.eq
  have z0 := N0.rc.lt
  exact ⟨N0.rc.below N1.below, N1.rc, thn N0.below N1.below, by omega, by omega, by omega⟩
theorem Fw.put (h : Fw w wr b0 b1 s I T) (P : PutR wr wq b0 s J U) : Fw w wq b0 b1 s J U :=
  ⟨P.rc, h.r.off P.off h.ne, h.bel.trans (P.below h.l0 h.bel.size), h.ne, h.l0, h.l1⟩
end
theorem sliceI_to {a : Option Addr} {n c : Nat} (i : Nat) (hi : i ≤ c) (hsp : ∀ ad, a = some ad → ad.spot = none) (W : World) : (Instr.slice 22 (.slice a n c) none (some (.int .i64 (i : Int))) none).run Try.prog W = .ok (.slice a i c) W := by
  have hr := run_slice_h (P := Try.prog) W 22 a n c (by kernel_rfl) .i64 (i : Int) (by omega) (by omega)
  have hz : ∀ w, (Go.sizeOf (Try.prog.elem 22)).run Try.prog w = .ok 2 w := fun w => by kernel_rfl
  rw [hr, hz]
  simp only [Result.andThen, sliced, Int.toNat_natCast, Nat.sub_zero, Nat.zero_mul]
  cases a with
  | none => split <;> rfl
  | some ad =>
    obtain ⟨b, off, sp⟩ := ad
    have := hsp _ rfl
    dsimp only at this
    subst this
    split
    · rfl
    · simp [Addr.add_mid]
theorem sliceT_to {a : Option Addr} {n c : Nat} (i : Nat) (hi : i ≤ c) (hsp : ∀ ad, a = some ad → ad.spot = none) (W : World) : (Instr.slice 23 (.slice a n c) none (some (.int .i64 (i : Int))) none).run Try.prog W = .ok (.slice a i c) W := by
  have hr := run_slice_h (P := Try.prog) W 23 a n c (by kernel_rfl) .i64 (i : Int) (by omega) (by omega)
  have hz : ∀ w, (Go.sizeOf (Try.prog.elem 23)).run Try.prog w = .ok 2 w := fun w => by kernel_rfl
  rw [hr, hz]
  simp only [Result.andThen, sliced, Int.toNat_natCast, Nat.sub_zero, Nat.zero_mul]
  cases a with
  | none => split <;> rfl
  | some ad =>
    obtain ⟨b, off, sp⟩ := ad
    have := hsp _ rfl
    dsimp only at this
    subst this
    split
    · rfl
    · simp [Addr.add_mid]
section
variable {w : World} {s : Sc} {a a' : Option Addr} {n n' c c' : Nat}
set_option maxHeartbeats 400000 in
theorem few_00 (hi : ¬ (20 : Int) < n) (hn : n ≤ 9223372036854775807) (ht : ¬ (300 : Int) < n') (hn' : n' ≤ 9223372036854775807) : Calls Try.prog 9 #[.agg (s.A (.slice a n c) (.slice a' n' c'))] w fun e w' => e = .returned (.agg (s.A (.slice a n c) (.slice a' n' c'))) ∧ Below w.heap.size w w' := by
  go_enter Try.func9, Try.ntmps9
  go_wp2_with (first
    | (refine wpList_box_rc (s := s) (I := _) (T := _) _ rfl _ rfl rfl ?_; intro w0 b0 N0)
    | (refine wpList_new_rc _ rfl rfl ?_; intro w1 b1 N1; have H := Fw.mk' N0 N1; clear N0 N1; have k9 := H.p.c9; have k10 := H.p.c10)
    | (refine wpList_fput (s' := s) (I' := .slice a 20 c) (T' := .slice a' n' c') _ rfl 22 (.tmp 10) (.tmp 9) rfl rfl rfl H.p (by omega) rfl (by kernel_rfl) rfl ?_; intro w4 P4; have H4 := H.put P4; clear H; have H := H4; clear H4 P4; have k9 := H.p.c9; have k10 := H.p.c10)
    | (refine wpList_fput (s' := s) (I' := _) (T' := .slice a' 300 c') _ rfl 23 (.tmp 18) (.tmp 17) rfl rfl rfl H.p (by omega) rfl (by kernel_rfl) rfl ?_; intro w4 P4; have H4 := H.put P4; clear H; have H := H4; clear H4 P4)
    | (refine wpList_load_rc _ rfl (.tmp 1) rfl rfl H.p ?_)
    | (refine wpList_put_rc (s' := s) (I' := _) (T' := _) _ rfl (.tmp 2) (.tmp 19) rfl rfl rfl H.r rfl rfl ?_; intro w9 P9))
  refine bodyPost_ret (results_rc1 rfl _ _ rfl P9.rc) rfl ?_
  exact ⟨rfl, H.bel.trans (P9.below H.l1 H.bel.size)⟩
set_option maxHeartbeats 400000 in
theorem few_01 (hi : ¬ (20 : Int) < n) (hn : n ≤ 9223372036854775807) (ht : (300 : Int) < n') (hn' : n' ≤ 9223372036854775807) (hc' : n' ≤ c') (hs' : ∀ ad, a' = some ad → ad.spot = none) : Calls Try.prog 9 #[.agg (s.A (.slice a n c) (.slice a' n' c'))] w fun e w' => e = .returned (.agg (s.A (.slice a n c) (.slice a' 300 c'))) ∧ Below w.heap.size w w' := by
  have s2 := fun W => sliceT_to (n := n') 300 (show 300 ≤ c' by omega) hs' W
  have hc0' := hc'
  clear hs'
  go_enter Try.func9, Try.ntmps9
  go_wp2_with (first
    | (refine wpList_box_rc (s := s) (I := _) (T := _) _ rfl _ rfl rfl ?_; intro w0 b0 N0)
    | (refine wpList_new_rc _ rfl rfl ?_; intro w1 b1 N1; have H := Fw.mk' N0 N1; clear N0 N1; have k9 := H.p.c9; have k10 := H.p.c10)
    | (refine wpList_fput (s' := s) (I' := .slice a 20 c) (T' := .slice a' n' c') _ rfl 22 (.tmp 10) (.tmp 9) rfl rfl rfl H.p (by omega) rfl (by kernel_rfl) rfl ?_; intro w4 P4; have H4 := H.put P4; clear H; have H := H4; clear H4 P4; have k9 := H.p.c9; have k10 := H.p.c10)
    | (refine wpList_fput (s' := s) (I' := _) (T' := .slice a' 300 c') _ rfl 23 (.tmp 18) (.tmp 17) rfl rfl rfl H.p (by omega) rfl (by kernel_rfl) rfl ?_; intro w4 P4; have H4 := H.put P4; clear H; have H := H4; clear H4 P4)
    | (refine wpList_load_rc _ rfl (.tmp 1) rfl rfl H.p ?_)
    | (refine wpList_put_rc (s' := s) (I' := _) (T' := _) _ rfl (.tmp 2) (.tmp 19) rfl rfl rfl H.r rfl rfl ?_; intro w9 P9))
  refine bodyPost_ret (results_rc1 rfl _ _ rfl P9.rc) rfl ?_
  exact ⟨rfl, H.bel.trans (P9.below H.l1 H.bel.size)⟩
set_option maxHeartbeats 400000 in
theorem few_10 (hi : (20 : Int) < n) (hn : n ≤ 9223372036854775807) (hc : n ≤ c) (ht : ¬ (300 : Int) < n') (hn' : n' ≤ 9223372036854775807) (hs : ∀ ad, a = some ad → ad.spot = none) : Calls Try.prog 9 #[.agg (s.A (.slice a n c) (.slice a' n' c'))] w fun e w' => e = .returned (.agg (s.A (.slice a 20 c) (.slice a' n' c'))) ∧ Below w.heap.size w w' := by
  have s1 := fun W => sliceI_to (n := n) 20 (show 20 ≤ c by omega) hs W
  have hc0 := hc
  clear hs
  go_enter Try.func9, Try.ntmps9
  go_wp2_with (first
    | (refine wpList_box_rc (s := s) (I := _) (T := _) _ rfl _ rfl rfl ?_; intro w0 b0 N0)
    | (refine wpList_new_rc _ rfl rfl ?_; intro w1 b1 N1; have H := Fw.mk' N0 N1; clear N0 N1; have k9 := H.p.c9; have k10 := H.p.c10)
    | (refine wpList_fput (s' := s) (I' := .slice a 20 c) (T' := .slice a' n' c') _ rfl 22 (.tmp 10) (.tmp 9) rfl rfl rfl H.p (by omega) rfl (by kernel_rfl) rfl ?_; intro w4 P4; have H4 := H.put P4; clear H; have H := H4; clear H4 P4; have k9 := H.p.c9; have k10 := H.p.c10)
    | (refine wpList_fput (s' := s) (I' := _) (T' := .slice a' 300 c') _ rfl 23 (.tmp 18) (.tmp 17) rfl rfl rfl H.p (by omega) rfl (by kernel_rfl) rfl ?_; intro w4 P4; have H4 := H.put P4; clear H; have H := H4; clear H4 P4)
    | (refine wpList_load_rc _ rfl (.tmp 1) rfl rfl H.p ?_)
    | (refine wpList_put_rc (s' := s) (I' := _) (T' := _) _ rfl (.tmp 2) (.tmp 19) rfl rfl rfl H.r rfl rfl ?_; intro w9 P9))
  refine bodyPost_ret (results_rc1 rfl _ _ rfl P9.rc) rfl ?_
  exact ⟨rfl, H.bel.trans (P9.below H.l1 H.bel.size)⟩
set_option maxHeartbeats 400000 in
theorem few_11 (hi : (20 : Int) < n) (hn : n ≤ 9223372036854775807) (hc : n ≤ c) (ht : (300 : Int) < n') (hn' : n' ≤ 9223372036854775807) (hc' : n' ≤ c') (hs : ∀ ad, a = some ad → ad.spot = none) (hs' : ∀ ad, a' = some ad → ad.spot = none) : Calls Try.prog 9 #[.agg (s.A (.slice a n c) (.slice a' n' c'))] w fun e w' => e = .returned (.agg (s.A (.slice a 20 c) (.slice a' 300 c'))) ∧ Below w.heap.size w w' := by
  have s1 := fun W => sliceI_to (n := n) 20 (show 20 ≤ c by omega) hs W
  have hc0 := hc
  clear hs
  have s2 := fun W => sliceT_to (n := n') 300 (show 300 ≤ c' by omega) hs' W
  have hc0' := hc'
  clear hs'
  go_enter Try.func9, Try.ntmps9
  go_wp2_with (first
    | (refine wpList_box_rc (s := s) (I := _) (T := _) _ rfl _ rfl rfl ?_; intro w0 b0 N0)
    | (refine wpList_new_rc _ rfl rfl ?_; intro w1 b1 N1; have H := Fw.mk' N0 N1; clear N0 N1; have k9 := H.p.c9; have k10 := H.p.c10)
    | (refine wpList_fput (s' := s) (I' := .slice a 20 c) (T' := .slice a' n' c') _ rfl 22 (.tmp 10) (.tmp 9) rfl rfl rfl H.p (by omega) rfl (by kernel_rfl) rfl ?_; intro w4 P4; have H4 := H.put P4; clear H; have H := H4; clear H4 P4; have k9 := H.p.c9; have k10 := H.p.c10)
    | (refine wpList_fput (s' := s) (I' := _) (T' := .slice a' 300 c') _ rfl 23 (.tmp 18) (.tmp 17) rfl rfl rfl H.p (by omega) rfl (by kernel_rfl) rfl ?_; intro w4 P4; have H4 := H.put P4; clear H; have H := H4; clear H4 P4)
    | (refine wpList_load_rc _ rfl (.tmp 1) rfl rfl H.p ?_)
    | (refine wpList_put_rc (s' := s) (I' := _) (T' := _) _ rfl (.tmp 2) (.tmp 19) rfl rfl rfl H.r rfl rfl ?_; intro w9 P9))
  refine bodyPost_ret (results_rc1 rfl _ _ rfl P9.rc) rfl ?_
  exact ⟨rfl, H.bel.trans (P9.below H.l1 H.bel.size)⟩
end
theorem Few_any {w wx : World} {v : Value} {m : Rm} (h : RecV w v m) (hi : m.im.length ≤ 9223372036854775807) (ht : m.tb.length ≤ 9223372036854775807) : Calls Try.prog 9 #[v] wx fun e w' => (∃ v', e = .returned v' ∧ RecV w v' (fewM m)) ∧ Below wx.heap.size wx w' := by
  obtain ⟨s, l, g⟩ := m
  obtain ⟨I, T, rfl, hI, hT⟩ := h.ex
  obtain ⟨a, c, rfl, hcs, hnil, hle, hsp⟩ := hI.ex
  obtain ⟨a', c', rfl, hcs', hnil', hle', hsp'⟩ := hT.ex
  dsimp only at *
  have fI : ∀ k, (l.take 20).length = k → SlI w (.slice a k c) (l.take 20) := fun k hk => by
    refine ⟨a, c, by rw [hk], ?_, hnil, ?_, fun e => hsp (fun e' => e (by rw [e']; rfl))⟩
    · rw [encI_take]; exact hcs.take 20
    · rw [List.length_take]; omega
  have fT : ∀ k, (g.take 300).length = k → SlT w (.slice a' k c') (g.take 300) := fun k hk => by
    refine ⟨a', c', by rw [hk], ?_, hnil', ?_, fun e => hsp' (fun e' => e (by rw [e']; rfl))⟩
    · rw [encT_take]; exact hcs'.take 300
    · rw [List.length_take]; omega
  by_cases h1 : (20 : Int) < l.length
  · have nI : l ≠ [] := fun e => by rw [e] at h1; simp at h1
    by_cases h2 : (300 : Int) < g.length
    · have nT : g ≠ [] := fun e => by rw [e] at h2; simp at h2
      refine (few_11 h1 hi hle h2 ht hle' (hsp nI) (hsp' nT)).mono ?_
      rintro e w' ⟨he, hb⟩
      exact ⟨⟨_, he, ⟨_, _, rfl, fI 20 (by rw [List.length_take]; omega), fT 300 (by rw [List.length_take]; omega)⟩⟩, hb⟩
    · refine (few_10 h1 hi hle h2 ht (hsp nI)).mono ?_
      rintro e w' ⟨he, hb⟩
      exact ⟨⟨_, he, ⟨_, _, rfl, fI 20 (by rw [List.length_take]; omega), fT g.length (by rw [List.length_take]; omega)⟩⟩, hb⟩
  · by_cases h2 : (300 : Int) < g.length
    · have nT : g ≠ [] := fun e => by rw [e] at h2; simp at h2
      refine (few_01 h1 hi h2 ht hle' (hsp' nT)).mono ?_
      rintro e w' ⟨he, hb⟩
      exact ⟨⟨_, he, ⟨_, _, rfl, fI l.length (by rw [List.length_take]; omega), fT 300 (by rw [List.length_take]; omega)⟩⟩, hb⟩
    · refine (few_00 h1 hi h2 ht).mono ?_
      rintro e w' ⟨he, hb⟩
      exact ⟨⟨_, he, ⟨_, _, rfl, fI l.length (by rw [List.length_take]; omega), fT g.length (by rw [List.length_take]; omega)⟩⟩, hb⟩
/-- A record that the law is handed. -/
structure Held (m : Rm) : Prop where
  im : m.im.length ≤ 9223372036854775807
  tb : m.tb.length ≤ 9223372036854775807
  t : ∀ p ∈ m.im, p.2.size ≤ 9223372036854775807
  ky : m.s.ky.size ≤ 9223372036854775807
  ol : m.s.ol.size ≤ 9223372036854775807
  nw : m.s.nw.size ≤ 9223372036854775807
theorem Held.few {m : Rm} (h : Held m) : Small (fewM m) := by
  refine ⟨?_, ?_, ?_, h.ky, h.ol, h.nw⟩
  · show (m.im.take 20).length ≤ 1000
    rw [List.length_take]; omega
  · show (m.tb.take 300).length ≤ 1000
    rw [List.length_take]; omega
  · intro p hp
    exact h.t p (List.mem_of_mem_take hp)
end Go.Proofs.Ytakdfdnndogaiaa
