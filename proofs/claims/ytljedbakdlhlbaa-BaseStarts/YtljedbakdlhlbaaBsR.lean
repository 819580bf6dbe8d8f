/- What is read of a base's numbers. -/
import Derived.Test.YtljedbakdlhlbaaBsL
namespace Go.Proofs.Ytljedbakdlhlbaa
open Go.RowKit
set_option linter.unusedVariables false
set_option linter.unusedSimpArgs false
set_option maxRecDepth 100000

/-- A reader ahead of numbers, beside two bases of the call's own. -/
structure Rk (w0 : World) (rb c2 c3 : Nat) (ps : List (Int × Nat)) (r : ByteArray) (t : Bs) (w : World) : Prop where
  rd : Pk.isRd w rb (cat ps ++ r) 0
  fit : AllFit ps
  wide : Wide ps
  sz : (cat ps ++ r).size ≤ 1000
  a2 : BsAt w c2 Bs.zero
  a3 : BsAt w c3 t
  off : Pk.Off rb w0 w
  n0 : w0.heap.size ≤ c2
  n1 : w0.heap.size ≤ c3
  n2 : rb < w0.heap.size
  n3 : c2 ≠ c3
theorem Rk.num {w0 w : World} {rb c2 c3 : Nat} {n : Int} {k : Nat} {ps : List (Int × Nat)} {r : ByteArray} {t : Bs} (h : Rk w0 rb c2 c3 ((n, k) :: ps) r t w) (kk : Int) (hk : kk = (k : Int)) : Calls Try.prog 34 #[.pointer (some ⟨rb, 0, none⟩), .int .i64 kk] w fun e w' =>
    e = .returned (.int .i64 n) ∧ Rk w0 rb c2 c3 ps r t w' := by
  subst hk
  have hz := h.sz
  have hr := h.rd
  have hw := h.wide (n, k) (List.mem_cons_self ..)
  obtain ⟨hf, hf2⟩ := AllFit.cons.1 h.fit
  have n0 := h.n0
  have n1 := h.n1
  have n2 := h.n2
  have e1 : cat ((n, k) :: ps) ++ r = Pk.beS n.toNat k ++ (cat ps ++ r) := by rw [cat, ByteArray.append_assoc]
  rw [e1] at hz hr
  have e2 := num_back n k hf hw.1 hw.2 (cat ps ++ r)
  refine (Pk.Num_any rb _ 0 (k : Int) w (by omega) hr).mono ?_
  rintro e w' ⟨rfl, h1, o1⟩
  rw [e2] at h1
  rw [e2]
  have e3 : ((n.toNat : Nat) : Int) = n := Int.toNat_of_nonneg hf.1
  refine ⟨by dsimp only; rw [e3], h1, hf2, fun p hp => h.wide p (List.mem_cons_of_mem _ hp), ?_, h.a2.off o1 (by omega), h.a3.off o1 (by omega), h.off.trans o1, n0, n1, n2, h.n3⟩
  rw [ByteArray.size_append] at hz
  omega
theorem Rk.put {w0 w w' : World} {rb c2 c3 : Nat} {ps : List (Int × Nat)} {r : ByteArray} {t t' : Bs} (h : Rk w0 rb c2 c3 ps r t w) (p : PutB w w' c3 t') : Rk w0 rb c2 c3 ps r t' w' := by
  have n1 := h.n1
  have n2 := h.n2
  refine ⟨h.rd.off p.off (by omega), h.fit, h.wide, h.sz, h.a2.off p.off h.n3, p.rc, ?_, h.n0, h.n1, h.n2, h.n3⟩
  exact h.off.trans3 p.off h.n1
set_option maxHeartbeats 1000000 in
theorem read_any (s : Bs) (hs : Fit s) (r : ByteArray) (hz : r.size ≤ 900) (rb : Nat) (w : World) (h : Pk.isRd w rb (cat s.ps ++ r) 0) : Calls Try.prog 25 #[.pointer (some ⟨rb, 0, none⟩)] w fun e w' =>
    e = .returned (.agg s.A) ∧ Pk.Off rb w w' := by
  have CN : Hid (∀ w0 w rb c2 c3 n k ps r t kk, Rk w0 rb c2 c3 ((n, k) :: ps) r t w → kk = (k : Int) → Calls Try.prog 34 #[.pointer (some ⟨rb, 0, none⟩), .int .i64 kk] w fun e w' =>
    e = .returned (.int .i64 n) ∧ Rk w0 rb c2 c3 ps r t w') := fun w0 w rb c2 c3 n k ps r t kk h hk => h.num kk hk
  have CB : Hid (∀ w1 b1 w2 b2, NewB w w1 b1 Bs.zero → NewB w1 w2 b2 Bs.zero → Rk w rb b1 b2 s.ps r ⟨0, 0, 0, 0, 0, 0, 0⟩ w2) := by
    intro w1 b1 w2 b2 N1 N2
    have e1 := N1.eq
    have e2 := N2.eq
    have q1 := N1.below.size
    have q2 := h.lt
    have q3 := N1.rc.lt
    have hsz : (cat s.ps ++ r).size ≤ 1000 := by rw [ByteArray.size_append, cat_size]; omega
    exact ⟨(h.below N1.below).below N2.below, hs, wide_ps s, hsz, N1.rc.below N2.below, N2.rc, Pk.Off.of_below (thn N1.below N2.below), by omega, by omega, q2, by omega⟩
  have hlt := h.lt
  clear hs hz h
  go_enter Try.func25, Try.ntmps25
  go_wp2_with (first
    | (have := N1; refine wpList_new_bs _ rfl rfl ?_; intro w2 b2 N2; have H := CB.out _ _ _ _ N1 N2; clear this N1 N2)
    | (refine wpList_new_bs _ rfl rfl ?_; intro w1 b1 N1)
    | (go_at_call 34; refine (CN.out _ _ _ _ _ _ _ _ _ _ _ H rfl).mono ?_; clear H; rintro e w1 ⟨rfl, H⟩)
    | (refine wpList_at (Op.store 3 (.tmp 6) (.tmp 5)) rfl ?_; refine wpList_fput (k := 0) (s' := ⟨s.nd, 0, 0, 0, 0, 0, 0⟩) _ rfl 3 (.tmp 6) (.tmp 5) rfl rfl rfl H.a3 (by decide) rfl (by kernel_rfl) rfl ?_; intro w9 P9; replace H := H.put P9; clear P9)
    | (refine wpList_at (Op.store 3 (.tmp 9) (.tmp 8)) rfl ?_; refine wpList_fput (k := 1) (s' := ⟨s.nd, s.bt, 0, 0, 0, 0, 0⟩) _ rfl 3 (.tmp 9) (.tmp 8) rfl rfl rfl H.a3 (by decide) rfl (by kernel_rfl) rfl ?_; intro w9 P9; replace H := H.put P9; clear P9)
    | (refine wpList_at (Op.store 3 (.tmp 12) (.tmp 11)) rfl ?_; refine wpList_fput (k := 2) (s' := ⟨s.nd, s.bt, s.gn, 0, 0, 0, 0⟩) _ rfl 3 (.tmp 12) (.tmp 11) rfl rfl rfl H.a3 (by decide) rfl (by kernel_rfl) rfl ?_; intro w9 P9; replace H := H.put P9; clear P9)
    | (refine wpList_at (Op.store 3 (.tmp 15) (.tmp 14)) rfl ?_; refine wpList_fput (k := 3) (s' := ⟨s.nd, s.bt, s.gn, s.ck, 0, 0, 0⟩) _ rfl 3 (.tmp 15) (.tmp 14) rfl rfl rfl H.a3 (by decide) rfl (by kernel_rfl) rfl ?_; intro w9 P9; replace H := H.put P9; clear P9)
    | (refine wpList_at (Op.store 3 (.tmp 18) (.tmp 17)) rfl ?_; refine wpList_fput (k := 4) (s' := ⟨s.nd, s.bt, s.gn, s.ck, s.rd, 0, 0⟩) _ rfl 3 (.tmp 18) (.tmp 17) rfl rfl rfl H.a3 (by decide) rfl (by kernel_rfl) rfl ?_; intro w9 P9; replace H := H.put P9; clear P9)
    | (refine wpList_at (Op.store 3 (.tmp 21) (.tmp 20)) rfl ?_; refine wpList_fput (k := 5) (s' := ⟨s.nd, s.bt, s.gn, s.ck, s.rd, s.sn, 0⟩) _ rfl 3 (.tmp 21) (.tmp 20) rfl rfl rfl H.a3 (by decide) rfl (by kernel_rfl) rfl ?_; intro w9 P9; replace H := H.put P9; clear P9)
    | (refine wpList_at (Op.store 3 (.tmp 24) (.tmp 23)) rfl ?_; refine wpList_fput (k := 6) (s' := ⟨s.nd, s.bt, s.gn, s.ck, s.rd, s.sn, s.jn⟩) _ rfl 3 (.tmp 24) (.tmp 23) rfl rfl rfl H.a3 (by decide) rfl (by kernel_rfl) rfl ?_; intro w9 P9; replace H := H.put P9; clear P9)
    | (refine wpList_load_bs _ rfl (.tmp 3) rfl rfl H.a3 ?_)
    | (refine wpList_at (Op.store 23 (.tmp 2) (.tmp 25)) rfl ?_; refine wpList_put_bs (s' := s) _ rfl (.tmp 2) (.tmp 25) rfl rfl rfl H.a2 ?_; intro w8 P8))
  refine bodyPost_ret (results_bs1 rfl _ _ rfl P8.rc) rfl ?_
  exact ⟨rfl, H.off.trans3 P8.off H.n0⟩
end Go.Proofs.Ytljedbakdlhlbaa
