/- The document's change. -/
import Derived.Test.YtakdfdnndogaiaaRfRd
namespace Go.Proofs.Ytakdfdnndogaiaa
open Go.RowKit
set_option linter.unusedVariables false
set_option linter.unusedSimpArgs false
set_option maxRecDepth 100000

structure ChS (w wx : World) (b b0 b6 : Nat) (s : Sc) (I T : Value) (q : Lf) : Prop where
  rd : RfS wx b q
  rc : RcAt wx b0 s I T
  r : RcAt wx b6 zS nilV nilV
  off : Pk.Off b w wx
  n1 : b ≠ b0
  n2 : b ≠ b6
  n3 : b0 ≠ b6
  l0 : w.heap.size ≤ b0
  l6 : w.heap.size ≤ b6
section
variable {w wx wq : World} {b b0 b6 : Nat} {s s' : Sc} {I T I' T' : Value} {q q' : Lf}
theorem ChS.start {w1 w2 : World} (h : RfS w b q) (N1 : NewR w w1 b0 s I T) (N2 : NewR w1 w2 b6 zS nilV nilV) : ChS w w2 b b0 b6 s I T q := by
  have e1 := N1.eq
  have e2 := N2.eq
  have z0 := h.lt
  have z1 := N1.rc.lt
  have z2 := N1.below.size
  exact ⟨(h.below N1.below).below N2.below, N1.rc.below N2.below, N2.rc, (Pk.Off.refl _ _).bel (thn N1.below N2.below), by omega, by omega, by omega, by omega, by omega⟩
theorem ChS.step (h : ChS w wx b b0 b6 s I T q) (hr : RfS wq b q') (o : Pk.Off b wx wq) : ChS w wq b b0 b6 s I T q' := ⟨hr, h.rc.off o (fun e => h.n1 e.symm), h.r.off o (fun e => h.n2 e.symm), h.off.trans o, h.n1, h.n2, h.n3, h.l0, h.l6⟩
theorem off_new {c : Nat} (h : Pk.Off b w wx) (o : Pk.Off c wx wq) (hc : w.heap.size ≤ c) : Pk.Off b w wq := ⟨o.os.trans h.os, o.tape.trans h.tape, o.output.trans h.output, Nat.le_trans h.size o.size, fun k hk hkb => (o.block k (Nat.lt_of_lt_of_le hk h.size) (by omega)).trans (h.block k hk hkb)⟩
theorem ChS.put (h : ChS w wx b b0 b6 s I T q) (P : PutR wx wq b0 s' I' T') : ChS w wq b b0 b6 s' I' T' q :=
  ⟨h.rd.off P.off h.n1, P.rc, h.r.off P.off (fun e => h.n3 e.symm), off_new h.off P.off h.l0, h.n1, h.n2, h.n3, h.l0, h.l6⟩
theorem ChS.num (h : ChS w wx b b0 b6 s I T q) (k : Int) (h1 : 1 ≤ k) (h6 : k ≤ 6) : Calls Try.prog 32 #[.pointer (some ⟨b, 0, none⟩), .int .i64 k] wx fun r w' => r = .returned (.int .i64 (nN q k)) ∧ ChS w w' b b0 b6 s I T (sN q k) :=
  (h.rd.num k h1 h6).mono fun e w' ⟨he, h1, o1⟩ => ⟨he, h.step h1 o1⟩
theorem ChS.text (h : ChS w wx b b0 b6 s I T q) (m : Int) : Calls Try.prog 33 #[.pointer (some ⟨b, 0, none⟩), .int .i64 m] wx fun r w' => r = .returned (.string (tT q m)) ∧ ChS w w' b b0 b6 s I T (sT q m) :=
  (h.rd.text m).mono fun e w' ⟨he, h1, o1⟩ => ⟨he, h.step h1 o1⟩
end
section
variable {w : World} {b : Nat} {s : Sc} {I T : Value} {q : Lf} {act : Int}
set_option maxHeartbeats 1000000 in
theorem change_3 (h : RfS w b q) (hI : I.oneCell' = true) (hT : T.oneCell' = true) (a3 : (act != 3) = false) (a4 : (act != 4) = true) : Calls Try.prog 34 #[.pointer (some ⟨b, 0, none⟩), .agg (s.A I T), .int .i64 act] w fun e w' => e = .returned (.agg ((rcN s q).A I T)) ∧ RfS w' b (sT (rq1 q) 32) ∧ Pk.Off b w w' := by
  go_enter Try.func34, Try.ntmps34
  go_wp2_with (first
    | (have := N1; refine wpList_new_rc _ rfl rfl ?_; intro w2 b6 N2; have H := ChS.start h N1 N2; clear h N1 N2 this)
    | (refine wpList_box_rc (s := s) (I := I) (T := T) _ rfl _ rfl rfl ?_; intro w1 b0 N1)
    | (go_at_call 32; refine (H.num _ (by omega) (by omega)).mono ?_; clear H; rintro e w1 ⟨rfl, H⟩)
    | (refine wpList_at (Op.store 3 (.tmp 9) (.tmp 8)) rfl ?_; refine wpList_fput (s' := {s with pg := nN q 2}) (I' := I) (T' := T) _ rfl 3 (.tmp 9) (.tmp 8) rfl rfl rfl H.rc (by omega) rfl (by kernel_rfl) rfl ?_; intro w2 P2; have H1 := H.put P2; clear H P2; have H := H1; clear H1)
    | (go_at_call 33; refine (H.text _).mono ?_; clear H; rintro e w3 ⟨rfl, H⟩; try rw [show sT (sN q 2) 16 = rq1 q from rfl] at H)
    | (refine wpList_at (Op.store 9 (.tmp 12) (.tmp 11)) rfl ?_; refine wpList_fput (s' := rc1 s q) (I' := I) (T' := T) _ rfl 9 (.tmp 12) (.tmp 11) rfl rfl rfl H.rc (by omega) rfl (by kernel_rfl) ?_ ?_; exact rc1_set s q I T; intro w2 P2; have H1 := H.put P2; clear H P2; have H := H1; clear H1)
    | (refine wpList_at (Op.store 9 (.tmp 22) (.tmp 21)) rfl ?_; refine wpList_fput (s' := rcN s q) (I' := I) (T' := T) _ rfl 9 (.tmp 22) (.tmp 21) rfl rfl rfl H.rc (by omega) rfl (by kernel_rfl) ?_ ?_; exact rcN_set s q I T; intro w2 P2; have H1 := H.put P2; clear H P2; have H := H1; clear H1)
    | (refine wpList_load_rc _ rfl (.tmp 4) rfl rfl H.rc ?_)
    | (refine wpList_put_rc (s' := rcN s q) (I' := I) (T' := T) _ rfl (.tmp 6) (.tmp 23) rfl rfl rfl H.r hI hT ?_; intro w9 P9))
  refine bodyPost_ret (results_rc1 rfl _ _ rfl P9.rc) rfl ?_
  exact ⟨rfl, H.rd.off P9.off H.n2, off_new H.off P9.off H.l6⟩
set_option maxHeartbeats 1000000 in
theorem change_4 (h : RfS w b q) (hI : I.oneCell' = true) (hT : T.oneCell' = true) (a3 : (act != 3) = true) (a4 : (act != 4) = false) : Calls Try.prog 34 #[.pointer (some ⟨b, 0, none⟩), .agg (s.A I T), .int .i64 act] w fun e w' => e = .returned (.agg ((rcO s q).A I T)) ∧ RfS w' b (sT (rq1 q) 32) ∧ Pk.Off b w w' := by
  go_enter Try.func34, Try.ntmps34
  go_wp2_with (first
    | (have := N1; refine wpList_new_rc _ rfl rfl ?_; intro w2 b6 N2; have H := ChS.start h N1 N2; clear h N1 N2 this)
    | (refine wpList_box_rc (s := s) (I := I) (T := T) _ rfl _ rfl rfl ?_; intro w1 b0 N1)
    | (go_at_call 32; refine (H.num _ (by omega) (by omega)).mono ?_; clear H; rintro e w1 ⟨rfl, H⟩)
    | (refine wpList_at (Op.store 3 (.tmp 9) (.tmp 8)) rfl ?_; refine wpList_fput (s' := {s with pg := nN q 2}) (I' := I) (T' := T) _ rfl 3 (.tmp 9) (.tmp 8) rfl rfl rfl H.rc (by omega) rfl (by kernel_rfl) rfl ?_; intro w2 P2; have H1 := H.put P2; clear H P2; have H := H1; clear H1)
    | (go_at_call 33; refine (H.text _).mono ?_; clear H; rintro e w3 ⟨rfl, H⟩; try rw [show sT (sN q 2) 16 = rq1 q from rfl] at H)
    | (refine wpList_at (Op.store 9 (.tmp 12) (.tmp 11)) rfl ?_; refine wpList_fput (s' := rc1 s q) (I' := I) (T' := T) _ rfl 9 (.tmp 12) (.tmp 11) rfl rfl rfl H.rc (by omega) rfl (by kernel_rfl) ?_ ?_; exact rc1_set s q I T; intro w2 P2; have H1 := H.put P2; clear H P2; have H := H1; clear H1)
    | (refine wpList_at (Op.store 9 (.tmp 17) (.tmp 16)) rfl ?_; refine wpList_fput (s' := rcO s q) (I' := I) (T' := T) _ rfl 9 (.tmp 17) (.tmp 16) rfl rfl rfl H.rc (by omega) rfl (by kernel_rfl) ?_ ?_; exact rcO_set s q I T; intro w2 P2; have H1 := H.put P2; clear H P2; have H := H1; clear H1)
    | (refine wpList_load_rc _ rfl (.tmp 4) rfl rfl H.rc ?_)
    | (refine wpList_put_rc (s' := rcO s q) (I' := I) (T' := T) _ rfl (.tmp 6) (.tmp 23) rfl rfl rfl H.r hI hT ?_; intro w9 P9))
  refine bodyPost_ret (results_rc1 rfl _ _ rfl P9.rc) rfl ?_
  exact ⟨rfl, H.rd.off P9.off H.n2, off_new H.off P9.off H.l6⟩
set_option maxHeartbeats 1000000 in
theorem change_o (h : RfS w b q) (hI : I.oneCell' = true) (hT : T.oneCell' = true) (a3 : (act != 3) = true) (a4 : (act != 4) = true) : Calls Try.prog 34 #[.pointer (some ⟨b, 0, none⟩), .agg (s.A I T), .int .i64 act] w fun e w' => e = .returned (.agg ((rcB s q).A I T)) ∧ RfS w' b (sT (sT (rq1 q) 32) 32) ∧ Pk.Off b w w' := by
  go_enter Try.func34, Try.ntmps34
  go_wp2_with (first
    | (have := N1; refine wpList_new_rc _ rfl rfl ?_; intro w2 b6 N2; have H := ChS.start h N1 N2; clear h N1 N2 this)
    | (refine wpList_box_rc (s := s) (I := I) (T := T) _ rfl _ rfl rfl ?_; intro w1 b0 N1)
    | (go_at_call 32; refine (H.num _ (by omega) (by omega)).mono ?_; clear H; rintro e w1 ⟨rfl, H⟩)
    | (refine wpList_at (Op.store 3 (.tmp 9) (.tmp 8)) rfl ?_; refine wpList_fput (s' := {s with pg := nN q 2}) (I' := I) (T' := T) _ rfl 3 (.tmp 9) (.tmp 8) rfl rfl rfl H.rc (by omega) rfl (by kernel_rfl) rfl ?_; intro w2 P2; have H1 := H.put P2; clear H P2; have H := H1; clear H1)
    | (go_at_call 33; refine (H.text _).mono ?_; clear H; rintro e w3 ⟨rfl, H⟩; try rw [show sT (sN q 2) 16 = rq1 q from rfl] at H)
    | (refine wpList_at (Op.store 9 (.tmp 12) (.tmp 11)) rfl ?_; refine wpList_fput (s' := rc1 s q) (I' := I) (T' := T) _ rfl 9 (.tmp 12) (.tmp 11) rfl rfl rfl H.rc (by omega) rfl (by kernel_rfl) ?_ ?_; exact rc1_set s q I T; intro w2 P2; have H1 := H.put P2; clear H P2; have H := H1; clear H1)
    | (refine wpList_at (Op.store 9 (.tmp 17) (.tmp 16)) rfl ?_; refine wpList_fput (s' := rcO s q) (I' := I) (T' := T) _ rfl 9 (.tmp 17) (.tmp 16) rfl rfl rfl H.rc (by omega) rfl (by kernel_rfl) ?_ ?_; exact rcO_set s q I T; intro w2 P2; have H1 := H.put P2; clear H P2; have H := H1; clear H1)
    | (refine wpList_at (Op.store 9 (.tmp 22) (.tmp 21)) rfl ?_; refine wpList_fput (s' := rcB s q) (I' := I) (T' := T) _ rfl 9 (.tmp 22) (.tmp 21) rfl rfl rfl H.rc (by omega) rfl (by kernel_rfl) ?_ ?_; exact rcB_set s q I T; intro w2 P2; have H1 := H.put P2; clear H P2; have H := H1; clear H1)
    | (refine wpList_load_rc _ rfl (.tmp 4) rfl rfl H.rc ?_)
    | (refine wpList_put_rc (s' := rcB s q) (I' := I) (T' := T) _ rfl (.tmp 6) (.tmp 23) rfl rfl rfl H.r hI hT ?_; intro w9 P9))
  refine bodyPost_ret (results_rc1 rfl _ _ rfl P9.rc) rfl ?_
  exact ⟨rfl, H.rd.off P9.off H.n2, off_new H.off P9.off H.l6⟩
theorem change_any (h : RfS w b q) (hI : I.oneCell' = true) (hT : T.oneCell' = true) : Calls Try.prog 34 #[.pointer (some ⟨b, 0, none⟩), .agg (s.A I T), .int .i64 act] w fun e w' => e = .returned (.agg ((rdChg act s q).1.A I T)) ∧ RfS w' b (rdChg act s q).2 ∧ Pk.Off b w w' := by
  unfold rdChg
  by_cases h3 : act = 3
  · rw [if_pos h3]
    exact change_3 h hI hT (by rw [h3]; rfl) (by rw [h3]; rfl)
  · by_cases h4 : act = 4
    · rw [if_neg h3, if_pos h4]
      exact change_4 h hI hT (by rw [h4]; rfl) (by rw [h4]; rfl)
    · rw [if_neg h3, if_neg h4]
      exact change_o h hI hT (by simpa using h3) (by simpa using h4)
end
end Go.Proofs.Ytakdfdnndogaiaa
