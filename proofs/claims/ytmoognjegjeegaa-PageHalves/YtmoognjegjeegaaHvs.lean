/- A page's cells in two pages: Halves. -/
import Derived.Test.YtmoognjegjeegaaHlf
import Derived.Test.YtmoognjegjeegaaRfc
import Derived.Deep.RegionHeld3
namespace Go.Proofs.Ytmoognjegjeegaa
open Go.RowKit
set_option linter.unusedVariables false
set_option linter.unusedSimpArgs false
set_option maxRecDepth 100000

theorem step_new_sh {ops : Array Oper} {o : Oper} {a : Act} {w : World} {K : Act → World → Prop} {Q : Exit → Act → World → Prop} {E : Prop} (hg : o.guard = none) (hop : o.op = Op.alloc 63)
    (h : ∀ w' b, New w w' b zs → K (a.put o.dst (.pointer (some ⟨b, 0, none⟩))) w') : if Region.wanted o (yielded ops a.tmps) = true then Oper.wp Try.prog o a w K Q else E := by
  have hw : Region.wanted o (yielded ops a.tmps) = true := by simp [Region.wanted, hg]
  rw [if_pos hw]
  unfold Oper.wp
  simp [execOp, hop, Instr.alloc, zero_sheet, Result.andThen, pgV, Value.cells]
  exact h _ _ ⟨Sh.new w zs_length, (Below.refl _ _).alloc (Nat.le_refl _) _, Nat.le_refl _⟩
theorem step_put_sh {ops : Array Oper} {o : Oper} {a : Act} {w : World} {K : Act → World → Prop} {Q : Exit → Act → World → Prop} {E : Prop} (hg : o.guard = none) (x y : Operand) (hop : o.op = Op.store 63 x y)
    {b : Nat} (hx : a.eval x = .pointer (some ⟨b, 0, none⟩)) {s t : List UInt8} (hy : a.eval y = pgV t) (hs : Sh w b s) (ht : t.length = 224)
    (h : ∀ w', Put w w' b t → K (a.put o.dst undef) w') : if Region.wanted o (yielded ops a.tmps) = true then Oper.wp Try.prog o a w K Q else E := by
  have hw : Region.wanted o (yielded ops a.tmps) = true := by simp [Region.wanted, hg]
  rw [if_pos hw]
  have hrun := run_store_sh w t hs ht
  unfold Oper.wp
  simp [execOp, hop, hx, hy, hrun, Result.andThen]
  exact h _ ⟨hs.setRow ht, (Off.refl (fun k => k = b) w).setRow (B := fun k => k = b) rfl _⟩
theorem results_tmp4 {fn : Func} {t u v x : Tmp} (h : fn.results = #[.tmp t, .tmp u, .tmp v, .tmp x]) (tmps : Array Value) (P : Program) (w : World) :
    (results fn tmps).run P w = .ok (.tuple #[tmps.getD t undef, tmps.getD u undef, tmps.getD v undef, tmps.getD x undef]) w := by
  simp [results, h]
theorem there_pg {w : World} {b : Nat} {s t : List UInt8} (h : Sh w b s) (ht : t.length = 224) : w.there b 0 (pgL t).toArray.size := by
  rw [List.size_toArray, pgL_length, ht]; exact h.there
theorem zeroA : Try.zeroCells63 = pgA zs := by
  have := zero63
  simp only [pgV, Value.agg.injEq] at this
  exact this
theorem there_new (w : World) {t : List UInt8} (ht : t.length = 224) : (w.alloc (.cells Try.zeroCells63 63)).there w.heap.size 0 (pgL t).length := by
  have := there_pg (t := t) (Sh.new w zs_length) ht
  rw [← zeroA, List.size_toArray] at this
  exact this
theorem there_kept {w w' : World} {t : List UInt8} (h : Below (w.alloc (.cells Try.zeroCells63 63)).drew.heap.size (w.alloc (.cells Try.zeroCells63 63)).drew w') (ht : t.length = 224) : w'.there w.heap.size 0 (pgL t).length := by
  have hs : Sh w' w.heap.size zs := by
    have hn := Sh.new w zs_length
    rw [← zeroA] at hn
    exact hn.drew.below h
  have := there_pg (t := t) hs ht
  rw [List.size_toArray] at this
  exact this
theorem new_o1 {w w' : World} {t : List UInt8} (h : Below w.drew.heap.size w.drew w') (ht : t.length = 224) : New w ((w'.alloc (.cells Try.zeroCells63 63)).setCells w'.heap.size 0 (pgL t)) w'.heap.size t := by
  have hn := Sh.new w' zs_length
  rw [← zeroA] at hn
  have hb : Below w.heap.size w w' := thn (below_drewN (Below.refl _ _) 1) h
  rw [setCells_pg t hn ht]
  exact ⟨hn.setRow ht, below_setRow (thnA hb _) hb.size _, hb.size⟩
theorem new_o2 {w w' : World} {t : List UInt8} (h : Below (w.alloc (.cells Try.zeroCells63 63)).drew.heap.size (w.alloc (.cells Try.zeroCells63 63)).drew w') (ht : t.length = 224) : New w (w'.setCells w.heap.size 0 (pgL t)) w.heap.size t := by
  have hn := Sh.new w zs_length
  rw [← zeroA] at hn
  have hs := hn.drew.below h
  have hb : Below w.heap.size w w' := thn (below_drewN (thnA (Below.refl _ _) _) 1) h
  rw [setCells_pg t hs ht]
  exact ⟨hs.setRow ht, below_setRow hb (Nat.le_refl _) _, Nat.le_refl _⟩
theorem Halves_form (w : World) (p : ByteArray) (hz : p.size ≤ 140737488351232) (h : ¬ Turns (bts p)) : Calls Try.prog 32 #[.string p] w fun e w' => e = .returned (.tuple #[.string ⟨#[]⟩, .string ⟨#[]⟩, .string ⟨#[]⟩, .int .i64 4]) ∧ Below w.heap.size w w' := by
  have hTl := zs_length
  have CR : Hid (∀ w, Calls Try.prog 51 #[.string p] w fun e w' => e = .returned (.tuple #[pgV zs, .int .i64 4]) ∧ Below w.heap.size w w') := fun w => rft_no w p hz h
  clear h
  go_enter Try.func32, Try.ntmps32
  go_wp2_with (first | (go_at_call 51; refine (CR.out _).mono ?_; rintro e w2 ⟨rfl, hb2⟩) | (refine wpList_new_sh _ rfl rfl ?_; intro w3 b3 N3) | (refine wpList_put_sh _ rfl _ _ rfl rfl (t := zs) rfl N3.sh hTl ?_; intro w4 P4))
  refine bodyPost_ret (results_tmp4 rfl _ _ _) rfl ?_
  exact ⟨rfl, opened hb2 N3 P4⟩
theorem Halves_short (w : World) (p : ByteArray) (h : Turns (bts p)) (hn : cnt (bts p) < 2) : Calls Try.prog 32 #[.string p] w fun e w' => e = .returned (.tuple #[.string ⟨#[]⟩, .string ⟨#[]⟩, .string ⟨#[]⟩, .int .i64 2]) ∧ Below w.heap.size w w' := by
  have hTl : (bts p).length = 224 := h.right.head.len
  have CR : Hid (∀ w, Calls Try.prog 51 #[.string p] w fun e w' => e = .returned (.tuple #[pgV (bts p), .int .i64 0]) ∧ Below w.heap.size w w') := fun w => rft_ok w p h
  have C1 : Hid (∀ w b, Sh w b (bts p) → Calls Try.prog 39 #[.pointer (some ⟨b, 0, none⟩)] w fun e w' => e = .returned (.int .i64 (cnt (bts p))) ∧ w' = w) := fun w b h => count_any w h
  have hnI : (cnt (bts p) : Int) < 2 := by omega
  clear h
  generalize bts p = T at *
  go_enter Try.func32, Try.ntmps32
  go_wp2_with (first | (go_at_call 51; refine (CR.out _).mono ?_; rintro e w2 ⟨rfl, hb2⟩) | (refine wpList_new_sh _ rfl rfl ?_; intro w3 b3 N3) | (refine wpList_put_sh _ rfl _ _ rfl rfl (t := T) rfl N3.sh hTl ?_; intro w4 P4) | (go_at_call 39; refine (C1.out _ _ P4.sh).mono ?_; rintro e w5 ⟨rfl, rfl⟩))
  refine bodyPost_ret (results_tmp4 rfl _ _ _) rfl ?_
  exact ⟨rfl, opened hb2 N3 P4⟩
set_option maxHeartbeats 2000000 in
theorem Halves_ok (w : World) (p : ByteArray) (h : Turns (bts p)) (hn : 2 ≤ cnt (bts p)) (n : Nat) (hH : IsH (cells (bts p)) n) : Calls Try.prog 32 #[.string p] w fun e w' => e = .returned (.tuple #[.string (tx (packS (g (bts p) 0) (g (bts p) 1) ((cells (bts p)).take n))), .string (tx (packS (g (bts p) 0) (g (bts p) 1) ((cells (bts p)).drop n))), .string (key (bts p) n), .int .i64 0]) ∧ Below w.heap.size w w' := by
  have hTl : (bts p).length = 224 := h.right.head.len
  have hcl := cells_length (bts p)
  have hnl := hH.lt
  have hn1 := hH.one
  have hmax := h.right.head.slotlt
  have CR : Hid (∀ w, Calls Try.prog 51 #[.string p] w fun e w' => e = .returned (.tuple #[pgV (bts p), .int .i64 0]) ∧ Below w.heap.size w w') := fun w => rft_ok w p h
  have C1 : Hid (∀ w b, Sh w b (bts p) → Calls Try.prog 39 #[.pointer (some ⟨b, 0, none⟩)] w fun e w' => e = .returned (.int .i64 (cnt (bts p))) ∧ w' = w) := fun w b h => count_any w h
  have CK : Hid (∀ w b, Sh w b (bts p) → Calls Try.prog 41 #[.pointer (some ⟨b, 0, none⟩)] w fun e w' => e = .returned (.int .i64 (g (bts p) 0)) ∧ w' = w) := fun w b h => kind_any w h
  have CV : Hid (∀ w b, Sh w b (bts p) → Calls Try.prog 42 #[.pointer (some ⟨b, 0, none⟩)] w fun e w' => e = .returned (.int .i64 (g (bts p) 1)) ∧ w' = w) := fun w b h => level_any w h
  have CC : Hid (∀ w b, Sh w b (bts p) → Calls Try.prog 44 #[.pointer (some ⟨b, 0, none⟩)] w fun e w' => ∃ a, e = .returned (.slice (some ⟨a, 0, none⟩) (cnt (bts p)) (cnt (bts p))) ∧ Sl w' (some ⟨a, 0, none⟩) (cnt (bts p)) (cells (bts p)) ∧ Below w.heap.size w w') := fun w b hS => by
    refine (cells_any w hS h.right).mono ?_
    rintro e w' ⟨a, rfl, hc, hb⟩
    exact ⟨a, rfl, ⟨hc, by omega, fun e => (by cases e), Or.inr ⟨a, 0, rfl⟩⟩, hb⟩
  have CH : Hid (∀ w a cap, Sl w a cap (cells (bts p)) → Calls Try.prog 53 #[.slice a (cnt (bts p)) cap] w fun e w' => e = .returned (.int .i64 (n : Int)) ∧ Below w.heap.size w w') := fun w a cap hs => by
    have := halfOf_any w hs h.right.small (by omega) n hH
    rw [hcl] at this; exact this
  have hpk := h.right.canPack
  have hL1 := (packed_all _ (hpk.take n)).right.head.len
  have hL2 := (packed_all _ (hpk.drop n)).right.head.len
  have lt1 : ((cells (bts p)).take n).length = n := by rw [List.length_take]; omega
  have lt2 : ((cells (bts p)).drop n).length = cnt (bts p) - n := by rw [List.length_drop, hcl]
  have CP1 : Hid (∀ w a cap, Cs w a ((cells (bts p)).take n) → Calls Try.prog 54 #[.int .i64 (g (bts p) 0 : Int), .int .i64 (g (bts p) 1 : Int), .slice a n cap] w fun e w' => e = .returned (pgV (packS (g (bts p) 0) (g (bts p) 1) ((cells (bts p)).take n))) ∧ Below w.heap.size w w') := fun w a cap hc => by
    have := packed_any w _ _ cap hc (hpk.take n)
    rw [lt1] at this; exact this
  have CP2 : Hid (∀ w a cap, Cs w a ((cells (bts p)).drop n) → Calls Try.prog 54 #[.int .i64 (g (bts p) 0 : Int), .int .i64 (g (bts p) 1 : Int), .slice a (cnt (bts p) - n) cap] w fun e w' => e = .returned (pgV (packS (g (bts p) 0) (g (bts p) 1) ((cells (bts p)).drop n))) ∧ Below w.heap.size w w') := fun w a cap hc => by
    have := packed_any w _ _ cap hc (hpk.drop n)
    rw [lt2] at this; exact this
  have hkey : Hid (((cells (bts p))[n]'hnl).k = key (bts p) n) := (by rw [cells_get']; rfl : ((cells (bts p))[n]'hnl).k = key (bts p) n)
  have CX : Hid (∀ w b s', Sh w b s' → Calls Try.prog 49 #[.pointer (some ⟨b, 0, none⟩)] w fun e w' => e = .returned (.string (tx s')) ∧ w' = w) := fun w b s' h => text_any w h
  have hnI : ¬ (cnt (bts p) : Int) < 2 := by omega
  have hnn : n < cnt (bts p) := by omega
  have TO : Hid (∀ w a cap, Sl w a cap (cells (bts p)) → (∀ W, (Instr.slice 22 (.slice a (cnt (bts p)) cap) none (some (.int .i64 (n : Int))) none).run Try.prog W = .ok (.slice a n cap) W) ∧ Sl w a cap ((cells (bts p)).take n)) := (fun w a cap hs => by
    have := hs.to n (by omega)
    rw [hcl] at this; exact this : ∀ w a cap, Sl w a cap (cells (bts p)) → (∀ W, (Instr.slice 22 (.slice a (cnt (bts p)) cap) none (some (.int .i64 (n : Int))) none).run Try.prog W = .ok (.slice a n cap) W) ∧ Sl w a cap ((cells (bts p)).take n))
  have FR : Hid (∀ w a cap, Sl w a cap (cells (bts p)) → ∃ a', (∀ W, (Instr.slice 22 (.slice a (cnt (bts p)) cap) (some (.int .i64 (n : Int))) none none).run Try.prog W = .ok (.slice a' (cnt (bts p) - n) (cap - n)) W) ∧ Sl w a' (cap - n) ((cells (bts p)).drop n)) := (fun w a cap hs => by
    have := hs.from n (n : Int) rfl (by omega)
    rw [hcl] at this; exact this : ∀ w a cap, Sl w a cap (cells (bts p)) → ∃ a', (∀ W, (Instr.slice 22 (.slice a (cnt (bts p)) cap) (some (.int .i64 (n : Int))) none none).run Try.prog W = .ok (.slice a' (cnt (bts p) - n) (cap - n)) W) ∧ Sl w a' (cap - n) ((cells (bts p)).drop n))
  clear h hpk lt1 lt2 hH
  generalize packS (g (bts p) 0) (g (bts p) 1) ((cells (bts p)).take n) = PA at *
  generalize packS (g (bts p) 0) (g (bts p) 1) ((cells (bts p)).drop n) = PB at *
  generalize key (bts p) n = ky at *
  generalize bts p = T at *
  generalize g T 0 = k0 at *
  generalize g T 1 = l0 at *
  go_enter Try.func32, Try.ntmps32
  go_wp2_with (first | (go_at_call 51; refine (CR.out _).mono ?_; rintro e w2 ⟨rfl, hb2⟩) | (refine wpList_new_sh _ rfl rfl ?_; intro w3 b3 N3) | (refine wpList_put_sh _ rfl _ _ rfl rfl (t := T) rfl N3.sh hTl ?_; intro w4 P4) | (go_at_call 39; refine (C1.out _ _ P4.sh).mono ?_; rintro e w5 ⟨rfl, rfl⟩) | (go_at_call 44; refine (CC.out _ _ P4.sh).mono ?_; rintro e w6 ⟨a6, rfl, hL6, hb6⟩) | (go_at_call 53; refine (CH.out _ _ _ hL6).mono ?_; rintro e w7 ⟨rfl, hb7⟩))
  have hS7 : Sh w7 b3 T := (P4.sh.below hb6).below hb7
  have hL7 := hL6.below hb7
  obtain ⟨s1, t1⟩ := TO.out _ _ _ hL7
  obtain ⟨a8, s2, t2⟩ := FR.out _ _ _ hL7
  have T1 : Hid _ := t1
  have T2 : Hid _ := t2
  clear t1 t2
  have hone := pgL_one PA
  have hinf : (Try.prog.info? 63).map (·.size) = some (pgL PA).toArray.size := info_pg hL1
  have hone2 := pgL_one PB
  have hinf2 : (Try.prog.info? 63).map (·.size) = some (pgL PB).toArray.size := info_pg hL2
  have Z7 : Below w7.heap.size w7 w7.drew := below_drewN (Below.refl _ _) 1
  go_region_held3 (fun _ => True) (trivial) (first | (go_at_call 41; refine (CK.out _ _ ?_).mono ?_; (first | exact hS7.drew | exact hS7.drew.alloc _); rintro e w' ⟨rfl, rfl⟩) | (go_at_call 42; refine (CV.out _ _ ?_).mono ?_; (first | exact hS7.drew | exact hS7.drew.alloc _); rintro e w' ⟨rfl, rfl⟩) | (go_at_call 54; refine (CP1.out _ _ _ ?_).mono ?_; (first | exact T1.out.cs.below Z7 | exact T1.out.cs.below (thnA Z7 _)); rintro e w9 ⟨rfl, hb9⟩; first | (have hth := there_kept hb9 hL1) | (have hth := there_new w9 hL1)))
  all_goals
    first
    | (have NA := new_o2 hb9 hL1; generalize World.setCells _ _ 0 (pgL PA) = w12 at NA ⊢; generalize w7.heap.size = b12 at NA ⊢)
    | (have NA := new_o1 hb9 hL1; generalize World.setCells _ _ 0 (pgL PA) = w12 at NA ⊢; generalize w9.heap.size = b12 at NA ⊢)
    clear hb9 hth
    have hS12 : Sh w12 b3 T := hS7.below NA.below
    have hL12 := hL7.below NA.below
    have hT2 := T2.out.below NA.below
    have Z12 : Below w12.heap.size w12 w12.drew := below_drewN (Below.refl _ _) 1
    go_wp2
    go_region_held3 (fun _ => True) (trivial) (first | (go_at_call 41; refine (CK.out _ _ ?_).mono ?_; (first | exact hS12.drew | exact hS12.drew.alloc _); rintro e w' ⟨rfl, rfl⟩) | (go_at_call 42; refine (CV.out _ _ ?_).mono ?_; (first | exact hS12.drew | exact hS12.drew.alloc _); rintro e w' ⟨rfl, rfl⟩) | (go_at_call 54; refine (CP2.out _ _ _ ?_).mono ?_; (first | exact hT2.cs.below Z12 | exact hT2.cs.below (thnA Z12 _)); rintro e w13 ⟨rfl, hb13⟩; first | (have hth := there_kept hb13 hL2) | (have hth := there_new w13 hL2)))
    all_goals
      first
      | (have NB := new_o2 hb13 hL2; generalize World.setCells _ _ 0 (pgL PB) = w14 at NB ⊢; generalize w12.heap.size = b14 at NB ⊢)
      | (have NB := new_o1 hb13 hL2; generalize World.setCells _ _ 0 (pgL PB) = w14 at NB ⊢; generalize w13.heap.size = b14 at NB ⊢)
      clear hb13 hth
      have hA14 : Sh w14 b12 PA := NA.sh.below NB.below
      have hB14 := NB.sh
      have hL14 := hL12.below NB.below
      obtain ⟨bb, off, hba, hbl, q0, q1⟩ := hL14.cs.at_ n hnl
      cases hba
      rw [hkey.out, Nat.zero_add] at q0
      go_wp2
      go_quiet (first | (go_at_call 49; refine Calls.quiet_of_same (CX.out _ _ _ (hA14.drewN _))) | (go_at_call 49; refine Calls.quiet_of_same (CX.out _ _ _ (hB14.drewN _))))
      go_wp2
      refine bodyPost_ret (results_tmp4 rfl _ _ _) rfl ?_
      exact ⟨rfl, below_drewN (thn (thn (thn (thn (opened hb2 N3 P4) hb6) hb7) NA.below) NB.below) _⟩
end Go.Proofs.Ytmoognjegjeegaa
