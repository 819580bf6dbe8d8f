/- The document's Of, kinds that have a list. -/
import Derived.Test.YtakdfdnndogaiaaMar
import Derived.Deep.RegionHeld3
namespace Go.Proofs.Ytakdfdnndogaiaa
open Go.RowKit
set_option linter.unusedVariables false
set_option linter.unusedSimpArgs false
set_option maxRecDepth 100000

section
variable {w : World} {t : ByteArray} {K : Int} {q : Lf}
set_option maxHeartbeats 4000000 in
theorem rof_2_b (ht : t.size ≤ 1000000) (hK : nN (t, 0) 1 = K) (hq : sN (t, 0) 1 = q) (hs : Small ⟨kR K, rdImL (sN q 1) (nN q 1).toNat, []⟩) (hk : K = 2) (he : (rdImS (sN q 1) (nN q 1).toNat).2 = 0) (hE : (bodyM (cleanM ⟨kR K, rdImL (sN q 1) (nN q 1).toNat, []⟩)).2 ≠ 0) : Calls Try.prog 19 #[.string t] w fun e w' => (∃ v, e = .returned (.tuple #[v, .int .i64 4]) ∧ RecV w' v zM) ∧ Below w.heap.size w w' := by
  have CN : Hid (∀ w1, Calls Try.prog 32 #[.pointer (some ⟨w1.heap.size, 0, none⟩), .int .i64 1] (w1.alloc (.cells #[.string t, .int .i64 0, .int .i64 0] 63)) fun r w' => r = .returned (.int .i64 K) ∧ RfS w' w1.heap.size q ∧ Below w1.heap.size w1 w') := fun w1 => by rw [← hK, ← hq]; exact rd_start (by omega) w1
  obtain ⟨n, hn⟩ : ∃ n : Nat, nN q 1 = n := ⟨(nN q 1).toNat, by have := nN_nonneg q 1; omega⟩
  have hn2 : n ≤ 255 := by have := nN_one q; omega
  have HN : Hid ((nN q 1).toNat = n) := (by rw [hn]; rfl : (nN q 1).toNat = n)
  rw [HN.out] at hs he hE
  have C1 : Hid (∀ wx b2 b5 b4 I T, DoS w wx b2 b5 b4 (kR K) I T q → Calls Try.prog 32 #[.pointer (some ⟨b4, 0, none⟩), .int .i64 1] wx fun r w' => r = .returned (.int .i64 (n : Int)) ∧ DoS w w' b2 b5 b4 (kR K) I T (sN q 1)) := fun wx b2 b5 b4 I T h => h.num0 1 (by omega) (by omega) hn rfl
  generalize sN q 1 = q1 at *
  clear hn HN
  have CB : Hid (∀ wx v, RecV wx v ⟨kR K, rdImL q1 n, []⟩ → Calls Try.prog 11 #[v] wx fun r w' => r = .returned (.tuple #[.string (bodyM (cleanM ⟨kR K, rdImL q1 n, []⟩)).1, .int .i64 (bodyM (cleanM ⟨kR K, rdImL q1 n, []⟩)).2]) ∧ Below wx.heap.size wx w') := fun wx v h => rbody_any h hs
  generalize (bodyM (cleanM ⟨kR K, rdImL q1 n, []⟩)).1 = Z at *
  generalize (bodyM (cleanM ⟨kR K, rdImL q1 n, []⟩)).2 = E at *
  have hE' : (E != 0) = true := by simpa using hE
  clear hE
  have HZ : Hid (∀ j, j ≤ n → (rdImS q1 j).2 = 0) := fun j hj => Classical.byContradiction fun h => h (by rw [← rdImS_had h n hj]; exact he)
  clear he
  have e1 : (K == 1) = false := by rw [hk]; rfl
  have e2 : (K == 2) = true := by rw [hk]; rfl
  clear hk hs hK hq
  go_enter Try.func19, Try.ntmps19
  go_wp2_with (first
    | (have := N1; refine wpList_new_rc _ rfl rfl ?_; intro w4 b5 N2)
    | (refine wpList_new_rc _ rfl rfl ?_; intro w1 b2 N1)
    | (have := H; go_at_call 32; refine (C1.out _ _ _ _ _ _ H).mono ?_; clear H this C1; rintro e w6 ⟨rfl, H⟩; clear k0)
    | (go_at_call 32; refine (CN.out _).mono ?_; clear CN; rintro e w3 ⟨rfl, hr, hb⟩)
    | (refine wpList_at (Op.store 25 (.tmp 5) (.tmp 19)) rfl ?_; refine wpList_put_rc (s' := kR K) (I' := nilV) (T' := nilV) _ rfl (.tmp 5) (.tmp 19) rfl rfl rfl N2.rc rfl rfl ?_; intro w5 P5; have H := DoS.start N1 hr hb N2 P5; have l1 := N1.rc.lt; have l2 := hr.lt; have l3 := N2.eq; have hb4 : w1.heap.size < b5 := (by omega); have hb2 : b2 < b5 := (by omega); clear N1 hr hb N2 P5 this l1 l2 l3; generalize w1.heap.size = b4 at *; have k0 := H.c.c0; dsimp only [kR] at k0))
  go_loopw [7] (fun iv wr => ∃ (j : Nat) (a : Option Addr) (c : Nat), j ≤ n ∧ iv = .int .i64 (j : Int) ∧ DoS w wr b2 b5 b4 (kR K) (.slice a j c) nilV (rdImS q1 j) ∧ Own 44 (b5 + 1) wr a c (encI (rdImL q1 j))) (fun iv _ => n - (intOf iv).toNat)
  case atStart => exact ⟨0, none, 0, Nat.zero_le _, rfl, H, Own.nil _ _ _⟩
  case round =>
    clear H
    obtain ⟨j, a, c, hj, rfl, H, hO⟩ := hrel
    have hz := HZ.out j hj
    by_cases hlt : j < n
    · have hi2 : (j : Int) < (n : Int) := by omega
      clear CB
      have HS : Hid (encI (rdImL q1 (j + 1)) = encI (rdImL q1 j) ++ [(.int .i64 (rdImF q1 j).1, .string (rdImF q1 j).2)]) := (by rw [rdImL_succ, encI_append]; rfl : encI (rdImL q1 (j + 1)) = encI (rdImL q1 j) ++ [(.int .i64 (rdImF q1 j).1, .string (rdImF q1 j).2)])
      have HQ : Hid (rdImS q1 (j + 1) = sT (sN (rdImS q1 j) 2) 224) := (rfl : rdImS q1 (j + 1) = sT (sN (rdImS q1 j) 2) 224)
      have HF : Hid (rdImF q1 j = (nN (rdImS q1 j) 2, tT (sN (rdImS q1 j) 2) 224)) := (rfl : rdImF q1 j = (nN (rdImS q1 j) 2, tT (sN (rdImS q1 j) 2) 224))
      have HL : Hid (j = (encI (rdImL q1 j)).length) := (by rw [encI_length, rdImL_length] : j = (encI (rdImL q1 j)).length)
      clear HZ
      generalize encI (rdImL q1 j) = xs at *
      generalize rdImS q1 j = qj at *
      have k2 := H.rd.c2
      go_wp2_with (go_at_call 32; refine (H.numo _ (by omega) (by omega)).mono ?_; clear H k2; rintro e w2 ⟨rfl, H1, o1⟩; have O1 := hO.off o1 (show b4 < b5 + 1 by omega); clear hO o1)
      have H2 := H1.below ((Below.refl _ _).drew)
      have O2 := O1.below ((Below.refl _ _).drew)
      clear H1 O1
      have k9 := H2.c.c9
      refine wp_region_held_drew (S := fun _ => True) (by kernel_rfl) trivial (fun hHeld => ?_)
      refine wpAnyH_take (i := 0) (oi := _) (v := ?_) rfl (by kernel_rfl) (by kernel_rfl) (by kernel_rfl) (fun _ _ _ h => h) (Or.inl ⟨by rfl, ?_⟩) hHeld ?_
      rotate_left
      · (intro w hSw; (try dsimp only at hSw); go_simp; (try with_reducible rfl))
      try simp only [Act.put, List.setIfInBounds_toArray, List.set_cons_zero, List.set_cons_succ, List.getElem_toArray, List.getElem_cons_succ, List.getElem_cons_zero]
      refine wpAnyH_take (i := 2) (oi := _) (v := ?_) rfl (by kernel_rfl) (by kernel_rfl) (by kernel_rfl) (fun _ _ _ h => h) (Or.inl ⟨by rfl, ?_⟩) hHeld ?_
      rotate_left
      · (intro w hSw; (try dsimp only at hSw); go_simp; (try with_reducible rfl))
      try simp only [Act.put, List.setIfInBounds_toArray, List.set_cons_zero, List.set_cons_succ, List.getElem_toArray, List.getElem_cons_succ, List.getElem_cons_zero]
      refine wpAnyH_take (i := 3) (oi := _) (v := ?_) rfl (by kernel_rfl) (by kernel_rfl) (by kernel_rfl) (fun _ _ _ h => h) (Or.inl ⟨by rfl, ?_⟩) hHeld ?_
      rotate_left
      · (intro w hSw; (try dsimp only at hSw); go_simp; (try with_reducible rfl))
      try simp only [Act.put, List.setIfInBounds_toArray, List.set_cons_zero, List.set_cons_succ, List.getElem_toArray, List.getElem_cons_succ, List.getElem_cons_zero]
      refine wpAnyH_ready (rs := [1, 4]) (by kernel_rfl) (by simp) ?_
      refine AllReadyH.cons (o := _) rfl (fun KK hK => ?_) ?_
      · skip
        go_simp
        refine hK.out _ _ trivial (fun hHeld => ?_)
        clear hK KK
        try simp only [Act.put, List.setIfInBounds_toArray, List.set_cons_zero, List.set_cons_succ, List.getElem_toArray, List.getElem_cons_succ, List.getElem_cons_zero]
        refine wpAnyH_ready (rs := [4]) (by kernel_rfl) (by simp) ?_
        refine AllReadyH.cons (o := _) rfl (fun KK hK => ?_) AllReadyH.nil
        go_simp
        refine (H2.text _).mono ?_
        rintro e w3 ⟨rfl, H3, o3⟩
        go_wp2_with fail
        refine hK.out _ _ trivial (fun hHeld => ?_)
        clear hK KK
        try simp only [Act.put, List.setIfInBounds_toArray, List.set_cons_zero, List.set_cons_succ, List.getElem_toArray, List.getElem_cons_succ, List.getElem_cons_zero]
        have O3 := O2.off o3 (show b4 < b5 + 1 by omega)
        have k9 := H3.c.c9
        refine wpAnyH_take (i := 5) (oi := _) (v := ?_) rfl (by kernel_rfl) (by kernel_rfl) (by kernel_rfl) (fun _ _ _ h => h) (Or.inl ⟨by rfl, ?_⟩) hHeld ?_
        rotate_left
        · (intro w hSw; (try dsimp only at hSw); go_simp; (try with_reducible rfl))
        try simp only [Act.put, List.setIfInBounds_toArray, List.set_cons_zero, List.set_cons_succ, List.getElem_toArray, List.getElem_cons_succ, List.getElem_cons_zero]
        refine wpAnyH_ready (rs := [6]) (by kernel_rfl) (by simp) ?_
        refine AllReadyH.cons (o := _) rfl (fun KK hK => ?_) AllReadyH.nil
        go_simp
        refine hK.out _ _ trivial (fun hHeld => ?_)
        clear hK KK
        try simp only [Act.put, List.setIfInBounds_toArray, List.set_cons_zero, List.set_cons_succ, List.getElem_toArray, List.getElem_cons_succ, List.getElem_cons_zero]
        have BA : Below w3.heap.size w3 (w3.alloc (.cells #[.int .i64 (nN qj 2), .string (tT (sN qj 2) 224)] 44)) := (Below.refl _ _).alloc (Nat.le_refl _) _
        have H4 := H3.below BA
        have O4 := O3.below BA
        have hz4 : b5 + 1 ≤ (w3.alloc (.cells #[.int .i64 (nN qj 2), .string (tT (sN qj 2) 224)] 44)).heap.size := H4.c.lt
        have k9 := H4.c.c9
        refine wpAnyH_ready (rs := [7]) (by kernel_rfl) (by simp) ?_
        refine AllReadyH.cons (o := _) rfl (fun KK hK => ?_) AllReadyH.nil
        rw [if_pos (by rfl)]
        refine wp_append_own two_im (B := b5 + 1) (.tmp 42) (.tmp 47) rfl rfl HL.out O4 hz4 rfl (m := 1) (news := [(.int .i64 (nN qj 2), .string (tT (sN qj 2) 224))]) rfl (fun e => by cases e) (cs_one w3 (.int .i64 (nN qj 2), .string (tT (sN qj 2) 224)) 44) (fun p hp => by simp at hp; subst hp; exact ⟨rfl, rfl⟩) (by omega) ?_
        intro a5 c5 w5 O5 B5
        have H5 := H4.bel' B5 (by omega) (by omega) (by omega) (by have := H4.l5; omega)
        refine hK.out _ _ trivial (fun hHeld => ?_)
        clear hK KK
        try simp only [Act.put, List.setIfInBounds_toArray, List.set_cons_zero, List.set_cons_succ, List.getElem_toArray, List.getElem_cons_succ, List.getElem_cons_zero]
        refine wpAnyH_take (i := 8) (oi := _) (v := ?_) rfl (by kernel_rfl) (by kernel_rfl) (by kernel_rfl) (fun _ _ _ h => h) (Or.inl ⟨by rfl, ?_⟩) hHeld ?_
        rotate_left
        · (intro w hSw; (try dsimp only at hSw); go_simp; (try with_reducible rfl))
        try simp only [Act.put, List.setIfInBounds_toArray, List.set_cons_zero, List.set_cons_succ, List.getElem_toArray, List.getElem_cons_succ, List.getElem_cons_zero]
        refine wpAnyH_ready (rs := [9]) (by kernel_rfl) (by simp) ?_
        refine AllReadyH.cons (o := _) rfl (fun KK hK => ?_) AllReadyH.nil
        rw [if_pos (by rfl)]
        refine wp_fput (s' := kR K) (I' := .slice a5 (j + 1) c5) (T' := nilV) _ 22 (.tmp 49) (.tmp 48) rfl rfl rfl H5.c (by omega) rfl (by kernel_rfl) rfl ?_
        intro w8 P8
        have H6 := H5.put P8
        have O6 := O5.off P8.off (Nat.lt_succ_self _)
        refine hK.out _ _ trivial (fun hHeld => ?_)
        clear hK KK
        try simp only [Act.put, List.setIfInBounds_toArray, List.set_cons_zero, List.set_cons_succ, List.getElem_toArray, List.getElem_cons_succ, List.getElem_cons_zero]
        refine wpAnyH_done (by kernel_rfl) ?_ _
        go_wp2
        go_roundw
        case rel =>
          refine ⟨j + 1, a5, c5, by omega, by go_num, ?_, ?_⟩
          · rw [HQ.out]; exact H6
          · rw [HS.out, HF.out]; exact O6
        case measure => simp [intOf]; omega
      · refine AllReadyH.cons (o := _) rfl (fun KK hK => ?_) AllReadyH.nil
        go_simp
        refine (H2.text _).mono ?_
        rintro e w3 ⟨rfl, H3, o3⟩
        go_wp2_with fail
        refine hK.out _ _ trivial (fun hHeld => ?_)
        clear hK KK
        try simp only [Act.put, List.setIfInBounds_toArray, List.set_cons_zero, List.set_cons_succ, List.getElem_toArray, List.getElem_cons_succ, List.getElem_cons_zero]
        have O3 := O2.off o3 (show b4 < b5 + 1 by omega)
        have k9 := H3.c.c9
        refine wpAnyH_take (i := 5) (oi := _) (v := ?_) rfl (by kernel_rfl) (by kernel_rfl) (by kernel_rfl) (fun _ _ _ h => h) (Or.inl ⟨by rfl, ?_⟩) hHeld ?_
        rotate_left
        · (intro w hSw; (try dsimp only at hSw); go_simp; (try with_reducible rfl))
        try simp only [Act.put, List.setIfInBounds_toArray, List.set_cons_zero, List.set_cons_succ, List.getElem_toArray, List.getElem_cons_succ, List.getElem_cons_zero]
        refine wpAnyH_ready (rs := [1, 6]) (by kernel_rfl) (by simp) ?_
        refine AllReadyH.cons (o := _) rfl (fun KK hK => ?_) ?_
        · skip
          go_simp
          refine hK.out _ _ trivial (fun hHeld => ?_)
          clear hK KK
          try simp only [Act.put, List.setIfInBounds_toArray, List.set_cons_zero, List.set_cons_succ, List.getElem_toArray, List.getElem_cons_succ, List.getElem_cons_zero]
          refine wpAnyH_ready (rs := [6]) (by kernel_rfl) (by simp) ?_
          refine AllReadyH.cons (o := _) rfl (fun KK hK => ?_) AllReadyH.nil
          go_simp
          refine hK.out _ _ trivial (fun hHeld => ?_)
          clear hK KK
          try simp only [Act.put, List.setIfInBounds_toArray, List.set_cons_zero, List.set_cons_succ, List.getElem_toArray, List.getElem_cons_succ, List.getElem_cons_zero]
          have BA : Below w3.heap.size w3 (w3.alloc (.cells #[.int .i64 (nN qj 2), .string (tT (sN qj 2) 224)] 44)) := (Below.refl _ _).alloc (Nat.le_refl _) _
          have H4 := H3.below BA
          have O4 := O3.below BA
          have hz4 : b5 + 1 ≤ (w3.alloc (.cells #[.int .i64 (nN qj 2), .string (tT (sN qj 2) 224)] 44)).heap.size := H4.c.lt
          have k9 := H4.c.c9
          refine wpAnyH_ready (rs := [7]) (by kernel_rfl) (by simp) ?_
          refine AllReadyH.cons (o := _) rfl (fun KK hK => ?_) AllReadyH.nil
          rw [if_pos (by rfl)]
          refine wp_append_own two_im (B := b5 + 1) (.tmp 42) (.tmp 47) rfl rfl HL.out O4 hz4 rfl (m := 1) (news := [(.int .i64 (nN qj 2), .string (tT (sN qj 2) 224))]) rfl (fun e => by cases e) (cs_one w3 (.int .i64 (nN qj 2), .string (tT (sN qj 2) 224)) 44) (fun p hp => by simp at hp; subst hp; exact ⟨rfl, rfl⟩) (by omega) ?_
          intro a5 c5 w5 O5 B5
          have H5 := H4.bel' B5 (by omega) (by omega) (by omega) (by have := H4.l5; omega)
          refine hK.out _ _ trivial (fun hHeld => ?_)
          clear hK KK
          try simp only [Act.put, List.setIfInBounds_toArray, List.set_cons_zero, List.set_cons_succ, List.getElem_toArray, List.getElem_cons_succ, List.getElem_cons_zero]
          refine wpAnyH_take (i := 8) (oi := _) (v := ?_) rfl (by kernel_rfl) (by kernel_rfl) (by kernel_rfl) (fun _ _ _ h => h) (Or.inl ⟨by rfl, ?_⟩) hHeld ?_
          rotate_left
          · (intro w hSw; (try dsimp only at hSw); go_simp; (try with_reducible rfl))
          try simp only [Act.put, List.setIfInBounds_toArray, List.set_cons_zero, List.set_cons_succ, List.getElem_toArray, List.getElem_cons_succ, List.getElem_cons_zero]
          refine wpAnyH_ready (rs := [9]) (by kernel_rfl) (by simp) ?_
          refine AllReadyH.cons (o := _) rfl (fun KK hK => ?_) AllReadyH.nil
          rw [if_pos (by rfl)]
          refine wp_fput (s' := kR K) (I' := .slice a5 (j + 1) c5) (T' := nilV) _ 22 (.tmp 49) (.tmp 48) rfl rfl rfl H5.c (by omega) rfl (by kernel_rfl) rfl ?_
          intro w8 P8
          have H6 := H5.put P8
          have O6 := O5.off P8.off (Nat.lt_succ_self _)
          refine hK.out _ _ trivial (fun hHeld => ?_)
          clear hK KK
          try simp only [Act.put, List.setIfInBounds_toArray, List.set_cons_zero, List.set_cons_succ, List.getElem_toArray, List.getElem_cons_succ, List.getElem_cons_zero]
          refine wpAnyH_done (by kernel_rfl) ?_ _
          go_wp2
          go_roundw
          case rel =>
            refine ⟨j + 1, a5, c5, by omega, by go_num, ?_, ?_⟩
            · rw [HQ.out]; exact H6
            · rw [HS.out, HF.out]; exact O6
          case measure => simp [intOf]; omega
        · refine AllReadyH.cons (o := _) rfl (fun KK hK => ?_) AllReadyH.nil
          go_simp
          refine hK.out _ _ trivial (fun hHeld => ?_)
          clear hK KK
          try simp only [Act.put, List.setIfInBounds_toArray, List.set_cons_zero, List.set_cons_succ, List.getElem_toArray, List.getElem_cons_succ, List.getElem_cons_zero]
          have BA : Below w3.heap.size w3 (w3.alloc (.cells #[.int .i64 (nN qj 2), .string (tT (sN qj 2) 224)] 44)) := (Below.refl _ _).alloc (Nat.le_refl _) _
          have H4 := H3.below BA
          have O4 := O3.below BA
          have hz4 : b5 + 1 ≤ (w3.alloc (.cells #[.int .i64 (nN qj 2), .string (tT (sN qj 2) 224)] 44)).heap.size := H4.c.lt
          have k9 := H4.c.c9
          refine wpAnyH_ready (rs := [1]) (by kernel_rfl) (by simp) ?_
          refine AllReadyH.cons (o := _) rfl (fun KK hK => ?_) AllReadyH.nil
          go_simp
          refine hK.out _ _ trivial (fun hHeld => ?_)
          clear hK KK
          try simp only [Act.put, List.setIfInBounds_toArray, List.set_cons_zero, List.set_cons_succ, List.getElem_toArray, List.getElem_cons_succ, List.getElem_cons_zero]
          refine wpAnyH_ready (rs := [7]) (by kernel_rfl) (by simp) ?_
          refine AllReadyH.cons (o := _) rfl (fun KK hK => ?_) AllReadyH.nil
          rw [if_pos (by rfl)]
          refine wp_append_own two_im (B := b5 + 1) (.tmp 42) (.tmp 47) rfl rfl HL.out O4 hz4 rfl (m := 1) (news := [(.int .i64 (nN qj 2), .string (tT (sN qj 2) 224))]) rfl (fun e => by cases e) (cs_one w3 (.int .i64 (nN qj 2), .string (tT (sN qj 2) 224)) 44) (fun p hp => by simp at hp; subst hp; exact ⟨rfl, rfl⟩) (by omega) ?_
          intro a5 c5 w5 O5 B5
          have H5 := H4.bel' B5 (by omega) (by omega) (by omega) (by have := H4.l5; omega)
          refine hK.out _ _ trivial (fun hHeld => ?_)
          clear hK KK
          try simp only [Act.put, List.setIfInBounds_toArray, List.set_cons_zero, List.set_cons_succ, List.getElem_toArray, List.getElem_cons_succ, List.getElem_cons_zero]
          refine wpAnyH_take (i := 8) (oi := _) (v := ?_) rfl (by kernel_rfl) (by kernel_rfl) (by kernel_rfl) (fun _ _ _ h => h) (Or.inl ⟨by rfl, ?_⟩) hHeld ?_
          rotate_left
          · (intro w hSw; (try dsimp only at hSw); go_simp; (try with_reducible rfl))
          try simp only [Act.put, List.setIfInBounds_toArray, List.set_cons_zero, List.set_cons_succ, List.getElem_toArray, List.getElem_cons_succ, List.getElem_cons_zero]
          refine wpAnyH_ready (rs := [9]) (by kernel_rfl) (by simp) ?_
          refine AllReadyH.cons (o := _) rfl (fun KK hK => ?_) AllReadyH.nil
          rw [if_pos (by rfl)]
          refine wp_fput (s' := kR K) (I' := .slice a5 (j + 1) c5) (T' := nilV) _ 22 (.tmp 49) (.tmp 48) rfl rfl rfl H5.c (by omega) rfl (by kernel_rfl) rfl ?_
          intro w8 P8
          have H6 := H5.put P8
          have O6 := O5.off P8.off (Nat.lt_succ_self _)
          refine hK.out _ _ trivial (fun hHeld => ?_)
          clear hK KK
          try simp only [Act.put, List.setIfInBounds_toArray, List.set_cons_zero, List.set_cons_succ, List.getElem_toArray, List.getElem_cons_succ, List.getElem_cons_zero]
          refine wpAnyH_done (by kernel_rfl) ?_ _
          go_wp2
          go_roundw
          case rel =>
            refine ⟨j + 1, a5, c5, by omega, by go_num, ?_, ?_⟩
            · rw [HQ.out]; exact H6
            · rw [HS.out, HF.out]; exact O6
          case measure => simp [intOf]; omega
    · have hjn : j = n := by omega
      subst hjn
      have hi2 : ¬ (j : Int) < (j : Int) := by omega
      have FR := hO.fr
      rw [encI_length, rdImL_length] at FR
      have k2 := H.rd.c2
      rw [hz] at k2
      have RV : RecV wr (.agg ((kR K).A (.slice a j c) nilV)) ⟨kR K, rdImL q1 j, []⟩ := ⟨_, _, rfl, FR.slI, SlT.nil _⟩
      clear HZ hz hO
      go_wp2_with (first
        | (refine wpList_load_rc _ rfl (.tmp 5) rfl rfl H.c ?_)
        | (go_at_call 11; refine (CB.out _ _ RV).mono ?_; clear CB; rintro e w8 ⟨rfl, b8⟩; have H1 := H.below b8; clear H; have H := H1; clear H1; have RV1 := RV.below b8; clear RV; have RV := RV1; clear RV1)
        | (refine wpList_at (Op.store 25 (.tmp 2) (.tmp 150)) rfl ?_; refine wpList_put_rc (s' := zS) (I' := nilV) (T' := nilV) _ rfl (.tmp 2) (.tmp 150) rfl rfl rfl H.r rfl rfl ?_; intro w9 P9))
      refine bodyPost_ret (results_rc2 rfl _ _ rfl P9.rc) rfl ?_
      exact ⟨⟨_, rfl, ⟨nilV, nilV, rfl, SlI.nil _, SlT.nil _⟩⟩, H.bel.trans (P9.below H.l2 H.bel.size)⟩
set_option maxHeartbeats 4000000 in
theorem rof_2_z (ht : t.size ≤ 1000000) (hK : nN (t, 0) 1 = K) (hq : sN (t, 0) 1 = q) (hs : Small ⟨kR K, rdImL (sN q 1) (nN q 1).toNat, []⟩) (hk : K = 2) (he : (rdImS (sN q 1) (nN q 1).toNat).2 = 0) (hE : (bodyM (cleanM ⟨kR K, rdImL (sN q 1) (nN q 1).toNat, []⟩)).2 = 0) (hZ : (bodyM (cleanM ⟨kR K, rdImL (sN q 1) (nN q 1).toNat, []⟩)).1 ≠ t) : Calls Try.prog 19 #[.string t] w fun e w' => (∃ v, e = .returned (.tuple #[v, .int .i64 4]) ∧ RecV w' v zM) ∧ Below w.heap.size w w' := by
  have CN : Hid (∀ w1, Calls Try.prog 32 #[.pointer (some ⟨w1.heap.size, 0, none⟩), .int .i64 1] (w1.alloc (.cells #[.string t, .int .i64 0, .int .i64 0] 63)) fun r w' => r = .returned (.int .i64 K) ∧ RfS w' w1.heap.size q ∧ Below w1.heap.size w1 w') := fun w1 => by rw [← hK, ← hq]; exact rd_start (by omega) w1
  obtain ⟨n, hn⟩ : ∃ n : Nat, nN q 1 = n := ⟨(nN q 1).toNat, by have := nN_nonneg q 1; omega⟩
  have hn2 : n ≤ 255 := by have := nN_one q; omega
  have HN : Hid ((nN q 1).toNat = n) := (by rw [hn]; rfl : (nN q 1).toNat = n)
  rw [HN.out] at hs he hE hZ
  have C1 : Hid (∀ wx b2 b5 b4 I T, DoS w wx b2 b5 b4 (kR K) I T q → Calls Try.prog 32 #[.pointer (some ⟨b4, 0, none⟩), .int .i64 1] wx fun r w' => r = .returned (.int .i64 (n : Int)) ∧ DoS w w' b2 b5 b4 (kR K) I T (sN q 1)) := fun wx b2 b5 b4 I T h => h.num0 1 (by omega) (by omega) hn rfl
  generalize sN q 1 = q1 at *
  clear hn HN
  have CB : Hid (∀ wx v, RecV wx v ⟨kR K, rdImL q1 n, []⟩ → Calls Try.prog 11 #[v] wx fun r w' => r = .returned (.tuple #[.string (bodyM (cleanM ⟨kR K, rdImL q1 n, []⟩)).1, .int .i64 (bodyM (cleanM ⟨kR K, rdImL q1 n, []⟩)).2]) ∧ Below wx.heap.size wx w') := fun wx v h => rbody_any h hs
  rw [hE] at CB
  generalize (bodyM (cleanM ⟨kR K, rdImL q1 n, []⟩)).1 = Z at *
  have hZ' : (Z.toList == t.toList) = false := toList_ne hZ
  clear hZ
  clear hE
  have HZ : Hid (∀ j, j ≤ n → (rdImS q1 j).2 = 0) := fun j hj => Classical.byContradiction fun h => h (by rw [← rdImS_had h n hj]; exact he)
  clear he
  have e1 : (K == 1) = false := by rw [hk]; rfl
  have e2 : (K == 2) = true := by rw [hk]; rfl
  clear hk hs hK hq
  go_enter Try.func19, Try.ntmps19
  go_wp2_with (first
    | (have := N1; refine wpList_new_rc _ rfl rfl ?_; intro w4 b5 N2)
    | (refine wpList_new_rc _ rfl rfl ?_; intro w1 b2 N1)
    | (have := H; go_at_call 32; refine (C1.out _ _ _ _ _ _ H).mono ?_; clear H this C1; rintro e w6 ⟨rfl, H⟩; clear k0)
    | (go_at_call 32; refine (CN.out _).mono ?_; clear CN; rintro e w3 ⟨rfl, hr, hb⟩)
    | (refine wpList_at (Op.store 25 (.tmp 5) (.tmp 19)) rfl ?_; refine wpList_put_rc (s' := kR K) (I' := nilV) (T' := nilV) _ rfl (.tmp 5) (.tmp 19) rfl rfl rfl N2.rc rfl rfl ?_; intro w5 P5; have H := DoS.start N1 hr hb N2 P5; have l1 := N1.rc.lt; have l2 := hr.lt; have l3 := N2.eq; have hb4 : w1.heap.size < b5 := (by omega); have hb2 : b2 < b5 := (by omega); clear N1 hr hb N2 P5 this l1 l2 l3; generalize w1.heap.size = b4 at *; have k0 := H.c.c0; dsimp only [kR] at k0))
  go_loopw [7] (fun iv wr => ∃ (j : Nat) (a : Option Addr) (c : Nat), j ≤ n ∧ iv = .int .i64 (j : Int) ∧ DoS w wr b2 b5 b4 (kR K) (.slice a j c) nilV (rdImS q1 j) ∧ Own 44 (b5 + 1) wr a c (encI (rdImL q1 j))) (fun iv _ => n - (intOf iv).toNat)
  case atStart => exact ⟨0, none, 0, Nat.zero_le _, rfl, H, Own.nil _ _ _⟩
  case round =>
    clear H
    obtain ⟨j, a, c, hj, rfl, H, hO⟩ := hrel
    have hz := HZ.out j hj
    by_cases hlt : j < n
    · have hi2 : (j : Int) < (n : Int) := by omega
      clear CB
      have HS : Hid (encI (rdImL q1 (j + 1)) = encI (rdImL q1 j) ++ [(.int .i64 (rdImF q1 j).1, .string (rdImF q1 j).2)]) := (by rw [rdImL_succ, encI_append]; rfl : encI (rdImL q1 (j + 1)) = encI (rdImL q1 j) ++ [(.int .i64 (rdImF q1 j).1, .string (rdImF q1 j).2)])
      have HQ : Hid (rdImS q1 (j + 1) = sT (sN (rdImS q1 j) 2) 224) := (rfl : rdImS q1 (j + 1) = sT (sN (rdImS q1 j) 2) 224)
      have HF : Hid (rdImF q1 j = (nN (rdImS q1 j) 2, tT (sN (rdImS q1 j) 2) 224)) := (rfl : rdImF q1 j = (nN (rdImS q1 j) 2, tT (sN (rdImS q1 j) 2) 224))
      have HL : Hid (j = (encI (rdImL q1 j)).length) := (by rw [encI_length, rdImL_length] : j = (encI (rdImL q1 j)).length)
      clear HZ
      generalize encI (rdImL q1 j) = xs at *
      generalize rdImS q1 j = qj at *
      have k2 := H.rd.c2
      go_wp2_with (go_at_call 32; refine (H.numo _ (by omega) (by omega)).mono ?_; clear H k2; rintro e w2 ⟨rfl, H1, o1⟩; have O1 := hO.off o1 (show b4 < b5 + 1 by omega); clear hO o1)
      have H2 := H1.below ((Below.refl _ _).drew)
      have O2 := O1.below ((Below.refl _ _).drew)
      clear H1 O1
      have k9 := H2.c.c9
      refine wp_region_held_drew (S := fun _ => True) (by kernel_rfl) trivial (fun hHeld => ?_)
      refine wpAnyH_take (i := 0) (oi := _) (v := ?_) rfl (by kernel_rfl) (by kernel_rfl) (by kernel_rfl) (fun _ _ _ h => h) (Or.inl ⟨by rfl, ?_⟩) hHeld ?_
      rotate_left
      · (intro w hSw; (try dsimp only at hSw); go_simp; (try with_reducible rfl))
      try simp only [Act.put, List.setIfInBounds_toArray, List.set_cons_zero, List.set_cons_succ, List.getElem_toArray, List.getElem_cons_succ, List.getElem_cons_zero]
      refine wpAnyH_take (i := 2) (oi := _) (v := ?_) rfl (by kernel_rfl) (by kernel_rfl) (by kernel_rfl) (fun _ _ _ h => h) (Or.inl ⟨by rfl, ?_⟩) hHeld ?_
      rotate_left
      · (intro w hSw; (try dsimp only at hSw); go_simp; (try with_reducible rfl))
      try simp only [Act.put, List.setIfInBounds_toArray, List.set_cons_zero, List.set_cons_succ, List.getElem_toArray, List.getElem_cons_succ, List.getElem_cons_zero]
      refine wpAnyH_take (i := 3) (oi := _) (v := ?_) rfl (by kernel_rfl) (by kernel_rfl) (by kernel_rfl) (fun _ _ _ h => h) (Or.inl ⟨by rfl, ?_⟩) hHeld ?_
      rotate_left
      · (intro w hSw; (try dsimp only at hSw); go_simp; (try with_reducible rfl))
      try simp only [Act.put, List.setIfInBounds_toArray, List.set_cons_zero, List.set_cons_succ, List.getElem_toArray, List.getElem_cons_succ, List.getElem_cons_zero]
      refine wpAnyH_ready (rs := [1, 4]) (by kernel_rfl) (by simp) ?_
      refine AllReadyH.cons (o := _) rfl (fun KK hK => ?_) ?_
      · skip
        go_simp
        refine hK.out _ _ trivial (fun hHeld => ?_)
        clear hK KK
        try simp only [Act.put, List.setIfInBounds_toArray, List.set_cons_zero, List.set_cons_succ, List.getElem_toArray, List.getElem_cons_succ, List.getElem_cons_zero]
        refine wpAnyH_ready (rs := [4]) (by kernel_rfl) (by simp) ?_
        refine AllReadyH.cons (o := _) rfl (fun KK hK => ?_) AllReadyH.nil
        go_simp
        refine (H2.text _).mono ?_
        rintro e w3 ⟨rfl, H3, o3⟩
        go_wp2_with fail
        refine hK.out _ _ trivial (fun hHeld => ?_)
        clear hK KK
        try simp only [Act.put, List.setIfInBounds_toArray, List.set_cons_zero, List.set_cons_succ, List.getElem_toArray, List.getElem_cons_succ, List.getElem_cons_zero]
        have O3 := O2.off o3 (show b4 < b5 + 1 by omega)
        have k9 := H3.c.c9
        refine wpAnyH_take (i := 5) (oi := _) (v := ?_) rfl (by kernel_rfl) (by kernel_rfl) (by kernel_rfl) (fun _ _ _ h => h) (Or.inl ⟨by rfl, ?_⟩) hHeld ?_
        rotate_left
        · (intro w hSw; (try dsimp only at hSw); go_simp; (try with_reducible rfl))
        try simp only [Act.put, List.setIfInBounds_toArray, List.set_cons_zero, List.set_cons_succ, List.getElem_toArray, List.getElem_cons_succ, List.getElem_cons_zero]
        refine wpAnyH_ready (rs := [6]) (by kernel_rfl) (by simp) ?_
        refine AllReadyH.cons (o := _) rfl (fun KK hK => ?_) AllReadyH.nil
        go_simp
        refine hK.out _ _ trivial (fun hHeld => ?_)
        clear hK KK
        try simp only [Act.put, List.setIfInBounds_toArray, List.set_cons_zero, List.set_cons_succ, List.getElem_toArray, List.getElem_cons_succ, List.getElem_cons_zero]
        have BA : Below w3.heap.size w3 (w3.alloc (.cells #[.int .i64 (nN qj 2), .string (tT (sN qj 2) 224)] 44)) := (Below.refl _ _).alloc (Nat.le_refl _) _
        have H4 := H3.below BA
        have O4 := O3.below BA
        have hz4 : b5 + 1 ≤ (w3.alloc (.cells #[.int .i64 (nN qj 2), .string (tT (sN qj 2) 224)] 44)).heap.size := H4.c.lt
        have k9 := H4.c.c9
        refine wpAnyH_ready (rs := [7]) (by kernel_rfl) (by simp) ?_
        refine AllReadyH.cons (o := _) rfl (fun KK hK => ?_) AllReadyH.nil
        rw [if_pos (by rfl)]
        refine wp_append_own two_im (B := b5 + 1) (.tmp 42) (.tmp 47) rfl rfl HL.out O4 hz4 rfl (m := 1) (news := [(.int .i64 (nN qj 2), .string (tT (sN qj 2) 224))]) rfl (fun e => by cases e) (cs_one w3 (.int .i64 (nN qj 2), .string (tT (sN qj 2) 224)) 44) (fun p hp => by simp at hp; subst hp; exact ⟨rfl, rfl⟩) (by omega) ?_
        intro a5 c5 w5 O5 B5
        have H5 := H4.bel' B5 (by omega) (by omega) (by omega) (by have := H4.l5; omega)
        refine hK.out _ _ trivial (fun hHeld => ?_)
        clear hK KK
        try simp only [Act.put, List.setIfInBounds_toArray, List.set_cons_zero, List.set_cons_succ, List.getElem_toArray, List.getElem_cons_succ, List.getElem_cons_zero]
        refine wpAnyH_take (i := 8) (oi := _) (v := ?_) rfl (by kernel_rfl) (by kernel_rfl) (by kernel_rfl) (fun _ _ _ h => h) (Or.inl ⟨by rfl, ?_⟩) hHeld ?_
        rotate_left
        · (intro w hSw; (try dsimp only at hSw); go_simp; (try with_reducible rfl))
        try simp only [Act.put, List.setIfInBounds_toArray, List.set_cons_zero, List.set_cons_succ, List.getElem_toArray, List.getElem_cons_succ, List.getElem_cons_zero]
        refine wpAnyH_ready (rs := [9]) (by kernel_rfl) (by simp) ?_
        refine AllReadyH.cons (o := _) rfl (fun KK hK => ?_) AllReadyH.nil
        rw [if_pos (by rfl)]
        refine wp_fput (s' := kR K) (I' := .slice a5 (j + 1) c5) (T' := nilV) _ 22 (.tmp 49) (.tmp 48) rfl rfl rfl H5.c (by omega) rfl (by kernel_rfl) rfl ?_
        intro w8 P8
        have H6 := H5.put P8
        have O6 := O5.off P8.off (Nat.lt_succ_self _)
        refine hK.out _ _ trivial (fun hHeld => ?_)
        clear hK KK
        try simp only [Act.put, List.setIfInBounds_toArray, List.set_cons_zero, List.set_cons_succ, List.getElem_toArray, List.getElem_cons_succ, List.getElem_cons_zero]
        refine wpAnyH_done (by kernel_rfl) ?_ _
        go_wp2
        go_roundw
        case rel =>
          refine ⟨j + 1, a5, c5, by omega, by go_num, ?_, ?_⟩
          · rw [HQ.out]; exact H6
          · rw [HS.out, HF.out]; exact O6
        case measure => simp [intOf]; omega
      · refine AllReadyH.cons (o := _) rfl (fun KK hK => ?_) AllReadyH.nil
        go_simp
        refine (H2.text _).mono ?_
        rintro e w3 ⟨rfl, H3, o3⟩
        go_wp2_with fail
        refine hK.out _ _ trivial (fun hHeld => ?_)
        clear hK KK
        try simp only [Act.put, List.setIfInBounds_toArray, List.set_cons_zero, List.set_cons_succ, List.getElem_toArray, List.getElem_cons_succ, List.getElem_cons_zero]
        have O3 := O2.off o3 (show b4 < b5 + 1 by omega)
        have k9 := H3.c.c9
        refine wpAnyH_take (i := 5) (oi := _) (v := ?_) rfl (by kernel_rfl) (by kernel_rfl) (by kernel_rfl) (fun _ _ _ h => h) (Or.inl ⟨by rfl, ?_⟩) hHeld ?_
        rotate_left
        · (intro w hSw; (try dsimp only at hSw); go_simp; (try with_reducible rfl))
        try simp only [Act.put, List.setIfInBounds_toArray, List.set_cons_zero, List.set_cons_succ, List.getElem_toArray, List.getElem_cons_succ, List.getElem_cons_zero]
        refine wpAnyH_ready (rs := [1, 6]) (by kernel_rfl) (by simp) ?_
        refine AllReadyH.cons (o := _) rfl (fun KK hK => ?_) ?_
        · skip
          go_simp
          refine hK.out _ _ trivial (fun hHeld => ?_)
          clear hK KK
          try simp only [Act.put, List.setIfInBounds_toArray, List.set_cons_zero, List.set_cons_succ, List.getElem_toArray, List.getElem_cons_succ, List.getElem_cons_zero]
          refine wpAnyH_ready (rs := [6]) (by kernel_rfl) (by simp) ?_
          refine AllReadyH.cons (o := _) rfl (fun KK hK => ?_) AllReadyH.nil
          go_simp
          refine hK.out _ _ trivial (fun hHeld => ?_)
          clear hK KK
          try simp only [Act.put, List.setIfInBounds_toArray, List.set_cons_zero, List.set_cons_succ, List.getElem_toArray, List.getElem_cons_succ, List.getElem_cons_zero]
          have BA : Below w3.heap.size w3 (w3.alloc (.cells #[.int .i64 (nN qj 2), .string (tT (sN qj 2) 224)] 44)) := (Below.refl _ _).alloc (Nat.le_refl _) _
          have H4 := H3.below BA
          have O4 := O3.below BA
          have hz4 : b5 + 1 ≤ (w3.alloc (.cells #[.int .i64 (nN qj 2), .string (tT (sN qj 2) 224)] 44)).heap.size := H4.c.lt
          have k9 := H4.c.c9
          refine wpAnyH_ready (rs := [7]) (by kernel_rfl) (by simp) ?_
          refine AllReadyH.cons (o := _) rfl (fun KK hK => ?_) AllReadyH.nil
          rw [if_pos (by rfl)]
          refine wp_append_own two_im (B := b5 + 1) (.tmp 42) (.tmp 47) rfl rfl HL.out O4 hz4 rfl (m := 1) (news := [(.int .i64 (nN qj 2), .string (tT (sN qj 2) 224))]) rfl (fun e => by cases e) (cs_one w3 (.int .i64 (nN qj 2), .string (tT (sN qj 2) 224)) 44) (fun p hp => by simp at hp; subst hp; exact ⟨rfl, rfl⟩) (by omega) ?_
          intro a5 c5 w5 O5 B5
          have H5 := H4.bel' B5 (by omega) (by omega) (by omega) (by have := H4.l5; omega)
          refine hK.out _ _ trivial (fun hHeld => ?_)
          clear hK KK
          try simp only [Act.put, List.setIfInBounds_toArray, List.set_cons_zero, List.set_cons_succ, List.getElem_toArray, List.getElem_cons_succ, List.getElem_cons_zero]
          refine wpAnyH_take (i := 8) (oi := _) (v := ?_) rfl (by kernel_rfl) (by kernel_rfl) (by kernel_rfl) (fun _ _ _ h => h) (Or.inl ⟨by rfl, ?_⟩) hHeld ?_
          rotate_left
          · (intro w hSw; (try dsimp only at hSw); go_simp; (try with_reducible rfl))
          try simp only [Act.put, List.setIfInBounds_toArray, List.set_cons_zero, List.set_cons_succ, List.getElem_toArray, List.getElem_cons_succ, List.getElem_cons_zero]
          refine wpAnyH_ready (rs := [9]) (by kernel_rfl) (by simp) ?_
          refine AllReadyH.cons (o := _) rfl (fun KK hK => ?_) AllReadyH.nil
          rw [if_pos (by rfl)]
          refine wp_fput (s' := kR K) (I' := .slice a5 (j + 1) c5) (T' := nilV) _ 22 (.tmp 49) (.tmp 48) rfl rfl rfl H5.c (by omega) rfl (by kernel_rfl) rfl ?_
          intro w8 P8
          have H6 := H5.put P8
          have O6 := O5.off P8.off (Nat.lt_succ_self _)
          refine hK.out _ _ trivial (fun hHeld => ?_)
          clear hK KK
          try simp only [Act.put, List.setIfInBounds_toArray, List.set_cons_zero, List.set_cons_succ, List.getElem_toArray, List.getElem_cons_succ, List.getElem_cons_zero]
          refine wpAnyH_done (by kernel_rfl) ?_ _
          go_wp2
          go_roundw
          case rel =>
            refine ⟨j + 1, a5, c5, by omega, by go_num, ?_, ?_⟩
            · rw [HQ.out]; exact H6
            · rw [HS.out, HF.out]; exact O6
          case measure => simp [intOf]; omega
        · refine AllReadyH.cons (o := _) rfl (fun KK hK => ?_) AllReadyH.nil
          go_simp
          refine hK.out _ _ trivial (fun hHeld => ?_)
          clear hK KK
          try simp only [Act.put, List.setIfInBounds_toArray, List.set_cons_zero, List.set_cons_succ, List.getElem_toArray, List.getElem_cons_succ, List.getElem_cons_zero]
          have BA : Below w3.heap.size w3 (w3.alloc (.cells #[.int .i64 (nN qj 2), .string (tT (sN qj 2) 224)] 44)) := (Below.refl _ _).alloc (Nat.le_refl _) _
          have H4 := H3.below BA
          have O4 := O3.below BA
          have hz4 : b5 + 1 ≤ (w3.alloc (.cells #[.int .i64 (nN qj 2), .string (tT (sN qj 2) 224)] 44)).heap.size := H4.c.lt
          have k9 := H4.c.c9
          refine wpAnyH_ready (rs := [1]) (by kernel_rfl) (by simp) ?_
          refine AllReadyH.cons (o := _) rfl (fun KK hK => ?_) AllReadyH.nil
          go_simp
          refine hK.out _ _ trivial (fun hHeld => ?_)
          clear hK KK
          try simp only [Act.put, List.setIfInBounds_toArray, List.set_cons_zero, List.set_cons_succ, List.getElem_toArray, List.getElem_cons_succ, List.getElem_cons_zero]
          refine wpAnyH_ready (rs := [7]) (by kernel_rfl) (by simp) ?_
          refine AllReadyH.cons (o := _) rfl (fun KK hK => ?_) AllReadyH.nil
          rw [if_pos (by rfl)]
          refine wp_append_own two_im (B := b5 + 1) (.tmp 42) (.tmp 47) rfl rfl HL.out O4 hz4 rfl (m := 1) (news := [(.int .i64 (nN qj 2), .string (tT (sN qj 2) 224))]) rfl (fun e => by cases e) (cs_one w3 (.int .i64 (nN qj 2), .string (tT (sN qj 2) 224)) 44) (fun p hp => by simp at hp; subst hp; exact ⟨rfl, rfl⟩) (by omega) ?_
          intro a5 c5 w5 O5 B5
          have H5 := H4.bel' B5 (by omega) (by omega) (by omega) (by have := H4.l5; omega)
          refine hK.out _ _ trivial (fun hHeld => ?_)
          clear hK KK
          try simp only [Act.put, List.setIfInBounds_toArray, List.set_cons_zero, List.set_cons_succ, List.getElem_toArray, List.getElem_cons_succ, List.getElem_cons_zero]
          refine wpAnyH_take (i := 8) (oi := _) (v := ?_) rfl (by kernel_rfl) (by kernel_rfl) (by kernel_rfl) (fun _ _ _ h => h) (Or.inl ⟨by rfl, ?_⟩) hHeld ?_
          rotate_left
          · (intro w hSw; (try dsimp only at hSw); go_simp; (try with_reducible rfl))
          try simp only [Act.put, List.setIfInBounds_toArray, List.set_cons_zero, List.set_cons_succ, List.getElem_toArray, List.getElem_cons_succ, List.getElem_cons_zero]
          refine wpAnyH_ready (rs := [9]) (by kernel_rfl) (by simp) ?_
          refine AllReadyH.cons (o := _) rfl (fun KK hK => ?_) AllReadyH.nil
          rw [if_pos (by rfl)]
          refine wp_fput (s' := kR K) (I' := .slice a5 (j + 1) c5) (T' := nilV) _ 22 (.tmp 49) (.tmp 48) rfl rfl rfl H5.c (by omega) rfl (by kernel_rfl) rfl ?_
          intro w8 P8
          have H6 := H5.put P8
          have O6 := O5.off P8.off (Nat.lt_succ_self _)
          refine hK.out _ _ trivial (fun hHeld => ?_)
          clear hK KK
          try simp only [Act.put, List.setIfInBounds_toArray, List.set_cons_zero, List.set_cons_succ, List.getElem_toArray, List.getElem_cons_succ, List.getElem_cons_zero]
          refine wpAnyH_done (by kernel_rfl) ?_ _
          go_wp2
          go_roundw
          case rel =>
            refine ⟨j + 1, a5, c5, by omega, by go_num, ?_, ?_⟩
            · rw [HQ.out]; exact H6
            · rw [HS.out, HF.out]; exact O6
          case measure => simp [intOf]; omega
    · have hjn : j = n := by omega
      subst hjn
      have hi2 : ¬ (j : Int) < (j : Int) := by omega
      have FR := hO.fr
      rw [encI_length, rdImL_length] at FR
      have k2 := H.rd.c2
      rw [hz] at k2
      have RV : RecV wr (.agg ((kR K).A (.slice a j c) nilV)) ⟨kR K, rdImL q1 j, []⟩ := ⟨_, _, rfl, FR.slI, SlT.nil _⟩
      clear HZ hz hO
      go_wp2_with (first
        | (refine wpList_load_rc _ rfl (.tmp 5) rfl rfl H.c ?_)
        | (go_at_call 11; refine (CB.out _ _ RV).mono ?_; clear CB; rintro e w8 ⟨rfl, b8⟩; have H1 := H.below b8; clear H; have H := H1; clear H1; have RV1 := RV.below b8; clear RV; have RV := RV1; clear RV1)
        | (refine wpList_at (Op.store 25 (.tmp 2) (.tmp 150)) rfl ?_; refine wpList_put_rc (s' := zS) (I' := nilV) (T' := nilV) _ rfl (.tmp 2) (.tmp 150) rfl rfl rfl H.r rfl rfl ?_; intro w9 P9))
      refine bodyPost_ret (results_rc2 rfl _ _ rfl P9.rc) rfl ?_
      exact ⟨⟨_, rfl, ⟨nilV, nilV, rfl, SlI.nil _, SlT.nil _⟩⟩, H.bel.trans (P9.below H.l2 H.bel.size)⟩
set_option maxHeartbeats 4000000 in
theorem rof_9_e (ht : t.size ≤ 1000000) (hK : nN (t, 0) 1 = K) (hq : sN (t, 0) 1 = q) (hk : K = 9) (he : (rdTbS (sN q 1) (nN q 1).toNat).2 ≠ 0) : Calls Try.prog 19 #[.string t] w fun e w' => (∃ v, e = .returned (.tuple #[v, .int .i64 (rdTbS (sN q 1) (nN q 1).toNat).2]) ∧ RecV w' v zM) ∧ Below w.heap.size w w' := by
  have CN : Hid (∀ w1, Calls Try.prog 32 #[.pointer (some ⟨w1.heap.size, 0, none⟩), .int .i64 1] (w1.alloc (.cells #[.string t, .int .i64 0, .int .i64 0] 63)) fun r w' => r = .returned (.int .i64 K) ∧ RfS w' w1.heap.size q ∧ Below w1.heap.size w1 w') := fun w1 => by rw [← hK, ← hq]; exact rd_start (by omega) w1
  obtain ⟨n, hn⟩ : ∃ n : Nat, nN q 1 = n := ⟨(nN q 1).toNat, by have := nN_nonneg q 1; omega⟩
  have hn2 : n ≤ 255 := by have := nN_one q; omega
  have HN : Hid ((nN q 1).toNat = n) := (by rw [hn]; rfl : (nN q 1).toNat = n)
  rw [HN.out] at he ⊢
  have C1 : Hid (∀ wx b2 b5 b4 I T, DoS w wx b2 b5 b4 (kR K) I T q → Calls Try.prog 32 #[.pointer (some ⟨b4, 0, none⟩), .int .i64 1] wx fun r w' => r = .returned (.int .i64 (n : Int)) ∧ DoS w w' b2 b5 b4 (kR K) I T (sN q 1)) := fun wx b2 b5 b4 I T h => h.num0 1 (by omega) (by omega) hn rfl
  generalize sN q 1 = q1 at *
  clear hn HN
  have HZ : Hid (∀ j, j ≤ n → (rdTbS q1 j).2 ≠ 0 → (rdTbS q1 j).2 = (rdTbS q1 n).2) := fun j hj h => by rw [rdTbS_had h n hj]
  generalize hQ9 : (rdTbS q1 n).2 = E9 at *
  have hE9 : Hid ((rdTbS q1 n).2 = E9) := hQ9
  have he' : (E9 != 0) = true := by simpa using he
  clear he hQ9
  have e1 : (K == 1) = false := by rw [hk]; rfl
  have e2 : (K == 2) = false := by rw [hk]; rfl
  have e3 : (K == 3) = false := by rw [hk]; rfl
  have e4 : (K == 4) = false := by rw [hk]; rfl
  have e5 : (K == 5) = false := by rw [hk]; rfl
  have e6 : (K == 6) = false := by rw [hk]; rfl
  have e7 : (K == 7) = false := by rw [hk]; rfl
  have e8 : (K == 8) = false := by rw [hk]; rfl
  have e9 : (K == 9) = true := by rw [hk]; rfl
  clear hk hK hq
  go_enter Try.func19, Try.ntmps19
  go_wp2_with (first
    | (have := N1; refine wpList_new_rc _ rfl rfl ?_; intro w4 b5 N2)
    | (refine wpList_new_rc _ rfl rfl ?_; intro w1 b2 N1)
    | (have := H; go_at_call 32; refine (C1.out _ _ _ _ _ _ H).mono ?_; clear H this C1; rintro e w6 ⟨rfl, H⟩; clear k0)
    | (go_at_call 32; refine (CN.out _).mono ?_; clear CN; rintro e w3 ⟨rfl, hr, hb⟩)
    | (refine wpList_at (Op.store 25 (.tmp 5) (.tmp 19)) rfl ?_; refine wpList_put_rc (s' := kR K) (I' := nilV) (T' := nilV) _ rfl (.tmp 5) (.tmp 19) rfl rfl rfl N2.rc rfl rfl ?_; intro w5 P5; have H := DoS.start N1 hr hb N2 P5; have l1 := N1.rc.lt; have l2 := hr.lt; have l3 := N2.eq; have hb4 : w1.heap.size < b5 := (by omega); have hb2 : b2 < b5 := (by omega); clear N1 hr hb N2 P5 this l1 l2 l3; generalize w1.heap.size = b4 at *; have k0 := H.c.c0; dsimp only [kR] at k0))
  go_loopw [10] (fun iv wr => ∃ (j : Nat) (a : Option Addr) (c : Nat), j ≤ n ∧ iv = .int .i64 (j : Int) ∧ DoS w wr b2 b5 b4 (kR K) nilV (.slice a j c) (rdTbS q1 j) ∧ Own 55 (b5 + 1) wr a c (encT (rdTbL q1 j))) (fun iv _ => n - (intOf iv).toNat)
  case atStart => exact ⟨0, none, 0, Nat.zero_le _, rfl, H, Own.nil _ _ _⟩
  case round =>
    clear H
    obtain ⟨j, a, c, hj, rfl, H, hO⟩ := hrel
    by_cases hz0 : (rdTbS q1 j).2 = 0
    · have hne : j ≠ n := by
        rintro rfl
        rw [hE9.out] at hz0
        rw [hz0] at he'
        exact absurd he' (by decide)
      have hlt : j < n := by omega
      have hi2 : (j : Int) < (n : Int) := by omega
      have hz := hz0
      clear hz0 hne
      have HS : Hid (encT (rdTbL q1 (j + 1)) = encT (rdTbL q1 j) ++ [(.int .i64 (rdTbF q1 j).1, .int .i64 (rdTbF q1 j).2)]) := (by rw [rdTbL_succ, encT_append]; rfl : encT (rdTbL q1 (j + 1)) = encT (rdTbL q1 j) ++ [(.int .i64 (rdTbF q1 j).1, .int .i64 (rdTbF q1 j).2)])
      have HQ : Hid (rdTbS q1 (j + 1) = sN (sN (rdTbS q1 j) 6) 6) := (rfl : rdTbS q1 (j + 1) = sN (sN (rdTbS q1 j) 6) 6)
      have HF : Hid (rdTbF q1 j = (nN (rdTbS q1 j) 6, nN (sN (rdTbS q1 j) 6) 6)) := (rfl : rdTbF q1 j = (nN (rdTbS q1 j) 6, nN (sN (rdTbS q1 j) 6) 6))
      have HL : Hid (j = (encT (rdTbL q1 j)).length) := (by rw [encT_length, rdTbL_length] : j = (encT (rdTbL q1 j)).length)
      clear HZ
      generalize encT (rdTbL q1 j) = xs at *
      generalize rdTbS q1 j = qj at *
      have k2 := H.rd.c2
      go_wp2_with (go_at_call 32; refine (H.numo _ (by omega) (by omega)).mono ?_; clear H k2; rintro e w2 ⟨rfl, H1, o1⟩; have O1 := hO.off o1 (show b4 < b5 + 1 by omega); clear hO o1)
      have H2 := H1.below ((Below.refl _ _).drew)
      have O2 := O1.below ((Below.refl _ _).drew)
      clear H1 O1
      have k9 := H2.c.c10
      refine wp_region_held_drew (S := fun _ => True) (by kernel_rfl) trivial (fun hHeld => ?_)
      refine wpAnyH_take (i := 0) (oi := _) (v := ?_) rfl (by kernel_rfl) (by kernel_rfl) (by kernel_rfl) (fun _ _ _ h => h) (Or.inl ⟨by rfl, ?_⟩) hHeld ?_
      rotate_left
      · (intro w hSw; (try dsimp only at hSw); go_simp; (try with_reducible rfl))
      try simp only [Act.put, List.setIfInBounds_toArray, List.set_cons_zero, List.set_cons_succ, List.getElem_toArray, List.getElem_cons_succ, List.getElem_cons_zero]
      refine wpAnyH_take (i := 2) (oi := _) (v := ?_) rfl (by kernel_rfl) (by kernel_rfl) (by kernel_rfl) (fun _ _ _ h => h) (Or.inl ⟨by rfl, ?_⟩) hHeld ?_
      rotate_left
      · (intro w hSw; (try dsimp only at hSw); go_simp; (try with_reducible rfl))
      try simp only [Act.put, List.setIfInBounds_toArray, List.set_cons_zero, List.set_cons_succ, List.getElem_toArray, List.getElem_cons_succ, List.getElem_cons_zero]
      refine wpAnyH_take (i := 3) (oi := _) (v := ?_) rfl (by kernel_rfl) (by kernel_rfl) (by kernel_rfl) (fun _ _ _ h => h) (Or.inl ⟨by rfl, ?_⟩) hHeld ?_
      rotate_left
      · (intro w hSw; (try dsimp only at hSw); go_simp; (try with_reducible rfl))
      try simp only [Act.put, List.setIfInBounds_toArray, List.set_cons_zero, List.set_cons_succ, List.getElem_toArray, List.getElem_cons_succ, List.getElem_cons_zero]
      refine wpAnyH_ready (rs := [1, 4]) (by kernel_rfl) (by simp) ?_
      refine AllReadyH.cons (o := _) rfl (fun KK hK => ?_) ?_
      · skip
        go_simp
        refine hK.out _ _ trivial (fun hHeld => ?_)
        clear hK KK
        try simp only [Act.put, List.setIfInBounds_toArray, List.set_cons_zero, List.set_cons_succ, List.getElem_toArray, List.getElem_cons_succ, List.getElem_cons_zero]
        refine wpAnyH_ready (rs := [4]) (by kernel_rfl) (by simp) ?_
        refine AllReadyH.cons (o := _) rfl (fun KK hK => ?_) AllReadyH.nil
        go_simp
        refine (H2.numo _ (by omega) (by omega)).mono ?_
        rintro e w3 ⟨rfl, H3, o3⟩
        go_wp2_with fail
        refine hK.out _ _ trivial (fun hHeld => ?_)
        clear hK KK
        try simp only [Act.put, List.setIfInBounds_toArray, List.set_cons_zero, List.set_cons_succ, List.getElem_toArray, List.getElem_cons_succ, List.getElem_cons_zero]
        have O3 := O2.off o3 (show b4 < b5 + 1 by omega)
        have k9 := H3.c.c10
        refine wpAnyH_take (i := 5) (oi := _) (v := ?_) rfl (by kernel_rfl) (by kernel_rfl) (by kernel_rfl) (fun _ _ _ h => h) (Or.inl ⟨by rfl, ?_⟩) hHeld ?_
        rotate_left
        · (intro w hSw; (try dsimp only at hSw); go_simp; (try with_reducible rfl))
        try simp only [Act.put, List.setIfInBounds_toArray, List.set_cons_zero, List.set_cons_succ, List.getElem_toArray, List.getElem_cons_succ, List.getElem_cons_zero]
        refine wpAnyH_ready (rs := [6]) (by kernel_rfl) (by simp) ?_
        refine AllReadyH.cons (o := _) rfl (fun KK hK => ?_) AllReadyH.nil
        go_simp
        refine hK.out _ _ trivial (fun hHeld => ?_)
        clear hK KK
        try simp only [Act.put, List.setIfInBounds_toArray, List.set_cons_zero, List.set_cons_succ, List.getElem_toArray, List.getElem_cons_succ, List.getElem_cons_zero]
        have BA : Below w3.heap.size w3 (w3.alloc (.cells #[.int .i64 (nN qj 6), .int .i64 (nN (sN qj 6) 6)] 55)) := (Below.refl _ _).alloc (Nat.le_refl _) _
        have H4 := H3.below BA
        have O4 := O3.below BA
        have hz4 : b5 + 1 ≤ (w3.alloc (.cells #[.int .i64 (nN qj 6), .int .i64 (nN (sN qj 6) 6)] 55)).heap.size := H4.c.lt
        have k9 := H4.c.c10
        refine wpAnyH_ready (rs := [7]) (by kernel_rfl) (by simp) ?_
        refine AllReadyH.cons (o := _) rfl (fun KK hK => ?_) AllReadyH.nil
        rw [if_pos (by rfl)]
        refine wp_append_own two_tb (B := b5 + 1) (.tmp 112) (.tmp 117) rfl rfl HL.out O4 hz4 rfl (m := 1) (news := [(.int .i64 (nN qj 6), .int .i64 (nN (sN qj 6) 6))]) rfl (fun e => by cases e) (cs_one w3 (.int .i64 (nN qj 6), .int .i64 (nN (sN qj 6) 6)) 55) (fun p hp => by simp at hp; subst hp; exact ⟨rfl, rfl⟩) (by omega) ?_
        intro a5 c5 w5 O5 B5
        have H5 := H4.bel' B5 (by omega) (by omega) (by omega) (by have := H4.l5; omega)
        refine hK.out _ _ trivial (fun hHeld => ?_)
        clear hK KK
        try simp only [Act.put, List.setIfInBounds_toArray, List.set_cons_zero, List.set_cons_succ, List.getElem_toArray, List.getElem_cons_succ, List.getElem_cons_zero]
        refine wpAnyH_take (i := 8) (oi := _) (v := ?_) rfl (by kernel_rfl) (by kernel_rfl) (by kernel_rfl) (fun _ _ _ h => h) (Or.inl ⟨by rfl, ?_⟩) hHeld ?_
        rotate_left
        · (intro w hSw; (try dsimp only at hSw); go_simp; (try with_reducible rfl))
        try simp only [Act.put, List.setIfInBounds_toArray, List.set_cons_zero, List.set_cons_succ, List.getElem_toArray, List.getElem_cons_succ, List.getElem_cons_zero]
        refine wpAnyH_ready (rs := [9]) (by kernel_rfl) (by simp) ?_
        refine AllReadyH.cons (o := _) rfl (fun KK hK => ?_) AllReadyH.nil
        rw [if_pos (by rfl)]
        refine wp_fput (s' := kR K) (I' := nilV) (T' := .slice a5 (j + 1) c5) _ 23 (.tmp 119) (.tmp 118) rfl rfl rfl H5.c (by omega) rfl (by kernel_rfl) rfl ?_
        intro w8 P8
        have H6 := H5.put P8
        have O6 := O5.off P8.off (Nat.lt_succ_self _)
        refine hK.out _ _ trivial (fun hHeld => ?_)
        clear hK KK
        try simp only [Act.put, List.setIfInBounds_toArray, List.set_cons_zero, List.set_cons_succ, List.getElem_toArray, List.getElem_cons_succ, List.getElem_cons_zero]
        refine wpAnyH_done (by kernel_rfl) ?_ _
        go_wp2
        go_roundw
        case rel =>
          refine ⟨j + 1, a5, c5, by omega, by go_num, ?_, ?_⟩
          · rw [HQ.out]; exact H6
          · rw [HS.out, HF.out]; exact O6
        case measure => simp [intOf]; omega
      · refine AllReadyH.cons (o := _) rfl (fun KK hK => ?_) AllReadyH.nil
        go_simp
        refine (H2.numo _ (by omega) (by omega)).mono ?_
        rintro e w3 ⟨rfl, H3, o3⟩
        go_wp2_with fail
        refine hK.out _ _ trivial (fun hHeld => ?_)
        clear hK KK
        try simp only [Act.put, List.setIfInBounds_toArray, List.set_cons_zero, List.set_cons_succ, List.getElem_toArray, List.getElem_cons_succ, List.getElem_cons_zero]
        have O3 := O2.off o3 (show b4 < b5 + 1 by omega)
        have k9 := H3.c.c10
        refine wpAnyH_take (i := 5) (oi := _) (v := ?_) rfl (by kernel_rfl) (by kernel_rfl) (by kernel_rfl) (fun _ _ _ h => h) (Or.inl ⟨by rfl, ?_⟩) hHeld ?_
        rotate_left
        · (intro w hSw; (try dsimp only at hSw); go_simp; (try with_reducible rfl))
        try simp only [Act.put, List.setIfInBounds_toArray, List.set_cons_zero, List.set_cons_succ, List.getElem_toArray, List.getElem_cons_succ, List.getElem_cons_zero]
        refine wpAnyH_ready (rs := [1, 6]) (by kernel_rfl) (by simp) ?_
        refine AllReadyH.cons (o := _) rfl (fun KK hK => ?_) ?_
        · skip
          go_simp
          refine hK.out _ _ trivial (fun hHeld => ?_)
          clear hK KK
          try simp only [Act.put, List.setIfInBounds_toArray, List.set_cons_zero, List.set_cons_succ, List.getElem_toArray, List.getElem_cons_succ, List.getElem_cons_zero]
          refine wpAnyH_ready (rs := [6]) (by kernel_rfl) (by simp) ?_
          refine AllReadyH.cons (o := _) rfl (fun KK hK => ?_) AllReadyH.nil
          go_simp
          refine hK.out _ _ trivial (fun hHeld => ?_)
          clear hK KK
          try simp only [Act.put, List.setIfInBounds_toArray, List.set_cons_zero, List.set_cons_succ, List.getElem_toArray, List.getElem_cons_succ, List.getElem_cons_zero]
          have BA : Below w3.heap.size w3 (w3.alloc (.cells #[.int .i64 (nN qj 6), .int .i64 (nN (sN qj 6) 6)] 55)) := (Below.refl _ _).alloc (Nat.le_refl _) _
          have H4 := H3.below BA
          have O4 := O3.below BA
          have hz4 : b5 + 1 ≤ (w3.alloc (.cells #[.int .i64 (nN qj 6), .int .i64 (nN (sN qj 6) 6)] 55)).heap.size := H4.c.lt
          have k9 := H4.c.c10
          refine wpAnyH_ready (rs := [7]) (by kernel_rfl) (by simp) ?_
          refine AllReadyH.cons (o := _) rfl (fun KK hK => ?_) AllReadyH.nil
          rw [if_pos (by rfl)]
          refine wp_append_own two_tb (B := b5 + 1) (.tmp 112) (.tmp 117) rfl rfl HL.out O4 hz4 rfl (m := 1) (news := [(.int .i64 (nN qj 6), .int .i64 (nN (sN qj 6) 6))]) rfl (fun e => by cases e) (cs_one w3 (.int .i64 (nN qj 6), .int .i64 (nN (sN qj 6) 6)) 55) (fun p hp => by simp at hp; subst hp; exact ⟨rfl, rfl⟩) (by omega) ?_
          intro a5 c5 w5 O5 B5
          have H5 := H4.bel' B5 (by omega) (by omega) (by omega) (by have := H4.l5; omega)
          refine hK.out _ _ trivial (fun hHeld => ?_)
          clear hK KK
          try simp only [Act.put, List.setIfInBounds_toArray, List.set_cons_zero, List.set_cons_succ, List.getElem_toArray, List.getElem_cons_succ, List.getElem_cons_zero]
          refine wpAnyH_take (i := 8) (oi := _) (v := ?_) rfl (by kernel_rfl) (by kernel_rfl) (by kernel_rfl) (fun _ _ _ h => h) (Or.inl ⟨by rfl, ?_⟩) hHeld ?_
          rotate_left
          · (intro w hSw; (try dsimp only at hSw); go_simp; (try with_reducible rfl))
          try simp only [Act.put, List.setIfInBounds_toArray, List.set_cons_zero, List.set_cons_succ, List.getElem_toArray, List.getElem_cons_succ, List.getElem_cons_zero]
          refine wpAnyH_ready (rs := [9]) (by kernel_rfl) (by simp) ?_
          refine AllReadyH.cons (o := _) rfl (fun KK hK => ?_) AllReadyH.nil
          rw [if_pos (by rfl)]
          refine wp_fput (s' := kR K) (I' := nilV) (T' := .slice a5 (j + 1) c5) _ 23 (.tmp 119) (.tmp 118) rfl rfl rfl H5.c (by omega) rfl (by kernel_rfl) rfl ?_
          intro w8 P8
          have H6 := H5.put P8
          have O6 := O5.off P8.off (Nat.lt_succ_self _)
          refine hK.out _ _ trivial (fun hHeld => ?_)
          clear hK KK
          try simp only [Act.put, List.setIfInBounds_toArray, List.set_cons_zero, List.set_cons_succ, List.getElem_toArray, List.getElem_cons_succ, List.getElem_cons_zero]
          refine wpAnyH_done (by kernel_rfl) ?_ _
          go_wp2
          go_roundw
          case rel =>
            refine ⟨j + 1, a5, c5, by omega, by go_num, ?_, ?_⟩
            · rw [HQ.out]; exact H6
            · rw [HS.out, HF.out]; exact O6
          case measure => simp [intOf]; omega
        · refine AllReadyH.cons (o := _) rfl (fun KK hK => ?_) AllReadyH.nil
          go_simp
          refine hK.out _ _ trivial (fun hHeld => ?_)
          clear hK KK
          try simp only [Act.put, List.setIfInBounds_toArray, List.set_cons_zero, List.set_cons_succ, List.getElem_toArray, List.getElem_cons_succ, List.getElem_cons_zero]
          have BA : Below w3.heap.size w3 (w3.alloc (.cells #[.int .i64 (nN qj 6), .int .i64 (nN (sN qj 6) 6)] 55)) := (Below.refl _ _).alloc (Nat.le_refl _) _
          have H4 := H3.below BA
          have O4 := O3.below BA
          have hz4 : b5 + 1 ≤ (w3.alloc (.cells #[.int .i64 (nN qj 6), .int .i64 (nN (sN qj 6) 6)] 55)).heap.size := H4.c.lt
          have k9 := H4.c.c10
          refine wpAnyH_ready (rs := [1]) (by kernel_rfl) (by simp) ?_
          refine AllReadyH.cons (o := _) rfl (fun KK hK => ?_) AllReadyH.nil
          go_simp
          refine hK.out _ _ trivial (fun hHeld => ?_)
          clear hK KK
          try simp only [Act.put, List.setIfInBounds_toArray, List.set_cons_zero, List.set_cons_succ, List.getElem_toArray, List.getElem_cons_succ, List.getElem_cons_zero]
          refine wpAnyH_ready (rs := [7]) (by kernel_rfl) (by simp) ?_
          refine AllReadyH.cons (o := _) rfl (fun KK hK => ?_) AllReadyH.nil
          rw [if_pos (by rfl)]
          refine wp_append_own two_tb (B := b5 + 1) (.tmp 112) (.tmp 117) rfl rfl HL.out O4 hz4 rfl (m := 1) (news := [(.int .i64 (nN qj 6), .int .i64 (nN (sN qj 6) 6))]) rfl (fun e => by cases e) (cs_one w3 (.int .i64 (nN qj 6), .int .i64 (nN (sN qj 6) 6)) 55) (fun p hp => by simp at hp; subst hp; exact ⟨rfl, rfl⟩) (by omega) ?_
          intro a5 c5 w5 O5 B5
          have H5 := H4.bel' B5 (by omega) (by omega) (by omega) (by have := H4.l5; omega)
          refine hK.out _ _ trivial (fun hHeld => ?_)
          clear hK KK
          try simp only [Act.put, List.setIfInBounds_toArray, List.set_cons_zero, List.set_cons_succ, List.getElem_toArray, List.getElem_cons_succ, List.getElem_cons_zero]
          refine wpAnyH_take (i := 8) (oi := _) (v := ?_) rfl (by kernel_rfl) (by kernel_rfl) (by kernel_rfl) (fun _ _ _ h => h) (Or.inl ⟨by rfl, ?_⟩) hHeld ?_
          rotate_left
          · (intro w hSw; (try dsimp only at hSw); go_simp; (try with_reducible rfl))
          try simp only [Act.put, List.setIfInBounds_toArray, List.set_cons_zero, List.set_cons_succ, List.getElem_toArray, List.getElem_cons_succ, List.getElem_cons_zero]
          refine wpAnyH_ready (rs := [9]) (by kernel_rfl) (by simp) ?_
          refine AllReadyH.cons (o := _) rfl (fun KK hK => ?_) AllReadyH.nil
          rw [if_pos (by rfl)]
          refine wp_fput (s' := kR K) (I' := nilV) (T' := .slice a5 (j + 1) c5) _ 23 (.tmp 119) (.tmp 118) rfl rfl rfl H5.c (by omega) rfl (by kernel_rfl) rfl ?_
          intro w8 P8
          have H6 := H5.put P8
          have O6 := O5.off P8.off (Nat.lt_succ_self _)
          refine hK.out _ _ trivial (fun hHeld => ?_)
          clear hK KK
          try simp only [Act.put, List.setIfInBounds_toArray, List.set_cons_zero, List.set_cons_succ, List.getElem_toArray, List.getElem_cons_succ, List.getElem_cons_zero]
          refine wpAnyH_done (by kernel_rfl) ?_ _
          go_wp2
          go_roundw
          case rel =>
            refine ⟨j + 1, a5, c5, by omega, by go_num, ?_, ?_⟩
            · rw [HQ.out]; exact H6
            · rw [HS.out, HF.out]; exact O6
          case measure => simp [intOf]; omega
    · have hz : (rdTbS q1 j).2 = E9 := HZ.out j hj hz0
      have he2 : (E9 == 0) = false := by simpa using (show E9 ≠ 0 by rw [← hz]; exact hz0)
      clear hz0
      by_cases hlt : j < n
      · have hi2 : (j : Int) < (n : Int) := by omega
        have k2 := H.rd.c2
        rw [hz] at k2
        clear HZ hO
        go_wp2
        have HX := H.below ((Below.refl _ _).drew)
        clear H
        refine wp_region_held_drew (S := fun W : World => W.cell? ⟨b4, 2, none⟩ = some (.int .i64 E9)) (by kernel_rfl) (by have := HX.rd.c2; rw [hz] at this; exact this) (fun hHeld => ?_)
        refine wpAnyH_take (i := 0) (oi := _) (v := ?_) rfl (by kernel_rfl) (by kernel_rfl) (by kernel_rfl) (fun _ _ _ h => h) (Or.inl ⟨by rfl, ?_⟩) hHeld ?_
        rotate_left
        · (intro w hSw; (try dsimp only at hSw); go_simp; (try with_reducible rfl))
        try simp only [Act.put, List.setIfInBounds_toArray, List.set_cons_zero, List.set_cons_succ, List.getElem_toArray, List.getElem_cons_succ, List.getElem_cons_zero]
        refine wpAnyH_take (i := 1) (oi := _) (v := ?_) rfl (by kernel_rfl) (by kernel_rfl) (by kernel_rfl) (fun _ _ _ h => h) (Or.inl ⟨by rfl, ?_⟩) hHeld ?_
        rotate_left
        · (intro w hSw; (try dsimp only at hSw); go_simp; (try with_reducible rfl))
        try simp only [Act.put, List.setIfInBounds_toArray, List.set_cons_zero, List.set_cons_succ, List.getElem_toArray, List.getElem_cons_succ, List.getElem_cons_zero]
        refine wpAnyH_take (i := 2) (oi := _) (v := ?_) rfl (by kernel_rfl) (by kernel_rfl) (by kernel_rfl) (fun _ _ _ h => h) (Or.inl ⟨by rfl, ?_⟩) hHeld ?_
        rotate_left
        · (intro w hSw; (try dsimp only at hSw); go_simp; (try with_reducible rfl))
        try simp only [Act.put, List.setIfInBounds_toArray, List.set_cons_zero, List.set_cons_succ, List.getElem_toArray, List.getElem_cons_succ, List.getElem_cons_zero]
        refine wpAnyH_take (i := 3) (oi := _) (v := ?_) rfl (by kernel_rfl) (by kernel_rfl) (by kernel_rfl) (fun _ _ _ h => h) (Or.inl ⟨by rfl, ?_⟩) hHeld ?_
        rotate_left
        · (intro w hSw; (try dsimp only at hSw); go_simp; (try with_reducible rfl))
        try simp only [Act.put, List.setIfInBounds_toArray, List.set_cons_zero, List.set_cons_succ, List.getElem_toArray, List.getElem_cons_succ, List.getElem_cons_zero]
        refine wpAnyH_take (i := 4) (oi := _) (v := ?_) rfl (by kernel_rfl) (by kernel_rfl) (by kernel_rfl) (fun _ _ _ h => h) (Or.inl ⟨by rfl, ?_⟩) hHeld ?_
        rotate_left
        · (intro w hSw; (try dsimp only at hSw); go_simp; (try with_reducible rfl))
        try simp only [Act.put, List.setIfInBounds_toArray, List.set_cons_zero, List.set_cons_succ, List.getElem_toArray, List.getElem_cons_succ, List.getElem_cons_zero]
        refine wpAnyH_ready (rs := [5]) (by kernel_rfl) (by simp) ?_
        refine AllReadyH.cons (o := _) rfl (fun KK hK => ?_) AllReadyH.nil
        rw [if_pos (by rfl)]
        refine wp_put_rc (s' := zS) (I' := nilV) (T' := nilV) _ (.tmp 2) (.tmp 133) rfl rfl rfl HX.r rfl rfl ?_
        intro w8 P8
        refine hK.out _ _ (by have := (HX.rd.off P8.off (fun e => HX.n2 e.symm)).c2; rw [hz] at this; exact this) (fun hHeld => ?_)
        clear hK KK
        try simp only [Act.put, List.setIfInBounds_toArray, List.set_cons_zero, List.set_cons_succ, List.getElem_toArray, List.getElem_cons_succ, List.getElem_cons_zero]
        refine wpAnyH_take (i := 6) (oi := _) (v := ?_) rfl (by kernel_rfl) (by kernel_rfl) (by kernel_rfl) (fun _ _ _ h => h) (Or.inl ⟨by rfl, ?_⟩) hHeld ?_
        rotate_left
        · (intro w hSw; (try dsimp only at hSw); go_simp; (try with_reducible rfl))
        try simp only [Act.put, List.setIfInBounds_toArray, List.set_cons_zero, List.set_cons_succ, List.getElem_toArray, List.getElem_cons_succ, List.getElem_cons_zero]
        refine wpAnyH_done (by kernel_rfl) ?_ _
        go_wp2
        refine bodyPost_ret (results_rc2 rfl _ _ rfl P8.rc) rfl ?_
        exact ⟨⟨_, rfl, ⟨nilV, nilV, rfl, SlI.nil _, SlT.nil _⟩⟩, HX.bel.trans (P8.below HX.l2 HX.bel.size)⟩
      · have hi2 : ¬ (j : Int) < (n : Int) := by omega
        have k2 := H.rd.c2
        rw [hz] at k2
        clear HZ hO
        go_wp2
        have HX := H.below ((Below.refl _ _).drew)
        clear H
        refine wp_region_held_drew (S := fun W : World => W.cell? ⟨b4, 2, none⟩ = some (.int .i64 E9)) (by kernel_rfl) (by have := HX.rd.c2; rw [hz] at this; exact this) (fun hHeld => ?_)
        refine wpAnyH_take (i := 0) (oi := _) (v := ?_) rfl (by kernel_rfl) (by kernel_rfl) (by kernel_rfl) (fun _ _ _ h => h) (Or.inl ⟨by rfl, ?_⟩) hHeld ?_
        rotate_left
        · (intro w hSw; (try dsimp only at hSw); go_simp; (try with_reducible rfl))
        try simp only [Act.put, List.setIfInBounds_toArray, List.set_cons_zero, List.set_cons_succ, List.getElem_toArray, List.getElem_cons_succ, List.getElem_cons_zero]
        refine wpAnyH_take (i := 1) (oi := _) (v := ?_) rfl (by kernel_rfl) (by kernel_rfl) (by kernel_rfl) (fun _ _ _ h => h) (Or.inl ⟨by rfl, ?_⟩) hHeld ?_
        rotate_left
        · (intro w hSw; (try dsimp only at hSw); go_simp; (try with_reducible rfl))
        try simp only [Act.put, List.setIfInBounds_toArray, List.set_cons_zero, List.set_cons_succ, List.getElem_toArray, List.getElem_cons_succ, List.getElem_cons_zero]
        refine wpAnyH_take (i := 2) (oi := _) (v := ?_) rfl (by kernel_rfl) (by kernel_rfl) (by kernel_rfl) (fun _ _ _ h => h) (Or.inl ⟨by rfl, ?_⟩) hHeld ?_
        rotate_left
        · (intro w hSw; (try dsimp only at hSw); go_simp; (try with_reducible rfl))
        try simp only [Act.put, List.setIfInBounds_toArray, List.set_cons_zero, List.set_cons_succ, List.getElem_toArray, List.getElem_cons_succ, List.getElem_cons_zero]
        refine wpAnyH_take (i := 3) (oi := _) (v := ?_) rfl (by kernel_rfl) (by kernel_rfl) (by kernel_rfl) (fun _ _ _ h => h) (Or.inl ⟨by rfl, ?_⟩) hHeld ?_
        rotate_left
        · (intro w hSw; (try dsimp only at hSw); go_simp; (try with_reducible rfl))
        try simp only [Act.put, List.setIfInBounds_toArray, List.set_cons_zero, List.set_cons_succ, List.getElem_toArray, List.getElem_cons_succ, List.getElem_cons_zero]
        refine wpAnyH_take (i := 4) (oi := _) (v := ?_) rfl (by kernel_rfl) (by kernel_rfl) (by kernel_rfl) (fun _ _ _ h => h) (Or.inl ⟨by rfl, ?_⟩) hHeld ?_
        rotate_left
        · (intro w hSw; (try dsimp only at hSw); go_simp; (try with_reducible rfl))
        try simp only [Act.put, List.setIfInBounds_toArray, List.set_cons_zero, List.set_cons_succ, List.getElem_toArray, List.getElem_cons_succ, List.getElem_cons_zero]
        refine wpAnyH_ready (rs := [5]) (by kernel_rfl) (by simp) ?_
        refine AllReadyH.cons (o := _) rfl (fun KK hK => ?_) AllReadyH.nil
        rw [if_pos (by rfl)]
        refine wp_put_rc (s' := zS) (I' := nilV) (T' := nilV) _ (.tmp 2) (.tmp 133) rfl rfl rfl HX.r rfl rfl ?_
        intro w8 P8
        refine hK.out _ _ (by have := (HX.rd.off P8.off (fun e => HX.n2 e.symm)).c2; rw [hz] at this; exact this) (fun hHeld => ?_)
        clear hK KK
        try simp only [Act.put, List.setIfInBounds_toArray, List.set_cons_zero, List.set_cons_succ, List.getElem_toArray, List.getElem_cons_succ, List.getElem_cons_zero]
        refine wpAnyH_take (i := 6) (oi := _) (v := ?_) rfl (by kernel_rfl) (by kernel_rfl) (by kernel_rfl) (fun _ _ _ h => h) (Or.inl ⟨by rfl, ?_⟩) hHeld ?_
        rotate_left
        · (intro w hSw; (try dsimp only at hSw); go_simp; (try with_reducible rfl))
        try simp only [Act.put, List.setIfInBounds_toArray, List.set_cons_zero, List.set_cons_succ, List.getElem_toArray, List.getElem_cons_succ, List.getElem_cons_zero]
        refine wpAnyH_done (by kernel_rfl) ?_ _
        go_wp2
        refine bodyPost_ret (results_rc2 rfl _ _ rfl P8.rc) rfl ?_
        exact ⟨⟨_, rfl, ⟨nilV, nilV, rfl, SlI.nil _, SlT.nil _⟩⟩, HX.bel.trans (P8.below HX.l2 HX.bel.size)⟩
end
end Go.Proofs.Ytakdfdnndogaiaa
