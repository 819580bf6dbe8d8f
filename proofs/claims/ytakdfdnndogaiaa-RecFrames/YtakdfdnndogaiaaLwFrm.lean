/- RecFrames: any record's frame, or why it has none. -/
import Derived.Test.YtakdfdnndogaiaaLwCom
import Derived.Deep.RegionHeld3
namespace Go.Proofs.Ytakdfdnndogaiaa
open Go.RowKit
set_option linter.unusedVariables false
set_option linter.unusedSimpArgs false
set_option maxRecDepth 100000

theorem thnA {w w1 : World} (h : Below w.heap.size w w1) (o : Obj) : Below w.heap.size w (w1.alloc o) := h.alloc h.size o
theorem keep5 {w w' : World} {o : Obj} (b : Below (w.alloc o).heap.size (w.alloc o) w') : w'.heap[w.heap.size]? = some o := by
  have := b.block w.heap.size (by simp)
  rw [this]
  exact (MapKept.heap_alloc w o).1
theorem cv_at (W : World) (N : Nat) (x y : Int) (h0 : W.cell? ⟨N, 0, none⟩ = some (.int .u8 x)) (h1 : W.cell? ⟨N, 1, none⟩ = some (.int .u8 y)) :
    (convert 31 9 (.slice (some ⟨N, 0, none⟩) 2 2)).run Try.prog W = .ok (.string ⟨#[UInt8.ofNat x.toNat, UInt8.ofNat y.toNat]⟩) W := by
  have h := run_convert_bytes_arg (P := Try.prog) W 31 5 Try.underlying31 Try.underlying5 N 0 2 2 [x, y] rfl
    (fun i hi => by have : i = 0 ∨ i = 1 := by omega
                    rcases this with rfl | rfl
                    · simpa using h0
                    · simpa using h1) 9 Try.underlying9
  rw [h]; rfl
theorem frame_eq (Z : ByteArray) (h : Z.size ≤ 4096) : frameB Z = (⟨#[UInt8.ofNat (Z.size / 256), UInt8.ofNat (Z.size % 256)]⟩ : ByteArray) ++ Sm.sealV Z := by
  unfold frameB
  rw [two_bytes Z.size (by omega)]
theorem cell_two (w : World) (x y : Int) (i : Nat) : (w.alloc (.cells #[.int .u8 x, .int .u8 y] 5)).cell? ⟨w.heap.size, i, none⟩ = (#[.int .u8 x, .int .u8 y] : Array Value)[i]? := Joins.cell_of_block (MapKept.heap_alloc w _).1 i
theorem b5lt {w : World} {a : Addr} {v : Value} (h : w.cell? a = some v) : a.block < w.heap.size := by
  rcases Nat.lt_or_ge a.block w.heap.size with h' | h'
  · exact h'
  · simp [World.cell?, Array.getElem?_eq_none h'] at h
theorem wpAnyH_imp {P : Program} {ops : Array Oper} {Q : Exit → Act → World → Prop} {md : Region.Mode} {S T : World → Prop} (h : ∀ w, T w → S w) : ∀ (fuel : Nat) (listed : Array Bool) (a : Act) (w : World), wpAnyH P md ops Q T fuel listed a w → wpAnyH P md ops Q S fuel listed a w
  | 0, _, _, _, hh => hh
  | fuel + 1, _, _, _, hh => ⟨hh.1, fun i hi => wpOp_mono (fun a' w' h' => ⟨h _ h'.1, wpAnyH_imp h fuel _ a' w' h'.2⟩) (hh.2 i hi)⟩
set_option maxHeartbeats 4000000 in
theorem frames_walk {w : World} {v : Value} {m : Rm} (h : RecV w v m) (hh : Held m) : Calls Try.prog 3 #[v] w fun e w' => e = .returned (.bool true) ∧ Below w.heap.size w w' := by
  have hsm := hh.few
  have CF : Hid (∀ wx, Calls Try.prog 9 #[v] wx fun e w' => (∃ v', e = .returned v' ∧ RecV w v' (fewM m)) ∧ Below wx.heap.size wx w') := fun wx => Few_any h hh.im hh.tb
  generalize fewM m = m' at *
  obtain ⟨I0, T0, rfl, _⟩ := h.ex
  obtain ⟨s, l, g⟩ := m'
  have CR : Hid (∀ wx v', RecV wx v' ⟨s, l, g⟩ → Calls Try.prog 10 #[v'] wx fun r w' => r = .returned (.tuple #[.string (frameM ⟨s, l, g⟩).1, .int .i64 (frameM ⟨s, l, g⟩).2]) ∧ Below wx.heap.size wx w') := fun wx v' h' => Frame_any h' hsm
  have CB : Hid (∀ wx v', RecV wx v' ⟨s, l, g⟩ → Calls Try.prog 11 #[v'] wx fun r w' => r = .returned (.tuple #[.string (bodyM (cleanM ⟨s, l, g⟩)).1, .int .i64 (bodyM (cleanM ⟨s, l, g⟩)).2]) ∧ Below wx.heap.size wx w') := fun wx v' h' => rbody_any h' hsm
  have CK : Hid (∀ wx, Calls Try.prog 12 #[] wx fun e w' => e = .returned (.bool true) ∧ Below wx.heap.size wx w') := fun wx => awake_any wx
  have hz := bodyM_size (cleanM ⟨s, l, g⟩)
  unfold frameM at CR
  by_cases he : (bodyM (cleanM ⟨s, l, g⟩)).2 = 0
  · rw [if_neg (by simpa using he)] at CR
    rw [he] at CB
    generalize (bodyM (cleanM ⟨s, l, g⟩)).1 = Z at *
    have CS : Hid (∀ wx, Calls Try.prog 13 #[.string Z] wx fun e w' => e = .returned (.string (Sm.sealV Z)) ∧ Below wx.heap.size wx w') := fun wx => Sm.Seal_any Z wx (by omega)
    have hF := frame_eq Z hz
    have hz2 : (Sm.sealV Z).size ≤ 5000 := by rw [sealV_size]; omega
    have hz3 : (⟨#[UInt8.ofNat (Z.size / 256), UInt8.ofNat (Z.size % 256)]⟩ : ByteArray).size = 2 := rfl
    dsimp only at CR
    rw [hF] at CR
    generalize Sm.sealV Z = SZ at *
    have hcv := cv_at
    have hw1 : IntKind.i64.wrap ((Z.size : Int) / 256) = (Z.size : Int) / 256 := by rw [IntKind.wrap_i64]; omega
    have hw2 : IntKind.u8.wrap ((Z.size : Int) / 256) = (Z.size : Int) / 256 := by rw [IntKind.wrap_u8]; omega
    have hw3 : ((Z.size : Int)).tmod 256 = (Z.size : Int) % 256 := by rw [Int.tmod_eq_emod_of_nonneg (by omega)]
    have hw4 : IntKind.u8.wrap ((Z.size : Int) % 256) = (Z.size : Int) % 256 := by rw [IntKind.wrap_u8]; omega
    have ht1 : ((Z.size : Int) / 256).toNat = Z.size / 256 := by omega
    have ht2 : ((Z.size : Int) % 256).toNat = Z.size % 256 := by omega
    have hz4 : ¬ 9223372036854775807 < 2 + SZ.size := by omega
    have heq : (((⟨#[UInt8.ofNat (Z.size / 256), UInt8.ofNat (Z.size % 256)]⟩ : ByteArray) ++ SZ).toList == ((⟨#[UInt8.ofNat (Z.size / 256), UInt8.ofNat (Z.size % 256)]⟩ : ByteArray) ++ SZ).toList) = true := by simp
    clear h hh hsm he hF
    go_enter Try.func3, Try.ntmps3
    go_wp2_with (first
      | (refine wpList_box_rc (s := m.s) (I := I0) (T := T0) _ rfl _ rfl rfl ?_; intro w0 b0 N0)
      | (refine wpList_load_rc _ rfl (.tmp 1) rfl rfl H.rc ?_)
      | (refine wpList_load_rc _ rfl (.tmp 1) rfl rfl N0.rc ?_)
      | (go_at_call 9; refine (CF.out _).mono ?_; rintro e w1 ⟨⟨v', rfl, h1⟩, b1⟩; obtain ⟨I, T, rfl, hI, hT⟩ := h1.ex; dsimp only at hI hT)
      | (refine wpList_put_rc (s' := s) (I' := I) (T' := T) _ rfl (.tmp 1) (.tmp 9) rfl rfl rfl (N0.rc.below b1) hI.one hT.one ?_; intro w2 P2; have H := BdS.of N0 b1 hI hT P2; clear N0 P2 h1 hI hT)
      | (go_at_call 10; refine (CR.out _ _ ⟨I, T, rfl, H.im, H.tb⟩).mono ?_; rintro e w3 ⟨rfl, b3⟩; have H1 := H.below b3; clear H; have H := H1; clear H1)
      | (go_at_call 11; refine (CB.out _ _ ⟨I, T, rfl, H.im, H.tb⟩).mono ?_; rintro e w4 ⟨rfl, b4⟩; have H1 := H.below b4; clear H; have H := H1; clear H1))
    have B4 : Below w.heap.size w w4.drew := thn H.bel ((Below.refl _ _).drew)
    clear H CF CR CB
    refine wp_region_held_drew (S := fun _ => True) (by kernel_rfl) trivial (fun hHeld => ?_)
    refine wpAnyH_take (i := 0) (oi := _) (v := ?_) rfl (by kernel_rfl) (by kernel_rfl) (by kernel_rfl) (fun _ _ _ h => h) (Or.inl ⟨by rfl, ?_⟩) hHeld ?_
    rotate_left
    · (intro w hSw; (try dsimp only at hSw); go_simp; (try with_reducible rfl))
    try simp only [Act.put, List.setIfInBounds_toArray, List.set_cons_zero, List.set_cons_succ, List.getElem_toArray, List.getElem_cons_succ, List.getElem_cons_zero]
    refine wpAnyH_take (i := 1) (oi := _) (v := ?_) rfl (by kernel_rfl) (by kernel_rfl) (by kernel_rfl) (fun _ _ _ h => h) (Or.inl ⟨by rfl, ?_⟩) hHeld ?_
    rotate_left
    · (intro w hSw; (try dsimp only at hSw); go_simp; (try with_reducible rfl))
    try simp only [Act.put, List.setIfInBounds_toArray, List.set_cons_zero, List.set_cons_succ, List.getElem_toArray, List.getElem_cons_succ, List.getElem_cons_zero]
    refine wpAnyH_take (i := 2) (oi := _) (v := ?_) rfl (by kernel_rfl) (by kernel_rfl) (by kernel_rfl) (fun _ _ _ h => h) (Or.inl ⟨by rfl, ?_⟩) hHeld ?_
    rotate_left
    · (intro w hSw; (try dsimp only at hSw); go_simp; (try with_reducible rfl))
    try simp only [Act.put, List.setIfInBounds_toArray, List.set_cons_zero, List.set_cons_succ, List.getElem_toArray, List.getElem_cons_succ, List.getElem_cons_zero]
    refine wpAnyH_take (i := 3) (oi := _) (v := ?_) rfl (by kernel_rfl) (by kernel_rfl) (by kernel_rfl) (fun _ _ _ h => h) (Or.inl ⟨by rfl, ?_⟩) hHeld ?_
    rotate_left
    · (intro w hSw; (try dsimp only at hSw); go_simp; (try with_reducible rfl))
    try simp only [Act.put, List.setIfInBounds_toArray, List.set_cons_zero, List.set_cons_succ, List.getElem_toArray, List.getElem_cons_succ, List.getElem_cons_zero]
    refine wpAnyH_take (i := 4) (oi := _) (v := ?_) rfl (by kernel_rfl) (by kernel_rfl) (by kernel_rfl) (fun _ _ _ h => h) (Or.inl ⟨by rfl, ?_⟩) hHeld ?_
    rotate_left
    · (intro w hSw; (try dsimp only at hSw); go_simp; (try with_reducible rfl))
    try simp only [Act.put, List.setIfInBounds_toArray, List.set_cons_zero, List.set_cons_succ, List.getElem_toArray, List.getElem_cons_succ, List.getElem_cons_zero]
    refine wpAnyH_take (i := 5) (oi := _) (v := ?_) rfl (by kernel_rfl) (by kernel_rfl) (by kernel_rfl) (fun _ _ _ h => h) (Or.inl ⟨by rfl, ?_⟩) hHeld ?_
    rotate_left
    · (intro w hSw; (try dsimp only at hSw); go_simp; (try with_reducible rfl))
    try simp only [Act.put, List.setIfInBounds_toArray, List.set_cons_zero, List.set_cons_succ, List.getElem_toArray, List.getElem_cons_succ, List.getElem_cons_zero]
    refine wpAnyH_take (i := 6) (oi := _) (v := ?_) rfl (by kernel_rfl) (by kernel_rfl) (by kernel_rfl) (fun _ _ _ h => h) (Or.inl ⟨by rfl, ?_⟩) hHeld ?_
    rotate_left
    · (intro w hSw; (try dsimp only at hSw); go_simp; (try with_reducible rfl))
    try simp only [Act.put, List.setIfInBounds_toArray, List.set_cons_zero, List.set_cons_succ, List.getElem_toArray, List.getElem_cons_succ, List.getElem_cons_zero]
    refine wpAnyH_take (i := 7) (oi := _) (v := ?_) rfl (by kernel_rfl) (by kernel_rfl) (by kernel_rfl) (fun _ _ _ h => h) (Or.inl ⟨by rfl, ?_⟩) hHeld ?_
    rotate_left
    · (intro w hSw; (try dsimp only at hSw); go_simp; (try with_reducible rfl))
    try simp only [Act.put, List.setIfInBounds_toArray, List.set_cons_zero, List.set_cons_succ, List.getElem_toArray, List.getElem_cons_succ, List.getElem_cons_zero]
    refine wpAnyH_take (i := 8) (oi := _) (v := ?_) rfl (by kernel_rfl) (by kernel_rfl) (by kernel_rfl) (fun _ _ _ h => h) (Or.inl ⟨by rfl, ?_⟩) hHeld ?_
    rotate_left
    · (intro w hSw; (try dsimp only at hSw); go_simp; (try with_reducible rfl))
    try simp only [Act.put, List.setIfInBounds_toArray, List.set_cons_zero, List.set_cons_succ, List.getElem_toArray, List.getElem_cons_succ, List.getElem_cons_zero]
    refine wpAnyH_take (i := 9) (oi := _) (v := ?_) rfl (by kernel_rfl) (by kernel_rfl) (by kernel_rfl) (fun _ _ _ h => h) (Or.inl ⟨by rfl, ?_⟩) hHeld ?_
    rotate_left
    · (intro w hSw; (try dsimp only at hSw); go_simp; (try with_reducible rfl))
    try simp only [Act.put, List.setIfInBounds_toArray, List.set_cons_zero, List.set_cons_succ, List.getElem_toArray, List.getElem_cons_succ, List.getElem_cons_zero]
    refine wpAnyH_take (i := 12) (oi := _) (v := ?_) rfl (by kernel_rfl) (by kernel_rfl) (by kernel_rfl) (fun _ _ _ h => h) (Or.inl ⟨by rfl, ?_⟩) hHeld ?_
    rotate_left
    · (intro w hSw; (try dsimp only at hSw); go_simp; (try with_reducible rfl))
    try simp only [Act.put, List.setIfInBounds_toArray, List.set_cons_zero, List.set_cons_succ, List.getElem_toArray, List.getElem_cons_succ, List.getElem_cons_zero]
    refine wpAnyH_ready (rs := [10, 13]) (by kernel_rfl) (by simp) ?_
    refine AllReadyH.cons (o := _) rfl (fun K hK => ?_) ?_
    · skip
      go_simp
      refine hK.out _ _ trivial (fun hHeld => ?_)
      clear hK K
      try simp only [Act.put, List.setIfInBounds_toArray, List.set_cons_zero, List.set_cons_succ, List.getElem_toArray, List.getElem_cons_succ, List.getElem_cons_zero]
      clear hHeld
      refine wpAnyH_imp (T := fun W : World => W.cell? ⟨w4.heap.size, 0, none⟩ = some (.int .u8 ((Z.size : Int) / 256)) ∧ W.cell? ⟨w4.heap.size, 1, none⟩ = some (.int .u8 ((Z.size : Int) % 256))) (fun _ _ => trivial) _ _ _ _ ?_
      have hHeld : (fun W : World => W.cell? ⟨w4.heap.size, 0, none⟩ = some (.int .u8 ((Z.size : Int) / 256)) ∧ W.cell? ⟨w4.heap.size, 1, none⟩ = some (.int .u8 ((Z.size : Int) % 256))) _ := ⟨cell_two w4.drew _ _ 0, cell_two w4.drew _ _ 1⟩
      refine wpAnyH_take (i := 11) (oi := _) (v := ?_) rfl (by kernel_rfl) (by kernel_rfl) (by kernel_rfl) (fun _ _ _ h => h) (Or.inl ⟨by rfl, ?_⟩) hHeld ?_
      rotate_left
      · (intro w hSw; (try dsimp only at hSw); have hc := hcv w _ _ _ hSw.1 hSw.2; go_simp; (try with_reducible rfl))
      try simp only [Act.put, List.setIfInBounds_toArray, List.set_cons_zero, List.set_cons_succ, List.getElem_toArray, List.getElem_cons_succ, List.getElem_cons_zero]
      refine wpAnyH_ready (rs := [13]) (by kernel_rfl) (by simp) ?_
      refine AllReadyH.cons (o := _) rfl (fun K hK => ?_) AllReadyH.nil
      go_simp
      refine (CS.out _).mono ?_
      rintro e w5 ⟨rfl, b5⟩
      go_wp2_with fail
      refine hK.out _ _ ⟨(b5.cell (by simp)).trans hHeld.1, (b5.cell (by simp)).trans hHeld.2⟩ (fun hHeld => ?_)
      clear hK K
      try simp only [Act.put, List.setIfInBounds_toArray, List.set_cons_zero, List.set_cons_succ, List.getElem_toArray, List.getElem_cons_succ, List.getElem_cons_zero]
      refine wpAnyH_take (i := 14) (oi := _) (v := ?_) rfl (by kernel_rfl) (by kernel_rfl) (by kernel_rfl) (fun _ _ _ h => h) (Or.inl ⟨by rfl, ?_⟩) hHeld ?_
      rotate_left
      · (intro w hSw; (try dsimp only at hSw); go_simp; (try with_reducible rfl))
      try simp only [Act.put, List.setIfInBounds_toArray, List.set_cons_zero, List.set_cons_succ, List.getElem_toArray, List.getElem_cons_succ, List.getElem_cons_zero]
      refine wpAnyH_take (i := 15) (oi := _) (v := ?_) rfl (by kernel_rfl) (by kernel_rfl) (by kernel_rfl) (fun _ _ _ h => h) (Or.inl ⟨by rfl, ?_⟩) hHeld ?_
      rotate_left
      · (intro w hSw; (try dsimp only at hSw); go_simp; (try with_reducible rfl))
      try simp only [Act.put, List.setIfInBounds_toArray, List.set_cons_zero, List.set_cons_succ, List.getElem_toArray, List.getElem_cons_succ, List.getElem_cons_zero]
      refine wpAnyH_take (i := 16) (oi := _) (v := ?_) rfl (by kernel_rfl) (by kernel_rfl) (by kernel_rfl) (fun _ _ _ h => h) (Or.inl ⟨by rfl, ?_⟩) hHeld ?_
      rotate_left
      · (intro w hSw; (try dsimp only at hSw); go_simp; (try with_reducible rfl))
      try simp only [Act.put, List.setIfInBounds_toArray, List.set_cons_zero, List.set_cons_succ, List.getElem_toArray, List.getElem_cons_succ, List.getElem_cons_zero]
      refine wpAnyH_take (i := 17) (oi := _) (v := ?_) rfl (by kernel_rfl) (by kernel_rfl) (by kernel_rfl) (fun _ _ _ h => h) (Or.inl ⟨by rfl, ?_⟩) hHeld ?_
      rotate_left
      · (intro w hSw; (try dsimp only at hSw); go_simp; (try with_reducible rfl))
      try simp only [Act.put, List.setIfInBounds_toArray, List.set_cons_zero, List.set_cons_succ, List.getElem_toArray, List.getElem_cons_succ, List.getElem_cons_zero]
      refine wpAnyH_ready (rs := [18]) (by kernel_rfl) (by simp) ?_
      refine AllReadyH.cons (o := _) rfl (fun K hK => ?_) AllReadyH.nil
      go_simp
      refine (CK.out _).mono ?_
      rintro e w6 ⟨rfl, b6⟩
      go_wp2_with fail
      refine hK.out _ _ ⟨(b6.cell (b5lt hHeld.1)).trans hHeld.1, (b6.cell (b5lt hHeld.2)).trans hHeld.2⟩ (fun hHeld => ?_)
      clear hK K
      try simp only [Act.put, List.setIfInBounds_toArray, List.set_cons_zero, List.set_cons_succ, List.getElem_toArray, List.getElem_cons_succ, List.getElem_cons_zero]
      refine wpAnyH_take (i := 19) (oi := _) (v := ?_) rfl (by kernel_rfl) (by kernel_rfl) (by kernel_rfl) (fun _ _ _ h => h) (Or.inl ⟨by rfl, ?_⟩) hHeld ?_
      rotate_left
      · (intro w hSw; (try dsimp only at hSw); go_simp; (try with_reducible rfl))
      try simp only [Act.put, List.setIfInBounds_toArray, List.set_cons_zero, List.set_cons_succ, List.getElem_toArray, List.getElem_cons_succ, List.getElem_cons_zero]
      refine wpAnyH_take (i := 20) (oi := _) (v := ?_) rfl (by kernel_rfl) (by kernel_rfl) (by kernel_rfl) (fun _ _ _ h => h) (Or.inl ⟨by rfl, ?_⟩) hHeld ?_
      rotate_left
      · (intro w hSw; (try dsimp only at hSw); go_simp; (try with_reducible rfl))
      try simp only [Act.put, List.setIfInBounds_toArray, List.set_cons_zero, List.set_cons_succ, List.getElem_toArray, List.getElem_cons_succ, List.getElem_cons_zero]
      refine wpAnyH_done (by kernel_rfl) ?_ _
      go_wp2
      go_ret
      exact ⟨rfl, thn (thn (thnA B4 _) b5) b6⟩
    · refine AllReadyH.cons (o := _) rfl (fun K hK => ?_) AllReadyH.nil
      go_simp
      refine (CS.out _).mono ?_
      rintro e w5 ⟨rfl, b5⟩
      go_wp2_with fail
      refine hK.out _ _ trivial (fun hHeld => ?_)
      clear hK K
      try simp only [Act.put, List.setIfInBounds_toArray, List.set_cons_zero, List.set_cons_succ, List.getElem_toArray, List.getElem_cons_succ, List.getElem_cons_zero]
      refine wpAnyH_ready (rs := [10]) (by kernel_rfl) (by simp) ?_
      refine AllReadyH.cons (o := _) rfl (fun K hK => ?_) AllReadyH.nil
      go_simp
      refine hK.out _ _ trivial (fun hHeld => ?_)
      clear hK K
      try simp only [Act.put, List.setIfInBounds_toArray, List.set_cons_zero, List.set_cons_succ, List.getElem_toArray, List.getElem_cons_succ, List.getElem_cons_zero]
      clear hHeld
      refine wpAnyH_imp (T := fun W : World => W.cell? ⟨w5.heap.size, 0, none⟩ = some (.int .u8 ((Z.size : Int) / 256)) ∧ W.cell? ⟨w5.heap.size, 1, none⟩ = some (.int .u8 ((Z.size : Int) % 256))) (fun _ _ => trivial) _ _ _ _ ?_
      have hHeld : (fun W : World => W.cell? ⟨w5.heap.size, 0, none⟩ = some (.int .u8 ((Z.size : Int) / 256)) ∧ W.cell? ⟨w5.heap.size, 1, none⟩ = some (.int .u8 ((Z.size : Int) % 256))) _ := ⟨cell_two w5 _ _ 0, cell_two w5 _ _ 1⟩
      refine wpAnyH_take (i := 11) (oi := _) (v := ?_) rfl (by kernel_rfl) (by kernel_rfl) (by kernel_rfl) (fun _ _ _ h => h) (Or.inl ⟨by rfl, ?_⟩) hHeld ?_
      rotate_left
      · (intro w hSw; (try dsimp only at hSw); have hc := hcv w _ _ _ hSw.1 hSw.2; go_simp; (try with_reducible rfl))
      try simp only [Act.put, List.setIfInBounds_toArray, List.set_cons_zero, List.set_cons_succ, List.getElem_toArray, List.getElem_cons_succ, List.getElem_cons_zero]
      refine wpAnyH_take (i := 14) (oi := _) (v := ?_) rfl (by kernel_rfl) (by kernel_rfl) (by kernel_rfl) (fun _ _ _ h => h) (Or.inl ⟨by rfl, ?_⟩) hHeld ?_
      rotate_left
      · (intro w hSw; (try dsimp only at hSw); go_simp; (try with_reducible rfl))
      try simp only [Act.put, List.setIfInBounds_toArray, List.set_cons_zero, List.set_cons_succ, List.getElem_toArray, List.getElem_cons_succ, List.getElem_cons_zero]
      refine wpAnyH_take (i := 15) (oi := _) (v := ?_) rfl (by kernel_rfl) (by kernel_rfl) (by kernel_rfl) (fun _ _ _ h => h) (Or.inl ⟨by rfl, ?_⟩) hHeld ?_
      rotate_left
      · (intro w hSw; (try dsimp only at hSw); go_simp; (try with_reducible rfl))
      try simp only [Act.put, List.setIfInBounds_toArray, List.set_cons_zero, List.set_cons_succ, List.getElem_toArray, List.getElem_cons_succ, List.getElem_cons_zero]
      refine wpAnyH_take (i := 16) (oi := _) (v := ?_) rfl (by kernel_rfl) (by kernel_rfl) (by kernel_rfl) (fun _ _ _ h => h) (Or.inl ⟨by rfl, ?_⟩) hHeld ?_
      rotate_left
      · (intro w hSw; (try dsimp only at hSw); go_simp; (try with_reducible rfl))
      try simp only [Act.put, List.setIfInBounds_toArray, List.set_cons_zero, List.set_cons_succ, List.getElem_toArray, List.getElem_cons_succ, List.getElem_cons_zero]
      refine wpAnyH_take (i := 17) (oi := _) (v := ?_) rfl (by kernel_rfl) (by kernel_rfl) (by kernel_rfl) (fun _ _ _ h => h) (Or.inl ⟨by rfl, ?_⟩) hHeld ?_
      rotate_left
      · (intro w hSw; (try dsimp only at hSw); go_simp; (try with_reducible rfl))
      try simp only [Act.put, List.setIfInBounds_toArray, List.set_cons_zero, List.set_cons_succ, List.getElem_toArray, List.getElem_cons_succ, List.getElem_cons_zero]
      refine wpAnyH_ready (rs := [18]) (by kernel_rfl) (by simp) ?_
      refine AllReadyH.cons (o := _) rfl (fun K hK => ?_) AllReadyH.nil
      go_simp
      refine (CK.out _).mono ?_
      rintro e w6 ⟨rfl, b6⟩
      go_wp2_with fail
      refine hK.out _ _ ⟨(b6.cell (b5lt hHeld.1)).trans hHeld.1, (b6.cell (b5lt hHeld.2)).trans hHeld.2⟩ (fun hHeld => ?_)
      clear hK K
      try simp only [Act.put, List.setIfInBounds_toArray, List.set_cons_zero, List.set_cons_succ, List.getElem_toArray, List.getElem_cons_succ, List.getElem_cons_zero]
      refine wpAnyH_take (i := 19) (oi := _) (v := ?_) rfl (by kernel_rfl) (by kernel_rfl) (by kernel_rfl) (fun _ _ _ h => h) (Or.inl ⟨by rfl, ?_⟩) hHeld ?_
      rotate_left
      · (intro w hSw; (try dsimp only at hSw); go_simp; (try with_reducible rfl))
      try simp only [Act.put, List.setIfInBounds_toArray, List.set_cons_zero, List.set_cons_succ, List.getElem_toArray, List.getElem_cons_succ, List.getElem_cons_zero]
      refine wpAnyH_take (i := 20) (oi := _) (v := ?_) rfl (by kernel_rfl) (by kernel_rfl) (by kernel_rfl) (fun _ _ _ h => h) (Or.inl ⟨by rfl, ?_⟩) hHeld ?_
      rotate_left
      · (intro w hSw; (try dsimp only at hSw); go_simp; (try with_reducible rfl))
      try simp only [Act.put, List.setIfInBounds_toArray, List.set_cons_zero, List.set_cons_succ, List.getElem_toArray, List.getElem_cons_succ, List.getElem_cons_zero]
      refine wpAnyH_done (by kernel_rfl) ?_ _
      go_wp2
      go_ret
      exact ⟨rfl, thn (thnA (thn B4 b5) _) b6⟩
  · rw [if_pos he] at CR
    generalize (bodyM (cleanM ⟨s, l, g⟩)).1 = Z at *
    generalize (bodyM (cleanM ⟨s, l, g⟩)).2 = E at *
    have he' : (E != 0) = true := by simpa using he
    have hee : (E == E) = true := by simp
    dsimp only at CR
    clear h hh hsm he
    go_enter Try.func3, Try.ntmps3
    go_wp2_with (first
      | (refine wpList_box_rc (s := m.s) (I := I0) (T := T0) _ rfl _ rfl rfl ?_; intro w0 b0 N0)
      | (refine wpList_load_rc _ rfl (.tmp 1) rfl rfl H.rc ?_)
      | (refine wpList_load_rc _ rfl (.tmp 1) rfl rfl N0.rc ?_)
      | (go_at_call 9; refine (CF.out _).mono ?_; rintro e w1 ⟨⟨v', rfl, h1⟩, b1⟩; obtain ⟨I, T, rfl, hI, hT⟩ := h1.ex; dsimp only at hI hT)
      | (refine wpList_put_rc (s' := s) (I' := I) (T' := T) _ rfl (.tmp 1) (.tmp 9) rfl rfl rfl (N0.rc.below b1) hI.one hT.one ?_; intro w2 P2; have H := BdS.of N0 b1 hI hT P2; clear N0 P2 h1 hI hT)
      | (go_at_call 10; refine (CR.out _ _ ⟨I, T, rfl, H.im, H.tb⟩).mono ?_; rintro e w3 ⟨rfl, b3⟩; have H1 := H.below b3; clear H; have H := H1; clear H1)
      | (go_at_call 11; refine (CB.out _ _ ⟨I, T, rfl, H.im, H.tb⟩).mono ?_; rintro e w4 ⟨rfl, b4⟩; have H1 := H.below b4; clear H; have H := H1; clear H1)
      | (go_at_call 12; refine (CK.out _).mono ?_; rintro e w6 ⟨rfl, b6⟩))
    go_ret
    exact ⟨rfl, thn H.bel b6⟩
end Go.Proofs.Ytakdfdnndogaiaa
