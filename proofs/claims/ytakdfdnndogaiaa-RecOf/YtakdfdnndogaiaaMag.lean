/- A record's bytes, and its frame: body, Frame; the law's awake. The law's Few: a record of at most 20 images, and of at most 300 transactions. The document's put and text: what they leave is what a writer's Num and Text do. The document's put, text and change, as steps of one state. -/
import Derived.Test.YtakdfdnndogaiaaMaf
import Derived.Test.YtakdfdnndogaiaaMac
import Derived.Laws.BytesArg
namespace Go.Proofs.Ytakdfdnndogaiaa
open Go.RowKit
set_option linter.unusedVariables false
set_option linter.unusedSimpArgs false
set_option maxRecDepth 100000

/-- A record that memory can hold, of few images and few that go on. -/
structure Small (m : Rm) : Prop where
  im : m.im.length ≤ 1000
  tb : m.tb.length ≤ 1000
  t : ∀ p ∈ m.im, p.2.size ≤ 9223372036854775807
  ky : m.s.ky.size ≤ 9223372036854775807
  ol : m.s.ol.size ≤ 9223372036854775807
  nw : m.s.nw.size ≤ 9223372036854775807
theorem Small.clean {m : Rm} (h : Small m) : Small (cleanM m) := by
  obtain ⟨s, l, g⟩ := m
  have h1 := h.im
  have h2 := h.tb
  have h3 := h.t
  have h4 := h.ky
  have h5 := h.ol
  have h6 := h.nw
  dsimp only at h1 h2 h3 h4 h5 h6
  have z : (⟨#[]⟩ : ByteArray).size ≤ 9223372036854775807 := Nat.zero_le _
  refine ⟨?_, ?_, ?_, ?_, ?_, ?_⟩
  · unfold cleanM; dsimp only; split
    · exact h1
    · exact Nat.zero_le _
  · unfold cleanM; dsimp only; split
    · exact h2
    · exact Nat.zero_le _
  · unfold cleanM; dsimp only; split
    · exact h3
    · intro p hp; cases hp
  · unfold cleanM cleanS; dsimp only; repeat' split
    all_goals assumption
  · unfold cleanM cleanS; dsimp only; repeat' split
    all_goals assumption
  · unfold cleanM cleanS; dsimp only; repeat' split
    all_goals assumption
/-- What refM says of one that is not refused. -/
structure Fine (m : Rm) : Prop where
  k1 : 1 ≤ m.s.kd
  k2 : m.s.kd ≤ 10
  f : formed m = true
  ky : m.s.ky.size ≤ 16
  ol : m.s.ol.size ≤ 32
  nw : m.s.nw.size ≤ 32
theorem fine_of {m : Rm} (h : refM m = 0) : Fine m := by
  unfold refM at h
  split at h
  · cases h
  · split at h
    · cases h
    · split at h
      · cases h
      · split at h
        · cases h
        · rename_i h1 h2 h3 h4
          exact ⟨by omega, by omega, by simpa using h2, by omega, by omega, by omega⟩
theorem Fine.whole {m : Rm} (h : Fine m) (hk : m.s.kd = 1 ∨ m.s.kd = 2) : whole m.im = true := by
  have f := h.f
  unfold formed at f
  rcases hk with hk | hk
  · rw [if_pos hk] at f
    simpa using (by simpa using f : m.im.length = 1 ∧ Go.Proofs.Ytakdfdnndogaiaa.whole m.im = true).2
  · rw [if_neg (by omega), if_pos hk] at f
    exact f
theorem Fine.texts {m : Rm} (h : Fine m) (hk : m.s.kd = 1 ∨ m.s.kd = 2) : ∀ p ∈ m.im, p.2.size ≤ 1000 := by
  have f := h.whole hk
  intro p hp
  have := (List.all_eq_true.1 f) p hp
  simp at this
  omega
theorem laid_any {w : World} {v : Value} {m : Rm} (h : RecV w v m) (hs : Small m) (hf : Fine m) : Calls Try.prog 37 #[v] w fun r w' => r = .returned (.tuple #[.string (laidM m).1, .int .i64 (laidM m).2]) ∧ Below w.heap.size w w' := by
  obtain ⟨I, T, rfl, hI, hT⟩ := h.ex
  have hk1 := hf.k1
  have hk2 := hf.k2
  have hy := hf.ky
  have ho := hf.ol
  have hw := hf.nw
  have hx := hf.texts
  obtain ⟨s, l, g⟩ := m
  have hl := hs.im
  have hg := hs.tb
  dsimp only at *
  have hk : s.kd = 1 ∨ s.kd = 2 ∨ s.kd = 3 ∨ s.kd = 4 ∨ s.kd = 5 ∨ s.kd = 6 ∨ s.kd = 7 ∨ s.kd = 8 ∨ s.kd = 9 ∨ s.kd = 10 := by omega
  unfold laidM laidF
  dsimp only
  rcases hk with hk | hk | hk | hk | hk | hk | hk | hk | hk | hk
  · obtain ⟨a, c, rfl, hcs, _⟩ := hI.ex
    rw [if_pos (by omega)]
    exact laid_1 hk hl hcs (hx (by omega))
  · obtain ⟨a, c, rfl, hcs, _⟩ := hI.ex
    rw [if_pos (by omega)]
    exact laid_2 hk hl hcs (hx (by omega))
  · rw [if_neg (by omega), if_pos (by omega)]
    exact laid_3 hk (by omega) (by omega) (by omega)
  · rw [if_neg (by omega), if_pos (by omega)]
    exact laid_4 hk (by omega) (by omega) (by omega)
  · rw [if_neg (by omega), if_pos (by omega)]
    exact laid_5 hk (by omega) (by omega) (by omega)
  · rw [if_neg (by omega), if_neg (by omega), if_pos (by omega)]
    exact laid_6 hk (by omega) (by omega) (by omega)
  · rw [if_neg (by omega), if_neg (by omega), if_neg (by omega), if_pos (by omega)]
    exact laid_7 hk
  · rw [if_neg (by omega), if_neg (by omega), if_neg (by omega), if_pos (by omega)]
    exact laid_8 hk
  · obtain ⟨a, c, rfl, hcs, _⟩ := hT.ex
    rw [if_neg (by omega), if_neg (by omega), if_neg (by omega), if_neg (by omega), if_pos (by omega)]
    exact laid_9 hk hg hcs
  · rw [if_neg (by omega), if_neg (by omega), if_neg (by omega), if_neg (by omega), if_neg (by omega), if_pos (by omega)]
    exact laid_10 hk
theorem laidM_size {m : Rm} (hs : Small m) : (laidM m).1.size ≤ 100000000 := by
  have hl := hs.im
  have hg := hs.tb
  have z0 : ((⟨#[]⟩ : ByteArray), (0 : Int)).1.size = 0 := rfl
  have z1 := stepW_size (⟨#[]⟩, 0) m.s.kd 1
  unfold laidM laidF
  dsimp only
  repeat' split
  · have z2 := stepW_size (stepW (⟨#[]⟩, 0) m.s.kd 1) m.im.length 1
    have z3 := layI_size m.im (stepW (stepW (⟨#[]⟩, 0) m.s.kd 1) m.im.length 1)
    omega
  · have z2 := layP_size [m.s.tx, m.s.pv] (stepW (⟨#[]⟩, 0) m.s.kd 1)
    have z3 := layC_size m.s (layP [m.s.tx, m.s.pv] (stepW (⟨#[]⟩, 0) m.s.kd 1))
    simp only [List.length_cons, List.length_nil] at z2
    omega
  · have z2 := layP_size [m.s.tx, m.s.pv, m.s.nx] (stepW (⟨#[]⟩, 0) m.s.kd 1)
    have z4 := stepW_size (layP [m.s.tx, m.s.pv, m.s.nx] (stepW (⟨#[]⟩, 0) m.s.kd 1)) m.s.ac 1
    have z3 := layC_size m.s (stepW (layP [m.s.tx, m.s.pv, m.s.nx] (stepW (⟨#[]⟩, 0) m.s.kd 1)) m.s.ac 1)
    simp only [List.length_cons, List.length_nil] at z2
    omega
  · have z2 := layP_size [m.s.tx, m.s.pv] (stepW (⟨#[]⟩, 0) m.s.kd 1)
    simp only [List.length_cons, List.length_nil] at z2
    omega
  · have z2 := stepW_size (stepW (⟨#[]⟩, 0) m.s.kd 1) m.tb.length 1
    have z3 := layB_size m.tb (stepW (stepW (⟨#[]⟩, 0) m.s.kd 1) m.tb.length 1)
    omega
  · have z2 := stepW_size (stepW (⟨#[]⟩, 0) m.s.kd 1) m.s.ep 4
    have z3 := stepW_size (stepW (stepW (⟨#[]⟩, 0) m.s.kd 1) m.s.ep 4) m.s.nd 1
    omega
  · omega
set_option maxHeartbeats 1000000 in
theorem body_any {w : World} {v : Value} {m : Rm} (h : RecV w v m) (hs : Small m) : Calls Try.prog 22 #[v] w fun r w' => r = .returned (.tuple #[.string (bodyM m).1, .int .i64 (bodyM m).2]) ∧ Below w.heap.size w w' := by
  have hv := h
  obtain ⟨I, T, rfl, hI, hT⟩ := h.ex
  have CR : Hid (∀ w', Below w.heap.size w w' → Calls Try.prog 36 #[.agg (m.s.A I T)] w' fun r w'' => r = .returned (.int .i64 (refM m)) ∧ Below w'.heap.size w' w'') := fun w' hb => by
    obtain ⟨a, c, rfl, hcs, _⟩ := hI.ex
    exact refusal_any (g := m.tb) hs.im (hcs.below hb) hs.t hs.ky hs.ol hs.nw
  by_cases hr : refM m = 0
  · have CL : Hid (∀ w', Below w.heap.size w w' → Calls Try.prog 37 #[.agg (m.s.A I T)] w' fun r w'' => r = .returned (.tuple #[.string (laidM m).1, .int .i64 (laidM m).2]) ∧ Below w'.heap.size w' w'') := fun w' hb => laid_any (hv.below hb) hs (fine_of hr)
    have hz := laidM_size hs
    by_cases he : (laidM m).2 = 0
    · by_cases hl : 4096 < (laidM m).1.size
      · rw [bodyM_long hr he hl]
        rw [hr] at CR
        rw [he] at CL
        generalize (laidM m).1 = Z at *
        clear hr he hv h hI hT hs
        go_enter Try.func22, Try.ntmps22
        go_wp2_with (first
          | (refine wpList_box_rc (s := m.s) (I := I) (T := T) _ rfl _ rfl rfl ?_; intro w0 b0 N0; have R := N0.rc)
          | (refine wpList_load_rc _ rfl _ rfl rfl R ?_)
          | (go_at_call 36; refine (CR.out _ N0.below).mono ?_; rintro e w1 ⟨rfl, b1⟩; have R1 := R.below b1; clear R; have R := R1; clear R1)
          | (go_at_call 37; refine (CL.out _ (thn N0.below b1)).mono ?_; rintro e w2 ⟨rfl, b2⟩))
        go_ret2
        exact ⟨rfl, thn (thn N0.below b1) b2⟩
      · rw [bodyM_good hr he hl]
        rw [hr] at CR
        rw [he] at CL
        generalize (laidM m).1 = Z at *
        clear hr he hv h hI hT hs
        go_enter Try.func22, Try.ntmps22
        go_wp2_with (first
          | (refine wpList_box_rc (s := m.s) (I := I) (T := T) _ rfl _ rfl rfl ?_; intro w0 b0 N0; have R := N0.rc)
          | (refine wpList_load_rc _ rfl _ rfl rfl R ?_)
          | (go_at_call 36; refine (CR.out _ N0.below).mono ?_; rintro e w1 ⟨rfl, b1⟩; have R1 := R.below b1; clear R; have R := R1; clear R1)
          | (go_at_call 37; refine (CL.out _ (thn N0.below b1)).mono ?_; rintro e w2 ⟨rfl, b2⟩))
        go_ret2
        exact ⟨rfl, thn (thn N0.below b1) b2⟩
    · rw [bodyM_err hr he]
      rw [hr] at CR
      generalize (laidM m).1 = Z at *
      generalize (laidM m).2 = E at *
      have he' : (E != 0) = true := by simpa using he
      clear hr he hv h hI hT hs
      go_enter Try.func22, Try.ntmps22
      go_wp2_with (first
        | (refine wpList_box_rc (s := m.s) (I := I) (T := T) _ rfl _ rfl rfl ?_; intro w0 b0 N0; have R := N0.rc)
        | (refine wpList_load_rc _ rfl _ rfl rfl R ?_)
        | (go_at_call 36; refine (CR.out _ N0.below).mono ?_; rintro e w1 ⟨rfl, b1⟩; have R1 := R.below b1; clear R; have R := R1; clear R1)
        | (go_at_call 37; refine (CL.out _ (thn N0.below b1)).mono ?_; rintro e w2 ⟨rfl, b2⟩))
      go_ret2
      exact ⟨rfl, thn (thn N0.below b1) b2⟩
  · rw [bodyM_ref hr]
    generalize refM m = E at *
    have he' : (E != 0) = true := by simpa using hr
    clear hr hv h hI hT hs
    go_enter Try.func22, Try.ntmps22
    go_wp2_with (first
      | (refine wpList_box_rc (s := m.s) (I := I) (T := T) _ rfl _ rfl rfl ?_; intro w0 b0 N0; have R := N0.rc)
      | (refine wpList_load_rc _ rfl _ rfl rfl R ?_)
      | (go_at_call 36; refine (CR.out _ N0.below).mono ?_; rintro e w1 ⟨rfl, b1⟩))
    go_ret2
    exact ⟨rfl, thn N0.below b1⟩
/-- A record's frame, or why it has none. -/
def frameB (t : ByteArray) : ByteArray := Pk.beS t.size 2 ++ Sm.sealV t
def frameM (m : Rm) : ByteArray × Int := if (bodyM (cleanM m)).2 ≠ 0 then (⟨#[]⟩, (bodyM (cleanM m)).2) else (frameB (bodyM (cleanM m)).1, 0)
theorem put_len (t : ByteArray) (h : t.size ≤ 4096) (w : World) : Calls Try.prog 23 #[.string ⟨#[]⟩, .int .i64 (t.size : Int), .int .i64 2] w fun e w' => e = .returned (.tuple #[.string (Pk.beS t.size 2), .int .i64 0]) ∧ Below w.heap.size w w' := by
  have := Pk.Put_any ⟨#[]⟩ (t.size : Int) 2 w (Nat.zero_le _)
  rw [Pk.putV_fits (by omega) (by rw [Pk.limI_2]; omega)] at this
  dsimp only at this
  rw [Sm.nil_append] at this
  exact this
theorem sealV_size (t : ByteArray) : (Sm.sealV t).size = 4 + t.size := by unfold Sm.sealV; rw [ByteArray.size_append, Pk.beS_size]
theorem frameB_size (t : ByteArray) : (frameB t).size = 6 + t.size := by unfold frameB; rw [ByteArray.size_append, Pk.beS_size, sealV_size]; omega
set_option maxHeartbeats 1000000 in
theorem Frame_any {w : World} {v : Value} {m : Rm} (h : RecV w v m) (hs : Small m) : Calls Try.prog 10 #[v] w fun r w' => r = .returned (.tuple #[.string (frameM m).1, .int .i64 (frameM m).2]) ∧ Below w.heap.size w w' := by
  have hv := h
  obtain ⟨I, T, rfl, hI, hT⟩ := h.ex
  have CC : Hid (∀ w', Below w.heap.size w w' → Calls Try.prog 15 #[.agg (m.s.A I T)] w' fun e w'' => (∃ v', e = .returned v' ∧ RecV w'' v' (cleanM m)) ∧ Below w'.heap.size w' w'') := fun w' hb => clean_any (hv.below hb) hs.im hs.tb
  have CB : Hid (∀ w' v', RecV w' v' (cleanM m) → Calls Try.prog 22 #[v'] w' fun r w'' => r = .returned (.tuple #[.string (bodyM (cleanM m)).1, .int .i64 (bodyM (cleanM m)).2]) ∧ Below w'.heap.size w' w'') := fun w' v' h' => body_any h' hs.clean
  have hz := bodyM_size (cleanM m)
  unfold frameM
  by_cases he : (bodyM (cleanM m)).2 = 0
  · rw [if_neg (by simpa using he)]
    rw [he] at CB
    generalize (bodyM (cleanM m)).1 = Z at *
    have CP : Hid (∀ w, Calls Try.prog 23 #[.string ⟨#[]⟩, .int .i64 (Z.size : Int), .int .i64 2] w fun e w' => e = .returned (.tuple #[.string (Pk.beS Z.size 2), .int .i64 0]) ∧ Below w.heap.size w w') := fun w => put_len Z hz w
    have CS : Hid (∀ w, Calls Try.prog 13 #[.string Z] w fun e w' => e = .returned (.string (Sm.sealV Z)) ∧ Below w.heap.size w w') := fun w => Sm.Seal_any Z w (by omega)
    have HF : Hid (frameB Z = Pk.beS Z.size 2 ++ Sm.sealV Z) := by rfl
    have z1 : (Pk.beS Z.size 2).size ≤ 6 := by rw [Pk.beS_size]; omega
    have z2 : (Sm.sealV Z).size ≤ 5000 := by rw [sealV_size]; omega
    generalize frameB Z = F at *
    generalize Pk.beS Z.size 2 = L at *
    generalize Sm.sealV Z = SZ at *
    clear he hv h hI hT hs
    go_enter Try.func10, Try.ntmps10
    go_wp2_with (first
      | (refine wpList_box_rc (s := m.s) (I := I) (T := T) _ rfl _ rfl rfl ?_; intro w0 b0 N0)
      | (refine wpList_load_rc _ rfl _ rfl rfl N0.rc ?_)
      | (go_at_call 15; refine (CC.out _ N0.below).mono ?_; rintro e w1 ⟨⟨v', rfl, h1⟩, b1⟩)
      | (go_at_call 22; refine (CB.out _ _ h1).mono ?_; rintro e w2 ⟨rfl, b2⟩)
      | (go_at_call 23; refine (CP.out _).mono ?_; rintro e w3 ⟨rfl, b3⟩)
      | (go_at_call 13; refine (CS.out _).mono ?_; rintro e w4 ⟨rfl, b4⟩))
    go_ret2
    rw [HF.out]
    exact ⟨rfl, thn (thn (thn (thn N0.below b1) b2) b3) b4⟩
  · rw [if_pos he]
    generalize (bodyM (cleanM m)).1 = Z at *
    generalize (bodyM (cleanM m)).2 = E at *
    have he' : (E != 0) = true := by simpa using he
    clear he hv h hI hT hs
    go_enter Try.func10, Try.ntmps10
    go_wp2_with (first
      | (refine wpList_box_rc (s := m.s) (I := I) (T := T) _ rfl _ rfl rfl ?_; intro w0 b0 N0)
      | (refine wpList_load_rc _ rfl _ rfl rfl N0.rc ?_)
      | (go_at_call 15; refine (CC.out _ N0.below).mono ?_; rintro e w1 ⟨⟨v', rfl, h1⟩, b1⟩)
      | (go_at_call 22; refine (CB.out _ _ h1).mono ?_; rintro e w2 ⟨rfl, b2⟩))
    go_ret2
    exact ⟨rfl, thn (thn N0.below b1) b2⟩
def comm : Rm := ⟨{kS 7 with tx := 5, pv := 3}, [], []⟩
theorem comm_frame : (frameM comm).2 = 0 ∧ (frameM comm).1.size = 19 := by
  have e : cleanM comm = comm := by simp [cleanM, cleanS, comm, kS, zS]
  have hl : laidM comm = (⟨#[]⟩ ++ Pk.beS 7 1 ++ Pk.beS 5 6 ++ Pk.beS 3 6, 0) := by
    show stepW (stepW (stepW (⟨#[]⟩, 0) 7 1) 5 6) 3 6 = _
    rw [stepW_good (by omega) (by omega) (by omega) (by rw [Pk.limI_1]; omega), stepW_good (by omega) (by omega) (by omega) (by rw [Pk.limI_6]; omega), stepW_good (by omega) (by omega) (by omega) (by rw [Pk.limI_6]; omega)]
    rfl
  have hb : bodyM comm = (⟨#[]⟩ ++ Pk.beS 7 1 ++ Pk.beS 5 6 ++ Pk.beS 3 6, 0) := by
    rw [bodyM_good (by simp [refM, formed, comm, kS, zS, Pk.size_nil]) (by rw [hl]) (by rw [hl]; simp [ByteArray.size_append, Pk.beS_size, Pk.size_nil]), hl]
  unfold frameM
  rw [e, hb]
  dsimp only
  rw [if_neg (by simp), frameB_size]
  simp [ByteArray.size_append, Pk.beS_size, Pk.size_nil]
theorem small_comm : Small comm := ⟨Nat.zero_le _, Nat.zero_le _, (fun p hp => by cases hp), Nat.zero_le _, Nat.zero_le _, Nat.zero_le _⟩
theorem awake_any (w : World) : Calls Try.prog 12 #[] w fun e w' => e = .returned (.bool true) ∧ Below w.heap.size w w' := by
  obtain ⟨h1, h2⟩ := comm_frame
  have CF : Hid (∀ w, Calls Try.prog 10 #[.agg #[.int .i64 7, .int .i64 5, .int .i64 3, .int .i64 0, .int .i64 0, .string ⟨#[]⟩, .string ⟨#[]⟩, .string ⟨#[]⟩, .int .i64 0, .slice none 0 0, .slice none 0 0, .int .i64 0, .int .i64 0]] w fun r w' => r = .returned (.tuple #[.string (frameM comm).1, .int .i64 0]) ∧ Below w.heap.size w w') := fun w => by
    have := Frame_any (w := w) (v := .agg (comm.s.A nilV nilV)) (m := comm) ⟨nilV, nilV, rfl, SlI.nil w, SlT.nil w⟩ small_comm
    rw [h1] at this
    exact this
  generalize (frameM comm).1 = F at *
  have h3 : ((F.size : Int) == 19) = true := by rw [h2]; rfl
  have h4 : F.size ≤ 1000 := by omega
  clear h1 h2
  go_enter Try.func12, Try.ntmps12
  go_wp2_with (go_at_call 10; refine (CF.out _).mono ?_; rintro e w1 ⟨rfl, b1⟩)
  go_ret
  exact ⟨rfl, b1⟩
end Go.Proofs.Ytakdfdnndogaiaa

namespace Go.Proofs.Ytakdfdnndogaiaa
open Go.RowKit
set_option linter.unusedVariables false
set_option linter.unusedSimpArgs false
set_option maxRecDepth 100000

def fewM (m : Rm) : Rm := ⟨m.s, m.im.take 20, m.tb.take 300⟩
structure Fw (w wr : World) (b0 b1 : Nat) (s : Sc) (I T : Value) : Prop where
  p : RcAt wr b0 s I T
  r : RcAt wr b1 zS nilV nilV
  bel : Below w.heap.size w wr
  ne : b1 ≠ b0
  l0 : w.heap.size ≤ b0
  l1 : w.heap.size ≤ b1
section
variable {w wr wq : World} {b0 b1 : Nat} {s : Sc} {I T J U : Value}
theorem Fw.mk' {w0 w1 : World} (N0 : NewR w w0 b0 s I T) (N1 : NewR w0 w1 b1 zS nilV nilV) : Fw w w1 b0 b1 s I T := by
  have e0 := N0.eq
  have e1 := N1.eq
  have z0 := N0.rc.lt
  exact ⟨N0.rc.below N1.below, N1.rc, thn N0.below N1.below, by omega, by omega, by omega⟩
theorem Fw.put (h : Fw w wr b0 b1 s I T) (P : PutR wr wq b0 s J U) : Fw w wq b0 b1 s J U :=
  ⟨P.rc, h.r.off P.off h.ne, h.bel.trans (P.below h.l0 h.bel.size), h.ne, h.l0, h.l1⟩
end
theorem sliceI_to {a : Option Addr} {n c : Nat} (i : Nat) (hi : i ≤ c) (hsp : ∀ ad, a = some ad → ad.spot = none) (W : World) : (Instr.slice 22 (.slice a n c) none (some (.int .i64 (i : Int))) none).run Try.prog W = .ok (.slice a i c) W := by
  have hr := run_slice_h (P := Try.prog) W 22 a n c (by kernel_rfl) .i64 (i : Int) (by omega) (by omega)
  have hz : ∀ w, (Go.sizeOf (Try.prog.elem 22)).run Try.prog w = .ok 2 w := fun w => by kernel_rfl
  rw [hr, hz]
  simp only [Result.andThen, sliced, Int.toNat_natCast, Nat.sub_zero, Nat.zero_mul]
  cases a with
  | none => split <;> rfl
  | some ad =>
    obtain ⟨b, off, sp⟩ := ad
    have := hsp _ rfl
    dsimp only at this
    subst this
    split
    · rfl
    · simp [Addr.add_mid]
theorem sliceT_to {a : Option Addr} {n c : Nat} (i : Nat) (hi : i ≤ c) (hsp : ∀ ad, a = some ad → ad.spot = none) (W : World) : (Instr.slice 23 (.slice a n c) none (some (.int .i64 (i : Int))) none).run Try.prog W = .ok (.slice a i c) W := by
  have hr := run_slice_h (P := Try.prog) W 23 a n c (by kernel_rfl) .i64 (i : Int) (by omega) (by omega)
  have hz : ∀ w, (Go.sizeOf (Try.prog.elem 23)).run Try.prog w = .ok 2 w := fun w => by kernel_rfl
  rw [hr, hz]
  simp only [Result.andThen, sliced, Int.toNat_natCast, Nat.sub_zero, Nat.zero_mul]
  cases a with
  | none => split <;> rfl
  | some ad =>
    obtain ⟨b, off, sp⟩ := ad
    have := hsp _ rfl
    dsimp only at this
    subst this
    split
    · rfl
    · simp [Addr.add_mid]
section
variable {w : World} {s : Sc} {a a' : Option Addr} {n n' c c' : Nat}
set_option maxHeartbeats 400000 in
theorem few_00 (hi : ¬ (20 : Int) < n) (hn : n ≤ 9223372036854775807) (ht : ¬ (300 : Int) < n') (hn' : n' ≤ 9223372036854775807) : Calls Try.prog 9 #[.agg (s.A (.slice a n c) (.slice a' n' c'))] w fun e w' => e = .returned (.agg (s.A (.slice a n c) (.slice a' n' c'))) ∧ Below w.heap.size w w' := by
  go_enter Try.func9, Try.ntmps9
  go_wp2_with (first
    | (refine wpList_box_rc (s := s) (I := _) (T := _) _ rfl _ rfl rfl ?_; intro w0 b0 N0)
    | (refine wpList_new_rc _ rfl rfl ?_; intro w1 b1 N1; have H := Fw.mk' N0 N1; clear N0 N1; have k9 := H.p.c9; have k10 := H.p.c10)
    | (refine wpList_fput (s' := s) (I' := .slice a 20 c) (T' := .slice a' n' c') _ rfl 22 (.tmp 10) (.tmp 9) rfl rfl rfl H.p (by omega) rfl (by kernel_rfl) rfl ?_; intro w4 P4; have H4 := H.put P4; clear H; have H := H4; clear H4 P4; have k9 := H.p.c9; have k10 := H.p.c10)
    | (refine wpList_fput (s' := s) (I' := _) (T' := .slice a' 300 c') _ rfl 23 (.tmp 18) (.tmp 17) rfl rfl rfl H.p (by omega) rfl (by kernel_rfl) rfl ?_; intro w4 P4; have H4 := H.put P4; clear H; have H := H4; clear H4 P4)
    | (refine wpList_load_rc _ rfl (.tmp 1) rfl rfl H.p ?_)
    | (refine wpList_put_rc (s' := s) (I' := _) (T' := _) _ rfl (.tmp 2) (.tmp 19) rfl rfl rfl H.r rfl rfl ?_; intro w9 P9))
  refine bodyPost_ret (results_rc1 rfl _ _ rfl P9.rc) rfl ?_
  exact ⟨rfl, H.bel.trans (P9.below H.l1 H.bel.size)⟩
set_option maxHeartbeats 400000 in
theorem few_01 (hi : ¬ (20 : Int) < n) (hn : n ≤ 9223372036854775807) (ht : (300 : Int) < n') (hn' : n' ≤ 9223372036854775807) (hc' : n' ≤ c') (hs' : ∀ ad, a' = some ad → ad.spot = none) : Calls Try.prog 9 #[.agg (s.A (.slice a n c) (.slice a' n' c'))] w fun e w' => e = .returned (.agg (s.A (.slice a n c) (.slice a' 300 c'))) ∧ Below w.heap.size w w' := by
  have s2 := fun W => sliceT_to (n := n') 300 (show 300 ≤ c' by omega) hs' W
  have hc0' := hc'
  clear hs'
  go_enter Try.func9, Try.ntmps9
  go_wp2_with (first
    | (refine wpList_box_rc (s := s) (I := _) (T := _) _ rfl _ rfl rfl ?_; intro w0 b0 N0)
    | (refine wpList_new_rc _ rfl rfl ?_; intro w1 b1 N1; have H := Fw.mk' N0 N1; clear N0 N1; have k9 := H.p.c9; have k10 := H.p.c10)
    | (refine wpList_fput (s' := s) (I' := .slice a 20 c) (T' := .slice a' n' c') _ rfl 22 (.tmp 10) (.tmp 9) rfl rfl rfl H.p (by omega) rfl (by kernel_rfl) rfl ?_; intro w4 P4; have H4 := H.put P4; clear H; have H := H4; clear H4 P4; have k9 := H.p.c9; have k10 := H.p.c10)
    | (refine wpList_fput (s' := s) (I' := _) (T' := .slice a' 300 c') _ rfl 23 (.tmp 18) (.tmp 17) rfl rfl rfl H.p (by omega) rfl (by kernel_rfl) rfl ?_; intro w4 P4; have H4 := H.put P4; clear H; have H := H4; clear H4 P4)
    | (refine wpList_load_rc _ rfl (.tmp 1) rfl rfl H.p ?_)
    | (refine wpList_put_rc (s' := s) (I' := _) (T' := _) _ rfl (.tmp 2) (.tmp 19) rfl rfl rfl H.r rfl rfl ?_; intro w9 P9))
  refine bodyPost_ret (results_rc1 rfl _ _ rfl P9.rc) rfl ?_
  exact ⟨rfl, H.bel.trans (P9.below H.l1 H.bel.size)⟩
set_option maxHeartbeats 400000 in
theorem few_10 (hi : (20 : Int) < n) (hn : n ≤ 9223372036854775807) (hc : n ≤ c) (ht : ¬ (300 : Int) < n') (hn' : n' ≤ 9223372036854775807) (hs : ∀ ad, a = some ad → ad.spot = none) : Calls Try.prog 9 #[.agg (s.A (.slice a n c) (.slice a' n' c'))] w fun e w' => e = .returned (.agg (s.A (.slice a 20 c) (.slice a' n' c'))) ∧ Below w.heap.size w w' := by
  have s1 := fun W => sliceI_to (n := n) 20 (show 20 ≤ c by omega) hs W
  have hc0 := hc
  clear hs
  go_enter Try.func9, Try.ntmps9
  go_wp2_with (first
    | (refine wpList_box_rc (s := s) (I := _) (T := _) _ rfl _ rfl rfl ?_; intro w0 b0 N0)
    | (refine wpList_new_rc _ rfl rfl ?_; intro w1 b1 N1; have H := Fw.mk' N0 N1; clear N0 N1; have k9 := H.p.c9; have k10 := H.p.c10)
    | (refine wpList_fput (s' := s) (I' := .slice a 20 c) (T' := .slice a' n' c') _ rfl 22 (.tmp 10) (.tmp 9) rfl rfl rfl H.p (by omega) rfl (by kernel_rfl) rfl ?_; intro w4 P4; have H4 := H.put P4; clear H; have H := H4; clear H4 P4; have k9 := H.p.c9; have k10 := H.p.c10)
    | (refine wpList_fput (s' := s) (I' := _) (T' := .slice a' 300 c') _ rfl 23 (.tmp 18) (.tmp 17) rfl rfl rfl H.p (by omega) rfl (by kernel_rfl) rfl ?_; intro w4 P4; have H4 := H.put P4; clear H; have H := H4; clear H4 P4)
    | (refine wpList_load_rc _ rfl (.tmp 1) rfl rfl H.p ?_)
    | (refine wpList_put_rc (s' := s) (I' := _) (T' := _) _ rfl (.tmp 2) (.tmp 19) rfl rfl rfl H.r rfl rfl ?_; intro w9 P9))
  refine bodyPost_ret (results_rc1 rfl _ _ rfl P9.rc) rfl ?_
  exact ⟨rfl, H.bel.trans (P9.below H.l1 H.bel.size)⟩
set_option maxHeartbeats 400000 in
theorem few_11 (hi : (20 : Int) < n) (hn : n ≤ 9223372036854775807) (hc : n ≤ c) (ht : (300 : Int) < n') (hn' : n' ≤ 9223372036854775807) (hc' : n' ≤ c') (hs : ∀ ad, a = some ad → ad.spot = none) (hs' : ∀ ad, a' = some ad → ad.spot = none) : Calls Try.prog 9 #[.agg (s.A (.slice a n c) (.slice a' n' c'))] w fun e w' => e = .returned (.agg (s.A (.slice a 20 c) (.slice a' 300 c'))) ∧ Below w.heap.size w w' := by
  have s1 := fun W => sliceI_to (n := n) 20 (show 20 ≤ c by omega) hs W
  have hc0 := hc
  clear hs
  have s2 := fun W => sliceT_to (n := n') 300 (show 300 ≤ c' by omega) hs' W
  have hc0' := hc'
  clear hs'
  go_enter Try.func9, Try.ntmps9
  go_wp2_with (first
    | (refine wpList_box_rc (s := s) (I := _) (T := _) _ rfl _ rfl rfl ?_; intro w0 b0 N0)
    | (refine wpList_new_rc _ rfl rfl ?_; intro w1 b1 N1; have H := Fw.mk' N0 N1; clear N0 N1; have k9 := H.p.c9; have k10 := H.p.c10)
    | (refine wpList_fput (s' := s) (I' := .slice a 20 c) (T' := .slice a' n' c') _ rfl 22 (.tmp 10) (.tmp 9) rfl rfl rfl H.p (by omega) rfl (by kernel_rfl) rfl ?_; intro w4 P4; have H4 := H.put P4; clear H; have H := H4; clear H4 P4; have k9 := H.p.c9; have k10 := H.p.c10)
    | (refine wpList_fput (s' := s) (I' := _) (T' := .slice a' 300 c') _ rfl 23 (.tmp 18) (.tmp 17) rfl rfl rfl H.p (by omega) rfl (by kernel_rfl) rfl ?_; intro w4 P4; have H4 := H.put P4; clear H; have H := H4; clear H4 P4)
    | (refine wpList_load_rc _ rfl (.tmp 1) rfl rfl H.p ?_)
    | (refine wpList_put_rc (s' := s) (I' := _) (T' := _) _ rfl (.tmp 2) (.tmp 19) rfl rfl rfl H.r rfl rfl ?_; intro w9 P9))
  refine bodyPost_ret (results_rc1 rfl _ _ rfl P9.rc) rfl ?_
  exact ⟨rfl, H.bel.trans (P9.below H.l1 H.bel.size)⟩
end
theorem Few_any {w wx : World} {v : Value} {m : Rm} (h : RecV w v m) (hi : m.im.length ≤ 9223372036854775807) (ht : m.tb.length ≤ 9223372036854775807) : Calls Try.prog 9 #[v] wx fun e w' => (∃ v', e = .returned v' ∧ RecV w v' (fewM m)) ∧ Below wx.heap.size wx w' := by
  obtain ⟨s, l, g⟩ := m
  obtain ⟨I, T, rfl, hI, hT⟩ := h.ex
  obtain ⟨a, c, rfl, hcs, hnil, hle, hsp⟩ := hI.ex
  obtain ⟨a', c', rfl, hcs', hnil', hle', hsp'⟩ := hT.ex
  dsimp only at *
  have fI : ∀ k, (l.take 20).length = k → SlI w (.slice a k c) (l.take 20) := fun k hk => by
    refine ⟨a, c, by rw [hk], ?_, hnil, ?_, fun e => hsp (fun e' => e (by rw [e']; rfl))⟩
    · rw [encI_take]; exact hcs.take 20
    · rw [List.length_take]; omega
  have fT : ∀ k, (g.take 300).length = k → SlT w (.slice a' k c') (g.take 300) := fun k hk => by
    refine ⟨a', c', by rw [hk], ?_, hnil', ?_, fun e => hsp' (fun e' => e (by rw [e']; rfl))⟩
    · rw [encT_take]; exact hcs'.take 300
    · rw [List.length_take]; omega
  by_cases h1 : (20 : Int) < l.length
  · have nI : l ≠ [] := fun e => by rw [e] at h1; simp at h1
    by_cases h2 : (300 : Int) < g.length
    · have nT : g ≠ [] := fun e => by rw [e] at h2; simp at h2
      refine (few_11 h1 hi hle h2 ht hle' (hsp nI) (hsp' nT)).mono ?_
      rintro e w' ⟨he, hb⟩
      exact ⟨⟨_, he, ⟨_, _, rfl, fI 20 (by rw [List.length_take]; omega), fT 300 (by rw [List.length_take]; omega)⟩⟩, hb⟩
    · refine (few_10 h1 hi hle h2 ht (hsp nI)).mono ?_
      rintro e w' ⟨he, hb⟩
      exact ⟨⟨_, he, ⟨_, _, rfl, fI 20 (by rw [List.length_take]; omega), fT g.length (by rw [List.length_take]; omega)⟩⟩, hb⟩
  · by_cases h2 : (300 : Int) < g.length
    · have nT : g ≠ [] := fun e => by rw [e] at h2; simp at h2
      refine (few_01 h1 hi h2 ht hle' (hsp' nT)).mono ?_
      rintro e w' ⟨he, hb⟩
      exact ⟨⟨_, he, ⟨_, _, rfl, fI l.length (by rw [List.length_take]; omega), fT 300 (by rw [List.length_take]; omega)⟩⟩, hb⟩
    · refine (few_00 h1 hi h2 ht).mono ?_
      rintro e w' ⟨he, hb⟩
      exact ⟨⟨_, he, ⟨_, _, rfl, fI l.length (by rw [List.length_take]; omega), fT g.length (by rw [List.length_take]; omega)⟩⟩, hb⟩
/-- A record that the law is handed. -/
structure Held (m : Rm) : Prop where
  im : m.im.length ≤ 9223372036854775807
  tb : m.tb.length ≤ 9223372036854775807
  t : ∀ p ∈ m.im, p.2.size ≤ 9223372036854775807
  ky : m.s.ky.size ≤ 9223372036854775807
  ol : m.s.ol.size ≤ 9223372036854775807
  nw : m.s.nw.size ≤ 9223372036854775807
theorem Held.few {m : Rm} (h : Held m) : Small (fewM m) := by
  refine ⟨?_, ?_, ?_, h.ky, h.ol, h.nw⟩
  · show (m.im.take 20).length ≤ 1000
    rw [List.length_take]; omega
  · show (m.tb.take 300).length ≤ 1000
    rw [List.length_take]; omega
  · intro p hp
    exact h.t p (List.mem_of_mem_take hp)
end Go.Proofs.Ytakdfdnndogaiaa

namespace Go.Proofs.Ytakdfdnndogaiaa
open Go.RowKit
set_option linter.unusedVariables false
set_option linter.unusedSimpArgs false
set_option maxRecDepth 100000

theorem cv_one (w : World) (x : Int) :
    (convert 31 9 (.slice (some ⟨w.heap.size, 0, none⟩) 1 1)).run Try.prog (w.alloc (.cells #[.int .u8 x] 5)) = .ok (.string ⟨#[UInt8.ofNat x.toNat]⟩) (w.alloc (.cells #[.int .u8 x] 5)) := Pk.cv_one w x
set_option maxHeartbeats 1000000 in
theorem rput_any (A : ByteArray × Int) (n : Int) (k : Nat) (w : World) (hB : Bare A) (hz : A.1.size ≤ 100000000000) (h1 : 1 ≤ k) (h6 : k ≤ 6) :
    Calls Try.prog 25 #[.string A.1, .int .i64 n, .int .i64 (k : Int), .int .i64 A.2] w fun e w' => e = .returned (.tuple #[.string (stepW A n k).1, .int .i64 (stepW A n k).2]) ∧ Below w.heap.size w w' := by
  obtain ⟨a, e⟩ := A
  dsimp only at hz
  have hcv := cv_one
  have hb := Pk.limI_bd k h6
  go_enter Try.func25, Try.ntmps25
  go_wp2
  go_loop [10, 11] (fun o i => ∃ j : Nat, j ≤ k ∧ i = .int .i64 j ∧ o = .int .i64 (Pk.limI j)) (fun _ i => k - (intOf i).toNat)
  case atStart => exact ⟨0, Nat.zero_le _, rfl, rfl⟩
  case round =>
    obtain ⟨j, hj, rfl, rfl⟩ := hrel
    have hbj := Pk.limI_bd j (by omega)
    by_cases hlt : j < k
    · have hb2 := Pk.limI_bd (j + 1) (by omega)
      have HS : Hid (Pk.limI (j + 1) = 256 * Pk.limI j) := Pk.limI_succ j
      have h3 : 256 * Pk.limI j ≤ 281474976710656 := by rw [← HS.out]; exact hb2.2
      have h4 : 1 ≤ 256 * Pk.limI j := by rw [← HS.out]; exact hb2.1
      go_wp2
      go_round
      case rel => exact ⟨j + 1, by omega, by go_num, by rw [HS.out]⟩
      case measure => simp [intOf]; omega
    · have hjk : j = k := by omega
      subst hjk
      by_cases he : e = 0
      · subst he
        by_cases h0 : n < 0
        · have HE : Hid (stepW (a, 0) n (j : Int) = (⟨#[]⟩, 6)) := stepW_bad (by omega) (by omega) (Or.inl h0)
          go_wp2
          go_ret2
          rw [HE.out]
          exact ⟨rfl, Below.refl _ _⟩
        · by_cases h2 : Pk.limI j ≤ n
          · have HE : Hid (stepW (a, 0) n (j : Int) = (⟨#[]⟩, 6)) := stepW_bad (by omega) (by omega) (Or.inr (by rw [Int.toNat_natCast]; exact h2))
            go_wp2
            go_ret2
            rw [HE.out]
            exact ⟨rfl, Below.refl _ _⟩
          · obtain ⟨m, rfl⟩ : ∃ m : Nat, n = m := ⟨n.toNat, by omega⟩
            have HE : Hid (stepW (a, 0) (m : Int) (j : Int) = (a ++ Pk.beS m j, 0)) := (stepW_good (by omega) (by omega) (by omega) (by rw [Int.toNat_natCast]; omega) : stepW (a, 0) (m : Int) (j : Int) = (a ++ Pk.beS (m : Int).toNat (j : Int).toNat, 0))
            have hm : (m : Int) < Pk.limI j := by omega
            have hm2 : (m : Int) ≤ 281474976710656 := by omega
            have H2 : Hid (¬ Pk.limI j ≤ (m : Int)) := h2
            go_wp2
            go_loopw [1, 12, 13] (fun mv sv iv w' => ∃ i q : Nat, i ≤ j ∧ iv = .int .i64 i ∧ Hid (q = m / 256 ^ i) ∧ q ≤ 281474976710656 ∧ mv = .int .i64 q ∧ sv = .string (Pk.beS m i) ∧ Below w.heap.size w w') (fun _ _ iv _ => j - (intOf iv).toNat)
            case atStart => exact ⟨0, m, Nat.zero_le _, rfl, by simp [Hid], by omega, rfl, rfl, Below.refl _ _⟩
            case round =>
              obtain ⟨i, q, hi, rfl, hq, hq2, rfl, rfl, hbel⟩ := hrel
              have hsz : (Pk.beS m i).size ≤ 6 := by rw [Pk.beS_size]; omega
              by_cases hlt2 : i < j
              · go_wp2
                go_roundw
                case rel =>
                  refine ⟨i + 1, q / 256, by omega, by go_num, ?_, by omega, by go_num, ?_, hbel.alloc hbel.size _⟩
                  · show q / 256 = _
                    rw [hq.out, Nat.div_div_eq_div_mul, ← Nat.pow_succ]
                  · rw [Pk.beS_succ, hq.out]
                case measure => simp [intOf]; omega
              · have : i = j := by omega
                subst this
                go_wp2
                go_ret2
                rw [HE.out]
                exact ⟨rfl, hbel⟩
      · have he' : (e != 0) = true := by simpa using he
        have ha : a = ⟨#[]⟩ := hB he
        subst ha
        have HE : Hid (stepW (⟨#[]⟩, e) n (j : Int) = (⟨#[]⟩, e)) := stepW_had he
        go_wp2
        go_ret2
        rw [HE.out]
        exact ⟨rfl, Below.refl _ _⟩
theorem cv_two (w : World) (x y : Int) :
    (convert 31 9 (.slice (some ⟨w.heap.size, 0, none⟩) 2 2)).run Try.prog (w.alloc (.cells #[.int .u8 x, .int .u8 y] 5)) = .ok (.string ⟨#[UInt8.ofNat x.toNat, UInt8.ofNat y.toNat]⟩) (w.alloc (.cells #[.int .u8 x, .int .u8 y] 5)) := by
  have h := run_convert_bytes_arg (P := Try.prog) (w.alloc (.cells #[.int .u8 x, .int .u8 y] 5)) 31 5 Try.underlying31 Try.underlying5 w.heap.size 0 2 2 [x, y] rfl
    (fun i hi => by have : i = 0 ∨ i = 1 := by omega
                    rcases this with rfl | rfl <;> simp [go_sem]) 9 Try.underlying9
  rw [h]; rfl
theorem two_bytes (n : Nat) (h : n ≤ 65535) : (⟨#[UInt8.ofNat (n / 256), UInt8.ofNat (n % 256)]⟩ : ByteArray) = Pk.beS n 2 := by
  rw [Pk.beS_2, Nat.mod_eq_of_lt (show n / 256 < 256 by omega)]
set_option maxHeartbeats 400000 in
theorem rtext_any (A : ByteArray × Int) (t : ByteArray) (w : World) (hB : Bare A) (hz : A.1.size ≤ 100000000000) (ht : A.2 = 0 → t.size ≤ 65535) :
    Calls Try.prog 26 #[.string A.1, .string t, .int .i64 A.2] w fun e w' => e = .returned (.tuple #[.string (stepT A t).1, .int .i64 (stepT A t).2]) ∧ Below w.heap.size w w' := by
  obtain ⟨a, e⟩ := A
  dsimp only at hz ht ⊢
  have hcv := cv_two
  by_cases he : e = 0
  · subst he
    replace ht := ht rfl
    rw [stepT_good ht, ← two_bytes _ ht]
    have hz2 : (⟨#[UInt8.ofNat (t.size / 256), UInt8.ofNat (t.size % 256)]⟩ : ByteArray).size = 2 := rfl
    have hz3 : (a ++ (⟨#[UInt8.ofNat (t.size / 256), UInt8.ofNat (t.size % 256)]⟩ : ByteArray)).size ≤ 200000000000 := by rw [ByteArray.size_append, hz2]; omega
    go_enter Try.func26, Try.ntmps26
    go_wp2
    go_ret2
    exact ⟨rfl, (Below.refl _ _).alloc (Nat.le_refl _) _⟩
  · have he' : (e != 0) = true := by simpa using he
    have ha : a = ⟨#[]⟩ := hB he
    subst ha
    rw [stepT_had he]
    go_enter Try.func26, Try.ntmps26
    go_wp2
    go_ret2
    exact ⟨rfl, Below.refl _ _⟩
end Go.Proofs.Ytakdfdnndogaiaa

namespace Go.Proofs.Ytakdfdnndogaiaa
open Go.RowKit
set_option linter.unusedVariables false
set_option linter.unusedSimpArgs false
set_option maxRecDepth 100000

theorem stepW_err {A : ByteArray × Int} {n k : Int} (h : (stepW A n k).2 = 0) : A.2 = 0 := by
  rcases Classical.em (A.2 = 0) with h0 | h0
  · exact h0
  · obtain ⟨a, e⟩ := A
    rw [stepW_had h0] at h
    exact h
theorem stepT_err {A : ByteArray × Int} {t : ByteArray} (h : (stepT A t).2 = 0) : A.2 = 0 := by
  rcases Classical.em (A.2 = 0) with h0 | h0
  · exact h0
  · obtain ⟨a, e⟩ := A
    rw [stepT_had h0] at h
    exact h
/-- What is laid, or the error; e0: the error that stood ahead. -/
structure Stt (e0 : Int) (A : ByteArray × Int) (j : Nat) : Prop where
  bare : Bare A
  sz : A.1.size ≤ j
  er : A.2 = 0 → e0 = 0
section
variable {e0 : Int} {A : ByteArray × Int} {j : Nat}
theorem Stt.start (e0 : Int) : Stt e0 (⟨#[]⟩, e0) 0 := ⟨fun _ => rfl, Nat.le_refl _, fun h => h⟩
theorem Stt.stepW (h : Stt e0 A j) (n k : Int) : Stt e0 (stepW A n k) (j + 6) := ⟨h.bare.stepW n k, by have := stepW_size A n k; have := h.sz; omega, fun e => h.er (stepW_err e)⟩
theorem Stt.stepT (h : Stt e0 A j) (t : ByteArray) : Stt e0 (stepT A t) (j + 65537) := ⟨h.bare.stepT t, by have := stepT_size A t; have := h.sz; omega, fun e => h.er (stepT_err e)⟩
theorem Stt.mono {j' : Nat} (h : Stt e0 A j) (hj : j ≤ j') : Stt e0 A j' := ⟨h.bare, Nat.le_trans h.sz hj, h.er⟩
theorem Stt.put (h : Stt e0 A j) (hj : j ≤ 10000000000) (n k : Int) (hk : 1 ≤ k) (hk6 : k ≤ 6) (w : World) : Calls Try.prog 25 #[.string A.1, .int .i64 n, .int .i64 k, .int .i64 A.2] w fun e w' => e = .returned (.tuple #[.string (Go.Proofs.Ytakdfdnndogaiaa.stepW A n k).1, .int .i64 (Go.Proofs.Ytakdfdnndogaiaa.stepW A n k).2]) ∧ Stt e0 (Go.Proofs.Ytakdfdnndogaiaa.stepW A n k) (j + 6) ∧ Below w.heap.size w w' := by
  obtain ⟨q, rfl⟩ : ∃ q : Nat, k = q := ⟨k.toNat, by omega⟩
  have hz := h.sz
  exact (rput_any A n q w h.bare (by omega) (by omega) (by omega)).mono fun e w' ⟨he, hb⟩ => ⟨he, h.stepW n q, hb⟩
theorem Stt.text (h : Stt e0 A j) (hj : j ≤ 10000000000) (t : ByteArray) (ht : e0 = 0 → t.size ≤ 1000) (w : World) : Calls Try.prog 26 #[.string A.1, .string t, .int .i64 A.2] w fun e w' => e = .returned (.tuple #[.string (Go.Proofs.Ytakdfdnndogaiaa.stepT A t).1, .int .i64 (Go.Proofs.Ytakdfdnndogaiaa.stepT A t).2]) ∧ Stt e0 (Go.Proofs.Ytakdfdnndogaiaa.stepT A t) (j + 65537) ∧ Below w.heap.size w w' := by
  have hz := h.sz
  exact (rtext_any A t w h.bare (by omega) (fun e => by have := ht (h.er e); omega)).mono fun e w' ⟨he, hb⟩ => ⟨he, h.stepT t, hb⟩
end
theorem layI_had (l : List Im) {e : Int} (h : e ≠ 0) : layI l (⟨#[]⟩, e) = (⟨#[]⟩, e) := by
  induction l with
  | nil => rfl
  | cons p r ih =>
    show layI r (stepT (stepW (⟨#[]⟩, e) p.1 2) p.2) = _
    rw [stepW_had h, stepT_had h, ih]
theorem layB_had (l : List Tb) {e : Int} (h : e ≠ 0) : layB l (⟨#[]⟩, e) = (⟨#[]⟩, e) := by
  induction l with
  | nil => rfl
  | cons p r ih =>
    show layB r (stepW (stepW (⟨#[]⟩, e) p.1 6) p.2 6) = _
    rw [stepW_had h, stepW_had h, ih]
theorem layC_had (s : Sc) {e : Int} (h : e ≠ 0) : layC s (⟨#[]⟩, e) = (⟨#[]⟩, e) := by
  unfold layC layV
  rw [stepW_had h, stepT_had h, stepT_had h, stepT_had h, stepT_had h]
  split
  · rfl
  · split <;> rfl
theorem laidF_had (m : Rm) {e : Int} (h : e ≠ 0) : laidF m (⟨#[]⟩, e) = (⟨#[]⟩, e) := by
  unfold laidF
  dsimp only [layP, List.foldl]
  simp only [stepW_had h, layI_had _ h, layB_had _ h, layC_had _ h]
  repeat' split
  all_goals rfl
section
variable {w : World} {s : Sc} {I T : Value} {e0 : Int} {A : ByteArray × Int} {j : Nat}
set_option maxHeartbeats 1000000 in
theorem rchange_3 (h : Stt e0 A j) (hj : j ≤ 1000000000) (hy : e0 = 0 → s.ky.size ≤ 1000) (ho : e0 = 0 → s.ol.size ≤ 1000) (hw : e0 = 0 → s.nw.size ≤ 1000) :
    Calls Try.prog 27 #[.string A.1, .agg (s.A I T), .int .i64 3, .int .i64 A.2] w fun e w' => e = .returned (.tuple #[.string (stepT (stepT (stepW A s.pg 2) s.ky) s.nw).1, .int .i64 (stepT (stepT (stepW A s.pg 2) s.ky) s.nw).2]) ∧ Stt e0 (stepT (stepT (stepW A s.pg 2) s.ky) s.nw) (j + 300000) ∧ Below w.heap.size w w' := by
  go_enter Try.func27, Try.ntmps27
  go_wp2_with (first
    | (refine wpList_box_rc (s := s) (I := _) (T := _) _ rfl _ rfl rfl ?_; intro w0 b0 N0; have R := N0.rc; have B := N0.below; clear N0; have k3 := R.c3)
    | (go_at_call 25; refine (h.put (by omega) _ _ (by omega) (by omega) _).mono ?_; clear h; rintro e w1 ⟨rfl, h1, b1⟩; have R1 := R.below b1; have B1 := thn B b1; clear R B; have R := R1; have B := B1; clear R1 B1 b1; have k5 := R.c5)
    | (go_at_call 26; refine (h1.text (by omega) _ hy _).mono ?_; clear h1; rintro e w1 ⟨rfl, h2, b1⟩; have R1 := R.below b1; have B1 := thn B b1; clear R B; have R := R1; have B := B1; clear R1 B1 b1; have k7 := R.c7)
    | (go_at_call 26; refine (h2.text (by omega) _ hw _).mono ?_; clear h2; rintro e w1 ⟨rfl, h3, b1⟩; have B1 := thn B b1; clear R B; have B := B1; clear B1 b1))
  go_ret2
  exact ⟨rfl, h3.mono (by omega), B⟩
set_option maxHeartbeats 1000000 in
theorem rchange_4 (h : Stt e0 A j) (hj : j ≤ 1000000000) (hy : e0 = 0 → s.ky.size ≤ 1000) (ho : e0 = 0 → s.ol.size ≤ 1000) (hw : e0 = 0 → s.nw.size ≤ 1000) :
    Calls Try.prog 27 #[.string A.1, .agg (s.A I T), .int .i64 4, .int .i64 A.2] w fun e w' => e = .returned (.tuple #[.string (stepT (stepT (stepW A s.pg 2) s.ky) s.ol).1, .int .i64 (stepT (stepT (stepW A s.pg 2) s.ky) s.ol).2]) ∧ Stt e0 (stepT (stepT (stepW A s.pg 2) s.ky) s.ol) (j + 300000) ∧ Below w.heap.size w w' := by
  go_enter Try.func27, Try.ntmps27
  go_wp2_with (first
    | (refine wpList_box_rc (s := s) (I := _) (T := _) _ rfl _ rfl rfl ?_; intro w0 b0 N0; have R := N0.rc; have B := N0.below; clear N0; have k3 := R.c3)
    | (go_at_call 25; refine (h.put (by omega) _ _ (by omega) (by omega) _).mono ?_; clear h; rintro e w1 ⟨rfl, h1, b1⟩; have R1 := R.below b1; have B1 := thn B b1; clear R B; have R := R1; have B := B1; clear R1 B1 b1; have k5 := R.c5)
    | (go_at_call 26; refine (h1.text (by omega) _ hy _).mono ?_; clear h1; rintro e w1 ⟨rfl, h2, b1⟩; have R1 := R.below b1; have B1 := thn B b1; clear R B; have R := R1; have B := B1; clear R1 B1 b1; have k7 := R.c6)
    | (go_at_call 26; refine (h2.text (by omega) _ ho _).mono ?_; clear h2; rintro e w1 ⟨rfl, h3, b1⟩; have B1 := thn B b1; clear R B; have B := B1; clear B1 b1))
  go_ret2
  exact ⟨rfl, h3.mono (by omega), B⟩
set_option maxHeartbeats 1000000 in
theorem rchange_o (act : Int) (h3 : act ≠ 3) (h4 : act ≠ 4) (h : Stt e0 A j) (hj : j ≤ 1000000000) (hy : e0 = 0 → s.ky.size ≤ 1000) (ho : e0 = 0 → s.ol.size ≤ 1000) (hw : e0 = 0 → s.nw.size ≤ 1000) :
    Calls Try.prog 27 #[.string A.1, .agg (s.A I T), .int .i64 act, .int .i64 A.2] w fun e w' => e = .returned (.tuple #[.string (stepT (stepT (stepT (stepW A s.pg 2) s.ky) s.ol) s.nw).1, .int .i64 (stepT (stepT (stepT (stepW A s.pg 2) s.ky) s.ol) s.nw).2]) ∧ Stt e0 (stepT (stepT (stepT (stepW A s.pg 2) s.ky) s.ol) s.nw) (j + 300000) ∧ Below w.heap.size w w' := by
  have n3 : (act != 3) = true := by simpa using h3
  have n4 : (act != 4) = true := by simpa using h4
  clear h3 h4
  go_enter Try.func27, Try.ntmps27
  go_wp2_with (first
    | (refine wpList_box_rc (s := s) (I := _) (T := _) _ rfl _ rfl rfl ?_; intro w0 b0 N0; have R := N0.rc; have B := N0.below; clear N0; have k3 := R.c3)
    | (go_at_call 25; refine (h.put (by omega) _ _ (by omega) (by omega) _).mono ?_; clear h; rintro e w1 ⟨rfl, h1, b1⟩; have R1 := R.below b1; have B1 := thn B b1; clear R B; have R := R1; have B := B1; clear R1 B1 b1; have k5 := R.c5)
    | (go_at_call 26; refine (h1.text (by omega) _ hy _).mono ?_; clear h1; rintro e w1 ⟨rfl, h2, b1⟩; have R1 := R.below b1; have B1 := thn B b1; clear R B; have R := R1; have B := B1; clear R1 B1 b1; have k6 := R.c6)
    | (go_at_call 26; refine (h2.text (by omega) _ ho _).mono ?_; clear h2; rintro e w1 ⟨rfl, h3, b1⟩; have R1 := R.below b1; have B1 := thn B b1; clear R B; have R := R1; have B := B1; clear R1 B1 b1; have k7 := R.c7)
    | (go_at_call 26; refine (h3.text (by omega) _ hw _).mono ?_; clear h3; rintro e w1 ⟨rfl, h4, b1⟩; have B1 := thn B b1; clear R B; have B := B1; clear B1 b1))
  go_ret2
  exact ⟨rfl, h4.mono (by omega), B⟩
theorem rchange_any (h : Stt e0 A j) (hj : j ≤ 1000000000) (hy : e0 = 0 → s.ky.size ≤ 1000) (ho : e0 = 0 → s.ol.size ≤ 1000) (hw : e0 = 0 → s.nw.size ≤ 1000) (act : Int) (ha : act = actOf s) :
    Calls Try.prog 27 #[.string A.1, .agg (s.A I T), .int .i64 act, .int .i64 A.2] w fun e w' => e = .returned (.tuple #[.string (layC s A).1, .int .i64 (layC s A).2]) ∧ Stt e0 (layC s A) (j + 300000) ∧ Below w.heap.size w w' := by
  unfold layC layV
  by_cases h3 : actOf s = 3
  · rw [if_pos h3, ha, h3]
    exact rchange_3 h hj hy ho hw
  · by_cases h4 : actOf s = 4
    · rw [if_neg h3, if_pos h4, ha, h4]
      exact rchange_4 h hj hy ho hw
    · rw [if_neg h3, if_neg h4]
      exact rchange_o act (by rw [ha]; exact h3) (by rw [ha]; exact h4) h hj hy ho hw
end
end Go.Proofs.Ytakdfdnndogaiaa
