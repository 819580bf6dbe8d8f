/- What a base is laid as; what is read of a base's numbers. -/
import Derived.Test.YtljedbakdlhlbaaBsMem
namespace Go.Proofs.Ytljedbakdlhlbaa
open Go.RowKit
set_option linter.unusedVariables false
set_option linter.unusedSimpArgs false
set_option maxRecDepth 100000

def wrI (x : ByteArray × Int) (n k : Int) : ByteArray × Int := Pk.wrLay x.1 x.2 (Pk.putV ⟨#[]⟩ n k).1 (Pk.putV ⟨#[]⟩ n k).2
theorem wrI_size (x : ByteArray × Int) (n k : Int) : (wrI x n k).1.size ≤ x.1.size + 6 := by
  have := (Pk.putV_size n k).1
  unfold wrI Pk.wrLay
  split
  · exact Nat.le_add_right _ _
  · split
    · exact Nat.zero_le _
    · rw [ByteArray.size_append]; omega
theorem Pk.Off.trans3 {b c : Nat} {w0 w w' : World} (h : Pk.Off b w0 w) (k : Pk.Off c w w') (hc : w0.heap.size ≤ c) : Pk.Off b w0 w' :=
  ⟨k.os.trans h.os, k.tape.trans h.tape, k.output.trans h.output, Nat.le_trans h.size k.size, fun i hi hn => (k.block i (Nat.lt_of_lt_of_le hi h.size) (by omega)).trans (h.block i hi hn)⟩
/-- A writer of the call's own, beside the base that is laid. -/
structure Wk (w0 : World) (b b0 : Nat) (s : Bs) (m : Nat) (x : ByteArray × Int) (w : World) : Prop where
  is : Pk.WrIs w b x.1 x.2
  off : Pk.Off b w0 w
  sz : x.1.size ≤ 9 + 6 * m
  bs : BsAt w b0 s
  ne : b0 ≠ b
theorem Wk.num {w0 w : World} {b b0 : Nat} {s : Bs} {m : Nat} {x : ByteArray × Int} (h : Wk w0 b b0 s m x w) (hm : m ≤ 100) (n k : Int) : Calls Try.prog 32 #[.pointer (some ⟨b, 0, none⟩), .int .i64 n, .int .i64 k] w fun e w' =>
    e = .returned (.tuple #[]) ∧ Wk w0 b b0 s (m + 1) (wrI x n k) w' := by
  have hz := h.sz
  refine (Pk.WNum_any b x.1 x.2 n k w h.is (by omega)).mono ?_
  rintro e w' ⟨rfl, h1, o1⟩
  have := wrI_size x n k
  exact ⟨rfl, h1, h.off.trans o1, by omega, h.bs.off o1 h.ne, h.ne⟩
theorem sign_text : (Pk.wrLay ⟨#[]⟩ 0 (Pk.textV ⟨#[]⟩ sign7).1 (Pk.textV ⟨#[]⟩ sign7).2) = (sig9, 0) := by
  rw [Pk.textV_fits (by decide)]
  simp only [Pk.wrLay, sig9_eq, nil_append, sign7_size]
  rfl
set_option maxHeartbeats 1000000 in
theorem laid_any (s : Bs) (w : World) : Calls Try.prog 20 #[.agg s.A] w fun e w' =>
    e = .returned (.tuple #[.string (s.ps.foldl wrP (sig9, 0)).1, .int .i64 (s.ps.foldl wrP (sig9, 0)).2]) ∧ Below w.heap.size w w' := by
  have CT : Hid (∀ w0 w b b0, Pk.WrIs w b ⟨#[]⟩ 0 → Pk.Off b w0 w → BsAt w b0 s → b0 ≠ b → Calls Try.prog 31 #[.pointer (some ⟨b, 0, none⟩), .string sign7] w fun e w' => e = .returned (.tuple #[]) ∧ Wk w0 b b0 s 0 (sig9, 0) w') := by
    intro w0 w b b0 h1 o1 q hn
    refine (Pk.WText_any b ⟨#[]⟩ 0 sign7 w h1 (by decide) (by decide)).mono ?_
    rintro e w' ⟨rfl, h2, o2⟩
    rw [sign_text] at h2
    exact ⟨rfl, h2, o1.trans o2, by dsimp only; rw [sig9_size]; omega, q.off o2 hn, hn⟩
  have CN : Hid (∀ w0 w b b0 m x n k, Wk w0 b b0 s m x w → m ≤ 100 → Calls Try.prog 32 #[.pointer (some ⟨b, 0, none⟩), .int .i64 n, .int .i64 k] w fun e w' => e = .returned (.tuple #[]) ∧ Wk w0 b b0 s (m + 1) (wrI x n k) w') := fun w0 w b b0 m x n k h hm => h.num hm n k
  have CA : Hid (∀ w0 w b b0 m x, Wk w0 b b0 s m x w → m ≤ 100 → x = s.ps.foldl wrP (sig9, 0) → Calls Try.prog 33 #[.pointer (some ⟨b, 0, none⟩)] w fun e w' => e = .returned (.tuple #[.string (s.ps.foldl wrP (sig9, 0)).1, .int .i64 (s.ps.foldl wrP (sig9, 0)).2]) ∧ Pk.Off b w0 w') := by
    intro w0 w b b0 m x h hm e
    subst e
    have hz := h.sz
    have hi := h.is
    by_cases hf : Fit s
    · rw [laid_fit hf] at hz hi ⊢
      refine (Pk.All_any b (bB s) w hi (by dsimp only at hz; omega)).mono ?_
      rintro e w' ⟨rfl, h2⟩
      exact ⟨rfl, h.off.trans (Pk.Off.of_below h2)⟩
    · rw [laid_bad hf] at hi ⊢
      refine (Pk.All_err b ⟨#[]⟩ 6 w hi (by decide)).mono ?_
      rintro e w' ⟨rfl, h2⟩
      exact ⟨rfl, h.off.trans (Pk.Off.of_below h2)⟩
  go_enter Try.func20, Try.ntmps20
  go_wp2_with (first
    | (refine wpList_box_bs (s := s) _ rfl _ rfl rfl ?_; intro w0 b0 N0)
    | (go_at_call 31; refine (CT.out w0 _ _ b0 ⟨none, [], (MapKept.heap_alloc w0 _).1, rfl, rfl⟩ (Pk.Off.of_below ((Below.refl _ _).alloc (Nat.le_refl _) _)) (N0.rc.below ((Below.refl _ _).alloc (Nat.le_refl _) _)) (Nat.ne_of_lt N0.rc.lt)).mono ?_; rintro e w1 ⟨rfl, H⟩; have k0 := H.bs.c0; have k1 := H.bs.c1; have k2 := H.bs.c2; have k3 := H.bs.c3; have k4 := H.bs.c4; have k5 := H.bs.c5; have k6 := H.bs.c6)
    | (go_at_call 32; refine (CN.out _ _ _ _ _ _ _ _ H (by decide)).mono ?_; clear k0 k1 k2 k3 k4 k5 k6 H; rintro e w1 ⟨rfl, H⟩; have k0 := H.bs.c0; have k1 := H.bs.c1; have k2 := H.bs.c2; have k3 := H.bs.c3; have k4 := H.bs.c4; have k5 := H.bs.c5; have k6 := H.bs.c6)
    | (go_at_call 33; refine (CA.out _ _ _ _ _ _ H (by decide) rfl).mono ?_; rintro e w2 ⟨rfl, O⟩))
  go_ret2
  exact ⟨rfl, thn N0.below (O.below (Nat.le_refl _) (Nat.le_refl _))⟩
end Go.Proofs.Ytljedbakdlhlbaa
