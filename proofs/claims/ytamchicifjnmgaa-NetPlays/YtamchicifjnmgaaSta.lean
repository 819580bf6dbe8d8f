/- The law's step as a whole; both nets through a script. -/
import Derived.Test.YtamchicifjnmgaaStq
import Derived.Test.YtamchicifjnmgaaStw
import Derived.Test.YtamchicifjnmgaaStd
namespace Go.Proofs.Ytamchicifjnmgaa
open Go.RowKit
set_option linter.unusedVariables false
set_option linter.unusedSimpArgs false
set_option maxRecDepth 100000
variable {B : Nat} {w0 w : World} {nb pb : Nat} {S : Nt}

theorem step_any (h : Pair B w0 w nb pb S) (hS : S.Ok) (hs : S.sent < 1000000) (hl : S.lost < 1000000) (kd i k : Int) (s : ByteArray) :
    Calls Try.prog 8 #[.pointer (some ⟨nb, 0, none⟩), .pointer (some ⟨pb, 0, none⟩), .agg #[.int .i64 kd, .int .i64 i, .int .i64 k, .string s]] w fun e w' => e = .returned (.bool true) ∧ Next B w0 w' nb pb S := by
  by_cases h0 : kd = 0
  · subst h0
    by_cases hf : 128 ≤ S.way.length
    · exact step_send_full h hS hs hl i k s hf
    · exact step_send h hS hs i k s (by omega)
  · by_cases h12 : kd = 1 ∨ kd = 2
    · exact step_take h hS hl kd i k s h12
    · by_cases h3 : kd = 3
      · subst h3
        by_cases hi : i < 0 ∨ (S.way.length : Int) ≤ i
        · exact step_copy_no h hS i k s hi
        · obtain ⟨n, rfl⟩ : ∃ n : Nat, i = (n : Int) := ⟨i.toNat, by omega⟩
          by_cases hf : 128 ≤ S.way.length
          · exact step_copy_full h hS hl n k s (by omega) hf
          · exact step_copy h hS n k s (by omega) (by omega)
      · have hO : Oth kd := ⟨by simpa using h0, by simp; omega, by simp; omega, by simpa using h3⟩
        by_cases hi : (i < 0 ∨ (S.way.length : Int) ≤ i) ∨ (k < 0 ∨ (S.way.length : Int) ≤ k)
        · exact step_swap_no h hS kd i k s hO hi
        · obtain ⟨n, rfl⟩ : ∃ n : Nat, i = (n : Int) := ⟨i.toNat, by omega⟩
          obtain ⟨m, rfl⟩ : ∃ m : Nat, k = (m : Int) := ⟨k.toNat, by omega⟩
          exact step_swap_yes h hS kd n m s hO (by omega) (by omega)

/-- Both nets behind m calls. -/
def Play (B : Nat) (w0 w : World) (nb pb : Nat) (m : Nat) : Prop := ∃ S : Nt, (S.way.length ≤ 128 ∧ 0 ≤ S.sent ∧ S.sent ≤ m ∧ 0 ≤ S.lost ∧ S.lost ≤ m) ∧ Pair B w0 w nb pb S
theorem Play.step {m : Nat} (h : Play B w0 w nb pb m) (hm : m < 1000) (kd i k : Int) (s : ByteArray) :
    Calls Try.prog 8 #[.pointer (some ⟨nb, 0, none⟩), .pointer (some ⟨pb, 0, none⟩), .agg #[.int .i64 kd, .int .i64 i, .int .i64 k, .string s]] w fun e w' => e = .returned (.bool true) ∧ Play B w0 w' nb pb (m + 1) := by
  obtain ⟨S, ⟨h1, h2, h3, h4, h5⟩, hP⟩ := h
  refine (step_any hP ⟨h1, h2, by omega, h4, by omega⟩ (by omega) (by omega) kd i k s).mono fun e w' ⟨he, S', hx, hP'⟩ => ⟨he, S', ⟨hx.len, ?_, ?_, ?_, ?_⟩, hP'⟩
  · have := hx.s0; omega
  · have := hx.s1; omega
  · have := hx.l0; omega
  · have := hx.l1; omega
theorem Play.stands {m : Nat} (h : Play B w0 w nb pb m) (hm : m ≤ 1000) :
    Calls Try.prog 9 #[.pointer (some ⟨nb, 0, none⟩), .pointer (some ⟨pb, 0, none⟩)] w fun e w' => e = .returned (.bool true) ∧ Play B w0 w' nb pb m := by
  obtain ⟨S, ⟨h1, h2, h3, h4, h5⟩, hP⟩ := h
  exact (stands_any hP ⟨h1, h2, by omega, h4, by omega⟩).mono fun e w' ⟨he, hP'⟩ => ⟨he, S, ⟨h1, h2, h3, h4, h5⟩, hP'⟩
theorem Play.alloc {m : Nat} (h : Play B w0 w nb pb m) (o : Obj) : Play B w0 (w.alloc o) nb pb m := by
  obtain ⟨S, h1, a, cap, b, capb, hD⟩ := h
  exact ⟨S, h1, a, cap, b, capb, hD.alloc o⟩
theorem Play.bel {m : Nat} (h : Play B w0 w nb pb m) : Below B w0 w ∧ B ≤ w.heap.size := by
  obtain ⟨S, h1, a, cap, b, capb, hD⟩ := h
  exact ⟨hD.bel, hD.le⟩
theorem Play.new (w : World) : Play w.heap.size w ((w.alloc (.cells #[.slice none 0 0, .int .i64 0, .int .i64 0] 49)).alloc (.cells #[.slice none 0 0, .int .i64 0, .int .i64 0] 28)) w.heap.size (w.heap.size + 1) 0 := by
  refine ⟨newNt, ⟨Nat.zero_le _, Int.le_refl _, Int.le_refl _, Int.le_refl _, Int.le_refl _⟩, none, 0, none, 0, ⟨(nt_new w 49 (by decide)).alloc _, ?_, ?_, ?_, ?_, ?_, Nat.le_refl _⟩⟩
  · have := nt_new (w.alloc (.cells #[.slice none 0 0, .int .i64 0, .int .i64 0] 49)) 28 (by decide)
    simpa using this
  · rintro k (rfl | e) (e' | e')
    · omega
    · cases e'
    · cases e
    · cases e
  · exact ((Below.refl _ _).alloc (Nat.le_refl _) _).alloc (by simp) _
  · rintro k (rfl | e); exact Nat.le_refl _; cases e
  · rintro k (rfl | e); omega; cases e
end Go.Proofs.Ytamchicifjnmgaa
