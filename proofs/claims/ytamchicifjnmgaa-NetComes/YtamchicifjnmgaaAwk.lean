/- The law's awake: chapter 4's example. -/
import Derived.Test.YtamchicifjnmgaaOps
namespace Go.Proofs.Ytamchicifjnmgaa
open Go.RowKit
set_option linter.unusedVariables false
set_option linter.unusedSimpArgs false
set_option maxRecDepth 100000

variable {w w' : World} {t nb : Nat} {a : Option Addr} {cap : Nat} {S : Nt}

/-- A net that lies behind B. -/
def At (B : Nat) (w0 w : World) (nb : Nat) (S : Nt) : Prop := ∃ a cap, NtIs w 49 nb a cap S ∧ S.Ok ∧ Below B w0 w ∧ B ≤ nb ∧ (∀ k, own a = some k → B ≤ k) ∧ B ≤ w0.heap.size
theorem At.step {B : Nat} {w0 w w' : World} {nb : Nat} {S S' : Nt} {a : Option Addr} {cap : Nat} (h : NtIs w 49 nb a cap S) (hb : Below B w0 w) (hn : B ≤ nb) (hk : ∀ k, own a = some k → B ≤ k) (hB : B ≤ w0.heap.size) (hS : S'.Ok) (hg : Got w w' 49 nb a S') : At B w0 w' nb S' := by
  obtain ⟨a', cap', h1, h2⟩ := hg
  have hw := Nat.le_trans hB hb.size
  refine ⟨a', cap', h1, hS, hb.trans (h2.off.below (fun k hk' => ?_) hw), hn, fun k hk' => ?_, hB⟩
  · rcases hk' with rfl | e
    · exact hn
    · exact hk k e
  · rcases h2.near k hk' with e | e
    · exact hk k e
    · omega
theorem At.new (w : World) : At w.heap.size w (w.alloc (.cells #[.slice none 0 0, .int .i64 0, .int .i64 0] 49)) w.heap.size newNt :=
  ⟨none, 0, nt_new w 49 (by decide), newNt_ok, (Below.refl _ _).alloc (Nat.le_refl _) _, Nat.le_refl _, fun k h => (by cases h), Nat.le_refl _⟩
def sA : ByteArray := ⟨#[97]⟩
def sB : ByteArray := ⟨#[98]⟩
theorem At.send {B : Nat} {w0 w : World} {nb : Nat} {S : Nt} (h : At B w0 w nb S) (s : ByteArray) (hl : S.way.length < 128) (hn : S.sent < 1000000) : Calls Try.prog 11 #[.pointer (some ⟨nb, 0, none⟩), .string s] w fun e w' => e = .returned (.bool true) ∧ At B w0 w' nb ⟨S.way ++ [s], S.sent + 1, S.lost⟩ := by
  obtain ⟨a, cap, h1, hS, hb, hn', hk, hB⟩ := h
  have e1 : roomB S = true := by simp [roomB, hl]
  have e2 : sendS S s = ⟨S.way ++ [s], S.sent + 1, S.lost⟩ := by simp [sendS, putS]; omega
  refine (Send_any w h1 hS s hn).mono fun e w' ⟨he, hg⟩ => ⟨by rw [he, e1], ?_⟩
  rw [e2] at hg
  exact At.step h1 hb hn' hk hB ⟨by simp; omega, by have := hS.s0; simp only; omega, by simp only; omega, hS.l0, hS.l1⟩ hg
theorem At.take {B : Nat} {w0 w : World} {nb : Nat} {S : Nt} (h : At B w0 w nb S) (i : Nat) (hi : i < S.way.length) : Calls Try.prog 15 #[.pointer (some ⟨nb, 0, none⟩), .int .i64 (i : Int)] w fun e w' => e = .returned (.tuple #[.string S.way[i], .int .i64 0]) ∧ At B w0 w' nb (cutS S i) := by
  obtain ⟨a, cap, h1, hS, hb, hn', hk, hB⟩ := h
  refine (Take_ok w h1 hS i hi).mono fun e w' ⟨he, hg⟩ => ⟨he, ?_⟩
  exact At.step h1 hb hn' hk hB ⟨by have := hS.len; simp [cutS]; omega, hS.s0, hS.s1, hS.l0, hS.l1⟩ hg
theorem At.len {B : Nat} {w0 w : World} {nb : Nat} {S : Nt} (h : At B w0 w nb S) : Calls Try.prog 18 #[.pointer (some ⟨nb, 0, none⟩)] w fun e w' => e = .returned (.int .i64 S.way.length) ∧ w' = w := by
  obtain ⟨a, cap, h1, hS, hb, hn', hk, hB⟩ := h
  exact Len_any w h1
theorem awake_any (w : World) : Calls Try.prog 10 #[] w fun e w' => e = .returned (.bool true) ∧ Below w.heap.size w w' := by
  obtain ⟨B, hB⟩ : ∃ B, B = w.heap.size := ⟨_, rfl⟩
  have C0 : Hid (Calls Try.prog 7 #[] w fun e w' => e = .returned (.pointer (some ⟨B, 0, none⟩)) ∧ At B w w' B newNt) := by
    rw [hB]
    exact (New_any w).mono fun e w' ⟨he, hw⟩ => ⟨he, by rw [hw]; exact At.new w⟩
  have C1 : Hid (∀ w1 S s, (S = newNt ∧ s = (⟨#[97]⟩ : ByteArray)) ∨ (S = ⟨[⟨#[97]⟩], 1, 0⟩ ∧ s = (⟨#[98]⟩ : ByteArray)) → At B w w1 B S → Calls Try.prog 11 #[.pointer (some ⟨B, 0, none⟩), .string s] w1 fun e w' => e = .returned (.bool true) ∧ At B w w' B ⟨S.way ++ [s], S.sent + 1, S.lost⟩) := fun w1 S s hS h => by
    rcases hS with ⟨rfl, rfl⟩ | ⟨rfl, rfl⟩ <;> exact h.send _ (by decide) (by decide)
  have C2 : Hid (∀ w1, At B w w1 B ⟨[⟨#[97]⟩, ⟨#[98]⟩], 2, 0⟩ → Calls Try.prog 15 #[.pointer (some ⟨B, 0, none⟩), .int .i64 1] w1 fun e w' => e = .returned (.tuple #[.string ⟨#[98]⟩, .int .i64 0]) ∧ At B w w' B ⟨[⟨#[97]⟩], 2, 0⟩) := fun w1 h => h.take 1 (by decide)
  have C3 : Hid (∀ w1, At B w w1 B ⟨[⟨#[97]⟩], 2, 0⟩ → Calls Try.prog 18 #[.pointer (some ⟨B, 0, none⟩)] w1 fun e w' => e = .returned (.int .i64 1) ∧ w' = w1) := fun w1 h => h.len
  have HE : Hid (∀ w1 nb S, At B w w1 nb S → Below B w w1) := fun w1 nb S h => by obtain ⟨a, cap, _, _, hb, _⟩ := h; exact hb
  rw [← hB]
  clear hB
  go_enter Try.func10, Try.ntmps10
  go_wp2_with (first
    | (go_at_call 7; refine C0.out.mono ?_; rintro e w1 ⟨rfl, hA⟩)
    | (go_at_call 11; refine (C1.out _ _ _ (by first | exact Or.inl ⟨rfl, rfl⟩ | exact Or.inr ⟨rfl, rfl⟩) hA).mono ?_; rintro e w2 ⟨rfl, hA⟩)
    | (go_at_call 15; refine (C2.out _ hA).mono ?_; rintro e w3 ⟨rfl, hA⟩)
    | (go_at_call 18; refine (C3.out _ hA).mono ?_; rintro e w4 ⟨rfl, hw4⟩; subst hw4))
  go_ret
  exact ⟨rfl, HE.out _ _ _ hA⟩
end Go.Proofs.Ytamchicifjnmgaa
