/- The net's Swap. -/
import Derived.Test.YtamchicifjnmgaaOps
import Derived.BigRegion
namespace Go.Proofs.Ytamchicifjnmgaa
open Go.RowKit
set_option linter.unusedVariables false
set_option linter.unusedSimpArgs false
set_option maxRecDepth 100000

variable {w w' : World} {t nb : Nat} {a : Option Addr} {cap : Nat} {S : Nt}

theorem Swap_bad (w : World) (h : NtIs w 49 nb a cap S) (i k : Int) (hi : (i < 0 ∨ (S.way.length : Int) ≤ i) ∨ (k < 0 ∨ (S.way.length : Int) ≤ k)) : Calls Try.prog 14 #[.pointer (some ⟨nb, 0, none⟩), .int .i64 i, .int .i64 k] w fun e w' => e = .returned (.int .i64 8) ∧ w' = w := by
  by_cases h1 : i < 0 ∨ (S.way.length : Int) ≤ i
  · have C : Hid (∀ w, NtIs w 49 nb a cap S → Calls Try.prog 23 #[.pointer (some ⟨nb, 0, none⟩), .int .i64 i] w fun e w' => e = .returned (.int .i64 8) ∧ w' = w) := fun w h => refusalAt_bad w h i h1
    have H : Hid _ := h
    clear hi h h1
    go_enter Try.func14, Try.ntmps14
    go_wp2_with (go_at_call 23; refine (C.out _ H.out).mono ?_; rintro e w' ⟨rfl, rfl⟩)
    go_ret
    exact ⟨rfl, rfl⟩
  · have h2 := hi.resolve_left h1
    obtain ⟨n, rfl⟩ : ∃ n : Nat, i = (n : Int) := ⟨i.toNat, by omega⟩
    have C : Hid (∀ w x v, (x = (n : Int) ∧ v = 0) ∨ (x = k ∧ v = 8 ∧ x ≠ (n : Int)) → NtIs w 49 nb a cap S → Calls Try.prog 23 #[.pointer (some ⟨nb, 0, none⟩), .int .i64 x] w fun e w' => e = .returned (.int .i64 v) ∧ w' = w) := fun w x v hx h => by
      rcases hx with ⟨rfl, rfl⟩ | ⟨rfl, rfl, _⟩
      · exact refusalAt_ok w h n (by omega)
      · exact refusalAt_bad w h _ h2
    have HK : Hid (k ≠ (n : Int)) := fun e => by omega
    have H : Hid _ := h
    clear hi h h1 h2
    go_enter Try.func14, Try.ntmps14
    go_wp2_with (go_at_call 23; refine (C.out _ _ _ (by first | exact Or.inl ⟨rfl, rfl⟩ | exact Or.inr ⟨rfl, rfl, HK.out⟩) H.out).mono ?_; rintro e w' ⟨rfl, rfl⟩)
    go_ret
    exact ⟨rfl, rfl⟩
/-- Two change their places. -/
def swapS (S : Nt) (i k : Nat) (hi : i < S.way.length) (hk : k < S.way.length) : Nt := { S with way := (S.way.set i S.way[k]).set k S.way[i] }
theorem set_some {w : World} {p q : Addr} {x v : Value} (h : w.cell? q = some v) : ∃ v', (w.setCell p x).cell? q = some v' := by
  by_cases e : p = q
  · subst e; exact ⟨x, World.cell?_setCell_same w p x h⟩
  · exact ⟨v, (World.cell?_setCell_other w p q x e).trans h⟩
set_option maxHeartbeats 4000000 in
theorem Swap_ok (w : World) (h : NtIs w 49 nb a cap S) (i k : Nat) (hi : i < S.way.length) (hk : k < S.way.length) : Calls Try.prog 14 #[.pointer (some ⟨nb, 0, none⟩), .int .i64 (i : Int), .int .i64 (k : Int)] w fun e w' => e = .returned (.int .i64 0) ∧ Got w w' 49 nb a (swapS S i k hi hk) := by
  have C : Hid (∀ w x, (x = i ∨ x = k) → NtIs w 49 nb a cap S → Calls Try.prog 23 #[.pointer (some ⟨nb, 0, none⟩), .int .i64 (x : Nat)] w fun e w' => e = .returned (.int .i64 0) ∧ w' = w) := fun w x hx h => refusalAt_ok w h x (by omega)
  obtain ⟨g, rfl, hg, hl, hm⟩ := h.row.form (way_ne hi)
  have hc := h.c0
  have hci := h.row.cell hi
  have hck := h.row.cell hk
  have hfi := h.row.unfrozen i
  have hfk := h.row.unfrozen k
  have hi' : (i : Int) < (S.way.length : Int) := by omega
  have hk' : (k : Int) < (S.way.length : Int) := by omega
  obtain ⟨v', hy⟩ := set_some (p := ⟨g, i, none⟩) (x := .string S.way[k]) hck
  have H : Hid (NtIs w 49 nb (some ⟨g, 0, none⟩) cap S) := h
  have HG : Hid (Got w ((w.setCell ⟨g, i, none⟩ (.string S.way[k])).setCell ⟨g, k, none⟩ (.string S.way[i])).drew 49 nb (some ⟨g, 0, none⟩) (swapS S i k hi hk)) := by
    refine Got.mk (cap' := cap) (((h.setRow i hi S.way[k]).setRow k (by simpa using hk) S.way[i]).drew) ⟨(((Off.refl _ _).setCell (Or.inr rfl) _ _).setCell (Or.inr rfl) _ _).drew, fun k h => Or.inl h⟩
  obtain ⟨P, hP⟩ : ∃ P, P = swapS S i k hi hk := ⟨_, rfl⟩
  rw [← hP] at HG ⊢
  clear hP h
  go_enter Try.func14, Try.ntmps14
  go_wp2_with (go_at_call 23; refine (C.out _ _ (by first | exact Or.inl rfl | exact Or.inr rfl) H.out).mono ?_; rintro e w' ⟨rfl, rfl⟩)
  go_region
  go_wp2
  go_ret
  exact ⟨rfl, HG.out⟩
end Go.Proofs.Ytamchicifjnmgaa
