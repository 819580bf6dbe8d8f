/- The laws' example. -/
import Derived.Test.YtjlhohljkedbbaaPsI
namespace Go.Proofs.Ytjlhohljkedbbaa.Pa
open Go.RowKit Gm Go.Maps
set_option linter.unusedVariables false
set_option linter.unusedSimpArgs false
set_option maxRecDepth 100000
def rA1 : Rc := ⟨3, 5, 0, 0, 0, ⟨#[97]⟩, ⟨#[]⟩, ⟨#[49]⟩, 0, 0, 0⟩
def rA2 : Rc := ⟨7, 5, 0, 0, 0, ⟨#[]⟩, ⟨#[]⟩, ⟨#[]⟩, 0, 0, 0⟩
def pA1 : List Gn := [⟨5, 3, [(⟨#[97]⟩, zW)]⟩]
theorem pA1_eq : noteM [] rA1 3 = pA1 := rfl
theorem pA2_eq : noteM pA1 rA2 9 = [] := rfl
theorem gA1 {x : Ws} {is : Bool} (h : GtO pA1 [97] x is) : x = zW ∧ is = true := by
  cases is with
  | false =>
    have := (h.no rfl).2 _ (List.mem_singleton.2 rfl)
    simp [lkK] at this
  | true =>
    obtain ⟨g, hg, p, h1, h2, h3⟩ := h.yes rfl
    rw [pA1, List.mem_singleton] at hg
    subst hg
    simp [lkK] at h1
    subst h1
    exact ⟨h2, rfl⟩
theorem gA2 {k : List UInt8} {x : Ws} {is : Bool} (h : GtO [] k x is) : x = zW ∧ is = false := by
  cases is with
  | false => exact ⟨(h.no rfl).1, rfl⟩
  | true =>
    obtain ⟨g, hg, _⟩ := h.yes rfl
    cases hg
set_option maxHeartbeats 1000000 in
theorem awake14 (w : World) : Calls Try.prog 9 #[] w fun e w' => e = .returned (.bool true) ∧ Below w.heap.size w w' := by
  have h2 := stW
  have C1 : Hid (∀ W wx pb, Dp W wx pb [] → Calls Try.prog 7 #[.pointer (some ⟨pb, 0, none⟩), .agg (rA1.A (.slice none 0 0) (.slice none 0 0)), .int .i64 3] wx fun e w' => e = .returned (.tuple #[]) ∧ NpO W wx w' pb pA1) := fun W wx pb D => Note_any (r := rA1) D (show (Lit.int .i64 5).wf = true from rfl) (by decide) (by decide) (fun g hg => by cases hg) 3
  have C2 : Hid (∀ W wx pb, Dp W wx pb pA1 → Calls Try.prog 6 #[.pointer (some ⟨pb, 0, none⟩), .string ⟨#[97]⟩] wx fun e w' => e = .returned (.tuple #[.agg zW.A, .bool true]) ∧ Below wx.heap.size wx w') := fun W wx pb D => (Get_any D ⟨#[97]⟩ (by decide)).mono fun e w' h => by
    obtain ⟨⟨x, is, rfl, ho⟩, hb⟩ := h
    obtain ⟨rfl, rfl⟩ := gA1 ho
    exact ⟨rfl, hb⟩
  have C3 : Hid (∀ W wx pb, Dp W wx pb pA1 → Calls Try.prog 16 #[.pointer (some ⟨pb, 0, none⟩)] wx fun e w' => e = .returned (.int .i64 1) ∧ Below wx.heap.size wx w') := fun W wx pb D => Acts_any D (by decide) (fun g hg => by rw [pA1, List.mem_singleton] at hg; subst hg; decide)
  have C4 : Hid (∀ W wx pb, Dp W wx pb pA1 → Calls Try.prog 7 #[.pointer (some ⟨pb, 0, none⟩), .agg (rA2.A (.slice none 0 0) (.slice none 0 0)), .int .i64 9] wx fun e w' => e = .returned (.tuple #[]) ∧ NpO W wx w' pb []) := fun W wx pb D => Note_any (r := rA2) D (show (Lit.int .i64 5).wf = true from rfl) (by decide) (by decide) (fun g hg => by rw [pA1, List.mem_singleton] at hg; subst hg; decide) 9
  have C5 : Hid (∀ W wx pb, Dp W wx pb [] → Calls Try.prog 6 #[.pointer (some ⟨pb, 0, none⟩), .string ⟨#[97]⟩] wx fun e w' => e = .returned (.tuple #[.agg zW.A, .bool false]) ∧ Below wx.heap.size wx w') := fun W wx pb D => (Get_any D ⟨#[97]⟩ (by decide)).mono fun e w' h => by
    obtain ⟨⟨x, is, rfl, ho⟩, hb⟩ := h
    obtain ⟨rfl, rfl⟩ := gA2 ho
    exact ⟨rfl, hb⟩
  go_enter Try.func9, Try.ntmps9
  go_wp2_with first
    | (go_at_call 5; refine (New_ok _).mono ?_; rintro e w1 ⟨rfl, q1, n1⟩; obtain ⟨W1, D1, hW1⟩ := n1.ex)
    | (have := q5; go_at_call 7; refine (C4.out _ _ _ D6).mono ?_; rintro e w7 ⟨rfl, o7⟩; obtain ⟨W7, D7, F7⟩ := o7.ex)
    | (go_at_call 7; refine (C1.out _ _ _ D1).mono ?_; rintro e w2 ⟨rfl, o2⟩; obtain ⟨W2, D2, F2⟩ := o2.ex)
    | (have := F7; go_at_call 6; refine (C5.out _ _ _ D7).mono ?_; rintro e w8 ⟨rfl, q8⟩)
    | (go_at_call 6; refine (C2.out _ _ _ D2).mono ?_; rintro e w3 ⟨rfl, q3⟩)
    | (have := q8; refine wpList_new_at (A := zW.A) _ zKv rfl rfl ?_; intro w9 b9 N9)
    | (refine wpList_new_at (A := zW.A) _ zKv rfl rfl ?_; intro w4 b4 N4)
    | (have := N9; refine wpList_put_at (A := zW.A) (A' := zW.A) h2 _ rfl _ _ rfl rfl rfl N9.is rfl rfl (oneW _) ?_; intro w10 P10)
    | (refine wpList_put_at (A := zW.A) (A' := zW.A) h2 _ rfl _ _ rfl rfl rfl N4.is rfl rfl (oneW _) ?_; intro w5 P5; have k1 : w5.cell? ⟨b4, 1, none⟩ = some (.bool false) := P5.is.c 1; have D5 : Dp W2 w5 _ pA1 := (D2.bel q3).bel (np_bel N4 P5))
    | (go_at_call 16; refine (C3.out _ _ _ D5).mono ?_; rintro e w6 ⟨rfl, q5⟩; have D6 := D5.bel q5)
  go_ret
  have a2 : Below w.heap.size w w2 := q1.trans (F2.bel hW1 q1.size)
  have a5 := a2.trans ((thn q3 (np_bel N4 P5)).mono a2.size)
  have a6 := a5.trans (q5.mono a5.size)
  have hW2 : ∀ j, W2 j → w.heap.size ≤ j := fun j hj => (F2.sub j hj).elim (hW1 j) (fun h => Nat.le_trans q1.size h)
  have a7 := a6.trans (F7.bel hW2 a6.size)
  exact ⟨rfl, a7.trans ((thn q8 (np_bel N9 P10)).mono a7.size)⟩
end Go.Proofs.Ytjlhohljkedbbaa.Pa
