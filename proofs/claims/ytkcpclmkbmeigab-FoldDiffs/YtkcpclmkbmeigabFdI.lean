/- The law's awake. -/
import Derived.Test.YtkcpclmkbmeigabFdG
import Derived.BigRegion
import Derived.BigQuiet
namespace Go.Proofs.Ytkcpclmkbmeigab.Fd
open Go.RowKit Gm Go.Maps
set_option linter.unusedVariables false
set_option linter.unusedSimpArgs false
set_option maxRecDepth 100000
def kA : ByteArray := ⟨#[97]⟩
def kX : ByteArray := ⟨#[120]⟩
def rA : Rc := ⟨3, 1, 0, 0, 0, kA, ⟨#[]⟩, kX, 0, 0, 0⟩
def rB : Rc := ⟨7, 1, 0, 0, 0, ⟨#[]⟩, ⟨#[]⟩, ⟨#[]⟩, 0, 0, 0⟩
def rC : Rc := ⟨4, 2, 0, 0, 0, kA, ⟨#[]⟩, ⟨#[]⟩, 0, 0, 0⟩
def rD : Rc := ⟨7, 2, 0, 0, 0, ⟨#[]⟩, ⟨#[]⟩, ⟨#[]⟩, 0, 0, 0⟩
def zI : Value := .slice none 0 0
section
variable {W : Nat → Prop} {w w' : World} {fb : Nat}
theorem nA (h : Fo W w fb [] [] 0) : Calls Try.prog 6 #[.pointer (some ⟨fb, 0, none⟩), .agg #[.int .i64 3, .int .i64 1, .int .i64 0, .int .i64 0, .int .i64 0, .string ⟨#[97]⟩, .string ⟨#[]⟩, .string ⟨#[120]⟩, .int .i64 0, .slice none 0 0, .slice none 0 0, .int .i64 0, .int .i64 0]] w fun e w' => e = .returned (.tuple #[]) ∧ FoO W w w' fb [] [⟨1, [(kA, ⟨kX, true⟩)]⟩] 0 := by
  have := Note_any (r := rA) (I := zI) (T := zI) h (show (Lit.int .i64 _).wf = true from rfl) (by decide) (by decide) (by decide) (fun g hg => by cases hg) (by decide)
  have e : noteF ⟨[], [], 0⟩ rA = ⟨[], [⟨1, [(kA, ⟨kX, true⟩)]⟩], 0⟩ := by kernel_rfl
  rw [e] at this
  exact this
theorem nB (h : Fo W w fb [] [⟨1, [(kA, ⟨kX, true⟩)]⟩] 0) : Calls Try.prog 6 #[.pointer (some ⟨fb, 0, none⟩), .agg #[.int .i64 7, .int .i64 1, .int .i64 0, .int .i64 0, .int .i64 0, .string ⟨#[]⟩, .string ⟨#[]⟩, .string ⟨#[]⟩, .int .i64 0, .slice none 0 0, .slice none 0 0, .int .i64 0, .int .i64 0]] w fun e w' => e = .returned (.tuple #[]) ∧ FoO W w w' fb [(kA, kX)] [] 1 := by
  have := Note_any (r := rB) (I := zI) (T := zI) h (show (Lit.int .i64 _).wf = true from rfl) (by decide) (by decide) (by decide) (fun g hg => by rw [List.mem_singleton] at hg; subst hg; decide) (by decide)
  have e : noteF ⟨[], [⟨1, [(kA, ⟨kX, true⟩)]⟩], 0⟩ rB = ⟨[(kA, kX)], [], 1⟩ := by kernel_rfl
  rw [e] at this
  exact this
theorem nC (h : Fo W w fb [(kA, kX)] [] 1) : Calls Try.prog 6 #[.pointer (some ⟨fb, 0, none⟩), .agg #[.int .i64 4, .int .i64 2, .int .i64 0, .int .i64 0, .int .i64 0, .string ⟨#[97]⟩, .string ⟨#[]⟩, .string ⟨#[]⟩, .int .i64 0, .slice none 0 0, .slice none 0 0, .int .i64 0, .int .i64 0]] w fun e w' => e = .returned (.tuple #[]) ∧ FoO W w w' fb [(kA, kX)] [⟨2, [(kA, zH)]⟩] 1 := by
  have := Note_any (r := rC) (I := zI) (T := zI) h (show (Lit.int .i64 _).wf = true from rfl) (by decide) (by decide) (by decide) (fun g hg => by cases hg) (by decide)
  have e : noteF ⟨[(kA, kX)], [], 1⟩ rC = ⟨[(kA, kX)], [⟨2, [(kA, zH)]⟩], 1⟩ := by kernel_rfl
  rw [e] at this
  exact this
theorem nD (h : Fo W w fb [(kA, kX)] [⟨2, [(kA, zH)]⟩] 1) : Calls Try.prog 6 #[.pointer (some ⟨fb, 0, none⟩), .agg #[.int .i64 7, .int .i64 2, .int .i64 0, .int .i64 0, .int .i64 0, .string ⟨#[]⟩, .string ⟨#[]⟩, .string ⟨#[]⟩, .int .i64 0, .slice none 0 0, .slice none 0 0, .int .i64 0, .int .i64 0]] w fun e w' => e = .returned (.tuple #[]) ∧ FoO W w w' fb [] [] 2 := by
  have := Note_any (r := rD) (I := zI) (T := zI) h (show (Lit.int .i64 _).wf = true from rfl) (by decide) (by decide) (by decide) (fun g hg => by rw [List.mem_singleton] at hg; subst hg; decide) (by decide)
  have e : noteF ⟨[(kA, kX)], [⟨2, [(kA, zH)]⟩], 1⟩ rD = ⟨[], [], 2⟩ := by kernel_rfl
  rw [e] at this
  exact this
theorem gA (h : Fo W w fb [(kA, kX)] [⟨2, [(kA, zH)]⟩] 1) : Calls Try.prog 7 #[.pointer (some ⟨fb, 0, none⟩), .string ⟨#[97]⟩] w fun e w' => e = .returned (.tuple #[.string ⟨#[120]⟩, .bool true]) ∧ Below w.heap.size w w' := by
  have := Get_any h kA (by decide)
  have e : getK [(kA, kX)] kA = (kX, true) := by kernel_rfl
  rw [e] at this
  exact this
set_option maxHeartbeats 1000000 in
theorem awake16 (w : World) : Calls Try.prog 12 #[] w fun e w' => e = .returned (.bool true) ∧ Below w.heap.size w w' := by
  have C1 : Hid (∀ W wx fb, Fo W wx fb [] [] 0 → Calls Try.prog 6 #[.pointer (some ⟨fb, 0, none⟩), .agg (rA.A zI zI)] wx fun e w' => e = .returned (.tuple #[]) ∧ FoO W wx w' fb [] [⟨1, [(kA, ⟨kX, true⟩)]⟩] 0) := fun W wx fb h => nA h
  have C2 : Hid (∀ W wx fb, Fo W wx fb [] [⟨1, [(kA, ⟨kX, true⟩)]⟩] 0 → Calls Try.prog 6 #[.pointer (some ⟨fb, 0, none⟩), .agg (rB.A zI zI)] wx fun e w' => e = .returned (.tuple #[]) ∧ FoO W wx w' fb [(kA, kX)] [] 1) := fun W wx fb h => nB h
  have C3 : Hid (∀ W wx fb, Fo W wx fb [(kA, kX)] [] 1 → Calls Try.prog 6 #[.pointer (some ⟨fb, 0, none⟩), .agg (rC.A zI zI)] wx fun e w' => e = .returned (.tuple #[]) ∧ FoO W wx w' fb [(kA, kX)] [⟨2, [(kA, zH)]⟩] 1) := fun W wx fb h => nC h
  have C4 : Hid (∀ W wx fb, Fo W wx fb [(kA, kX)] [⟨2, [(kA, zH)]⟩] 1 → Calls Try.prog 6 #[.pointer (some ⟨fb, 0, none⟩), .agg (rD.A zI zI)] wx fun e w' => e = .returned (.tuple #[]) ∧ FoO W wx w' fb [] [] 2) := fun W wx fb h => nD h
  go_enter Try.func12, Try.ntmps12
  go_wp2_with first
    | (go_at_call 5; refine (New_ok _).mono ?_; rintro e w1 ⟨rfl, ⟨W1, F1, q1⟩, B1⟩; have H1 : Hid (Fo W1 w1 (w.heap.size + 1) [] [] 0 ∧ Below w.heap.size w w1 ∧ ∀ j, W1 j → w.heap.size ≤ j) := ⟨F1, B1, q1⟩; clear F1 B1 q1)
    | (go_at_call 6; refine (C4.out _ _ _ H5.out.1).mono ?_; rintro e w6 ⟨rfl, W6, F6, f6⟩; have H6 : Hid (Fo W6 w6 (w.heap.size + 1) [] [] 2 ∧ Below w.heap.size w w6) := ⟨F6, H5.out.2.1.trans (f6.bel H5.out.2.2 H5.out.2.1.size)⟩; clear F6 f6)
    | (go_at_call 7; refine (gA H4.out.1).mono ?_; rintro e w5 ⟨rfl, b5⟩; have H5 : Hid (Fo W4 w5 (w.heap.size + 1) [(kA, kX)] [⟨2, [(kA, zH)]⟩] 1 ∧ Below w.heap.size w w5 ∧ ∀ j, W4 j → w.heap.size ≤ j) := ⟨H4.out.1.bel b5, thn H4.out.2.1 b5, H4.out.2.2⟩; clear b5)
    | (go_at_call 6; refine (C3.out _ _ _ H3.out.1).mono ?_; rintro e w4 ⟨rfl, W4, F4, f4⟩; have H4 : Hid (Fo W4 w4 (w.heap.size + 1) [(kA, kX)] [⟨2, [(kA, zH)]⟩] 1 ∧ Below w.heap.size w w4 ∧ ∀ j, W4 j → w.heap.size ≤ j) := ⟨F4, H3.out.2.1.trans (f4.bel H3.out.2.2 H3.out.2.1.size), fun j hj => (f4.sub j hj).elim (H3.out.2.2 j) (fun h => Nat.le_trans H3.out.2.1.size h)⟩; clear F4 f4)
    | (go_at_call 6; refine (C2.out _ _ _ H2.out.1).mono ?_; rintro e w3 ⟨rfl, W3, F3, f3⟩; have H3 : Hid (Fo W3 w3 (w.heap.size + 1) [(kA, kX)] [] 1 ∧ Below w.heap.size w w3 ∧ ∀ j, W3 j → w.heap.size ≤ j) := ⟨F3, H2.out.2.1.trans (f3.bel H2.out.2.2 H2.out.2.1.size), fun j hj => (f3.sub j hj).elim (H2.out.2.2 j) (fun h => Nat.le_trans H2.out.2.1.size h)⟩; clear F3 f3)
    | (go_at_call 6; refine (C1.out _ _ _ H1.out.1).mono ?_; rintro e w2 ⟨rfl, W2, F2, f2⟩; have H2 : Hid (Fo W2 w2 (w.heap.size + 1) [] [⟨1, [(kA, ⟨kX, true⟩)]⟩] 0 ∧ Below w.heap.size w w2 ∧ ∀ j, W2 j → w.heap.size ≤ j) := ⟨F2, H1.out.2.1.trans (f2.bel H1.out.2.2 H1.out.2.1.size), fun j hj => (f2.sub j hj).elim (H1.out.2.2 j) (fun h => Nat.le_trans H1.out.2.1.size h)⟩; clear F2 f2)
    | (go_at_call 10; refine (Cells_any H6.out.1 (by decide)).mono ?_; rintro e w7 ⟨⟨v7, rfl, r7, o7⟩, b7⟩; have H7 : Hid (Fo W6 w7 (w.heap.size + 1) [] [] 2 ∧ Below w.heap.size w w7) := ⟨H6.out.1.bel b7, thn H6.out.2 b7⟩; obtain ⟨a7, c7, e7, _⟩ := r7.sl; rw [List.length_map] at e7; subst e7; clear r7 o7 b7)
    | (go_at_call 11; refine (Count_any H7.out.1).mono ?_; rintro e w8 ⟨rfl, rfl⟩)
  go_ret
  exact ⟨rfl, H7.out.2⟩
end
end Go.Proofs.Ytkcpclmkbmeigab.Fd
