/- The program's writer: what lay, Num and Text leave of any writer that is not nil. -/
import Derived.Test.YtljedbakdlhlbaaPkRdN
namespace Go.Proofs.Ytljedbakdlhlbaa.Pk
open Go.RowKit
set_option linter.unusedVariables false
set_option linter.unusedSimpArgs false
set_option maxRecDepth 100000

/-- A writer's three cells lie in block b. -/
def isWr (w : World) (b : Nat) (p : Option Addr) (n e : Int) : Prop := w.heap[b]? = some (.cells #[.pointer p, .int .i64 n, .int .i64 e] 70)
theorem isWr.c0 {w : World} {b : Nat} {p : Option Addr} {n e : Int} (h : isWr w b p n e) : w.cell? ⟨b, 0, none⟩ = some (.pointer p) := by
  unfold isWr at h; simp [World.cell?, h]
theorem isWr.c1 {w : World} {b : Nat} {p : Option Addr} {n e : Int} (h : isWr w b p n e) : w.cell? ⟨b, 1, none⟩ = some (.int .i64 n) := by
  unfold isWr at h; simp [World.cell?, h]
theorem isWr.c2 {w : World} {b : Nat} {p : Option Addr} {n e : Int} (h : isWr w b p n e) : w.cell? ⟨b, 2, none⟩ = some (.int .i64 e) := by
  unfold isWr at h; simp [World.cell?, h]
theorem isWr.f {w : World} {b : Nat} {p : Option Addr} {n e : Int} (h : isWr w b p n e) (i : Nat) : w.frozen? ⟨b, i, none⟩ = false := by
  unfold isWr at h; simp [World.frozen?, h]
theorem isWr.lt {w : World} {b : Nat} {p : Option Addr} {n e : Int} (h : isWr w b p n e) : b < w.heap.size := by
  unfold isWr at h
  rcases Nat.lt_or_ge b w.heap.size with h' | h'
  · exact h'
  · simp [Array.getElem?_eq_none h'] at h
theorem isWr.below {w w' : World} {b : Nat} {p : Option Addr} {n e : Int} (h : isWr w b p n e) (hb : Below w.heap.size w w') : isWr w' b p n e := (hb.block b h.lt).trans h
theorem isWr.set0 {w : World} {b : Nat} {p : Option Addr} {n e : Int} (h : isWr w b p n e) (x : Option Addr) : isWr (w.setCell ⟨b, 0, none⟩ (.pointer x)) b x n e := by
  unfold isWr at *
  rw [Joins.block_setCell h]; rfl
theorem isWr.set1 {w : World} {b : Nat} {p : Option Addr} {n e : Int} (h : isWr w b p n e) (x : Int) : isWr (w.setCell ⟨b, 1, none⟩ (.int .i64 x)) b p x e := by
  unfold isWr at *
  rw [Joins.block_setCell h]; rfl
theorem isWr.set2 {w : World} {b : Nat} {p : Option Addr} {n e : Int} (h : isWr w b p n e) (x : Int) : isWr (w.setCell ⟨b, 2, none⟩ (.int .i64 x)) b p n x := by
  unfold isWr at *
  rw [Joins.block_setCell h]; rfl

/-- The pieces that hang at p, the last first; none of them lies in block b. -/
def Chain (b : Nat) (w : World) : Option Addr → List ByteArray → Prop
  | p, [] => p = none
  | p, t :: r => ∃ c p', p = some ⟨c, 0, none⟩ ∧ c ≠ b ∧ c < w.heap.size ∧ w.heap[c]? = some (.cells #[.pointer p', .string t] 86) ∧ 1 ≤ t.size ∧ Chain b w p' r
theorem Chain.off {b : Nat} {w w' : World} (o : Off b w w') : ∀ {l : List ByteArray} {p : Option Addr}, Chain b w p l → Chain b w' p l
  | [], _, h => h
  | t :: r, _, ⟨c, p', hp, hc, hl, hh, ht, hr⟩ => ⟨c, p', hp, hc, Nat.lt_of_lt_of_le hl o.size, (o.block c hl hc).trans hh, ht, Chain.off o hr⟩
def joinR : List ByteArray → ByteArray
  | [] => ⟨#[]⟩
  | t :: r => joinR r ++ t
/-- The writer in block b has laid 'all', or bears the error e. -/
def WrIs (w : World) (b : Nat) (all : ByteArray) (e : Int) : Prop := ∃ p l, isWr w b p all.size e ∧ Chain b w p l ∧ joinR l = all
theorem WrIs.below {w w' : World} {b : Nat} {all : ByteArray} {e : Int} (h : WrIs w b all e) (hb : Below w.heap.size w w') : WrIs w' b all e := by
  obtain ⟨p, l, h1, h2, h3⟩ := h
  exact ⟨p, l, h1.below hb, h2.off (Off.of_below hb), h3⟩
theorem WrIs.lt {w : World} {b : Nat} {all : ByteArray} {e : Int} (h : WrIs w b all e) : b < w.heap.size := by
  obtain ⟨p, l, h1, h2, h3⟩ := h
  exact h1.lt

def wrLay (all : ByteArray) (e : Int) (s : ByteArray) (x : Int) : ByteArray × Int :=
  if e ≠ 0 then (all, e) else if x ≠ 0 then (⟨#[]⟩, x) else (all ++ s, 0)

set_option maxHeartbeats 1000000 in
theorem lay_any (b : Nat) (all s : ByteArray) (e x : Int) (w : World) (h : WrIs w b all e) (hsz : all.size + s.size ≤ 140737488351232) (hs : x = 0 → 1 ≤ s.size) :
    Calls Try.prog 40 #[.pointer (some ⟨b, 0, none⟩), .string s, .int .i64 x] w fun r w' => r = .returned (.tuple #[]) ∧ WrIs w' b (wrLay all e s x).1 (wrLay all e s x).2 ∧ Off b w w' := by
  obtain ⟨p, l, h1, h2, h3⟩ := h
  have H3 : Hid _ := h3
  clear h3
  have hc0 := h1.c0
  have hc1 := h1.c1
  have hc2 := h1.c2
  have hf := h1.f
  have hlt := h1.lt
  unfold wrLay
  by_cases he : e = 0
  · subst he
    rw [if_neg (fun h => h rfl)]
    by_cases hx : x = 0
    · subst hx
      rw [if_neg (fun h => h rfl)]
      replace hs := hs rfl
      go_enter Try.func40, Try.ntmps40
      go_wp2
      go_end0
      have o1 : Off b w ((w.setCell ⟨b, 0, none⟩ (.pointer (some ⟨w.heap.size, 0, none⟩))).setCell ⟨b, 1, none⟩ (.int .i64 ((all.size : Int) + (s.size : Int)))) := ((Off.refl _ _).setCell _ _).setCell _ _
      have i1 := (h1.set0 (some ⟨w.heap.size, 0, none⟩)).set1 ((all.size : Int) + (s.size : Int))
      have z1 : ((w.setCell ⟨b, 0, none⟩ (.pointer (some ⟨w.heap.size, 0, none⟩))).setCell ⟨b, 1, none⟩ (.int .i64 ((all.size : Int) + (s.size : Int)))).heap.size = w.heap.size := by simp [go_sem]
      refine ⟨rfl, ⟨some ⟨w.heap.size, 0, none⟩, s :: l, ?_, ⟨w.heap.size, p, rfl, by omega, ?_, ?_, hs, h2.off (o1.alloc _)⟩, ?_⟩, o1.alloc _⟩
      · rw [ByteArray.size_append, Int.natCast_add]
        exact i1.below ((Below.refl _ _).alloc (Nat.le_refl _) _)
      · simp [go_sem]
      · have := (MapKept.heap_alloc ((w.setCell ⟨b, 0, none⟩ (.pointer (some ⟨w.heap.size, 0, none⟩))).setCell ⟨b, 1, none⟩ (.int .i64 ((all.size : Int) + (s.size : Int)))) (.cells #[.pointer p, .string s] 86)).1
        rw [z1] at this
        exact this
      · rw [joinR, H3.out]
    · rw [if_pos hx]
      have hx' : (x != 0) = true := by simpa using hx
      go_enter Try.func40, Try.ntmps40
      go_wp2
      go_end0
      refine ⟨rfl, ⟨none, [], ((h1.set0 _).set1 _).set2 _, rfl, rfl⟩, (((Off.refl _ _).setCell _ _).setCell _ _).setCell _ _⟩
  · rw [if_pos he]
    have he' : (e != 0) = true := by simpa using he
    go_enter Try.func40, Try.ntmps40
    go_wp2
    go_end0
    exact ⟨rfl, ⟨p, l, h1, h2, H3.out⟩, Off.refl _ _⟩

theorem putV_size (n k : Int) : (putV ⟨#[]⟩ n k).1.size ≤ 6 ∧ ((putV ⟨#[]⟩ n k).2 = 0 → 1 ≤ (putV ⟨#[]⟩ n k).1.size) := by
  by_cases hw : k < 1 ∨ 6 < k
  · rw [putV_width hw]
    exact ⟨Nat.zero_le _, fun h => absurd h (by dsimp only; decide)⟩
  · by_cases hr : n < 0 ∨ limI k.toNat ≤ n
    · rw [putV_range hw hr]
      exact ⟨Nat.zero_le _, fun h => absurd h (by dsimp only; decide)⟩
    · rw [putV_fits hw hr]
      dsimp only
      rw [ByteArray.size_append, beS_size, size_nil]
      exact ⟨by omega, fun _ => by omega⟩
theorem textV_size (t : ByteArray) : (textV ⟨#[]⟩ t).1.size ≤ 65537 ∧ ((textV ⟨#[]⟩ t).2 = 0 → 1 ≤ (textV ⟨#[]⟩ t).1.size) := by
  by_cases hl : 65535 < t.size
  · rw [textV_long hl]
    exact ⟨Nat.zero_le _, fun h => absurd h (by dsimp only; decide)⟩
  · rw [textV_fits hl]
    dsimp only
    rw [ByteArray.size_append, ByteArray.size_append, beS_size, size_nil]
    exact ⟨by omega, fun _ => by omega⟩

theorem WNum_any (b : Nat) (all : ByteArray) (e n k : Int) (w : World) (h : WrIs w b all e) (hsz : all.size ≤ 100000000000000) :
    Calls Try.prog 32 #[.pointer (some ⟨b, 0, none⟩), .int .i64 n, .int .i64 k] w fun r w' => r = .returned (.tuple #[]) ∧ WrIs w' b (wrLay all e (putV ⟨#[]⟩ n k).1 (putV ⟨#[]⟩ n k).2).1 (wrLay all e (putV ⟨#[]⟩ n k).1 (putV ⟨#[]⟩ n k).2).2 ∧ Off b w w' := by
  have hz := putV_size n k
  have c1 := fun w => Put_any ⟨#[]⟩ n k w (by decide)
  obtain ⟨sv, ev, hp⟩ : ∃ sv ev, putV ⟨#[]⟩ n k = (sv, ev) := ⟨_, _, rfl⟩
  rw [hp] at c1 hz ⊢
  dsimp only at c1 hz ⊢
  have C1 : Hid _ := c1
  have C2 : Hid _ := fun w h => lay_any b all sv e ev w h (by omega) hz.2
  clear c1 hp hz
  go_enter Try.func32, Try.ntmps32
  go_wp2_with (first | (go_at_call 42; refine (C1.out _).mono ?_; rintro e w1 ⟨rfl, hb1⟩) | (go_at_call 40; refine (C2.out _ (h.below hb1)).mono ?_; rintro e w2 ⟨rfl, h2, o2⟩))
  go_end0
  exact ⟨rfl, h2, (Off.of_below hb1).trans o2⟩
theorem WText_any (b : Nat) (all : ByteArray) (e : Int) (t : ByteArray) (w : World) (h : WrIs w b all e) (hsz : all.size ≤ 100000000000000) (ht : t.size ≤ 140737488351232) :
    Calls Try.prog 31 #[.pointer (some ⟨b, 0, none⟩), .string t] w fun r w' => r = .returned (.tuple #[]) ∧ WrIs w' b (wrLay all e (textV ⟨#[]⟩ t).1 (textV ⟨#[]⟩ t).2).1 (wrLay all e (textV ⟨#[]⟩ t).1 (textV ⟨#[]⟩ t).2).2 ∧ Off b w w' := by
  have hz := textV_size t
  have c1 := fun w => Text_any ⟨#[]⟩ t w (by decide) (by omega)
  obtain ⟨sv, ev, hp⟩ : ∃ sv ev, textV ⟨#[]⟩ t = (sv, ev) := ⟨_, _, rfl⟩
  rw [hp] at c1 hz ⊢
  dsimp only at c1 hz ⊢
  have C1 : Hid _ := c1
  have C2 : Hid _ := fun w h => lay_any b all sv e ev w h (by omega) hz.2
  clear c1 hp hz
  go_enter Try.func31, Try.ntmps31
  go_wp2_with (first | (go_at_call 41; refine (C1.out _).mono ?_; rintro e w1 ⟨rfl, hb1⟩) | (go_at_call 40; refine (C2.out _ (h.below hb1)).mono ?_; rintro e w2 ⟨rfl, h2, o2⟩))
  go_end0
  exact ⟨rfl, h2, (Off.of_below hb1).trans o2⟩
end Go.Proofs.Ytljedbakdlhlbaa.Pk
