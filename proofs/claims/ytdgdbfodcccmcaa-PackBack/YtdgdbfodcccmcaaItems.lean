/- The items that a law is handed: what lies in memory where a list of them reads as data; and Text at texts of any length. -/
import Derived.Test.YtdgdbfodcccmcaaWrAll
import Derived.Deep.Slices
namespace Go.Proofs.Ytdgdbfodcccmcaa
open Go.RowKit
set_option linter.unusedVariables false
set_option linter.unusedSimpArgs false
set_option maxRecDepth 100000

/-- What is known of the items: the first len of them, from block b on. -/
def IsItems (w : World) (a : Option Addr) (len : Nat) (f : Nat → Int × Int × ByteArray) : Prop :=
  ∀ i, i < len → ∃ b off, a = some ⟨b, off, none⟩ ∧ b < w.heap.size ∧ w.cell? ⟨b, off + i * 3, none⟩ = some (.int .i64 (f i).1) ∧ w.cell? ⟨b, off + i * 3 + 1, none⟩ = some (.int .i64 (f i).2.1) ∧ w.cell? ⟨b, off + i * 3 + 2, none⟩ = some (.string (f i).2.2)

theorem open_items {H : Type} {enc : TypeId × Value → H} {w : World} {fuel : Nat} {a : Option Addr} {len cap : Nat} {x : DataW H × List MemPlace}
    (h : DataW.trod enc Try.prog w 0 (fun _ => true) true fuel 29 [.slice a len cap] = some x) : ∃ f, IsItems w a len f := by
  rcases Go.Deep.open_slice Try.underlying29 h with ⟨hcs, _⟩ | ⟨ad, l, c, m, n, D, Pl, hcs, _, hl, hm, hmm, _, hall⟩
  · simp at hcs
    obtain ⟨rfl, rfl, rfl⟩ := hcs
    exact ⟨fun _ => (0, 0, ⟨#[]⟩), fun i hi => absurd hi (by omega)⟩
  · simp at hcs
    obtain ⟨rfl, rfl, rfl⟩ := hcs
    rw [if_pos rfl] at hmm
    subst hmm
    have h35 : Try.prog.cellsOf 35 = 3 := by kernel_rfl
    have h3 : Try.prog.cellsOf 3 = 1 := by kernel_rfl
    have h9 : Try.prog.cellsOf 9 = 1 := by kernel_rfl
    have each : ∀ i, i < len → ∃ q : Int × Int × ByteArray, w.cell? (ad.add (i * 3)) = some (.int .i64 q.1) ∧ w.cell? (ad.add (i * 3 + 1)) = some (.int .i64 q.2.1) ∧ w.cell? (ad.add (i * 3 + 2)) = some (.string q.2.2) := by
      intro i hi
      obtain ⟨cs', g1, g2⟩ := hall i (by omega)
      rw [h35] at g1
      obtain ⟨_, hlen, hcell⟩ := World.cells?_some g1
      obtain ⟨xs, k, hk, _, _, hxl, hf⟩ := DataW.trod_struct Try.underlying35 g2
      match xs, hxl, cs', hlen with
      | [y0, y1, y2], _, [v0, v1, v2], _ =>
        have e0 := hcell 0 (by omega)
        have e1 := hcell 1 (by omega)
        have e2 := hcell 2 (by omega)
        rw [Go.Deep.add_add] at e0 e1 e2
        have f0 := hf 0 _ rfl
        have f1 := hf 1 _ rfl
        have f2 := hf 2 _ rfl
        simp [h3, h9] at f0 f1 f2
        obtain ⟨n0, i0, _, _⟩ := DataW.trod_int Try.underlying3 f0
        obtain ⟨n1, i1, _, _⟩ := DataW.trod_int Try.underlying3 f1
        obtain ⟨s2, i2, _, _⟩ := DataW.trod_string Try.underlying9 f2
        simp at i0 i1 i2
        subst i0 i1 i2
        exact ⟨(n0, n1, s2), by simpa using e0, by simpa using e1, by simpa using e2⟩
    obtain ⟨q, hq⟩ := Go.Deep.choose_lt each
    refine ⟨q, fun i hi => ?_⟩
    obtain ⟨b, off, spot⟩ := ad
    have g0 := (hq 0 (by omega)).1
    have hspot : spot = none := by simpa [Addr.add] using World.cell?_spot g0
    subst hspot
    have hadd : ∀ k, (⟨b, off, none⟩ : Addr).add k = ⟨b, off + k, none⟩ := fun k => by unfold Addr.add; split <;> simp_all
    obtain ⟨g1, g2, g3⟩ := hq i hi
    rw [hadd] at g1 g2 g3
    refine ⟨b, off, rfl, ?_, g1, g2, g3⟩
    rcases Nat.lt_or_ge b w.heap.size with h' | h'
    · exact h'
    · simp [World.cell?, Array.getElem?_eq_none h'] at g1

theorem Text_all (s t : ByteArray) (w : World) (hs : s.size ≤ 281474976710656) :
    Calls Try.prog 12 #[.string s, .string t] w fun e w' => e = .returned (.tuple #[.string (textV s t).1, .int .i64 (textV s t).2]) ∧ Below w.heap.size w w' := by
  by_cases hl : 65535 < t.size
  · rw [textV_long hl]
    go_enter Try.func12, Try.ntmps12
    go_wp2_with fail
    go_ret2
    exact ⟨rfl, Below.refl _ _⟩
  · exact Text_any s t w hs (by omega)
theorem text_all (s t : ByteArray) (w : World) (hs : s.size ≤ 281474976710656) :
    Calls Try.prog 13 #[.string s, .string t] w fun e w' => e = .returned (.tuple #[.string (textV s t).1, .int .i64 (textV s t).2]) ∧ Below w.heap.size w w' := by
  by_cases hl : 65535 < t.size
  · rw [textV_long hl]
    go_enter Try.func13, Try.ntmps13
    go_wp2_with fail
    go_ret2
    exact ⟨rfl, Below.refl _ _⟩
  · exact text_any s t w hs (by omega)
theorem WText_all (b : Nat) (all : ByteArray) (e : Int) (t : ByteArray) (w : World) (h : WrIs w b all e) (hsz : all.size ≤ 100000000000000) :
    Calls Try.prog 14 #[.pointer (some ⟨b, 0, none⟩), .string t] w fun r w' => r = .returned (.tuple #[]) ∧ WrIs w' b (wrLay all e (textV ⟨#[]⟩ t).1 (textV ⟨#[]⟩ t).2).1 (wrLay all e (textV ⟨#[]⟩ t).1 (textV ⟨#[]⟩ t).2).2 ∧ Off b w w' := by
  have hz := textV_size t
  have c1 := fun w => Text_all ⟨#[]⟩ t w (by decide)
  obtain ⟨sv, ev, hp⟩ : ∃ sv ev, textV ⟨#[]⟩ t = (sv, ev) := ⟨_, _, rfl⟩
  rw [hp] at c1 hz ⊢
  dsimp only at c1 hz ⊢
  have C1 : Hid _ := c1
  have C2 : Hid _ := fun w h => lay_any b all sv e ev w h (by omega) hz.2
  clear c1 hp hz
  go_enter Try.func14, Try.ntmps14
  go_wp2_with (first | (go_at_call 12; refine (C1.out _).mono ?_; rintro e w1 ⟨rfl, hb1⟩) | (go_at_call 31; refine (C2.out _ (h.below hb1)).mono ?_; rintro e w2 ⟨rfl, h2, o2⟩))
  go_end0
  exact ⟨rfl, h2, (Off.of_below hb1).trans o2⟩

/-- The law's put and text, and what a writer lays: the same. -/
theorem nil_append (s : ByteArray) : (⟨#[]⟩ : ByteArray) ++ s = s := by apply ByteArray.ext; simp [ByteArray.data_append]
theorem putV_lay (A : ByteArray) (n k : Int) : wrLay A 0 (putV ⟨#[]⟩ n k).1 (putV ⟨#[]⟩ n k).2 = putV A n k := by
  unfold wrLay
  rw [if_neg (fun h => h rfl)]
  by_cases hw : k < 1 ∨ 6 < k
  · rw [putV_width hw, putV_width hw]
    rfl
  · by_cases hr : n < 0 ∨ limI k.toNat ≤ n
    · rw [putV_range hw hr, putV_range hw hr]
      rfl
    · rw [putV_fits hw hr, putV_fits hw hr, nil_append]
      rfl
theorem textV_lay (A t : ByteArray) : wrLay A 0 (textV ⟨#[]⟩ t).1 (textV ⟨#[]⟩ t).2 = textV A t := by
  unfold wrLay
  rw [if_neg (fun h => h rfl)]
  by_cases hl : 65535 < t.size
  · rw [textV_long hl, textV_long hl]
    rfl
  · rw [textV_fits hl, textV_fits hl, nil_append]
    show (A ++ (beS t.size 2 ++ t), (0 : Int)) = _
    rw [ByteArray.append_assoc]
theorem putV_le (A : ByteArray) (n k : Int) : (putV A n k).1.size ≤ A.size + 65537 ∧ ((putV A n k).2 ≠ 0 → (putV A n k).1 = ⟨#[]⟩) := by
  by_cases hw : k < 1 ∨ 6 < k
  · rw [putV_width hw]
    exact ⟨Nat.zero_le _, fun _ => rfl⟩
  · by_cases hr : n < 0 ∨ limI k.toNat ≤ n
    · rw [putV_range hw hr]
      exact ⟨Nat.zero_le _, fun _ => rfl⟩
    · rw [putV_fits hw hr]
      dsimp only
      rw [ByteArray.size_append, beS_size]
      exact ⟨by omega, fun h => absurd rfl h⟩
theorem textV_le (A t : ByteArray) : (textV A t).1.size ≤ A.size + 65537 ∧ ((textV A t).2 ≠ 0 → (textV A t).1 = ⟨#[]⟩) := by
  by_cases hl : 65535 < t.size
  · rw [textV_long hl]
    exact ⟨Nat.zero_le _, fun _ => rfl⟩
  · rw [textV_fits hl]
    dsimp only
    rw [ByteArray.size_append, ByteArray.size_append, beS_size]
    exact ⟨by omega, fun h => absurd rfl h⟩
theorem wrLay_had {A s : ByteArray} {F x : Int} (h : F ≠ 0) : wrLay A F s x = (A, F) := by simp [wrLay, h]
end Go.Proofs.Ytdgdbfodcccmcaa
