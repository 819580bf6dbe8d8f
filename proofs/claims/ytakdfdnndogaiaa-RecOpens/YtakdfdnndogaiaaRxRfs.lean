/- Why a record has no bytes: refusal. -/
import Derived.Test.YtakdfdnndogaiaaRxRef
namespace Go.Proofs.Ytakdfdnndogaiaa
open Go.RowKit
set_option linter.unusedVariables false
set_option linter.unusedSimpArgs false
set_option maxRecDepth 100000

section
variable {w : World} {s : Sc} {T : Value} {a : Option Addr} {c : Nat} {l : List Im} {g : List Tb}
set_option maxHeartbeats 1000000 in
theorem refusal_any (hn : l.length ≤ 1000) (hcs : Cs w a (encI l)) (ht : ∀ p ∈ l, p.2.size ≤ 9223372036854775807) (hk : s.ky.size ≤ 9223372036854775807) (ho : s.ol.size ≤ 9223372036854775807) (hw : s.nw.size ≤ 9223372036854775807) :
    Calls Try.prog 36 #[.agg (s.A (.slice a l.length c) T)] w fun r w' => r = .returned (.int .i64 (refM ⟨s, l, g⟩)) ∧ Below w.heap.size w w' := by
  have CF : Hid (∀ w', Below w.heap.size w w' → Calls Try.prog 53 #[.agg (s.A (.slice a l.length c) T)] w' fun r w'' => r = .returned (.bool (formed ⟨s, l, g⟩)) ∧ Below w'.heap.size w' w'') := fun w' hb => isFormed_any hn (hcs.below hb) ht
  clear hcs ht
  unfold refM
  dsimp only
  by_cases h1 : s.kd < 1
  · rw [if_pos (Or.inl h1)]
    go_enter Try.func36, Try.ntmps36
    go_wp2_with (refine wpList_box_rc (s := s) (I := _) (T := _) _ rfl _ rfl rfl ?_; intro w0 b0 N0; have k0 := N0.rc.c0)
    go_ret
    exact ⟨rfl, N0.below⟩
  by_cases h2 : 10 < s.kd
  · rw [if_pos (Or.inr h2)]
    go_enter Try.func36, Try.ntmps36
    go_wp2_with (refine wpList_box_rc (s := s) (I := _) (T := _) _ rfl _ rfl rfl ?_; intro w0 b0 N0; have k0 := N0.rc.c0)
    go_ret
    exact ⟨rfl, N0.below⟩
  rw [if_neg (by omega)]
  by_cases h3 : formed ⟨s, l, g⟩ = false
  · rw [if_pos h3]
    rw [h3] at CF
    go_enter Try.func36, Try.ntmps36
    go_wp2_with (first
      | (refine wpList_box_rc (s := s) (I := _) (T := _) _ rfl _ rfl rfl ?_; intro w0 b0 N0; have k0 := N0.rc.c0)
      | (refine wpList_load_rc _ rfl _ rfl rfl N0.rc ?_)
      | (go_at_call 53; refine (CF.out _ N0.below).mono ?_; rintro e w1 ⟨rfl, b1⟩))
    go_ret
    exact ⟨rfl, thn N0.below b1⟩
  rw [if_neg h3]
  have h3' : formed ⟨s, l, g⟩ = true := by simpa using h3
  rw [h3'] at CF
  clear h3 h3'
  obtain ⟨K, hK⟩ : ∃ K, K = decide ((16 : Int) < s.ky.size) := ⟨_, rfl⟩
  obtain ⟨V, hV⟩ : ∃ V, V = (decide ((32 : Int) < s.ol.size) || decide ((32 : Int) < s.nw.size)) := ⟨_, rfl⟩
  have C1 : Hid (∀ w1 : World, Calls Try.prog 54 #[.int .i64 16, .slice (some ⟨w1.heap.size, 0, none⟩) 1 1] (w1.alloc (.cells #[.string s.ky] 9)) fun r w' => r = .returned (.bool K) ∧ w' = w1.alloc (.cells #[.string s.ky] 9)) := fun w1 => by
    rw [hK]
    exact tooLong_1 16 (Joins.cell_of_block (MapKept.heap_alloc w1 _).1 0) hk
  have C2 : Hid (∀ w1 : World, Calls Try.prog 54 #[.int .i64 32, .slice (some ⟨w1.heap.size + 1, 0, none⟩) 2 2] ((w1.alloc (.cells #[.string s.ky] 9)).alloc (.cells #[.string s.ol, .string s.nw] 9)) fun r w' => r = .returned (.bool V) ∧ w' = (w1.alloc (.cells #[.string s.ky] 9)).alloc (.cells #[.string s.ol, .string s.nw] 9)) := fun w1 => by
    rw [hV]
    have hz : (w1.alloc (.cells #[.string s.ky] 9)).heap.size = w1.heap.size + 1 := by simp
    have hb := (MapKept.heap_alloc (w1.alloc (.cells #[.string s.ky] 9)) (.cells #[.string s.ol, .string s.nw] 9)).1
    rw [hz] at hb
    exact tooLong_2 32 (Joins.cell_of_block hb 0) (Joins.cell_of_block hb 1) ho hw
  by_cases h4 : 16 < s.ky.size
  · rw [if_pos h4]
    have hK' : K = true := by rw [hK]; simp; omega
    subst hK'
    clear hK hV C2 h4 hk ho hw
    go_enter Try.func36, Try.ntmps36
    go_wp2_with (first
      | (refine wpList_box_rc (s := s) (I := _) (T := _) _ rfl _ rfl rfl ?_; intro w0 b0 N0; have k0 := N0.rc.c0)
      | (refine wpList_load_rc _ rfl _ rfl rfl N0.rc ?_)
      | (go_at_call 53; refine (CF.out _ N0.below).mono ?_; rintro e w1 ⟨rfl, b1⟩; have k5 := (N0.rc.below b1).c5)
      | (go_at_call 54; refine (C1.out _).mono ?_; rintro e w2 ⟨rfl, rfl⟩))
    go_ret
    exact ⟨rfl, thn (thn N0.below b1) ((Below.refl _ _).alloc (Nat.le_refl _) _)⟩
  rw [if_neg h4]
  have hK' : K = false := by rw [hK]; simp; omega
  subst hK'
  by_cases h5 : 32 < s.ol.size ∨ 32 < s.nw.size
  · rw [if_pos h5]
    have hV' : V = true := by rw [hV]; simp; omega
    subst hV'
    clear hK hV h4 h5 hk ho hw
    go_enter Try.func36, Try.ntmps36
    go_wp2_with (first
      | (refine wpList_box_rc (s := s) (I := _) (T := _) _ rfl _ rfl rfl ?_; intro w0 b0 N0; have k0 := N0.rc.c0)
      | (refine wpList_load_rc _ rfl _ rfl rfl N0.rc ?_)
      | (go_at_call 53; refine (CF.out _ N0.below).mono ?_; rintro e w1 ⟨rfl, b1⟩; have k5 := (N0.rc.below b1).c5; have k6 := (N0.rc.below b1).c6; have k7 := (N0.rc.below b1).c7; have hlt := (N0.rc.below b1).lt)
      | (go_at_call 54; refine (C1.out _).mono ?_; clear C1; rintro e w2 ⟨rfl, rfl⟩; have B2 : Below w1.heap.size w1 (w1.alloc (.cells #[.string s.ky] 9)) := (Below.refl _ _).alloc (Nat.le_refl _) _)
      | (go_at_call 54; refine (C2.out _).mono ?_; clear C2; rintro e w3 ⟨rfl, rfl⟩))
    go_ret
    exact ⟨rfl, thn (thn (thn N0.below b1) B2) ((Below.refl _ _).alloc (Nat.le_refl _) _)⟩
  · rw [if_neg h5]
    have hV' : V = false := by rw [hV]; simp; omega
    subst hV'
    clear hK hV h4 h5 hk ho hw
    go_enter Try.func36, Try.ntmps36
    go_wp2_with (first
      | (refine wpList_box_rc (s := s) (I := _) (T := _) _ rfl _ rfl rfl ?_; intro w0 b0 N0; have k0 := N0.rc.c0)
      | (refine wpList_load_rc _ rfl _ rfl rfl N0.rc ?_)
      | (go_at_call 53; refine (CF.out _ N0.below).mono ?_; rintro e w1 ⟨rfl, b1⟩; have k5 := (N0.rc.below b1).c5; have k6 := (N0.rc.below b1).c6; have k7 := (N0.rc.below b1).c7; have hlt := (N0.rc.below b1).lt)
      | (go_at_call 54; refine (C1.out _).mono ?_; clear C1; rintro e w2 ⟨rfl, rfl⟩; have B2 : Below w1.heap.size w1 (w1.alloc (.cells #[.string s.ky] 9)) := (Below.refl _ _).alloc (Nat.le_refl _) _)
      | (go_at_call 54; refine (C2.out _).mono ?_; clear C2; rintro e w3 ⟨rfl, rfl⟩))
    go_ret
    exact ⟨rfl, thn (thn (thn N0.below b1) B2) ((Below.refl _ _).alloc (Nat.le_refl _) _)⟩
end
end Go.Proofs.Ytakdfdnndogaiaa
