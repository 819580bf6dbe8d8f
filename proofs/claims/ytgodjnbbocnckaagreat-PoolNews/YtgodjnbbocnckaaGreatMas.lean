/- Which pools there are, and which pages can't be set. -/
import Derived.Test.YtgodjnbbocnckaaGreatMar
namespace Go.Proofs.YtgodjnbbocnckaaGreat
open Go.RowKit Go.Maps Go.ChangeMaps
set_option linter.unusedVariables false
set_option linter.unusedSimpArgs false
set_option maxRecDepth 100000

section
variable {B k k' ww sure : Nat} {w w' wr : World} {S S' : Dk} {X : Ad} {G : Gp} {cs : List Nat} {st pg : Nat → Option Nat} {pn qn : Nat → Nat}
/-- What New answers. -/
structure NewA (w w' : World) (n : Int) (p : Value) (y : Int) : Prop where
  ey : y = if 2 ≤ n ∧ n ≤ 64 then 0 else 1
  ep : (y = 0 ∧ ∃ b, p = .pointer (some ⟨b, 0, none⟩)) ∨ (y = 1 ∧ p = .pointer none)
  bel : Below w.heap.size w w'
theorem New_all (db sb l : Nat) (n : Int) (w : World) : Calls Tryz.prog 29 #[.pointer (some ⟨sb, 0, none⟩), .pointer (some ⟨l, 0, none⟩), .int .i64 n] w fun e w' => ∃ p y, e = .returned (.tuple #[p, .int .i64 y]) ∧ NewA w w' n p y := by
  by_cases hn : 2 ≤ n ∧ n ≤ 64
  · obtain ⟨m, rfl⟩ : ∃ m : Nat, n = (m : Int) := ⟨n.toNat, by omega⟩
    refine (New_po db sb l m (by omega) (by omega) w).mono ?_
    rintro e w' ⟨pb, ra, cp, fb, N⟩
    exact ⟨_, 0, N.e, by rw [if_pos hn], Or.inl ⟨rfl, _, rfl⟩, N.bel⟩
  · refine (New_out sb l n (by omega) w).mono ?_
    rintro e w' ⟨he, rfl⟩
    exact ⟨_, 1, he, by rw [if_neg hn], Or.inr ⟨rfl, rfl⟩, Below.refl _ _⟩
/-- A page of a new pool is set. -/
structure NsO (B : Nat) (w w' : World) (ww : Nat) (X : Ad) : Prop where
  d : Calls Tryz.prog 26 #[.pointer (some ⟨X.pb, 0, none⟩), .int .i64 3] w' fun e w'' => e = .returned (.bool true) ∧ w'' = w'
  g : Calls Tryz.prog 31 #[.pointer (some ⟨X.pb, 0, none⟩)] w' fun e w'' => e = .returned (.int .i64 8) ∧ w'' = w'
  wb : WwIs w' ww X [] (fun _ => none) (fun _ => 0)
  bel : Below B w w'
theorem find_set (h : PoIs B w X G) (id : Int) (hex : ∃ j, j < X.n ∧ (G.F j).has id ∧ 0 < (G.F j).si) (hu : ∀ i j, i < X.n → j < X.n → (G.F i).has id → (G.F j).has id → i = j) : Calls Tryz.prog 26 #[.pointer (some ⟨X.pb, 0, none⟩), .int .i64 id] w fun e w' => e = .returned (.bool true) ∧ w' = w := by
  obtain ⟨j0, hj0, hh0, hs0⟩ := hex
  obtain ⟨j, hj, hh, hlt⟩ := first_has G.F id X.n ⟨j0, hj0, hh0⟩
  have := hu j j0 hj hj0 hh hh0
  subst this
  have CF : Hid (Calls Tryz.prog 58 #[.pointer (some ⟨X.pb, 0, none⟩), .int .i64 id] w fun e w' => e = .returned (.pointer (some ⟨X.fb j, 0, none⟩)) ∧ w' = w) := find_hit h id j hj hh hlt
  have CD : Hid (Calls Tryz.prog 59 #[.pointer (some ⟨X.fb j, 0, none⟩)] w fun e w' => e = .returned (.bool true) ∧ w' = w) := by
    have := isDirty_at (h.f4 hj)
    rw [decide_eq_true hs0] at this
    exact this
  clear h hh hlt hu hh0 hs0 hj0 hj
  go_enter Tryz.func26, Tryz.ntmps26
  go_wp2_with (first
    | (go_at_call 58; refine CF.out.mono ?_; rintro e w0 ⟨rfl, rfl⟩)
    | (go_at_call 59; refine CD.out.mono ?_; rintro e w1 ⟨rfl, rfl⟩))
  go_ret
  exact ⟨rfl, rfl⟩
theorem set_new (h : PW B w ww X k S [] 0 G (fun _ => none) (fun _ => 0) (fun _ => none) (fun _ => 0)) (hs : S.set = false) (hk : k ≤ 29000) (t : ByteArray) (ht : t.size = 224) (l : Int) (hl : 1 ≤ l) : Calls Tryz.prog 30 #[.pointer (some ⟨X.pb, 0, none⟩), .int .i64 3, .string t, .int .i64 l] w fun e w' => e = .returned (.int .i64 0) ∧ NsO B w w' ww X := by
  have hn := h.pv.q.po.n1
  refine (Set_any h.pv hk 3 t ht l hl).mono ?_
  rintro e w' ⟨y, he, hO⟩
  by_cases hy : y = 0
  · subst hy
    obtain ⟨w1, j, S1, s1, G1, p1, T, Q, K⟩ := hO.ok rfl
    refine ⟨he, find_set Q.po 3 ⟨j, T.hj, ?_, ?_⟩ (fun i i' hi hi' h1 h2 => ?_), Pages_po Q.po Q.st, h.wb.kept K, K.bel⟩
    · show (upd G1.F j _ j).has _
      rw [upd_same]; exact T.has
    · show 0 < (upd G1.F j _ j).si
      rw [upd_same]
      show 0 < (if 0 < (G1.F j).si then (G1.F j).si else l)
      split <;> omega
    · have e1 : ∀ i, (upd G1.F j ((G1.F j).put t l) i).has 3 → (G1.F i).has 3 := fun i hh => by
        by_cases e : i = j
        · subst e; rw [upd_same] at hh; exact hh
        · rw [upd_other _ _ e] at hh; exact hh
      exact T.v.v.ds i i' 3 hi hi' (e1 i h1) (e1 i' h2)
  · exfalso
    rcases (hO.bad hy).or with ⟨_, e2, _⟩ | ⟨_, _, _, e4, _⟩ | ⟨_, _, e3⟩
    · omega
    · exact e4 0 (by omega) (h.pins0 (by omega))
    · have := e3.set; rw [hs] at this; cases this
end
end Go.Proofs.YtgodjnbbocnckaaGreat
