/- View's comparison of two cells. -/
import Derived.Test.YtjlhohljkedbbaaSoI
import Derived.Lib.Bytealg
namespace Go.Proofs.Ytjlhohljkedbbaa.So
open Go.Sort Go.RowKit
set_option linter.unusedVariables false
set_option linter.unusedSimpArgs false
set_option maxRecDepth 1000000
def cfC (x y : CL) : Int := Lib.compareBytes x.1.data.toList y.1.data.toList
theorem cb_lt : ∀ a b : List UInt8, Lib.compareBytes a b < 0 ↔ a < b
  | [], [] => by simp [Lib.compareBytes]
  | [], b :: ys => by simp [Lib.compareBytes]
  | a :: xs, [] => by simp [Lib.compareBytes]
  | a :: xs, b :: ys => by
    have ih := cb_lt xs ys
    rw [List.cons_lt_cons_iff]
    unfold Lib.compareBytes
    by_cases h1 : a < b
    · rw [if_pos h1]; simp [h1]
    · rw [if_neg h1]
      by_cases h2 : b < a
      · rw [if_pos h2]
        have hne : a ≠ b := fun e => by subst e; exact h1 h2
        simp [h1, hne]
      · rw [if_neg h2]
        have he : a = b := by
          have h3 : ¬ a.toNat < b.toNat := fun h => h1 (UInt8.lt_iff_toNat_lt.2 h)
          have h4 : ¬ b.toNat < a.toNat := fun h => h2 (UInt8.lt_iff_toNat_lt.2 h)
          exact UInt8.toNat_inj.1 (by omega)
        subst he
        simp [ih, h1]
theorem ltC (x y : CL) : ltOf cfC x y = decide (x.1.data.toList < y.1.data.toList) := by
  unfold ltOf cfC
  exact decide_eq_decide.2 (cb_lt _ _)
theorem swoC : SWO (ltOf cfC) := by
  refine ⟨fun x => ?_, fun x y z h1 h2 => ?_, fun x y z h1 h2 => ?_⟩
  · rw [ltC]; exact decide_eq_false (List.lt_irrefl _)
  · rw [ltC] at *
    exact decide_eq_true (List.lt_trans (of_decide_eq_true h1) (of_decide_eq_true h2))
  · rw [ltC] at *
    have k1 := List.not_lt.1 (of_decide_eq_false h1)
    have k2 := List.not_lt.1 (of_decide_eq_false h2)
    exact decide_eq_false (List.not_lt.2 (List.le_trans k2 k1))
section
variable {w : World}
theorem cmpS (a b : ByteArray) (w : World) : Calls Try.prog 30 #[.string a, .string b] w fun e w' => e = .returned (.int .i64 (Lib.compareBytes a.data.toList b.data.toList)) ∧ w' = w := by
  go_enter Try.func30, Try.ntmps30
  go_wp2
  rw [run_callFunc_extern Try.func38 (by kernel_rfl) (by kernel_rfl) (by kernel_rfl) (e := Extern.BytealgCompare.compare) (by kernel_rfl), Lib.run_compareString]
  simp only [Result.andThen]
  rw [Oper.upon_value]
  go_wp2
  go_ret
  exact ⟨rfl, rfl⟩
theorem cmpT (a b : ByteArray) (w : World) : Calls Try.prog 21 #[.string a, .string b] w fun e w' => e = .returned (.int .i64 (Lib.compareBytes a.data.toList b.data.toList)) ∧ w' = w := by
  go_enter Try.func21, Try.ntmps21
  go_wp2_with (go_at_call 30; refine (cmpS _ _ _).mono ?_; rintro e w2 ⟨rfl, rfl⟩)
  go_ret
  exact ⟨rfl, rfl⟩
theorem cmpV (x y : CL) (w : World) : Calls Try.prog 20 #[.agg #[.string x.1, .string x.2], .agg #[.string y.1, .string y.2]] w fun e w' => e = .returned (.int .i64 (cfC x y)) ∧ ∃ q os', w' = grow (w.drewN q) os' := by
  obtain ⟨k1, v1⟩ := x
  obtain ⟨k2, v2⟩ := y
  go_enter Try.func20, Try.ntmps20
  go_wp2_with (go_at_call 21; refine (cmpT _ _ _).mono ?_; rintro e w2 ⟨rfl, rfl⟩)
  go_ret
  refine ⟨rfl, 0, #[.cells #[.string k1, .string v1] 39, .cells #[.string k2, .string v2] 39], ?_⟩
  rw [alloc_eq_grow, alloc_eq_grow, grow_grow]
  rfl
theorem cmpL {blk size : Nat} (w : World) : CmpLays Try.prog 20 #[] encC 2 cfC blk 0 size w := fun m os dk hs x y => cmpV x y _
theorem egV : ∀ args w, (callFunc 20 args).run Try.prog w = .ok (.enter 20 args) w := fun args w => by kernel_rfl
/-- The sort, as View calls it. -/
theorem sortV {blk cap n : Nat} {d : Array CL} (hR : Rw w blk d) (hn : d.size = n) :
    Calls Try.prog 19 #[.slice (some ⟨blk, 0, none⟩) n cap, .func (.func 20) #[] #[]] w fun e w' => e = .returned (.tuple #[]) ∧ ∃ d', Wd w w' blk d' ∧ PermIn 0 n d d' ∧ SortedIn (ltOf cfC) 0 n d' :=
  SortStable swoC egV hR (cmpL w) hn
end
end Go.Proofs.Ytjlhohljkedbbaa.So
