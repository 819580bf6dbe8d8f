/- The sort of no cells. -/
import Derived.Test.YtjlhohljkedbbaaSvE
namespace Go.Proofs.Ytjlhohljkedbbaa.So
open Go.Sort Go.RowKit
set_option linter.unusedVariables false
set_option linter.unusedSimpArgs false
set_option maxRecDepth 1000000
section
variable {g : Nat} {cb : Array Value}
theorem insN (w : World) : Calls Try.prog 36 #[.slice none 0 0, .int .i64 0, .int .i64 0, .func (.func g) #[] cb] w fun e w' => e = .returned (.tuple #[]) ∧ w' = w := by
  go_enter Try.func36, Try.ntmps36
  go_wp2
  go_loopg [8] 0 (fun k vi wr => vi = .int .i64 1 ∧ wr = w)
  case atStart => exact ⟨rfl, rfl⟩
  case round =>
    obtain ⟨rfl, rfl⟩ := hrel
    go_wp2
    go_end0
    exact ⟨rfl, rfl⟩
theorem stableN (w : World) : Calls Try.prog 29 #[.slice none 0 0, .int .i64 0, .func (.func g) #[] cb] w fun e w' => e = .returned (.tuple #[]) ∧ w' = w := by
  go_enter Try.func29, Try.ntmps29
  go_wp2
  go_loopg [7, 8] 0 (fun k va vb wr => va = .int .i64 0 ∧ vb = .int .i64 20 ∧ wr = w)
  case atStart => exact ⟨rfl, rfl, rfl⟩
  case round =>
    obtain ⟨rfl, rfl, rfl⟩ := hrel
    go_wp2_with (go_at_call 36; refine (insN _).mono ?_; rintro e w2 ⟨rfl, rfl⟩)
    rename World => w3
    go_loopg [6] 0 (fun k v wr => v = .int .i64 20 ∧ wr = w3)
    case atStart => exact ⟨rfl, rfl⟩
    case round =>
      obtain ⟨rfl, rfl⟩ := hrel
      go_wp2
      go_end0
      exact ⟨rfl, rfl⟩
theorem sortN (w : World) : Calls Try.prog 19 #[.slice none 0 0, .func (.func g) #[] cb] w fun e w' => e = .returned (.tuple #[]) ∧ w' = w := by
  go_enter Try.func19, Try.ntmps19
  go_wp2_with (go_at_call 29; refine (stableN _).mono ?_; rintro e w3 ⟨rfl, rfl⟩)
  go_end0
  exact ⟨rfl, rfl⟩
end
end Go.Proofs.Ytjlhohljkedbbaa.So
namespace Go.Proofs.Ytjlhohljkedbbaa.Pa
open Go.RowKit Gm Go.Maps Go.Sort
open Go.Proofs.Ytjlhohljkedbbaa.So (CL encC encL encO cfC)
set_option linter.unusedVariables false
set_option linter.unusedSimpArgs false
set_option maxRecDepth 100000
/-- What the sort of a row of cells leaves. -/
structure StO (w w' : World) (v : Value) (D D' : List CL) : Prop where
  row : Row w' 39 2 v (D'.map encC)
  grow : w.grownBy w' v.ownBlock
  perm : D'.Perm D
  up : D'.Pairwise fun a b => ltOf cfC b a = false
section
variable {w : World} {a : Option Addr} {n c : Nat} {D : List CL}
theorem sort_any (h : Row w 39 2 (.slice a n c) (D.map encC)) (hn : D.length ≤ 100000) : Calls Try.prog 19 #[.slice a n c, .func (.func 20) #[] #[]] w fun e w' => e = .returned (.tuple #[]) ∧ ∃ D', StO w w' (.slice a n c) D D' := by
  obtain ⟨a', c', e0, hc⟩ := h.sl
  rw [List.length_map] at e0
  injection e0 with _ en _
  clear hc
  rcases h.row.2 with ⟨e, h0⟩ | ⟨g', cap, cur, e, hB, hg, h3, h4, h5, h6⟩
  · injection e with e1 e2 e3
    subst e1 e2 e3
    have hD : D = [] := List.eq_nil_of_length_eq_zero (by rw [List.length_map] at h0; exact h0)
    subst hD
    refine (So.sortN w).mono ?_
    rintro e w' ⟨rfl, rfl⟩
    exact ⟨rfl, [], h, ⟨rfl, rfl, rfl, Nat.le_refl _, fun _ _ _ => rfl⟩, List.Perm.refl _, List.Pairwise.nil⟩
  · injection e with e1 e2 e3
    subst e1 e3 en
    have hR := rw_of_row h hn
    refine (So.sortV (cap := c) (n := D.length) hR (by simp)).mono ?_
    rintro e w' ⟨rfl, d', hW, hp, hs⟩
    have hsz : d'.size = D.length := by rw [hp.1]; simp
    obtain ⟨h1, h2⟩ := row_of_wd h hR hW hsz
    refine ⟨rfl, d'.toList, h1, h2, ?_, ?_⟩
    · have h3 := hp.2.2
      rw [show d'.extract 0 D.length = d' from by rw [← hsz]; exact Array.extract_size, show D.toArray.extract 0 D.length = D.toArray from by have : D.toArray.size = D.length := by simp
                                                                                                                                              rw [← this]; exact Array.extract_size] at h3
      simpa using h3
    · rw [List.pairwise_iff_getElem]
      intro i j hi hj hij
      have := hs i j (Nat.zero_le _) hij (by simpa [hsz] using hj)
      rw [getElem!_pos d' j (by simpa using hj), getElem!_pos d' i (by simpa using hi)] at this
      simpa using this
end
end Go.Proofs.Ytjlhohljkedbbaa.Pa
