/- What a base's disk is behind a save, and behind a save within which the power goes. Plain, with no walk. -/
import Derived.Test.YtljedbakdlhlbaaBsS
namespace Go.Proofs.Ytljedbakdlhlbaa
open Go.RowKit
set_option linter.unusedVariables false
set_option linter.unusedSimpArgs false
set_option maxRecDepth 100000

/-- A disk that is up and not armed. -/
structure Qt (S : Dk) : Prop where
  up : S.up = true
  set : S.set = false
  n : 1 ≤ S.n
/-- A disk on which this base lasts, and nothing waits. -/
structure Sv (S : Dk) (s : Bs) : Prop where
  qt : Qt S
  wait : ∀ i, S.wait i = none
  sure : S.sure 0 = pad (bB s)
theorem Sv.has {S : Dk} {s : Bs} (h : Sv S s) (hs : Fit s) : Has (S.now 0) s := by
  have : S.now 0 = pad (bB s) := by unfold Dk.now; rw [h.wait, h.sure]; rfl
  rw [this]
  exact pad_has hs
theorem Sv.now {S : Dk} {s : Bs} (h : Sv S s) : S.now 0 = pad (bB s) := by unfold Dk.now; rw [h.wait, h.sure]; rfl
theorem Sv.waitL {S : Dk} {s : Bs} (h : Sv S s) : S.waitL = [] := by
  unfold Dk.waitL
  rw [List.filter_eq_nil_iff]
  intro i _
  rw [h.wait i]
  simp
theorem qt_new (n : Nat) (h : 1 ≤ n) : Qt (newDk n) := ⟨rfl, rfl, h⟩
theorem new_none (n : Nat) : ((newDk n).now 0).extract 0 9 ≠ sig9 := zs64_sig
theorem new_waitL (n : Nat) : (newDk n).waitL = [] := by
  unfold Dk.waitL
  rw [List.filter_eq_nil_iff]
  intro i _
  simp [newDk]
theorem refAt_0 {S : Dk} (h : S.up = true) (hn : 1 ≤ S.n) : refAt S.up S.n 0 = 0 := by
  unfold refAt
  rw [h, if_pos rfl, if_neg (by omega)]
theorem write_bB {S : Dk} {s : Bs} (hu : S.up = true) (hn : 1 ≤ S.n) : writeE S 0 (bB s) = actE S ∧ writeDk S 0 (bB s) = if actE S ≠ 0 then actDk S else { actDk S with wait := upd S.wait 0 (some (pad (bB s))) } := by
  have hz := bB_size s
  unfold writeE writeDk
  rw [refAt_0 hu hn]
  have h0 : ¬ ((0 : Int) ≠ 0) := fun h => h rfl
  have h1 : ¬ 64 < (bB s).size := by omega
  rw [if_neg h0, if_neg h0, if_neg h1, if_neg h1]
  exact ⟨rfl, rfl⟩
theorem actE_quiet {S : Dk} (h : S.set = false) : actE S = 0 := by simp [actE, h]
theorem Qt.save {S : Dk} {s : Bs} (h : Qt S) (hw : ∀ i, S.wait i = none) : saveE S s = 0 ∧ Sv (saveDk S s) s ∧ (saveDk S s).n = S.n := by
  obtain ⟨e1, e2⟩ := write_bB (s := s) h.up h.n
  have a0 := actE_quiet h.set
  rw [a0] at e1 e2
  rw [if_neg (by decide)] at e2
  unfold saveE saveDk
  rw [e1, if_pos rfl, if_pos rfl, e2]
  have ad : actDk S = { S with acts := S.acts + 1 } := by simp [actDk, h.set]
  rw [ad]
  have hu := h.up
  have hs := h.set
  refine ⟨by simp [syncE, hu, actE, hs], ⟨⟨?_, ?_, ?_⟩, ?_, ?_⟩, ?_⟩
  all_goals simp [syncDk, actDk, actE, hu, hs, h.n]
  simp [Dk.now, upd]
theorem Sv.armed {S : Dk} {a b : Bs} (h : Sv S a) {i x : Int} (hi : i = 0 ∨ i = 1) : saveE (armDk S i x) b = 9 ∧ (saveDk (armDk S i x) b).up = false ∧ (Sv { saveDk (armDk S i x) b with up := true } a ∨ Sv { saveDk (armDk S i x) b with up := true } b) ∧ (saveDk (armDk S i x) b).n = S.n := by
  have hu := h.qt.up
  have hn := h.qt.n
  have ea : armDk S i x = { S with set := true, left := i, keep := x } := by
    unfold armDk
    rw [if_pos ⟨hu, by omega⟩]
  rw [ea]
  obtain ⟨e1, e2⟩ := write_bB (S := { S with set := true, left := i, keep := x }) (s := b) hu hn
  rcases hi with rfl | rfl
  · have a0 : actE { S with set := true, left := 0, keep := x } = 9 := by simp [actE]
    rw [a0] at e1 e2
    rw [if_pos (by decide)] at e2
    unfold saveE saveDk
    rw [e1, if_neg (by decide), if_neg (by decide), e2]
    have ad : actDk { S with set := true, left := 0, keep := x } = offDk { S with set := true, left := 0, keep := x } x := by simp [actDk]
    rw [ad]
    refine ⟨rfl, rfl, Or.inl ⟨⟨rfl, rfl, hn⟩, fun _ => rfl, ?_⟩, rfl⟩
    show lossF S.sure S.wait x 0 = _
    unfold lossF
    rw [h.wait 0]
    exact h.sure
  · have a0 : actE { S with set := true, left := 1, keep := x } = 0 := by simp [actE]
    rw [a0] at e1 e2
    rw [if_neg (by decide)] at e2
    unfold saveE saveDk
    rw [e1, if_pos rfl, if_pos rfl, e2]
    have ad : actDk { S with set := true, left := 1, keep := x } = { S with set := true, left := 0, keep := x, acts := S.acts + 1 } := by simp [actDk]
    rw [ad]
    have s1 : syncE { S with set := true, left := 0, keep := x, acts := S.acts + 1, wait := upd S.wait 0 (some (pad (bB b))) } = 9 := by simp [syncE, actE, hu]
    have s2 : syncDk { S with set := true, left := 0, keep := x, acts := S.acts + 1, wait := upd S.wait 0 (some (pad (bB b))) } = offDk { S with set := true, left := 0, keep := x, acts := S.acts + 1, wait := upd S.wait 0 (some (pad (bB b))) } x := by simp [syncDk, actDk, actE, hu]
    rw [s1, s2]
    have key : lossF S.sure (upd S.wait 0 (some (pad (bB b)))) x 0 = pad (bB a) ∨ lossF S.sure (upd S.wait 0 (some (pad (bB b)))) x 0 = pad (bB b) := by
      unfold lossF
      rw [upd_same]
      dsimp only
      split
      · exact Or.inr rfl
      · exact Or.inl h.sure
    refine ⟨rfl, rfl, ?_, rfl⟩
    rcases key with e | e
    · exact Or.inl ⟨⟨rfl, rfl, hn⟩, fun _ => rfl, e⟩
    · exact Or.inr ⟨⟨rfl, rfl, hn⟩, fun _ => rfl, e⟩
theorem arm_ok {S : Dk} (h : Qt S) {i : Int} (hi : i = 0 ∨ i = 1) : armE S.up i = 0 := by
  unfold armE
  rw [h.up, if_pos rfl, if_neg (by omega)]
theorem arm_up {S : Dk} (h : Qt S) (i x : Int) : (armDk S i x).up = true := by
  unfold armDk
  split
  · exact h.up
  · exact h.up
theorem arm_now {S : Dk} (i x : Int) (j : Nat) : (armDk S i x).now j = S.now j := by
  unfold armDk
  split <;> rfl
end Go.Proofs.Ytljedbakdlhlbaa
