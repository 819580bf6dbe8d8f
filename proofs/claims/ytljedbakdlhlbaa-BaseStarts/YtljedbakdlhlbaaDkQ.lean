/- Disks whose counts are small; what each sector of a disk can have, whatever is written, synced and lost. -/
import Derived.Test.YtljedbakdlhlbaaDkCalm
namespace Go.Proofs.Ytljedbakdlhlbaa
open Go.RowKit Go.Maps Go.ChangeMaps
set_option linter.unusedVariables false
set_option linter.unusedSimpArgs false
set_option maxRecDepth 100000

section
variable {w w' : World} {db lb mb m : Nat} {S : Dk}
/-- A disk whose counts are small. -/
structure Dq (k : Nat) (S : Dk) : Prop where
  ok : S.Ok
  acts : S.acts ≤ (k : Int)
  downs : S.downs ≤ (k : Int)
theorem Dq.mono {k k' : Nat} (h : Dq k S) (hk : k ≤ k') : Dq k' S := ⟨h.ok, by have := h.acts; omega, by have := h.downs; omega⟩
theorem actDk_counts (S : Dk) : (actDk S).acts ≤ S.acts + 1 ∧ (actDk S).downs ≤ S.downs + 1 := by
  unfold actDk offDk; split
  · exact ⟨by dsimp only; omega, Int.le_refl _⟩
  · split
    · exact ⟨Int.le_refl _, by dsimp only; omega⟩
    · exact ⟨Int.le_refl _, by dsimp only; omega⟩
theorem writeDk_counts (S : Dk) (i : Int) (s : ByteArray) : (writeDk S i s).acts ≤ S.acts + 1 ∧ (writeDk S i s).downs ≤ S.downs + 1 := by
  have := actDk_counts S
  unfold writeDk
  split
  · exact ⟨by omega, by omega⟩
  · split
    · exact ⟨by omega, by omega⟩
    · split
      · exact this
      · exact this
theorem Dq.write {k : Nat} (h : Dq k S) (hk : k ≤ 100000) (i : Int) (s : ByteArray) : Dq (k + 1) (writeDk S i s) := by
  have h1 := writeDk_counts S i s
  have := h.acts
  have := h.downs
  exact ⟨writeDk_ok h.ok (by omega) (by omega) i s, by omega, by omega⟩
theorem syncDk_counts (S : Dk) : (syncDk S).acts ≤ S.acts + 1 ∧ (syncDk S).downs ≤ S.downs + 1 := by
  have := actDk_counts S
  unfold syncDk
  split
  · split
    · exact this
    · exact this
  · exact ⟨by omega, by omega⟩
theorem Dq.sync {k : Nat} (h : Dq k S) (hk : k ≤ 100000) : Dq (k + 1) (syncDk S) := by
  have h1 := syncDk_counts S
  have := h.acts
  have := h.downs
  exact ⟨syncDk_ok h.ok (by omega) (by omega), by omega, by omega⟩
theorem Dq.off {k : Nat} (h : Dq k S) (hk : k ≤ 100000) (x : Int) : Dq (k + 1) (offDk S x) := by
  have := h.acts
  have := h.downs
  exact ⟨offDk_ok h.ok _ (by omega), by simp only [offDk]; omega, by simp only [offDk]; omega⟩
theorem Dq.up {k : Nat} (h : Dq k S) (b : Bool) : Dq k { S with up := b } := ⟨up_ok h.ok b, h.acts, h.downs⟩
theorem Dq.new {n : Nat} (h1 : 1 ≤ n) (h2 : n ≤ 8192) : Dq 0 (newDk n) := ⟨newDk_ok h1 h2, Int.le_refl _, Int.le_refl _⟩
theorem offDk_n (S : Dk) (x : Int) : (offDk S x).n = S.n := rfl
theorem writeDk_n (S : Dk) (i : Int) (s : ByteArray) : (writeDk S i s).n = S.n := by
  unfold writeDk
  split
  · rfl
  · split
    · rfl
    · split
      · exact actDk_n S
      · exact actDk_n S
theorem syncDk_n (S : Dk) : (syncDk S).n = S.n := by
  unfold syncDk
  split
  · split
    · exact actDk_n S
    · exact actDk_n S
  · rfl

end
section
variable {S : Dk} {R R' : Nat → ByteArray → Prop}
def crE (S : Dk) : Int := if S.up then 0 else 9
def crDk (S : Dk) (x : Int) : Dk := if S.up then offDk S x else S
def calmDk (S : Dk) : Dk := { S with set := false, left := 0, keep := 0 }
/-- Each sector has, lasting and waiting, what R lets it have. -/
structure AllR (R : Nat → ByteArray → Prop) (S : Dk) : Prop where
  sure : ∀ i, R i (S.sure i)
  wait : ∀ i c, S.wait i = some c → R i c
theorem AllR.now (h : AllR R S) (i : Nat) : R i (S.now i) := by
  unfold Dk.now
  cases hw : S.wait i with
  | none => exact h.sure i
  | some c => exact h.wait i c hw
theorem AllR.mono (h : AllR R S) (hR : ∀ i c, R i c → R' i c) : AllR R' S := ⟨fun i => hR _ _ (h.sure i), fun i c hc => hR _ _ (h.wait i c hc)⟩
theorem AllR.off (h : AllR R S) (x : Int) : AllR R (offDk S x) := by
  refine ⟨fun i => ?_, fun i c hc => by cases hc⟩
  show R i (lossF S.sure S.wait x i)
  unfold lossF
  cases hw : S.wait i with
  | none => exact h.sure i
  | some c =>
    dsimp only
    split
    · exact h.wait i c hw
    · exact h.sure i
theorem AllR.act (h : AllR R S) : AllR R (actDk S) := by
  unfold actDk
  split
  · exact h.off _
  · split
    · exact ⟨h.sure, h.wait⟩
    · exact ⟨h.sure, h.wait⟩
theorem AllR.write (h : AllR R S) (i : Nat) (s : ByteArray) (hR : R i (pad s)) : AllR R (writeDk S (i : Int) s) := by
  unfold writeDk
  split
  · exact h
  · split
    · exact h
    · split
      · exact h.act
      · rename_i h1 h2 h3
        refine ⟨h.act.sure, fun j c hc => ?_⟩
        have hc' : upd S.wait (i : Int).toNat (some (pad s)) j = some c := hc
        rw [Int.toNat_natCast] at hc'
        by_cases e : j = i
        · subst e
          rw [upd_same] at hc'
          cases hc'
          exact hR
        · rw [upd_other _ _ e] at hc'
          exact h.wait j c hc'
theorem AllR.sync (h : AllR R S) : AllR R (syncDk S) := by
  unfold syncDk
  split
  · split
    · exact ⟨fun i => h.now i, fun i c hc => by cases hc⟩
    · exact h.act
  · exact h
theorem AllR.crash (h : AllR R S) (x : Int) : AllR R (crDk S x) := by
  unfold crDk
  split
  · exact h.off x
  · exact h
theorem crDk_up (S : Dk) (x : Int) : (crDk S x).up = false := by
  unfold crDk
  cases hu : S.up
  · simp [hu]
  · simp [offDk]

end
end Go.Proofs.Ytljedbakdlhlbaa
