/- The law's own past: note of any record. -/
import Derived.Test.YtcpbekamabooaaaPaU3
import Derived.Test.YtcpbekamabooaaaPaU4
import Derived.Test.YtcpbekamabooaaaPaU5
import Derived.Test.YtcpbekamabooaaaPaT3
import Derived.Test.YtcpbekamabooaaaPaT4
import Derived.Test.YtcpbekamabooaaaPaT5
import Derived.Test.YtcpbekamabooaaaPaR
namespace Go.Proofs.Ytcpbekamabooaaa.Pa
open Go.RowKit Gm
set_option linter.unusedVariables false
set_option linter.unusedSimpArgs false
set_option maxRecDepth 100000
section
variable {W : Nat → Prop} {w w' : World} {pb : Nat} {P : List Gn} {I T : Value}
theorem note_any (h : Pl W w pb P) (hl : P.length ≤ 999) (hkl : ∀ g ∈ P, g.ks.length ≤ 1000) (r : Rc) (lsn : Int) : Calls Try.prog 8 #[.pointer (some ⟨pb, 0, none⟩), .agg (r.A I T), .int .i64 lsn] w fun e w' => e = .returned (.tuple #[]) ∧ NtO W w w' pb (noteM P r lsn) := by
  by_cases hx : r.tx = 0
  · have e : noteM P r lsn = P := by unfold noteM; rw [if_pos hx]
    rw [e]
    exact note_zero h hx lsn
  · by_cases hk : r.kd = 7 ∨ r.kd = 8
    · by_cases hf : fnd P r.tx < P.length
      · have e : noteM P r lsn = P.eraseIdx (fnd P r.tx) := by unfold noteM; rw [if_neg hx, if_pos hk]
        rw [e]
        exact note_gone h (by omega) hx hk hf lsn
      · have e : noteM P r lsn = P := by
          unfold noteM
          rw [if_neg hx, if_pos hk]
          exact List.eraseIdx_of_length_le (by omega)
        rw [e]
        exact note_none h (by omega) hx hk hf lsn
    · have h7 : r.kd ≠ 7 := fun e => hk (Or.inl e)
      have h8 : r.kd ≠ 8 := fun e => hk (Or.inr e)
      obtain ⟨kd, tx, pv, pg, ac, ky, ol, nw, nx, ep, nd⟩ := r
      simp only at hx h7 h8
      by_cases hf : fnd P tx < P.length
      · by_cases h3 : kd = 3
        · subst h3; exact note_old3 h (by omega) hkl tx pv pg ac nx ep nd ky ol nw hx hf lsn
        · by_cases h4 : kd = 4
          · subst h4; exact note_old4 h (by omega) hkl tx pv pg ac nx ep nd ky ol nw hx hf lsn
          · by_cases h5 : kd = 5
            · subst h5; exact note_old5 h (by omega) hkl tx pv pg ac nx ep nd ky ol nw hx hf lsn
            · exact note_old0 h (by omega) hx h7 h8 (by simp [tellsM, h3, h4, h5]) hf lsn
      · by_cases h3 : kd = 3
        · subst h3; exact note_new3 h hl tx pv pg ac nx ep nd ky ol nw hx hf lsn
        · by_cases h4 : kd = 4
          · subst h4; exact note_new4 h hl tx pv pg ac nx ep nd ky ol nw hx hf lsn
          · by_cases h5 : kd = 5
            · subst h5; exact note_new5 h hl tx pv pg ac nx ep nd ky ol nw hx hf lsn
            · exact note_new0 h hl tx pv pg ac nx ep nd ky ol nw kd h7 h8 (by simp [tellsM, h3, h4, h5]) hx hf lsn
end
end Go.Proofs.Ytcpbekamabooaaa.Pa
