/- Two structs are the same, field by field. -/
import Derived.Test.YtkcpclmkbmeigabGm
import Derived.Laws.StructEq
namespace Go.Proofs.Ytkcpclmkbmeigab.Gm
open Go.RowKit
set_option linter.unusedVariables false
set_option linter.unusedSimpArgs false
set_option maxRecDepth 100000
theorem eq_field (w : World) (d : Nat) {A B : Array Value} {a b : Value} {f : Field} {fs : List Field} {r0 r : Bool} (hn : f.name ≠ "_") (hi : (isAgg f.type).run Try.prog w = .ok false w) (h1 : A[f.offset]? = some a) (h2 : B[f.offset]? = some b)
    (he : (Op.equalIn (d + 1) f.type a b).run Try.prog w = .ok r0 w) (h : (Op.eqFields (d + 1) A B fs).run Try.prog w = .ok r w) : (Op.eqFields (d + 1) A B (f :: fs)).run Try.prog w = .ok (r0 && r) w := by
  have hp : ∀ (C : Array Value) (v : Value), C[f.offset]? = some v → (Go.part f.type C f.offset).run Try.prog w = .ok v w := fun C v hv => by
    simp [Go.part, Sem.run_bind, hi, Result.andThen, hv]
  rw [Op.eqFields, if_pos hn]
  simp only [Sem.run_bind, hp A a h1, hp B b h2, Result.andThen_ok, he]
  cases r0
  · simp
  · simpa using h
theorem eq_none (w : World) (d : Nat) (A B : Array Value) : (Op.eqFields d A B []).run Try.prog w = .ok true w := by simp [Op.eqFields]
theorem eql_of {w : World} {t : TypeId} {A B : Array Value} {r : Bool} (hu : Try.prog.underlying t = some (.struct (Try.prog.fieldsOf t))) (hp : Try.prog.stoodInHeld t = false) {fs : List Field} (hf : (Try.prog.fieldsOf t).toList = fs) (h : (Op.eqFields 9999 A B fs).run Try.prog w = .ok r w) :
    (binOp .eql t (.agg A) (.agg B)).run Try.prog w = .ok (.bool r) w ∧ (binOp .neq t (.agg A) (.agg B)).run Try.prog w = .ok (.bool (!r)) w := by
  have := run_equalIn_struct (P := Try.prog) w 9999 t A B hu hp
  rw [hf, h] at this
  constructor
  · rw [run_eql_struct, this]; rfl
  · rw [run_neq_struct, this]; rfl
end Go.Proofs.Ytkcpclmkbmeigab.Gm
