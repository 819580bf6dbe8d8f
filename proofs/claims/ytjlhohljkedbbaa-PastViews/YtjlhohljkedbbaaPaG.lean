/- The law's own past: get. -/
import Derived.Test.YtjlhohljkedbbaaPaL
import Derived.Test.YtjlhohljkedbbaaGmE
import Derived.Deep.QuietTactic
import Derived.BigRegion
namespace Go.Proofs.Ytjlhohljkedbbaa.Pa
open Go.RowKit Gm
set_option linter.unusedVariables false
set_option linter.unusedSimpArgs false
set_option maxRecDepth 100000
def Ws.A (x : Ws) : Array Value := #[.string x.v, .bool x.is]
def eqW (x y : Ws) : Bool := eqB x.v y.v && ((x.is == y.is) && true)
theorem eqls (w : World) (x y : Ws) : (binOp .eql 31 (.agg x.A) (.agg y.A)).run Try.prog w = .ok (.bool (eqW x y)) w ∧ (binOp .neq 31 (.agg x.A) (.agg y.A)).run Try.prog w = .ok (.bool (!eqW x y)) w := by
  refine eql_of (by kernel_rfl) (by kernel_rfl) (fs := [⟨ "Val", 9, 0, false, "", "", 0⟩, ⟨ "Is", 4, 1, false, "", "", 16⟩]) (by kernel_rfl) ?_
  exact eq_field w 9998 (by decide) (by kernel_rfl) rfl rfl (run_equalIn_string w 9998 _ _ _ Try.underlying9) (eq_field w 9998 (by decide) (by kernel_rfl) rfl rfl (run_equalIn_bool' w 9998 _ _ _ Try.underlying4) (eq_none w _ _ _))
theorem stW : St 31 2 := ⟨⟨_, Try.underlying31⟩, by kernel_rfl⟩
/-- get's state: turned, least, is. -/
def g1 (key : ByteArray) (x : Ws) (t : Int) (s : Bool × Int × Bool) (p : ByteArray × Ws) : Bool × Int × Bool := if eqB p.1 key && (!s.1 || decide (t < s.2.1)) then (true, t, eqW p.2 x) else s
def gI (key : ByteArray) (x : Ws) (s : Bool × Int × Bool) (g : Gn) : Bool × Int × Bool := g.ks.foldl (g1 key x g.txn) s
def gF (key : ByteArray) (x : Ws) (P : List Gn) : Bool × Int × Bool := P.foldl (gI key x) (false, 0, false)
theorem fold_succ {α β : Type} (f : β → α → β) (s : β) (l : List α) {i : Nat} (hi : i < l.length) : (l.take (i + 1)).foldl f s = f ((l.take i).foldl f s) l[i] := by
  rw [List.take_succ_eq_append_getElem hi, List.foldl_append]; rfl
section
variable {W W' : Nat → Prop} {w w' : World} {pb : Nat} {v : Value} {L : List Gv} {P : List Gn}
end
end Go.Proofs.Ytjlhohljkedbbaa.Pa
