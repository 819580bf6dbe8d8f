/- The law's own past in memory: find. -/
import Derived.Test.YtjlhohljkedbbaaPaM
namespace Go.Proofs.Ytjlhohljkedbbaa.Pa
open Go.RowKit Gm
set_option linter.unusedVariables false
set_option linter.unusedSimpArgs false
set_option maxRecDepth 100000
/-- One that goes on, with its two rows. -/
structure Gv where
  txn : Int
  last : Int
  kl : List ByteArray
  wl : List Ws
  kv : Value
  wv : Value
  deriving Inhabited
def Gv.c (x : Gv) : List Value := [.int .i64 x.txn, .int .i64 x.last, x.kv, x.wv]
def Gv.g (x : Gv) : Gn := ⟨x.txn, x.last, x.kl.zip x.wl⟩
def kC (l : List ByteArray) : List (List Value) := l.map fun k => [.string k]
def wC (l : List Ws) : List (List Value) := l.map Ws.c
section
variable {W W' : Nat → Prop} {w w' : World} {pb : Nat} {v v' : Value} {L L' : List Gv} {P : List Gn}
end
theorem fnd_le (P : List Gn) (t : Int) : fnd P t ≤ P.length := List.findIdx_le_length
theorem fnd_of {P : List Gn} {t : Int} {i : Nat} (hi : i < P.length) (h : P[i].txn = t) (hn : ∀ j (hj : j < i), (P[j]'(by omega)).txn ≠ t) : fnd P t = i := by
  refine (List.findIdx_eq hi).2 ⟨by simp [h], fun j hj => by simpa using hn j hj⟩
theorem fnd_no {P : List Gn} {t : Int} (hn : ∀ j (hj : j < P.length), P[j].txn ≠ t) : fnd P t = P.length := by
  refine List.findIdx_eq_length.2 fun x hx => ?_
  obtain ⟨j, hj, rfl⟩ := List.getElem_of_mem hx
  simpa using hn j hj
/-- find's answer. -/
def fI (P : List Gn) (t : Int) : Int := if fnd P t < P.length then (fnd P t : Int) else -1
section
variable {W W' : Nat → Prop} {w w' : World} {pb : Nat} {v : Value} {L : List Gv} {P : List Gn}
end
end Go.Proofs.Ytjlhohljkedbbaa.Pa
