/- The document's past: plain mathematics. -/
import Derived.Test.YtjlhohljkedbbaaGmO
namespace Go.Proofs.Ytjlhohljkedbbaa.Pa
open Go.RowKit
set_option linter.unusedVariables false
set_option linter.unusedSimpArgs false
set_option maxRecDepth 100000
/-- A record's scalars. -/
structure Rc where
  kd : Int
  tx : Int
  pv : Int
  pg : Int
  ac : Int
  ky : ByteArray
  ol : ByteArray
  nw : ByteArray
  nx : Int
  ep : Int
  nd : Int
def Rc.A (s : Rc) (I T : Value) : Array Value := #[.int .i64 s.kd, .int .i64 s.tx, .int .i64 s.pv, .int .i64 s.pg, .int .i64 s.ac, .string s.ky, .string s.ol, .string s.nw, .int .i64 s.nx, I, T, .int .i64 s.ep, .int .i64 s.nd]
/-- What a key had. -/
structure Ws where
  v : ByteArray
  is : Bool
def Ws.c (x : Ws) : List Value := [.string x.v, .bool x.is]
def zW : Ws := ⟨⟨#[]⟩, false⟩
/-- One that goes on. -/
structure Gn where
  txn : Int
  last : Int
  ks : List (ByteArray × Ws)
  deriving Inhabited
def zG (t : Int) : Gn := ⟨t, 0, []⟩
def tellsM (r : Rc) : Option Ws := if r.kd = 3 then some zW else if r.kd = 4 ∨ r.kd = 5 then some ⟨r.ol, true⟩ else none
def eqB (a b : ByteArray) : Bool := a.toList == b.toList
def Gn.has (g : Gn) (k : ByteArray) : Bool := g.ks.any fun p => eqB p.1 k
def Gn.turn (g : Gn) (r : Rc) (lsn : Int) : Gn :=
  match tellsM r with
  | some x => if g.has r.ky then { g with last := lsn } else ⟨g.txn, lsn, g.ks ++ [(r.ky, x)]⟩
  | none => { g with last := lsn }
/-- A transaction's place; the list's length: it does not go on. -/
def fnd (P : List Gn) (t : Int) : Nat := P.findIdx fun g => g.txn == t
def noteM (P : List Gn) (r : Rc) (lsn : Int) : List Gn :=
  if r.tx = 0 then P
  else if r.kd = 7 ∨ r.kd = 8 then P.eraseIdx (fnd P r.tx)
  else if fnd P r.tx < P.length then P.modify (fnd P r.tx) (·.turn r lsn) else P ++ [(zG r.tx).turn r lsn]
end Go.Proofs.Ytjlhohljkedbbaa.Pa
