/- The program's reader: what each of its calls returns and leaves, of a nil reader and of any other. -/
import Derived.Test.YtakdfdnndogaiabPkPut
import Derived.Lib.SmallJoins
namespace Go.Proofs.Ytakdfdnndogaiab.Pk
open Go.RowKit
set_option linter.unusedVariables false
set_option linter.unusedSimpArgs false
set_option maxRecDepth 100000

/-- All blocks but b are as they were; new ones may have come. -/
structure Off (b : Nat) (w w' : World) : Prop where
  os : w'.os = w.os
  tape : w'.tape = w.tape
  output : w'.output = w.output
  size : w.heap.size ≤ w'.heap.size
  block : ∀ k, k < w.heap.size → k ≠ b → w'.heap[k]? = w.heap[k]?
theorem Off.refl (b : Nat) (w : World) : Off b w w := ⟨rfl, rfl, rfl, Nat.le_refl _, fun _ _ _ => rfl⟩
theorem Off.trans {d : Nat} {a b c : World} (h : Off d a b) (k : Off d b c) : Off d a c :=
  ⟨k.os.trans h.os, k.tape.trans h.tape, k.output.trans h.output, Nat.le_trans h.size k.size, fun i hi hn => (k.block i (Nat.lt_of_lt_of_le hi h.size) hn).trans (h.block i hi hn)⟩
theorem Off.of_below {b : Nat} {w w' : World} (h : Below w.heap.size w w') : Off b w w' := ⟨h.os, h.tape, h.output, h.size, fun k hk _ => h.block k hk⟩
theorem Off.below {b B : Nat} {w w' : World} (h : Off b w w') (hb : B ≤ b) (hB : B ≤ w.heap.size) : Below B w w' :=
  ⟨h.os, h.tape, h.output, h.size, fun k hk => h.block k (Nat.lt_of_lt_of_le hk hB) (Nat.ne_of_lt (Nat.lt_of_lt_of_le hk hb))⟩
theorem Off.alloc {b : Nat} {a w : World} (h : Off b a w) (o : Obj) : Off b a (w.alloc o) :=
  h.trans (Off.of_below ((Below.refl _ _).alloc (Nat.le_refl _) o))
theorem Off.drew {b : Nat} {a w : World} (h : Off b a w) : Off b a w.drew := ⟨h.os, h.tape, h.output, h.size, h.block⟩
theorem Off.setCell {b : Nat} {a w : World} (h : Off b a w) (i : Nat) (v : Value) : Off b a (w.setCell ⟨b, i, none⟩ v) := by
  refine h.trans ⟨rfl, rfl, rfl, ?_, fun k _ hk => Below.heap_setCell w _ v k hk⟩
  simp [go_sem]

/-- The reader behind a fault x: what was left and its first error. -/
def rdFail (l : ByteArray) (e x : Int) : ByteArray × Int := if e = 0 then (⟨#[]⟩, x) else (l, e)
/-- What is read of n bytes, what is left, the error. -/
def rdRaw (l : ByteArray) (e n : Int) : ByteArray × ByteArray × Int :=
  if e ≠ 0 then (⟨#[]⟩, l, e) else if n < 0 then (⟨#[]⟩, ⟨#[]⟩, 1) else if (l.size : Int) < n then (⟨#[]⟩, ⟨#[]⟩, 2) else (l.extract 0 n.toNat, l.extract n.toNat l.size, 0)
theorem rdRaw_had {l : ByteArray} {e n : Int} (h : e ≠ 0) : rdRaw l e n = (⟨#[]⟩, l, e) := by simp [rdRaw, h]
theorem rdRaw_neg {l : ByteArray} {n : Int} (h : n < 0) : rdRaw l 0 n = (⟨#[]⟩, ⟨#[]⟩, 1) := by simp [rdRaw, h]
theorem rdRaw_short {l : ByteArray} {n : Int} (h : ¬ n < 0) (h2 : (l.size : Int) < n) : rdRaw l 0 n = (⟨#[]⟩, ⟨#[]⟩, 2) := by simp [rdRaw, h, h2]
theorem rdRaw_fits {l : ByteArray} {n : Int} (h : ¬ n < 0) (h2 : ¬ (l.size : Int) < n) : rdRaw l 0 n = (l.extract 0 n.toNat, l.extract n.toNat l.size, 0) := by simp [rdRaw, h, h2]
def beN (l : List UInt8) : Nat := l.foldl (fun a b => 256 * a + b.toNat) 0
/-- The number that is read of k bytes, what is left, the error. -/
def rdNumSt (l : ByteArray) (e k : Int) : ByteArray × Int := if k < 1 ∨ 6 < k then rdFail l e 1 else (l, e)
def rdNum (l : ByteArray) (e k : Int) : Nat × ByteArray × Int :=
  (beN (rdRaw (rdNumSt l e k).1 (rdNumSt l e k).2 k).1.data.toList, (rdRaw (rdNumSt l e k).1 (rdNumSt l e k).2 k).2)
def rdTextSt (l : ByteArray) (e m : Int) : ByteArray × Int := if m < (rdNum l e 2).1 then rdFail (rdNum l e 2).2.1 (rdNum l e 2).2.2 3 else (rdNum l e 2).2
def rdText (l : ByteArray) (e m : Int) : ByteArray × ByteArray × Int := rdRaw (rdTextSt l e m).1 (rdTextSt l e m).2 (rdNum l e 2).1
def rdEnd (l : ByteArray) (e : Int) : ByteArray × Int := if 0 < l.size then rdFail l e 4 else (l, e)

end Go.Proofs.Ytakdfdnndogaiab.Pk
