/- Pages that are turned: a cell that is put, dropped, laid: mathematics, no Go. -/
import Derived.Test.YtmoognjegjeegaaMem
namespace Go.Proofs.Ytmoognjegjeegaa
set_option linter.unusedVariables false
set_option linter.unusedSimpArgs false

def openS (s : List UInt8) (i st : Nat) : List UInt8 :=
  ((ov s (223 - cnt s) (seg s (224 - cnt s) (cnt s - i))).set (223 - i) (UInt8.ofNat st)).set 2 (UInt8.ofNat (cnt s + 1))
def bodyS (s : List UInt8) (e : Nat) (k v : ByteArray) : List UInt8 :=
  (ov (ov ((s.set e (UInt8.ofNat k.size)).set (e + 1) (UInt8.ofNat v.size)) (e + 2) (bts k)) (e + 2 + k.size) (bts v)).set 3 (UInt8.ofNat (e + 2 + k.size + v.size))
def putS (s : List UInt8) (i : Nat) (c : Cl) : List UInt8 := openS (bodyS s (en s) c.k c.v) i (en s)
def dropS (s : List UInt8) (i : Nat) : List UInt8 :=
  ((ov s (225 - cnt s) (seg s (224 - cnt s) (cnt s - 1 - i))).set (224 - cnt s) 0).set 2 (UInt8.ofNat (cnt s - 1))
def blankS (k l : Nat) : List UInt8 := ((zs.set 0 (UInt8.ofNat k)).set 1 (UInt8.ofNat l)).set 3 4
theorem blankS_length (k l : Nat) : (blankS k l).length = 224 := by rw [blankS, List.length_set, List.length_set, List.length_set, zs_length]
theorem set_length (s : List UInt8) (j : Nat) (x : UInt8) : (s.set j x).length = s.length := List.length_set
theorem g_set_ne {s : List UInt8} {i j : Nat} (x : UInt8) (h : j ≠ i) : g (s.set i x) j = g s j := by
  rw [g, g, List.getElem?_set_ne (fun e => h e.symm)]
theorem g_set {s : List UInt8} {i : Nat} (x : UInt8) (h : i < s.length) : g (s.set i x) i = x.toNat := by
  rw [g, List.getElem?_set_self h]; rfl
theorem g_ov_out {s x : List UInt8} {a j : Nat} (h : a + x.length ≤ s.length) (hj : j < a ∨ a + x.length ≤ j) : g (ov s a x) j = g s j := by
  rw [g, ov_get h, if_neg (by omega)]; rfl
theorem g_ov_in {s x : List UInt8} {a j : Nat} (h : a + x.length ≤ s.length) (h1 : a ≤ j) (h2 : j < a + x.length) : g (ov s a x) j = g x (j - a) := by
  rw [g, ov_get h, if_pos ⟨h1, h2⟩]; rfl
theorem ov_nil (s : List UInt8) (a : Nat) : ov s a [] = s := by simp [ov]
theorem byte_nat {n : Nat} (h : n < 256) : (UInt8.ofNat n).toNat = n := by simp [UInt8.toNat_ofNat', Nat.mod_eq_of_lt h]
end Go.Proofs.Ytmoognjegjeegaa
