/- What a record's bytes are read as: plain mathematics. -/
import Derived.Test.YtakdfdnndogaiaaRxMath
import Derived.Test.YtakdfdnndogaiaaRxRow
namespace Go.Proofs.Ytakdfdnndogaiaa
open Go.RowKit
set_option linter.unusedVariables false
set_option linter.unusedSimpArgs false
set_option maxRecDepth 100000

/-- What is left to be read, and the error. -/
abbrev Lf := ByteArray × Int
def nN (q : Lf) (k : Int) : Int := ((Pk.rdNum q.1 q.2 k).1 : Nat)
def sN (q : Lf) (k : Int) : Lf := (Pk.rdNum q.1 q.2 k).2
def tT (q : Lf) (m : Int) : ByteArray := (Pk.rdText q.1 q.2 m).1
def sT (q : Lf) (m : Int) : Lf := (Pk.rdText q.1 q.2 m).2
def kR (k : Int) : Sc := {zS with kd := k}
def rc1 (s : Sc) (q : Lf) : Sc := {s with pg := nN q 2, ky := tT (sN q 2) 16}
def rq1 (q : Lf) : Lf := sT (sN q 2) 16
def rcN (s : Sc) (q : Lf) : Sc := {rc1 s q with nw := tT (rq1 q) 32}
def rcO (s : Sc) (q : Lf) : Sc := {rc1 s q with ol := tT (rq1 q) 32}
def rcB (s : Sc) (q : Lf) : Sc := {rc1 s q with ol := tT (rq1 q) 32, nw := tT (sT (rq1 q) 32) 32}
def rdChg (act : Int) (s : Sc) (q : Lf) : Sc × Lf :=
  if act = 3 then (rcN s q, sT (rq1 q) 32) else if act = 4 then (rcO s q, sT (rq1 q) 32) else (rcB s q, sT (sT (rq1 q) 32) 32)
theorem rc1_set (s : Sc) (q : Lf) (I T : Value) : (({s with pg := nN q 2} : Sc).A I T).setIfInBounds 5 (.string (tT (sN q 2) 16)) = (rc1 s q).A I T := by unfold rc1 Sc.A; rfl
theorem rcN_set (s : Sc) (q : Lf) (I T : Value) : ((rc1 s q).A I T).setIfInBounds 7 (.string (tT (rq1 q) 32)) = (rcN s q).A I T := by unfold rcN Sc.A; rfl
theorem rcO_set (s : Sc) (q : Lf) (I T : Value) : ((rc1 s q).A I T).setIfInBounds 6 (.string (tT (rq1 q) 32)) = (rcO s q).A I T := by unfold rcO Sc.A; rfl
theorem rcB_set (s : Sc) (q : Lf) (I T : Value) : ((rcO s q).A I T).setIfInBounds 7 (.string (tT (sT (rq1 q) 32) 32)) = (rcB s q).A I T := by unfold rcO rcB Sc.A; rfl
def rdImS (q : Lf) : Nat → Lf
  | 0 => q
  | j + 1 => sT (sN (rdImS q j) 2) 224
def rdImF (q : Lf) (j : Nat) : Im := (nN (rdImS q j) 2, tT (sN (rdImS q j) 2) 224)
def rdImL (q : Lf) (n : Nat) : List Im := (List.range n).map (rdImF q)
def rdTbS (q : Lf) : Nat → Lf
  | 0 => q
  | j + 1 => sN (sN (rdTbS q j) 6) 6
def rdTbF (q : Lf) (j : Nat) : Tb := (nN (rdTbS q j) 6, nN (sN (rdTbS q j) 6) 6)
def rdTbL (q : Lf) (n : Nat) : List Tb := (List.range n).map (rdTbF q)
theorem rdImL_succ (q : Lf) (n : Nat) : rdImL q (n + 1) = rdImL q n ++ [rdImF q n] := by simp [rdImL, List.range_succ]
theorem rdTbL_succ (q : Lf) (n : Nat) : rdTbL q (n + 1) = rdTbL q n ++ [rdTbF q n] := by simp [rdTbL, List.range_succ]
theorem rdImL_length (q : Lf) (n : Nat) : (rdImL q n).length = n := by simp [rdImL]
theorem rdTbL_length (q : Lf) (n : Nat) : (rdTbL q n).length = n := by simp [rdTbL]
/-- The record that is read of bytes, and the reader behind it. -/
def rdM (t : ByteArray) : Rm × Lf :=
  let k := nN (t, 0) 1
  let q := sN (t, 0) 1
  if k = 1 ∨ k = 2 then (⟨kR k, rdImL (sN q 1) (nN q 1).toNat, []⟩, rdImS (sN q 1) (nN q 1).toNat)
  else if k = 3 ∨ k = 4 ∨ k = 5 then (⟨(rdChg k {kR k with tx := nN q 6, pv := nN (sN q 6) 6} (sN (sN q 6) 6)).1, [], []⟩, (rdChg k {kR k with tx := nN q 6, pv := nN (sN q 6) 6} (sN (sN q 6) 6)).2)
  else if k = 6 then
    (⟨(rdChg (nN (sN (sN (sN q 6) 6) 6) 1) {kR k with tx := nN q 6, pv := nN (sN q 6) 6, nx := nN (sN (sN q 6) 6) 6, ac := nN (sN (sN (sN q 6) 6) 6) 1} (sN (sN (sN (sN q 6) 6) 6) 1)).1, [], []⟩,
      (rdChg (nN (sN (sN (sN q 6) 6) 6) 1) {kR k with tx := nN q 6, pv := nN (sN q 6) 6, nx := nN (sN (sN q 6) 6) 6, ac := nN (sN (sN (sN q 6) 6) 6) 1} (sN (sN (sN (sN q 6) 6) 6) 1)).2)
  else if k = 7 ∨ k = 8 then (⟨{kR k with tx := nN q 6, pv := nN (sN q 6) 6}, [], []⟩, sN (sN q 6) 6)
  else if k = 9 then (⟨kR k, [], rdTbL (sN q 1) (nN q 1).toNat⟩, rdTbS (sN q 1) (nN q 1).toNat)
  else if k = 10 then (⟨{kR k with ep := nN q 4, nd := nN (sN q 4) 1}, [], []⟩, sN (sN q 4) 1)
  else (⟨kR k, [], []⟩, q)
def zM : Rm := ⟨zS, [], []⟩
/-- The record that bytes are, or why they are none. -/
def ofM (t : ByteArray) : Rm × Int :=
  if (Pk.rdEnd (rdM t).2.1 (rdM t).2.2).2 ≠ 0 then (zM, (Pk.rdEnd (rdM t).2.1 (rdM t).2.2).2)
  else if (bodyM (rdM t).1).2 = 0 ∧ (bodyM (rdM t).1).1 = t then ((rdM t).1, 0) else (zM, 4)
theorem nN_nonneg (q : Lf) (k : Int) : 0 ≤ nN q k := by unfold nN; omega
theorem nN_lt (q : Lf) (k : Int) : nN q k < 281474976710656 := by have := Pk.rdNum_lt q.1 q.2 k; unfold nN; omega
theorem sN_size (q : Lf) (k : Int) : (sN q k).1.size ≤ q.1.size := Pk.rdNum_size q.1 q.2 k
theorem rdText_size (l : ByteArray) (e m : Int) : (Pk.rdText l e m).2.1.size ≤ l.size := by
  unfold Pk.rdText Pk.rdTextSt
  have h1 := Pk.rdNum_size l e 2
  split
  · exact Nat.le_trans (Pk.rdRaw_size _ _ _) (Nat.le_trans (Pk.rdFail_size _ _ _) h1)
  · exact Nat.le_trans (Pk.rdRaw_size _ _ _) h1
theorem sT_size (q : Lf) (m : Int) : (sT q m).1.size ≤ q.1.size := rdText_size q.1 q.2 m
theorem rdImS_size (q : Lf) (j : Nat) : (rdImS q j).1.size ≤ q.1.size := by
  induction j with
  | zero => exact Nat.le_refl _
  | succ j ih => exact Nat.le_trans (sT_size _ _) (Nat.le_trans (sN_size _ _) ih)
theorem rdTbS_size (q : Lf) (j : Nat) : (rdTbS q j).1.size ≤ q.1.size := by
  induction j with
  | zero => exact Nat.le_refl _
  | succ j ih => exact Nat.le_trans (sN_size _ _) (Nat.le_trans (sN_size _ _) ih)
theorem beN_one (l : List UInt8) (h : l.length ≤ 1) : Pk.beN l ≤ 255 := by
  have h1 := Pk.beN_lt l
  have h2 : 256 ^ l.length ≤ 256 ^ 1 := Nat.pow_le_pow_right (by omega) h
  omega
theorem nN_one (q : Lf) : nN q 1 ≤ 255 := by
  unfold nN Pk.rdNum
  have h : (Pk.rdRaw (Pk.rdNumSt q.1 q.2 1).1 (Pk.rdNumSt q.1 q.2 1).2 1).1.size ≤ 1 := Pk.rdRaw_size1 _ _ _ 1 (by omega)
  have := beN_one (Pk.rdRaw (Pk.rdNumSt q.1 q.2 1).1 (Pk.rdNumSt q.1 q.2 1).2 1).1.data.toList h
  dsimp only
  omega
theorem rdRaw_txt (l : ByteArray) (e n : Int) : (Pk.rdRaw l e n).1.size ≤ l.size := by
  unfold Pk.rdRaw
  repeat' split
  all_goals simp [ByteArray.size_extract, Pk.size_nil]
  omega
theorem tT_size (q : Lf) (m : Int) : (tT q m).size ≤ q.1.size := by
  unfold tT Pk.rdText Pk.rdTextSt
  have h1 := Pk.rdNum_size q.1 q.2 2
  split
  · exact Nat.le_trans (rdRaw_txt _ _ _) (Nat.le_trans (Pk.rdFail_size _ _ _) h1)
  · exact Nat.le_trans (rdRaw_txt _ _ _) h1
end Go.Proofs.Ytakdfdnndogaiaa
