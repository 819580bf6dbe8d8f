/- Holds as plain data: which may be, which meet, which bar one another, which is enough for which. -/
import Derived.Test.YtkpjamdlpofgcaaProg
import Derived.WalkKit
import Derived.Below
import Derived.Lib.SmallJoins
import Derived.Lib.SliceRun
import Derived.Deep.MidRow
import Derived.Laws.AppendOwn
import Derived.Laws.Append
import Derived.Deep.WholeRow
import Derived.Laws.ResultCell
import Derived.Laws.Rows
namespace Go.Proofs.Ytkpjamdlpofgcaa
open Go.RowKit
set_option linter.unusedVariables false
set_option linter.unusedSimpArgs false
set_option maxRecDepth 100000

structure Hd where
  x : Int
  m : Int
  lo : ByteArray
  hi : ByteArray
  op : Bool
  deriving Inhabited
def Hd.A (h : Hd) : Array Value := #[.int .i64 h.x, .int .i64 h.m, .string h.lo, .string h.hi, .bool h.op]
def ltB (a b : ByteArray) : Bool := Op.bytesLess a.toList b.toList
def eqB (a b : ByteArray) : Bool := a.toList == b.toList
def leB (a b : ByteArray) : Bool := ltB a b || eqB a b
theorem less_iff : ∀ (x y : List UInt8), Op.bytesLess x y = true ↔ x < y
  | [], [] => by simp [Op.bytesLess]
  | _ :: _, [] => by simp [Op.bytesLess]
  | [], _ :: _ => by simp [Op.bytesLess]
  | a :: x, b :: y => by
    have ih := less_iff x y
    rw [Op.bytesLess, List.cons_lt_cons_iff, ← ih]
    by_cases h1 : a < b <;> by_cases h2 : a = b <;> simp [h1, h2]
theorem ltB_iff {a b : ByteArray} : ltB a b = true ↔ a.toList < b.toList := by unfold ltB; exact less_iff _ _
theorem eqB_iff {a b : ByteArray} : eqB a b = true ↔ a.toList = b.toList := by unfold eqB; simp
theorem leB_iff {a b : ByteArray} : leB a b = true ↔ a.toList ≤ b.toList := by
  unfold leB
  rw [Bool.or_eq_true, ltB_iff, eqB_iff]
  constructor
  · rintro (h | h)
    · exact Std.le_of_lt h
    · rw [h]; exact Std.le_refl _
  · intro h
    by_cases e : a.toList = b.toList
    · exact Or.inr e
    · exact Or.inl (Std.lt_of_le_of_ne h e)
theorem ltB_not {a b : ByteArray} : ltB a b = !(leB b a) := by
  rw [Bool.eq_iff_iff, Bool.not_eq_true', ← Bool.not_eq_true, leB_iff, ltB_iff]
  exact Std.not_le.symm
theorem leB_refl (a : ByteArray) : leB a a = true := leB_iff.2 (Std.le_refl _)
theorem leB_trans {a b c : ByteArray} (h : leB a b = true) (k : leB b c = true) : leB a c = true := leB_iff.2 (Std.le_trans (leB_iff.1 h) (leB_iff.1 k))
theorem leB_total (a b : ByteArray) : leB a b = true ∨ leB b a = true := by
  rw [leB_iff, leB_iff]; exact Std.le_total
def rightM (h : Hd) : Bool := decide (1 ≤ h.x) && (decide (h.m = 1) || decide (h.m = 2)) && decide (h.lo.size ≤ 16) && decide (h.hi.size ≤ 16) && (if h.op then eqB h.hi ByteArray.empty else leB h.lo h.hi)
def reachM (h : Hd) (k : ByteArray) : Bool := h.op || leB k h.hi
def meetM (a b : Hd) : Bool := reachM a b.lo && reachM b a.lo
def barM (a b : Hd) : Bool := !(decide (a.x = b.x)) && (decide (a.m = 2) || decide (b.m = 2)) && meetM a b
def enoM (g h : Hd) : Bool := decide (g.x = h.x) && decide (h.m ≤ g.m) && leB g.lo h.lo && (g.op || (!h.op && leB h.hi g.hi))
/-- The law's own. -/
def inM (h : Hd) (k : ByteArray) : Bool := leB h.lo k && (h.op || leB k h.hi)
def laterM (a b : Hd) : ByteArray := if leB b.lo a.lo then a.lo else b.lo
def lmeetM (a b : Hd) : Bool := inM a (laterM a b) && inM b (laterM a b)
theorem lo_hi {h : Hd} (hr : rightM h = true) : h.op = true ∨ leB h.lo h.hi = true := by
  unfold rightM at hr
  rw [Bool.and_eq_true] at hr
  cases e : h.op with
  | true => exact Or.inl rfl
  | false => rw [e] at hr; exact Or.inr (by simpa using hr.2)
theorem meet_eq {a b : Hd} (ha : rightM a = true) (hb : rightM b = true) : lmeetM a b = meetM a b := by
  have h1 := lo_hi ha
  have h2 := lo_hi hb
  unfold lmeetM meetM inM reachM laterM
  rw [Bool.eq_iff_iff]
  by_cases e : leB b.lo a.lo = true
  · rw [if_pos e]
    simp only [Bool.and_eq_true, Bool.or_eq_true, leB_refl, e, true_and]
    constructor
    · rintro ⟨k1, k2⟩
      refine ⟨?_, k2⟩
      rcases h1 with h | h
      · exact Or.inl h
      · exact Or.inr (leB_trans e h)
    · rintro ⟨k1, k2⟩
      exact ⟨h1, k2⟩
  · rw [if_neg e]
    have e2 : leB a.lo b.lo = true := (leB_total _ _).resolve_right e
    simp only [Bool.and_eq_true, Bool.or_eq_true, leB_refl, e2, true_and]
    constructor
    · rintro ⟨k1, k2⟩
      refine ⟨k1, ?_⟩
      rcases h2 with h | h
      · exact Or.inl h
      · exact Or.inr (leB_trans e2 h)
    · rintro ⟨k1, k2⟩
      exact ⟨k1, h2⟩
theorem meet_of_in {a b : Hd} {k : ByteArray} (ha : inM a k = true) (hb : inM b k = true) : meetM a b = true := by
  unfold inM at ha hb
  unfold meetM reachM
  simp only [Bool.and_eq_true, Bool.or_eq_true] at *
  refine ⟨?_, ?_⟩
  · rcases ha.2 with h | h
    · exact Or.inl h
    · exact Or.inr (leB_trans hb.1 h)
  · rcases hb.2 with h | h
    · exact Or.inl h
    · exact Or.inr (leB_trans ha.1 h)
theorem meet_comm (a b : Hd) : meetM a b = meetM b a := by unfold meetM; rw [Bool.and_comm]
theorem bar_comm (a b : Hd) : barM a b = barM b a := by
  unfold barM
  rw [meet_comm a b, Bool.or_comm (decide (a.m = 2))]
  congr 2
  by_cases e : a.x = b.x
  · simp [e]
  · simp [e, Ne.symm e]
theorem bar_self {a b : Hd} (e : a.x = b.x) : barM a b = false := by unfold barM; simp [e]
theorem eno_self (h : Hd) : enoM h h = true := by unfold enoM; cases e : h.op <;> simp [leB_refl]
end Go.Proofs.Ytkpjamdlpofgcaa
