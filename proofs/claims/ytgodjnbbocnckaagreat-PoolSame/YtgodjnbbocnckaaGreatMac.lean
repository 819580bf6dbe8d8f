/- A number and a text behind a text: what the program's Put and Text and the law's put and text return, and that awake is true. The program's reader: what each of its calls returns and leaves, of a nil reader and of any other. The program's reader: the calls Num, Text and End of any reader that is not nil. The program's writer: what lay, Num and Text leave of any writer that is not nil. The program's writer: what All returns of any writer that is not nil. What was laid is read again: lemmas on bytes alone, and on what a writer and a row of items keep. The store in memory, and its small calls: New, Pages, Gen, refusal, sector, laid. The store: a mark's bytes laid. Disks whose counts are small; what each sector of a disk can have, whatever is written, synced and lost. The store's mathematics: a page's sectors, four writes one behind the other, what is read of four sectors. The store's Write of a page that there is, of 224 bytes, of a record that has room. The store's parts: the four sectors of a page, whatever they have. -/
import Derived.Test.YtgodjnbbocnckaaGreatMab
import Derived.Lib.SmallJoins
import Derived.Laws.BitsAllLaws
import Derived.Lib.BufferWrite
import Derived.Lib.LazyBuf
import Derived.Lib.SlBytesRow
import Derived.Deep.OwnRows
import Derived.Deep.RegionHeldLaw
import Derived.Test.YtgodjnbbocnckaaGreatMaa
import Derived.Deep.RegionHeld3
namespace Go.Proofs.YtgodjnbbocnckaaGreat.Pk
open Go.RowKit
set_option linter.unusedVariables false
set_option linter.unusedSimpArgs false
set_option maxRecDepth 100000

/-- What is told of a number behind a text. -/
def putV (s : ByteArray) (n k : Int) : ByteArray × Int :=
  if k < 1 ∨ 6 < k then (⟨#[]⟩, 1) else if n < 0 ∨ limI k.toNat ≤ n then (⟨#[]⟩, 6) else (s ++ beS n.toNat k.toNat, 0)
theorem putV_width {s : ByteArray} {n k : Int} (h : k < 1 ∨ 6 < k) : putV s n k = (⟨#[]⟩, 1) := by simp [putV, h]
theorem putV_range {s : ByteArray} {n k : Int} (h : ¬ (k < 1 ∨ 6 < k)) (h' : n < 0 ∨ limI k.toNat ≤ n) : putV s n k = (⟨#[]⟩, 6) := by simp [putV, h, h']
theorem putV_fits {s : ByteArray} {n k : Int} (h : ¬ (k < 1 ∨ 6 < k)) (h' : ¬ (n < 0 ∨ limI k.toNat ≤ n)) : putV s n k = (s ++ beS n.toNat k.toNat, 0) := by simp [putV, h, h']
/-- What is told of a text behind a text. -/
def textV (s t : ByteArray) : ByteArray × Int :=
  if 65535 < t.size then (⟨#[]⟩, 3) else (s ++ beS t.size 2 ++ t, 0)
theorem textV_long {s t : ByteArray} (h : 65535 < t.size) : textV s t = (⟨#[]⟩, 3) := by simp [textV, h]
theorem textV_fits {s t : ByteArray} (h : ¬ 65535 < t.size) : textV s t = (s ++ beS t.size 2 ++ t, 0) := by simp [textV, h]
theorem limI_1 : limI ((1 : Int).toNat) = 256 := by decide
theorem limI_2 : limI ((2 : Int).toNat) = 65536 := by decide
theorem limI_3 : limI ((3 : Int).toNat) = 16777216 := by decide
theorem limI_4 : limI ((4 : Int).toNat) = 4294967296 := by decide
theorem limI_5 : limI ((5 : Int).toNat) = 1099511627776 := by decide
theorem limI_6 : limI ((6 : Int).toNat) = 281474976710656 := by decide
theorem numI_1 (n : Int) (w : World) (h0 : 0 ≤ n) (hn : n ≤ 281474976710656) :
    Calls Tryz.prog 121 #[.int .i64 n, .int .i64 1] w fun e w' => e = .returned (.string (beS n.toNat 1)) ∧ Below w.heap.size w w' := by
  have h := num_1 n.toNat w (by omega)
  rw [Int.toNat_of_nonneg h0] at h
  exact h
theorem numI_2 (n : Int) (w : World) (h0 : 0 ≤ n) (hn : n ≤ 281474976710656) :
    Calls Tryz.prog 121 #[.int .i64 n, .int .i64 2] w fun e w' => e = .returned (.string (beS n.toNat 2)) ∧ Below w.heap.size w w' := by
  have h := num_2 n.toNat w (by omega)
  rw [Int.toNat_of_nonneg h0] at h
  exact h
theorem numI_3 (n : Int) (w : World) (h0 : 0 ≤ n) (hn : n ≤ 281474976710656) :
    Calls Tryz.prog 121 #[.int .i64 n, .int .i64 3] w fun e w' => e = .returned (.string (beS n.toNat 3)) ∧ Below w.heap.size w w' := by
  have h := num_3 n.toNat w (by omega)
  rw [Int.toNat_of_nonneg h0] at h
  exact h
theorem numI_4 (n : Int) (w : World) (h0 : 0 ≤ n) (hn : n ≤ 281474976710656) :
    Calls Tryz.prog 121 #[.int .i64 n, .int .i64 4] w fun e w' => e = .returned (.string (beS n.toNat 4)) ∧ Below w.heap.size w w' := by
  have h := num_4 n.toNat w (by omega)
  rw [Int.toNat_of_nonneg h0] at h
  exact h
theorem numI_5 (n : Int) (w : World) (h0 : 0 ≤ n) (hn : n ≤ 281474976710656) :
    Calls Tryz.prog 121 #[.int .i64 n, .int .i64 5] w fun e w' => e = .returned (.string (beS n.toNat 5)) ∧ Below w.heap.size w w' := by
  have h := num_5 n.toNat w (by omega)
  rw [Int.toNat_of_nonneg h0] at h
  exact h
theorem numI_6 (n : Int) (w : World) (h0 : 0 ≤ n) (hn : n ≤ 281474976710656) :
    Calls Tryz.prog 121 #[.int .i64 n, .int .i64 6] w fun e w' => e = .returned (.string (beS n.toNat 6)) ∧ Below w.heap.size w w' := by
  have h := num_6 n.toNat w (by omega)
  rw [Int.toNat_of_nonneg h0] at h
  exact h

set_option maxHeartbeats 2000000 in
theorem Put_any (s : ByteArray) (n k : Int) (w : World) (hs : s.size ≤ 281474976710656) :
    Calls Tryz.prog 98 #[.string s, .int .i64 n, .int .i64 k] w fun e w' => e = .returned (.tuple #[.string (putV s n k).1, .int .i64 (putV s n k).2]) ∧ Below w.heap.size w w' := by
  by_cases hw : k < 1 ∨ 6 < k
  · rw [putV_width hw]
    have hd : (decide (1 ≤ k) && decide (k ≤ 6)) = false := by simp; omega
    go_enter Tryz.func98, Tryz.ntmps98
    go_wp2_with (go_at_call 87; refine (isWidth_any _ _).mono ?_; rintro e w' ⟨rfl, rfl⟩)
    go_ret2
    exact ⟨rfl, Below.refl _ _⟩
  · have hk : k = 1 ∨ k = 2 ∨ k = 3 ∨ k = 4 ∨ k = 5 ∨ k = 6 := by omega
    by_cases hr : n < 0 ∨ limI k.toNat ≤ n
    · rw [putV_range hw hr]
      clear hw
      rcases hr with hr | hr
      · rcases hk with rfl | rfl | rfl | rfl | rfl | rfl
        all_goals
          go_enter Tryz.func98, Tryz.ntmps98
          go_wp2_with (go_at_call 87; refine (isWidth_any _ _).mono ?_; rintro e w' ⟨rfl, rfl⟩)
          go_ret2
          exact ⟨rfl, Below.refl _ _⟩
      · rcases hk with rfl | rfl | rfl | rfl | rfl | rfl
        · rw [limI_1] at hr
          have hn0 : 0 ≤ n := by omega
          go_enter Tryz.func98, Tryz.ntmps98
          go_wp2_with (go_at_call 87; refine (isWidth_any _ _).mono ?_; rintro e w' ⟨rfl, rfl⟩)
          go_ret2
          exact ⟨rfl, Below.refl _ _⟩
        · rw [limI_2] at hr
          have hn0 : 0 ≤ n := by omega
          go_enter Tryz.func98, Tryz.ntmps98
          go_wp2_with (go_at_call 87; refine (isWidth_any _ _).mono ?_; rintro e w' ⟨rfl, rfl⟩)
          go_ret2
          exact ⟨rfl, Below.refl _ _⟩
        · rw [limI_3] at hr
          have hn0 : 0 ≤ n := by omega
          go_enter Tryz.func98, Tryz.ntmps98
          go_wp2_with (go_at_call 87; refine (isWidth_any _ _).mono ?_; rintro e w' ⟨rfl, rfl⟩)
          go_ret2
          exact ⟨rfl, Below.refl _ _⟩
        · rw [limI_4] at hr
          have hn0 : 0 ≤ n := by omega
          go_enter Tryz.func98, Tryz.ntmps98
          go_wp2_with (go_at_call 87; refine (isWidth_any _ _).mono ?_; rintro e w' ⟨rfl, rfl⟩)
          go_ret2
          exact ⟨rfl, Below.refl _ _⟩
        · rw [limI_5] at hr
          have hn0 : 0 ≤ n := by omega
          go_enter Tryz.func98, Tryz.ntmps98
          go_wp2_with (go_at_call 87; refine (isWidth_any _ _).mono ?_; rintro e w' ⟨rfl, rfl⟩)
          go_ret2
          exact ⟨rfl, Below.refl _ _⟩
        · rw [limI_6] at hr
          have hn0 : 0 ≤ n := by omega
          go_enter Tryz.func98, Tryz.ntmps98
          go_wp2_with (go_at_call 87; refine (isWidth_any _ _).mono ?_; rintro e w' ⟨rfl, rfl⟩)
          go_ret2
          exact ⟨rfl, Below.refl _ _⟩
    · rw [putV_fits hw hr]
      clear hw
      have hn0 : 0 ≤ n := by omega
      rcases hk with rfl | rfl | rfl | rfl | rfl | rfl
      · rw [limI_1] at hr
        have hlt : n < 256 := by omega
        have hz : (beS n.toNat 1).size ≤ 6 := by rw [beS_size]; omega
        clear hr
        go_enter Tryz.func98, Tryz.ntmps98
        go_wp2_with (first | (go_at_call 87; refine (isWidth_any _ _).mono ?_; rintro e w' ⟨rfl, rfl⟩) | (go_at_call 121; refine (numI_1 _ _ (by omega) (by omega)).mono ?_; rintro e w' ⟨rfl, hb⟩))
        go_ret2
        exact ⟨rfl, hb⟩
      · rw [limI_2] at hr
        have hlt : n < 65536 := by omega
        have hz : (beS n.toNat 2).size ≤ 6 := by rw [beS_size]; omega
        clear hr
        go_enter Tryz.func98, Tryz.ntmps98
        go_wp2_with (first | (go_at_call 87; refine (isWidth_any _ _).mono ?_; rintro e w' ⟨rfl, rfl⟩) | (go_at_call 121; refine (numI_2 _ _ (by omega) (by omega)).mono ?_; rintro e w' ⟨rfl, hb⟩))
        go_ret2
        exact ⟨rfl, hb⟩
      · rw [limI_3] at hr
        have hlt : n < 16777216 := by omega
        have hz : (beS n.toNat 3).size ≤ 6 := by rw [beS_size]; omega
        clear hr
        go_enter Tryz.func98, Tryz.ntmps98
        go_wp2_with (first | (go_at_call 87; refine (isWidth_any _ _).mono ?_; rintro e w' ⟨rfl, rfl⟩) | (go_at_call 121; refine (numI_3 _ _ (by omega) (by omega)).mono ?_; rintro e w' ⟨rfl, hb⟩))
        go_ret2
        exact ⟨rfl, hb⟩
      · rw [limI_4] at hr
        have hlt : n < 4294967296 := by omega
        have hz : (beS n.toNat 4).size ≤ 6 := by rw [beS_size]; omega
        clear hr
        go_enter Tryz.func98, Tryz.ntmps98
        go_wp2_with (first | (go_at_call 87; refine (isWidth_any _ _).mono ?_; rintro e w' ⟨rfl, rfl⟩) | (go_at_call 121; refine (numI_4 _ _ (by omega) (by omega)).mono ?_; rintro e w' ⟨rfl, hb⟩))
        go_ret2
        exact ⟨rfl, hb⟩
      · rw [limI_5] at hr
        have hlt : n < 1099511627776 := by omega
        have hz : (beS n.toNat 5).size ≤ 6 := by rw [beS_size]; omega
        clear hr
        go_enter Tryz.func98, Tryz.ntmps98
        go_wp2_with (first | (go_at_call 87; refine (isWidth_any _ _).mono ?_; rintro e w' ⟨rfl, rfl⟩) | (go_at_call 121; refine (numI_5 _ _ (by omega) (by omega)).mono ?_; rintro e w' ⟨rfl, hb⟩))
        go_ret2
        exact ⟨rfl, hb⟩
      · rw [limI_6] at hr
        have hlt : n < 281474976710656 := by omega
        have hz : (beS n.toNat 6).size ≤ 6 := by rw [beS_size]; omega
        clear hr
        go_enter Tryz.func98, Tryz.ntmps98
        go_wp2_with (first | (go_at_call 87; refine (isWidth_any _ _).mono ?_; rintro e w' ⟨rfl, rfl⟩) | (go_at_call 121; refine (numI_6 _ _ (by omega) (by omega)).mono ?_; rintro e w' ⟨rfl, hb⟩))
        go_ret2
        exact ⟨rfl, hb⟩

set_option maxHeartbeats 1000000 in
theorem Text_any (s t : ByteArray) (w : World) (hs : s.size ≤ 281474976710656) (ht : t.size ≤ 281474976710656) :
    Calls Tryz.prog 169 #[.string s, .string t] w fun e w' => e = .returned (.tuple #[.string (textV s t).1, .int .i64 (textV s t).2]) ∧ Below w.heap.size w w' := by
  by_cases hl : 65535 < t.size
  · rw [textV_long hl]
    go_enter Tryz.func169, Tryz.ntmps169
    go_wp2_with fail
    go_ret2
    exact ⟨rfl, Below.refl _ _⟩
  · rw [textV_fits hl]
    have hz : (beS t.size 2).size ≤ 6 := by rw [beS_size]; omega
    have hz2 : (s ++ beS t.size 2).size ≤ 281474976710662 := by rw [ByteArray.size_append]; omega
    go_enter Tryz.func169, Tryz.ntmps169
    go_wp2_with (go_at_call 121; refine (num_2 _ _ (by omega)).mono ?_; rintro e w' ⟨rfl, hb⟩)
    go_ret2
    exact ⟨rfl, hb⟩

theorem Put_258 (w : World) :
    Calls Tryz.prog 98 #[.string ⟨#[]⟩, .int .i64 258, .int .i64 2] w fun e w' => e = .returned (.tuple #[.string ⟨#[1, 2]⟩, .int .i64 0]) ∧ Below w.heap.size w w' := by
  have h := Put_any ⟨#[]⟩ 258 2 w (by decide)
  have e : putV ⟨#[]⟩ 258 2 = (⟨#[1, 2]⟩, 0) := by decide
  rw [e] at h
  exact h
theorem Text_ab (w : World) :
    Calls Tryz.prog 169 #[.string ⟨#[]⟩, .string ⟨#[97, 98]⟩] w fun e w' => e = .returned (.tuple #[.string ⟨#[0, 2, 97, 98]⟩, .int .i64 0]) ∧ Below w.heap.size w w' := by
  have h := Text_any ⟨#[]⟩ ⟨#[97, 98]⟩ w (by decide) (by decide)
  have e : textV ⟨#[]⟩ ⟨#[97, 98]⟩ = (⟨#[0, 2, 97, 98]⟩, 0) := by decide
  rw [e] at h
  exact h

end Go.Proofs.YtgodjnbbocnckaaGreat.Pk

namespace Go.Proofs.YtgodjnbbocnckaaGreat.Pk
open Go.RowKit
set_option linter.unusedVariables false
set_option linter.unusedSimpArgs false
set_option maxRecDepth 100000

/-- All blocks but b are as they were; new ones may have come. -/
structure Off (b : Nat) (w w' : World) : Prop where
  os : w'.os = w.os
  tape : w'.tape = w.tape
  output : w'.output = w.output
  size : w.heap.size ≤ w'.heap.size
  block : ∀ k, k < w.heap.size → k ≠ b → w'.heap[k]? = w.heap[k]?
theorem Off.refl (b : Nat) (w : World) : Off b w w := ⟨rfl, rfl, rfl, Nat.le_refl _, fun _ _ _ => rfl⟩
theorem Off.trans {d : Nat} {a b c : World} (h : Off d a b) (k : Off d b c) : Off d a c :=
  ⟨k.os.trans h.os, k.tape.trans h.tape, k.output.trans h.output, Nat.le_trans h.size k.size, fun i hi hn => (k.block i (Nat.lt_of_lt_of_le hi h.size) hn).trans (h.block i hi hn)⟩
theorem Off.of_below {b : Nat} {w w' : World} (h : Below w.heap.size w w') : Off b w w' := ⟨h.os, h.tape, h.output, h.size, fun k hk _ => h.block k hk⟩
theorem Off.below {b B : Nat} {w w' : World} (h : Off b w w') (hb : B ≤ b) (hB : B ≤ w.heap.size) : Below B w w' :=
  ⟨h.os, h.tape, h.output, h.size, fun k hk => h.block k (Nat.lt_of_lt_of_le hk hB) (Nat.ne_of_lt (Nat.lt_of_lt_of_le hk hb))⟩
theorem Off.alloc {b : Nat} {a w : World} (h : Off b a w) (o : Obj) : Off b a (w.alloc o) :=
  h.trans (Off.of_below ((Below.refl _ _).alloc (Nat.le_refl _) o))
theorem Off.drew {b : Nat} {a w : World} (h : Off b a w) : Off b a w.drew := ⟨h.os, h.tape, h.output, h.size, h.block⟩
theorem Off.setCell {b : Nat} {a w : World} (h : Off b a w) (i : Nat) (v : Value) : Off b a (w.setCell ⟨b, i, none⟩ v) := by
  refine h.trans ⟨rfl, rfl, rfl, ?_, fun k _ hk => Below.heap_setCell w _ v k hk⟩
  simp [go_sem]

/-- A reader lies whole in block b. -/
def isRd (w : World) (b : Nat) (s : ByteArray) (e : Int) : Prop := w.heap[b]? = some (.cells #[.string s, .int .i64 e] 150)
theorem isRd.c0 {w : World} {b : Nat} {s : ByteArray} {e : Int} (h : isRd w b s e) : w.cell? ⟨b, 0, none⟩ = some (.string s) := by
  unfold isRd at h; simp [World.cell?, h]
theorem isRd.c1 {w : World} {b : Nat} {s : ByteArray} {e : Int} (h : isRd w b s e) : w.cell? ⟨b, 1, none⟩ = some (.int .i64 e) := by
  unfold isRd at h; simp [World.cell?, h]
theorem isRd.f {w : World} {b : Nat} {s : ByteArray} {e : Int} (h : isRd w b s e) (i : Nat) : w.frozen? ⟨b, i, none⟩ = false := by
  unfold isRd at h; simp [World.frozen?, h]
theorem isRd.lt {w : World} {b : Nat} {s : ByteArray} {e : Int} (h : isRd w b s e) : b < w.heap.size := by
  unfold isRd at h
  rcases Nat.lt_or_ge b w.heap.size with h' | h'
  · exact h'
  · simp [Array.getElem?_eq_none h'] at h
theorem isRd.below {w w' : World} {b : Nat} {s : ByteArray} {e : Int} (h : isRd w b s e) (hb : Below w.heap.size w w') : isRd w' b s e := (hb.block b h.lt).trans h
theorem isRd.off {w w' : World} {b c : Nat} {s : ByteArray} {e : Int} (h : isRd w b s e) (hb : Off c w w') (hn : b ≠ c) : isRd w' b s e := (hb.block b h.lt hn).trans h
theorem isRd.set0 {w : World} {b : Nat} {s : ByteArray} {e : Int} (h : isRd w b s e) (t : ByteArray) : isRd (w.setCell ⟨b, 0, none⟩ (.string t)) b t e := by
  unfold isRd at *
  rw [Joins.block_setCell h]; rfl
theorem isRd.set1 {w : World} {b : Nat} {s : ByteArray} {e : Int} (h : isRd w b s e) (x : Int) : isRd (w.setCell ⟨b, 1, none⟩ (.int .i64 x)) b s x := by
  unfold isRd at *
  rw [Joins.block_setCell h]; rfl

/-- The reader behind a fault x: what was left and its first error. -/
def rdFail (l : ByteArray) (e x : Int) : ByteArray × Int := if e = 0 then (⟨#[]⟩, x) else (l, e)
/-- What is read of n bytes, what is left, the error. -/
def rdRaw (l : ByteArray) (e n : Int) : ByteArray × ByteArray × Int :=
  if e ≠ 0 then (⟨#[]⟩, l, e) else if n < 0 then (⟨#[]⟩, ⟨#[]⟩, 1) else if (l.size : Int) < n then (⟨#[]⟩, ⟨#[]⟩, 2) else (l.extract 0 n.toNat, l.extract n.toNat l.size, 0)
theorem rdRaw_had {l : ByteArray} {e n : Int} (h : e ≠ 0) : rdRaw l e n = (⟨#[]⟩, l, e) := by simp [rdRaw, h]
theorem rdRaw_neg {l : ByteArray} {n : Int} (h : n < 0) : rdRaw l 0 n = (⟨#[]⟩, ⟨#[]⟩, 1) := by simp [rdRaw, h]
theorem rdRaw_short {l : ByteArray} {n : Int} (h : ¬ n < 0) (h2 : (l.size : Int) < n) : rdRaw l 0 n = (⟨#[]⟩, ⟨#[]⟩, 2) := by simp [rdRaw, h, h2]
theorem rdRaw_fits {l : ByteArray} {n : Int} (h : ¬ n < 0) (h2 : ¬ (l.size : Int) < n) : rdRaw l 0 n = (l.extract 0 n.toNat, l.extract n.toNat l.size, 0) := by simp [rdRaw, h, h2]
def beN (l : List UInt8) : Nat := l.foldl (fun a b => 256 * a + b.toNat) 0
/-- The number that is read of k bytes, what is left, the error. -/
def rdNumSt (l : ByteArray) (e k : Int) : ByteArray × Int := if k < 1 ∨ 6 < k then rdFail l e 1 else (l, e)
def rdNum (l : ByteArray) (e k : Int) : Nat × ByteArray × Int :=
  (beN (rdRaw (rdNumSt l e k).1 (rdNumSt l e k).2 k).1.data.toList, (rdRaw (rdNumSt l e k).1 (rdNumSt l e k).2 k).2)
def rdTextSt (l : ByteArray) (e m : Int) : ByteArray × Int := if m < (rdNum l e 2).1 then rdFail (rdNum l e 2).2.1 (rdNum l e 2).2.2 3 else (rdNum l e 2).2
def rdText (l : ByteArray) (e m : Int) : ByteArray × ByteArray × Int := rdRaw (rdTextSt l e m).1 (rdTextSt l e m).2 (rdNum l e 2).1
def rdEnd (l : ByteArray) (e : Int) : ByteArray × Int := if 0 < l.size then rdFail l e 4 else (l, e)

theorem Left_nil (w : World) : Calls Tryz.prog 90 #[.pointer none] w fun e w' => e = .returned (.int .i64 0) ∧ w' = w := by
  go_enter Tryz.func90, Tryz.ntmps90
  go_wp2
  go_ret
  exact ⟨rfl, rfl⟩
theorem Err_nil (w : World) : Calls Tryz.prog 91 #[.pointer none] w fun e w' => e = .returned (.int .i64 11) ∧ w' = w := by
  go_enter Tryz.func91, Tryz.ntmps91
  go_wp2
  go_ret
  exact ⟨rfl, rfl⟩
theorem fail_nil (x : Int) (w : World) : Calls Tryz.prog 88 #[.pointer none, .int .i64 x] w fun e w' => e = .returned (.tuple #[]) ∧ w' = w := by
  go_enter Tryz.func88, Tryz.ntmps88
  go_wp2_with (go_at_call 91; refine (Err_nil _).mono ?_; rintro e w' ⟨rfl, rfl⟩)
  go_end0
  exact ⟨rfl, rfl⟩
theorem Left_any (b : Nat) (s : ByteArray) (e : Int) (w : World) (hs : s.size ≤ 140737488351232) (h : isRd w b s e) : Calls Tryz.prog 90 #[.pointer (some ⟨b, 0, none⟩)] w fun e w' => e = .returned (.int .i64 s.size) ∧ w' = w := by
  have hc0 := h.c0
  go_enter Tryz.func90, Tryz.ntmps90
  go_wp2
  go_ret
  exact ⟨rfl, rfl⟩
theorem Err_any (b : Nat) (s : ByteArray) (e : Int) (w : World) (h : isRd w b s e) : Calls Tryz.prog 91 #[.pointer (some ⟨b, 0, none⟩)] w fun r w' => r = .returned (.int .i64 e) ∧ w' = w := by
  have hc1 := h.c1
  go_enter Tryz.func91, Tryz.ntmps91
  go_wp2
  go_ret
  exact ⟨rfl, rfl⟩
theorem fail_had (b : Nat) (s : ByteArray) (e x : Int) (w : World) (h : isRd w b s e) (he : e ≠ 0) : Calls Tryz.prog 88 #[.pointer (some ⟨b, 0, none⟩), .int .i64 x] w fun e w' => e = .returned (.tuple #[]) ∧ w' = w := by
  have he' : (e == 0) = false := by simpa using he
  go_enter Tryz.func88, Tryz.ntmps88
  go_wp2_with (go_at_call 91; refine (Err_any b s e _ h).mono ?_; rintro e w' ⟨rfl, rfl⟩)
  go_end0
  exact ⟨rfl, rfl⟩
theorem fail_new (b : Nat) (s : ByteArray) (x : Int) (w : World) (h : isRd w b s 0) : Calls Tryz.prog 88 #[.pointer (some ⟨b, 0, none⟩), .int .i64 x] w fun e w' => e = .returned (.tuple #[]) ∧ isRd w' b ⟨#[]⟩ x ∧ Off b w w' := by
  have hc0 := h.c0
  have hc1 := h.c1
  have hf := h.f
  go_enter Tryz.func88, Tryz.ntmps88
  go_wp2_with (go_at_call 91; refine (Err_any b s 0 _ h).mono ?_; rintro e w' ⟨rfl, rfl⟩)
  go_end0
  exact ⟨rfl, (h.set0 _).set1 _, ((Off.refl _ _).setCell _ _).setCell _ _⟩
theorem fail_any (b : Nat) (s : ByteArray) (e x : Int) (w : World) (h : isRd w b s e) : Calls Tryz.prog 88 #[.pointer (some ⟨b, 0, none⟩), .int .i64 x] w fun r w' => r = .returned (.tuple #[]) ∧ isRd w' b (rdFail s e x).1 (rdFail s e x).2 ∧ Off b w w' := by
  by_cases he : e = 0
  · subst he
    exact fail_new b s x w h
  · simp only [rdFail, he, if_false]
    refine (fail_had b s e x w h he).mono ?_
    rintro r w' ⟨rfl, rfl⟩
    exact ⟨rfl, h, Off.refl _ _⟩

theorem Raw_nil (n : Int) (w : World) : Calls Tryz.prog 72 #[.pointer none, .int .i64 n] w fun e w' => e = .returned (.string ⟨#[]⟩) ∧ w' = w := by
  go_enter Tryz.func72, Tryz.ntmps72
  go_wp2_with (first | (go_at_call 91; refine (Err_nil _).mono ?_; rintro e w' ⟨rfl, rfl⟩) | (go_at_call 90; refine (Left_nil _).mono ?_; rintro e w' ⟨rfl, rfl⟩) | (go_at_call 88; refine (fail_nil _ _).mono ?_; rintro e w' ⟨rfl, rfl⟩))
  all_goals (go_ret; exact ⟨rfl, rfl⟩)
theorem End_nil (w : World) : Calls Tryz.prog 117 #[.pointer none] w fun e w' => e = .returned (.int .i64 11) ∧ w' = w := by
  go_enter Tryz.func117, Tryz.ntmps117
  go_wp2_with (first | (go_at_call 91; refine (Err_nil _).mono ?_; rintro e w' ⟨rfl, rfl⟩) | (go_at_call 90; refine (Left_nil _).mono ?_; rintro e w' ⟨rfl, rfl⟩))
  go_ret
  exact ⟨rfl, rfl⟩
theorem Num_nil (n : Int) (w : World) : Calls Tryz.prog 70 #[.pointer none, .int .i64 n] w fun e w' => e = .returned (.int .i64 0) ∧ Below w.heap.size w w' := by
  have hcv := fun w => run_bytes_of_string (P := Tryz.prog) w 9 94 5 ⟨#[]⟩ Tryz.underlying9 Tryz.underlying94 Tryz.underlying5
  go_enter Tryz.func70, Tryz.ntmps70
  go_wp2_with (first | (go_at_call 87; refine (isWidth_any _ _).mono ?_; rintro e w' ⟨rfl, rfl⟩) | (go_at_call 72; refine (Raw_nil _ _).mono ?_; rintro e w' ⟨rfl, rfl⟩) | (go_at_call 88; refine (fail_nil _ _).mono ?_; rintro e w' ⟨rfl, rfl⟩))
  all_goals
    refine wp_loop_rounds 1 ?_
    rw [rounds_succ]
    go_wp2
    go_ret
    exact ⟨rfl, ((Below.refl _ _).alloc (Nat.le_refl _) _).drew⟩
theorem Text_nil (n : Int) (w : World) : Calls Tryz.prog 143 #[.pointer none, .int .i64 n] w fun e w' => e = .returned (.string ⟨#[]⟩) ∧ Below w.heap.size w w' := by
  go_enter Tryz.func143, Tryz.ntmps143
  go_wp2_with (first | (go_at_call 70; refine (Num_nil _ _).mono ?_; rintro e w1 ⟨rfl, hb⟩) | (go_at_call 72; refine (Raw_nil _ _).mono ?_; rintro e w' ⟨rfl, rfl⟩) | (go_at_call 88; refine (fail_nil _ _).mono ?_; rintro e w' ⟨rfl, rfl⟩))
  all_goals (go_ret; exact ⟨rfl, hb⟩)

set_option maxHeartbeats 1000000 in
theorem Raw_any (b : Nat) (l : ByteArray) (e n : Int) (w : World) (hs : l.size ≤ 140737488351232) (h : isRd w b l e) :
    Calls Tryz.prog 72 #[.pointer (some ⟨b, 0, none⟩), .int .i64 n] w fun r w' => r = .returned (.string (rdRaw l e n).1) ∧ isRd w' b (rdRaw l e n).2.1 (rdRaw l e n).2.2 ∧ Off b w w' := by
  by_cases he : e = 0
  · subst he
    by_cases hn : n < 0
    · rw [rdRaw_neg hn]
      go_enter Tryz.func72, Tryz.ntmps72
      go_wp2_with (first | (go_at_call 88; refine (fail_new b l _ _ h).mono ?_; rintro e w1 ⟨rfl, h1, o1⟩) | (go_at_call 91; refine (Err_any b _ _ _ h1).mono ?_; rintro e w' ⟨rfl, rfl⟩))
      go_ret
      exact ⟨rfl, h1, o1⟩
    · by_cases hl : (l.size : Int) < n
      · rw [rdRaw_short hn hl]
        go_enter Tryz.func72, Tryz.ntmps72
        go_wp2_with (first | (go_at_call 90; refine (Left_any b _ _ _ hs h).mono ?_; rintro e w' ⟨rfl, rfl⟩) | (go_at_call 88; refine (fail_new b l _ _ h).mono ?_; rintro e w1 ⟨rfl, h1, o1⟩) | (go_at_call 91; refine (Err_any b _ _ _ h1).mono ?_; rintro e w' ⟨rfl, rfl⟩))
        go_ret
        exact ⟨rfl, h1, o1⟩
      · rw [rdRaw_fits hn hl]
        obtain ⟨m, rfl⟩ : ∃ m : Nat, n = m := ⟨n.toNat, by omega⟩
        have hm : m ≤ l.size := by omega
        have hc0 := h.c0
        have hf := h.f
        rw [Int.toNat_natCast]
        go_enter Tryz.func72, Tryz.ntmps72
        go_wp2_with (first | (go_at_call 90; refine (Left_any b _ _ _ hs h).mono ?_; rintro e w' ⟨rfl, rfl⟩) | (go_at_call 91; refine (Err_any b _ _ _ h).mono ?_; rintro e w' ⟨rfl, rfl⟩))
        go_ret
        exact ⟨rfl, h.set0 _, (Off.refl _ _).setCell _ _⟩
  · rw [rdRaw_had he]
    have he' : (e != 0) = true := by simpa using he
    go_enter Tryz.func72, Tryz.ntmps72
    go_wp2_with (first | (go_at_call 90; refine (Left_any b _ _ _ hs h).mono ?_; rintro e w' ⟨rfl, rfl⟩) | (go_at_call 88; refine (fail_had b l _ _ _ h he).mono ?_; rintro e w1 ⟨rfl, rfl⟩) | (go_at_call 91; refine (Err_any b _ _ _ h).mono ?_; rintro e w' ⟨rfl, rfl⟩))
    all_goals (go_ret; exact ⟨rfl, h, Off.refl _ _⟩)
end Go.Proofs.YtgodjnbbocnckaaGreat.Pk

namespace Go.Proofs.YtgodjnbbocnckaaGreat.Pk
open Go.RowKit
set_option linter.unusedVariables false
set_option linter.unusedSimpArgs false
set_option maxRecDepth 100000

theorem beN_snoc (l : List UInt8) (c : UInt8) : beN (l ++ [c]) = 256 * beN l + c.toNat := by simp [beN]
theorem beN_lt (l : List UInt8) : beN l < 256 ^ l.length := by
  have key : ∀ (l : List UInt8) (a n : Nat), a < 256 ^ n → l.foldl (fun a b => 256 * a + b.toNat) a < 256 ^ (n + l.length) := by
    intro l
    induction l with
    | nil => intro a n h; simpa using h
    | cons c l ih =>
      intro a n h
      have hc := c.toNat_lt
      have := ih (256 * a + c.toNat) (n + 1) (by rw [Nat.pow_succ]; omega)
      rw [List.foldl_cons, List.length_cons]
      rw [show n + (l.length + 1) = n + 1 + l.length by omega]
      exact this
  have := key l 0 0 (by simp)
  simpa [beN] using this
theorem beN_le6 (l : List UInt8) (h : l.length ≤ 6) : beN l < 281474976710656 := by
  have h1 := beN_lt l
  have h2 : 256 ^ l.length ≤ 256 ^ 6 := Nat.pow_le_pow_right (by omega) h
  have h3 : 256 ^ 6 = 281474976710656 := by decide
  omega
theorem take_snoc (s : ByteArray) (k : Nat) (h : k < s.size) : s.data.toList.take (k + 1) = s.data.toList.take k ++ [s[k]] := by
  rw [List.take_succ_eq_append_getElem (by simpa using h)]; rfl
theorem bytesRow_cell (w : World) (s : ByteArray) (c m : Nat) (k : Nat) (h : k < s.size) :
    (w.alloc (.cells (bytesRow s c) 5 (m, m + 1))).cell? ⟨w.heap.size, k, none⟩ = some (.int .u8 (s[k].toNat : Int)) := by
  rw [World.cell?_alloc_mark]
  have h' : k < s.data.size := h
  simp only [bytesRow]
  rw [Array.getElem?_append_left (by simpa using h')]
  rw [Array.getElem?_map, Array.getElem?_eq_getElem h']
  rfl
theorem or_byte (x : Nat) (c : UInt8) (h : x < 281474976710656) : bits BinOp.or IntKind.i64 ((x : Int) * 256) (wrap64 (c.toNat : Int)) = ((256 * x + c.toNat : Nat) : Int) := by
  have hc := c.toNat_lt
  have e1 : wrap64 (c.toNat : Int) = (c.toNat : Int) := by unfold wrap64; omega
  rw [e1]
  show IntKind.i64.wrap ((BitVec.ofInt 64 ((x : Int) * 256) ||| BitVec.ofInt 64 (c.toNat : Int)).toNat : Int) = _
  have e2 : ((x : Int) * 256) = ((256 * x : Nat) : Int) := by omega
  rw [e2, BitVec.toNat_or, ofInt_u64 (256 * x) (by omega), ofInt_u64 c.toNat (by omega), nat_join8 (256 * x) c.toNat (by omega) (by omega), IntKind.wrap_i64]
  omega

theorem rdFail_size (l : ByteArray) (e x : Int) : (rdFail l e x).1.size ≤ l.size := by
  unfold rdFail
  split
  · exact Nat.zero_le _
  · exact Nat.le_refl _
theorem rdFail_ne (l : ByteArray) (e x : Int) (hx : x ≠ 0) : (rdFail l e x).2 ≠ 0 := by
  unfold rdFail
  split
  · exact hx
  · assumption
theorem size_nil : (⟨#[]⟩ : ByteArray).size = 0 := rfl
theorem rdRaw_size (l : ByteArray) (e n : Int) : (rdRaw l e n).2.1.size ≤ l.size := by
  unfold rdRaw
  repeat' split
  all_goals simp [ByteArray.size_extract, size_nil]
theorem rdRaw_size1 (l : ByteArray) (e n : Int) (k : Nat) (h : n ≤ k) : (rdRaw l e n).1.size ≤ k := by
  unfold rdRaw
  repeat' split
  all_goals simp [ByteArray.size_extract, size_nil]
  all_goals omega
theorem rdNumSt_size (l : ByteArray) (e k : Int) : (rdNumSt l e k).1.size ≤ l.size := by
  unfold rdNumSt
  split
  · exact rdFail_size _ _ _
  · exact Nat.le_refl _
theorem rdNumSt_size1 (l : ByteArray) (e k : Int) : (rdRaw (rdNumSt l e k).1 (rdNumSt l e k).2 k).1.size ≤ 6 := by
  unfold rdNumSt
  split
  · rw [rdRaw_had (rdFail_ne _ _ _ (by decide))]; exact Nat.zero_le _
  · exact rdRaw_size1 _ _ _ 6 (by omega)
theorem rdNum_size (l : ByteArray) (e k : Int) : (rdNum l e k).2.1.size ≤ l.size := Nat.le_trans (rdRaw_size _ _ _) (rdNumSt_size _ _ _)
theorem rdNum_lt (l : ByteArray) (e k : Int) : (rdNum l e k).1 < 281474976710656 := beN_le6 _ (rdNumSt_size1 l e k)

set_option maxHeartbeats 1000000 in
theorem Num_any (b : Nat) (l : ByteArray) (e k : Int) (w : World) (hs : l.size ≤ 140737488351232) (h : isRd w b l e) :
    Calls Tryz.prog 70 #[.pointer (some ⟨b, 0, none⟩), .int .i64 k] w fun r w' => r = .returned (.int .i64 (rdNum l e k).1) ∧ isRd w' b (rdNum l e k).2.1 (rdNum l e k).2.2 ∧ Off b w w' := by
  have hcv := fun w s => run_bytes_of_string (P := Tryz.prog) w 9 94 5 s Tryz.underlying9 Tryz.underlying94 Tryz.underlying5
  have hl0 := Nat.le_trans (rdNumSt_size l e k) hs
  have hsv := rdNumSt_size1 l e k
  obtain ⟨l0, e0, hst⟩ : ∃ l0 e0, rdNumSt l e k = (l0, e0) := ⟨_, _, rfl⟩
  rw [hst] at hl0 hsv
  dsimp only at hl0 hsv
  obtain ⟨sv, st, hp⟩ : ∃ sv st, rdRaw l0 e0 k = (sv, st) := ⟨_, _, rfl⟩
  have c1 := fun w h => Raw_any b l0 e0 k w hl0 h
  have hr : rdNum l e k = (beN sv.data.toList, st) := by simp only [rdNum, hst, hp]
  rw [hr]
  rw [hp] at c1 hsv
  dsimp only at c1 hsv
  have C1 : Hid _ := c1
  clear c1 hp hr hl0
  by_cases hk : k < 1 ∨ 6 < k
  · have hd : (decide (1 ≤ k) && decide (k ≤ 6)) = false := by simp; omega
    have c0 := fun w h => fail_any b l e 1 w h
    rw [rdNumSt, if_pos hk] at hst
    rw [hst] at c0
    have C0 : Hid _ := c0
    clear c0 hst hk hs
    go_enter Tryz.func70, Tryz.ntmps70
    go_wp2_with (first | (go_at_call 87; refine (isWidth_any _ _).mono ?_; rintro e w' ⟨rfl, rfl⟩) | (go_at_call 88; refine (C0.out _ h).mono ?_; rintro e w0 ⟨rfl, h0, o0⟩) | (go_at_call 72; refine (C1.out _ h0).mono ?_; rintro e w1 ⟨rfl, h1, o1⟩))
    have hcell := fun j hj => bytesRow_cell w1 sv (grownCap w1 sv.size 0 5) (bytesRow sv (grownCap w1 sv.size 0 5)).size j hj
    generalize bytesRow sv (grownCap w1 sv.size 0 5) = R at hcell ⊢
    generalize grownCap w1 sv.size 0 5 = gc at hcell ⊢
    go_loop [5, 18] (fun n i => ∃ j : Nat, j ≤ sv.size ∧ i = .int .i64 j ∧ n = .int .i64 (beN (sv.data.toList.take j))) (fun _ i => sv.size - (intOf i).toNat)
    case atStart => exact ⟨0, Nat.zero_le _, rfl, rfl⟩
    case round =>
      obtain ⟨j, hj, rfl, rfl⟩ := hrel
      by_cases hlt : j < sv.size
      · have hc := hcell j hlt
        have hlt2 := beN_le6 (sv.data.toList.take j) (by have := List.length_take_le j sv.data.toList; omega)
        go_wp2
        go_round
        case rel => exact ⟨j + 1, by omega, by go_num, by rw [or_byte _ _ hlt2, take_snoc _ _ hlt, beN_snoc]⟩
        case measure => simp [intOf]; omega
      · go_wp2
        go_ret
        rw [List.take_of_length_le (by simp; omega)]
        exact ⟨rfl, h1.below (((Below.refl _ _).alloc (Nat.le_refl _) _).drew), ((o0.trans o1).alloc _).drew⟩
  · have hd : (decide (1 ≤ k) && decide (k ≤ 6)) = true := by simp; omega
    rw [rdNumSt, if_neg hk] at hst
    obtain ⟨rfl, rfl⟩ := Prod.mk.inj hst
    clear hst hk hs
    go_enter Tryz.func70, Tryz.ntmps70
    go_wp2_with (first | (go_at_call 87; refine (isWidth_any _ _).mono ?_; rintro e w' ⟨rfl, rfl⟩) | (go_at_call 72; refine (C1.out _ h).mono ?_; rintro e w1 ⟨rfl, h1, o1⟩))
    have hcell := fun j hj => bytesRow_cell w1 sv (grownCap w1 sv.size 0 5) (bytesRow sv (grownCap w1 sv.size 0 5)).size j hj
    generalize bytesRow sv (grownCap w1 sv.size 0 5) = R at hcell ⊢
    generalize grownCap w1 sv.size 0 5 = gc at hcell ⊢
    go_loop [5, 18] (fun n i => ∃ j : Nat, j ≤ sv.size ∧ i = .int .i64 j ∧ n = .int .i64 (beN (sv.data.toList.take j))) (fun _ i => sv.size - (intOf i).toNat)
    case atStart => exact ⟨0, Nat.zero_le _, rfl, rfl⟩
    case round =>
      obtain ⟨j, hj, rfl, rfl⟩ := hrel
      by_cases hlt : j < sv.size
      · have hc := hcell j hlt
        have hlt2 := beN_le6 (sv.data.toList.take j) (by have := List.length_take_le j sv.data.toList; omega)
        go_wp2
        go_round
        case rel => exact ⟨j + 1, by omega, by go_num, by rw [or_byte _ _ hlt2, take_snoc _ _ hlt, beN_snoc]⟩
        case measure => simp [intOf]; omega
      · go_wp2
        go_ret
        rw [List.take_of_length_le (by simp; omega)]
        exact ⟨rfl, h1.below (((Below.refl _ _).alloc (Nat.le_refl _) _).drew), (o1.alloc _).drew⟩

set_option maxHeartbeats 1000000 in
theorem RText_any (b : Nat) (l : ByteArray) (e m : Int) (w : World) (hs : l.size ≤ 140737488351232) (h : isRd w b l e) :
    Calls Tryz.prog 143 #[.pointer (some ⟨b, 0, none⟩), .int .i64 m] w fun r w' => r = .returned (.string (rdText l e m).1) ∧ isRd w' b (rdText l e m).2.1 (rdText l e m).2.2 ∧ Off b w w' := by
  have c0 := fun w h => Num_any b l e 2 w hs h
  have hn := rdNum_lt l e 2
  have hz := Nat.le_trans (rdNum_size l e 2) hs
  unfold rdText rdTextSt
  obtain ⟨n, l1, e1, hst⟩ : ∃ n l1 e1, rdNum l e 2 = (n, l1, e1) := ⟨_, _, _, rfl⟩
  rw [hst] at c0 hn hz ⊢
  dsimp only at c0 hn hz ⊢
  have C0 : Hid _ := c0
  clear c0 hst hs
  by_cases hm : m < n
  · rw [if_pos hm]
    have hz2 := Nat.le_trans (rdFail_size l1 e1 3) hz
    have c1 := fun w h => fail_any b l1 e1 3 w h
    obtain ⟨l2, e2, hf⟩ : ∃ l2 e2, rdFail l1 e1 3 = (l2, e2) := ⟨_, _, rfl⟩
    rw [hf] at c1 hz2 ⊢
    have C1 : Hid _ := c1
    dsimp only at hz2 ⊢
    have C2 : Hid _ := fun w h => Raw_any b l2 e2 n w hz2 h
    clear c1 hf
    go_enter Tryz.func143, Tryz.ntmps143
    go_wp2_with (first | (go_at_call 70; refine (C0.out _ h).mono ?_; rintro e w1 ⟨rfl, h1, o1⟩) | (go_at_call 88; refine (C1.out _ h1).mono ?_; rintro e w2 ⟨rfl, h2, o2⟩) | (go_at_call 72; refine (C2.out _ h2).mono ?_; rintro e w3 ⟨rfl, h3, o3⟩))
    go_ret
    exact ⟨rfl, h3, (o1.trans o2).trans o3⟩
  · rw [if_neg hm]
    have C2 : Hid _ := fun w h => Raw_any b l1 e1 n w hz h
    go_enter Tryz.func143, Tryz.ntmps143
    go_wp2_with (first | (go_at_call 70; refine (C0.out _ h).mono ?_; rintro e w1 ⟨rfl, h1, o1⟩) | (go_at_call 72; refine (C2.out _ h1).mono ?_; rintro e w3 ⟨rfl, h3, o3⟩))
    go_ret
    exact ⟨rfl, h3, o1.trans o3⟩

theorem End_any (b : Nat) (l : ByteArray) (e : Int) (w : World) (hs : l.size ≤ 140737488351232) (h : isRd w b l e) :
    Calls Tryz.prog 117 #[.pointer (some ⟨b, 0, none⟩)] w fun r w' => r = .returned (.int .i64 (rdEnd l e).2) ∧ isRd w' b (rdEnd l e).1 (rdEnd l e).2 ∧ Off b w w' := by
  unfold rdEnd
  by_cases hl : 0 < l.size
  · rw [if_pos hl]
    have c1 := fun w h => fail_any b l e 4 w h
    obtain ⟨l2, e2, hf⟩ : ∃ l2 e2, rdFail l e 4 = (l2, e2) := ⟨_, _, rfl⟩
    rw [hf] at c1 ⊢
    dsimp only at c1 ⊢
    have C1 : Hid _ := c1
    clear c1 hf
    have hl' : (0 : Int) < (l.size : Int) := by omega
    go_enter Tryz.func117, Tryz.ntmps117
    go_wp2_with (first | (go_at_call 90; refine (Left_any b _ _ _ hs h).mono ?_; rintro e w' ⟨rfl, rfl⟩) | (go_at_call 88; refine (C1.out _ h).mono ?_; rintro e w2 ⟨rfl, h2, o2⟩) | (go_at_call 91; refine (Err_any b _ _ _ h2).mono ?_; rintro e w3 ⟨rfl, rfl⟩))
    go_ret
    exact ⟨rfl, h2, o2⟩
  · rw [if_neg hl]
    have hl' : ¬ (0 : Int) < (l.size : Int) := by omega
    go_enter Tryz.func117, Tryz.ntmps117
    go_wp2_with (first | (go_at_call 90; refine (Left_any b _ _ _ hs h).mono ?_; rintro e w' ⟨rfl, rfl⟩) | (go_at_call 91; refine (Err_any b _ _ _ h).mono ?_; rintro e w3 ⟨rfl, rfl⟩))
    go_ret
    exact ⟨rfl, h, Off.refl _ _⟩
end Go.Proofs.YtgodjnbbocnckaaGreat.Pk

namespace Go.Proofs.YtgodjnbbocnckaaGreat.Pk
open Go.RowKit
set_option linter.unusedVariables false
set_option linter.unusedSimpArgs false
set_option maxRecDepth 100000

/-- A writer's three cells lie in block b. -/
def isWr (w : World) (b : Nat) (p : Option Addr) (n e : Int) : Prop := w.heap[b]? = some (.cells #[.pointer p, .int .i64 n, .int .i64 e] 202)
theorem isWr.c0 {w : World} {b : Nat} {p : Option Addr} {n e : Int} (h : isWr w b p n e) : w.cell? ⟨b, 0, none⟩ = some (.pointer p) := by
  unfold isWr at h; simp [World.cell?, h]
theorem isWr.c1 {w : World} {b : Nat} {p : Option Addr} {n e : Int} (h : isWr w b p n e) : w.cell? ⟨b, 1, none⟩ = some (.int .i64 n) := by
  unfold isWr at h; simp [World.cell?, h]
theorem isWr.c2 {w : World} {b : Nat} {p : Option Addr} {n e : Int} (h : isWr w b p n e) : w.cell? ⟨b, 2, none⟩ = some (.int .i64 e) := by
  unfold isWr at h; simp [World.cell?, h]
theorem isWr.f {w : World} {b : Nat} {p : Option Addr} {n e : Int} (h : isWr w b p n e) (i : Nat) : w.frozen? ⟨b, i, none⟩ = false := by
  unfold isWr at h; simp [World.frozen?, h]
theorem isWr.lt {w : World} {b : Nat} {p : Option Addr} {n e : Int} (h : isWr w b p n e) : b < w.heap.size := by
  unfold isWr at h
  rcases Nat.lt_or_ge b w.heap.size with h' | h'
  · exact h'
  · simp [Array.getElem?_eq_none h'] at h
theorem isWr.below {w w' : World} {b : Nat} {p : Option Addr} {n e : Int} (h : isWr w b p n e) (hb : Below w.heap.size w w') : isWr w' b p n e := (hb.block b h.lt).trans h
theorem isWr.set0 {w : World} {b : Nat} {p : Option Addr} {n e : Int} (h : isWr w b p n e) (x : Option Addr) : isWr (w.setCell ⟨b, 0, none⟩ (.pointer x)) b x n e := by
  unfold isWr at *
  rw [Joins.block_setCell h]; rfl
theorem isWr.set1 {w : World} {b : Nat} {p : Option Addr} {n e : Int} (h : isWr w b p n e) (x : Int) : isWr (w.setCell ⟨b, 1, none⟩ (.int .i64 x)) b p x e := by
  unfold isWr at *
  rw [Joins.block_setCell h]; rfl
theorem isWr.set2 {w : World} {b : Nat} {p : Option Addr} {n e : Int} (h : isWr w b p n e) (x : Int) : isWr (w.setCell ⟨b, 2, none⟩ (.int .i64 x)) b p n x := by
  unfold isWr at *
  rw [Joins.block_setCell h]; rfl

/-- The pieces that hang at p, the last first; none of them lies in block b. -/
def Chain (b : Nat) (w : World) : Option Addr → List ByteArray → Prop
  | p, [] => p = none
  | p, t :: r => ∃ c p', p = some ⟨c, 0, none⟩ ∧ c ≠ b ∧ c < w.heap.size ∧ w.heap[c]? = some (.cells #[.pointer p', .string t] 224) ∧ 1 ≤ t.size ∧ Chain b w p' r
theorem Chain.off {b : Nat} {w w' : World} (o : Off b w w') : ∀ {l : List ByteArray} {p : Option Addr}, Chain b w p l → Chain b w' p l
  | [], _, h => h
  | t :: r, _, ⟨c, p', hp, hc, hl, hh, ht, hr⟩ => ⟨c, p', hp, hc, Nat.lt_of_lt_of_le hl o.size, (o.block c hl hc).trans hh, ht, Chain.off o hr⟩
def joinR : List ByteArray → ByteArray
  | [] => ⟨#[]⟩
  | t :: r => joinR r ++ t
/-- The writer in block b has laid 'all', or bears the error e. -/
def WrIs (w : World) (b : Nat) (all : ByteArray) (e : Int) : Prop := ∃ p l, isWr w b p all.size e ∧ Chain b w p l ∧ joinR l = all
theorem WrIs.below {w w' : World} {b : Nat} {all : ByteArray} {e : Int} (h : WrIs w b all e) (hb : Below w.heap.size w w') : WrIs w' b all e := by
  obtain ⟨p, l, h1, h2, h3⟩ := h
  exact ⟨p, l, h1.below hb, h2.off (Off.of_below hb), h3⟩
theorem WrIs.lt {w : World} {b : Nat} {all : ByteArray} {e : Int} (h : WrIs w b all e) : b < w.heap.size := by
  obtain ⟨p, l, h1, h2, h3⟩ := h
  exact h1.lt

def wrLay (all : ByteArray) (e : Int) (s : ByteArray) (x : Int) : ByteArray × Int :=
  if e ≠ 0 then (all, e) else if x ≠ 0 then (⟨#[]⟩, x) else (all ++ s, 0)

set_option maxHeartbeats 1000000 in
theorem lay_any (b : Nat) (all s : ByteArray) (e x : Int) (w : World) (h : WrIs w b all e) (hsz : all.size + s.size ≤ 140737488351232) (hs : x = 0 → 1 ≤ s.size) :
    Calls Tryz.prog 164 #[.pointer (some ⟨b, 0, none⟩), .string s, .int .i64 x] w fun r w' => r = .returned (.tuple #[]) ∧ WrIs w' b (wrLay all e s x).1 (wrLay all e s x).2 ∧ Off b w w' := by
  obtain ⟨p, l, h1, h2, h3⟩ := h
  have H3 : Hid _ := h3
  clear h3
  have hc0 := h1.c0
  have hc1 := h1.c1
  have hc2 := h1.c2
  have hf := h1.f
  have hlt := h1.lt
  unfold wrLay
  by_cases he : e = 0
  · subst he
    rw [if_neg (fun h => h rfl)]
    by_cases hx : x = 0
    · subst hx
      rw [if_neg (fun h => h rfl)]
      replace hs := hs rfl
      go_enter Tryz.func164, Tryz.ntmps164
      go_wp2
      go_end0
      have o1 : Off b w ((w.setCell ⟨b, 0, none⟩ (.pointer (some ⟨w.heap.size, 0, none⟩))).setCell ⟨b, 1, none⟩ (.int .i64 ((all.size : Int) + (s.size : Int)))) := ((Off.refl _ _).setCell _ _).setCell _ _
      have i1 := (h1.set0 (some ⟨w.heap.size, 0, none⟩)).set1 ((all.size : Int) + (s.size : Int))
      have z1 : ((w.setCell ⟨b, 0, none⟩ (.pointer (some ⟨w.heap.size, 0, none⟩))).setCell ⟨b, 1, none⟩ (.int .i64 ((all.size : Int) + (s.size : Int)))).heap.size = w.heap.size := by simp [go_sem]
      refine ⟨rfl, ⟨some ⟨w.heap.size, 0, none⟩, s :: l, ?_, ⟨w.heap.size, p, rfl, by omega, ?_, ?_, hs, h2.off (o1.alloc _)⟩, ?_⟩, o1.alloc _⟩
      · rw [ByteArray.size_append, Int.natCast_add]
        exact i1.below ((Below.refl _ _).alloc (Nat.le_refl _) _)
      · simp [go_sem]
      · have := (MapKept.heap_alloc ((w.setCell ⟨b, 0, none⟩ (.pointer (some ⟨w.heap.size, 0, none⟩))).setCell ⟨b, 1, none⟩ (.int .i64 ((all.size : Int) + (s.size : Int)))) (.cells #[.pointer p, .string s] 224)).1
        rw [z1] at this
        exact this
      · rw [joinR, H3.out]
    · rw [if_pos hx]
      have hx' : (x != 0) = true := by simpa using hx
      go_enter Tryz.func164, Tryz.ntmps164
      go_wp2
      go_end0
      refine ⟨rfl, ⟨none, [], ((h1.set0 _).set1 _).set2 _, rfl, rfl⟩, (((Off.refl _ _).setCell _ _).setCell _ _).setCell _ _⟩
  · rw [if_pos he]
    have he' : (e != 0) = true := by simpa using he
    go_enter Tryz.func164, Tryz.ntmps164
    go_wp2
    go_end0
    exact ⟨rfl, ⟨p, l, h1, h2, H3.out⟩, Off.refl _ _⟩

theorem putV_size (n k : Int) : (putV ⟨#[]⟩ n k).1.size ≤ 6 ∧ ((putV ⟨#[]⟩ n k).2 = 0 → 1 ≤ (putV ⟨#[]⟩ n k).1.size) := by
  by_cases hw : k < 1 ∨ 6 < k
  · rw [putV_width hw]
    exact ⟨Nat.zero_le _, fun h => absurd h (by dsimp only; decide)⟩
  · by_cases hr : n < 0 ∨ limI k.toNat ≤ n
    · rw [putV_range hw hr]
      exact ⟨Nat.zero_le _, fun h => absurd h (by dsimp only; decide)⟩
    · rw [putV_fits hw hr]
      dsimp only
      rw [ByteArray.size_append, beS_size, size_nil]
      exact ⟨by omega, fun _ => by omega⟩
theorem textV_size (t : ByteArray) : (textV ⟨#[]⟩ t).1.size ≤ 65537 ∧ ((textV ⟨#[]⟩ t).2 = 0 → 1 ≤ (textV ⟨#[]⟩ t).1.size) := by
  by_cases hl : 65535 < t.size
  · rw [textV_long hl]
    exact ⟨Nat.zero_le _, fun h => absurd h (by dsimp only; decide)⟩
  · rw [textV_fits hl]
    dsimp only
    rw [ByteArray.size_append, ByteArray.size_append, beS_size, size_nil]
    exact ⟨by omega, fun _ => by omega⟩

theorem WNum_any (b : Nat) (all : ByteArray) (e n k : Int) (w : World) (h : WrIs w b all e) (hsz : all.size ≤ 100000000000000) :
    Calls Tryz.prog 147 #[.pointer (some ⟨b, 0, none⟩), .int .i64 n, .int .i64 k] w fun r w' => r = .returned (.tuple #[]) ∧ WrIs w' b (wrLay all e (putV ⟨#[]⟩ n k).1 (putV ⟨#[]⟩ n k).2).1 (wrLay all e (putV ⟨#[]⟩ n k).1 (putV ⟨#[]⟩ n k).2).2 ∧ Off b w w' := by
  have hz := putV_size n k
  have c1 := fun w => Put_any ⟨#[]⟩ n k w (by decide)
  obtain ⟨sv, ev, hp⟩ : ∃ sv ev, putV ⟨#[]⟩ n k = (sv, ev) := ⟨_, _, rfl⟩
  rw [hp] at c1 hz ⊢
  dsimp only at c1 hz ⊢
  have C1 : Hid _ := c1
  have C2 : Hid _ := fun w h => lay_any b all sv e ev w h (by omega) hz.2
  clear c1 hp hz
  go_enter Tryz.func147, Tryz.ntmps147
  go_wp2_with (first | (go_at_call 98; refine (C1.out _).mono ?_; rintro e w1 ⟨rfl, hb1⟩) | (go_at_call 164; refine (C2.out _ (h.below hb1)).mono ?_; rintro e w2 ⟨rfl, h2, o2⟩))
  go_end0
  exact ⟨rfl, h2, (Off.of_below hb1).trans o2⟩
theorem WText_any (b : Nat) (all : ByteArray) (e : Int) (t : ByteArray) (w : World) (h : WrIs w b all e) (hsz : all.size ≤ 100000000000000) (ht : t.size ≤ 140737488351232) :
    Calls Tryz.prog 165 #[.pointer (some ⟨b, 0, none⟩), .string t] w fun r w' => r = .returned (.tuple #[]) ∧ WrIs w' b (wrLay all e (textV ⟨#[]⟩ t).1 (textV ⟨#[]⟩ t).2).1 (wrLay all e (textV ⟨#[]⟩ t).1 (textV ⟨#[]⟩ t).2).2 ∧ Off b w w' := by
  have hz := textV_size t
  have c1 := fun w => Text_any ⟨#[]⟩ t w (by decide) (by omega)
  obtain ⟨sv, ev, hp⟩ : ∃ sv ev, textV ⟨#[]⟩ t = (sv, ev) := ⟨_, _, rfl⟩
  rw [hp] at c1 hz ⊢
  dsimp only at c1 hz ⊢
  have C1 : Hid _ := c1
  have C2 : Hid _ := fun w h => lay_any b all sv e ev w h (by omega) hz.2
  clear c1 hp hz
  go_enter Tryz.func165, Tryz.ntmps165
  go_wp2_with (first | (go_at_call 169; refine (C1.out _).mono ?_; rintro e w1 ⟨rfl, hb1⟩) | (go_at_call 164; refine (C2.out _ (h.below hb1)).mono ?_; rintro e w2 ⟨rfl, h2, o2⟩))
  go_end0
  exact ⟨rfl, h2, (Off.of_below hb1).trans o2⟩
end Go.Proofs.YtgodjnbbocnckaaGreat.Pk

namespace Go.Proofs.YtgodjnbbocnckaaGreat.Pk
open Go.RowKit
set_option linter.unusedVariables false
set_option linter.unusedSimpArgs false
set_option maxRecDepth 100000

theorem step_copy_row {P : Program} {ops : Array Oper} {o : Oper} {a : Act} {w : World} {K : Act → World → Prop} {Q : Exit → Act → World → Prop} {E : Prop}
    (hg : o.guard = none) (d x : Operand) (dT sT : TypeId) (hop : o.op = Op.call { callee := Callee.builtin Builtin.copy, args := #[d, x], argTypes := #[dT, sT] })
    (elem : TypeId) (hu : P.underlying dT = some (.slice elem)) (hs : (P.info? elem).map (·.size) = some 1)
    (g off dLen dCap : Nat) (hd : a.eval d = .slice (some ⟨g, off, none⟩) dLen dCap) (t : ByteArray) (hx : a.eval x = .string t) (cur : Array Value) (ty : TypeId)
    (hgk : w.heap[g]? = some (.cells cur ty (0, 0))) (hle : t.size ≤ dLen) (hfit : off + t.size ≤ cur.size)
    (R : Array Value) (hR : R = (cur.toList.take off ++ Lib.byteCells t.data.toList ++ cur.toList.drop (off + t.size)).toArray)
    (hK : K (a.put o.dst (goInt t.size)) (w.setRow g R)) :
    if Region.wanted o (yielded ops a.tmps) = true then Oper.wp P o a w K Q else E := by
  subst hR
  have hw : Region.wanted o (yielded ops a.tmps) = true := by simp [Region.wanted, hg]
  rw [if_pos hw]
  have hrun := Lib.run_copy_row_string (P := P) w dT sT o.type elem g off dLen dCap t cur ty hu hs hgk hle hfit
  unfold Oper.wp
  simp [execOp, hop, resolve, invoke, builtin, hd, hx, hrun, Result.andThen]
  rw [List.append_assoc] at hK
  exact hK

set_option maxHeartbeats 1000000 in
theorem All_any (b : Nat) (all : ByteArray) (w : World) (h : WrIs w b all 0) (hsz : all.size ≤ 140737488351232) :
    Calls Tryz.prog 152 #[.pointer (some ⟨b, 0, none⟩)] w fun r w' => r = .returned (.tuple #[.string all, .int .i64 0]) ∧ Below w.heap.size w w' := by
  obtain ⟨p, l, h1, h2, h3⟩ := h
  have H3 : Hid _ := h3
  clear h3
  have hc0 := h1.c0
  have hc1 := h1.c1
  have hc2 := h1.c2
  have hlt := h1.lt
  have hmk : ∀ w, (Instr.makeSlice 94 (.int .i64 (all.size : Int)) (.int .i64 (all.size : Int))).run Tryz.prog w = .ok (.slice (some ⟨w.heap.size, 0, none⟩) all.size all.size) (w.alloc (.cells (madeCells #[.int .u8 0] all.size) 5)) :=
    fun w => run_make_row' 94 5 (.int .u8 0) 1 Tryz.underlying94 (by kernel_rfl) rfl .i64 .i64 all.size (by omega) (by omega) w
  go_enter Tryz.func152, Tryz.ntmps152
  go_wp2
  go_loopw [5, 6] (fun en pp wr => ∃ (r : List ByteArray) (q : Option Addr) (C : Array Value) (suf : ByteArray), pp = .pointer q ∧ Chain b w q r ∧ en = .int .i64 (joinR r).size ∧ wr.heap[w.heap.size]? = some (.cells C 5) ∧ C.size = all.size ∧ Hid (joinR r ++ suf = all) ∧ C.toList.drop (joinR r).size = Lib.byteCells suf.data.toList ∧ Below w.heap.size w wr) (fun en _ _ => (intOf en).toNat)
  case atStart =>
    refine ⟨l, p, _, ⟨#[]⟩, rfl, h2, by rw [H3.out], (MapKept.heap_alloc w _).1, size_madeCells _ _, ?_, ?_, (Below.refl _ _).alloc (Nat.le_refl _) _⟩
    · show joinR l ++ ⟨#[]⟩ = all
      rw [H3.out]; apply ByteArray.ext; simp [ByteArray.data_append]
    · rw [H3.out, List.drop_of_length_le (by simp [size_madeCells])]; rfl
  case round =>
    obtain ⟨r, q, C, suf, rfl, hch, rfl, hC, hCz, hall, hdrop, hbel⟩ := hrel
    cases r with
    | nil =>
      have hq : q = none := hch
      subst hq
      have hn0 : (joinR []).size = 0 := rfl
      have hcv : (convert 94 9 (.slice (some ⟨w.heap.size, 0, none⟩) all.size all.size)).run Tryz.prog wr = .ok (.string all) wr := by
        refine Lib.run_convert_whole (P := Tryz.prog) wr 94 5 9 Tryz.underlying94 Tryz.underlying5 Tryz.underlying9 w.heap.size 0 all (fun i hi => ?_) all.size
        have hsuf : suf = all := by rw [← hall.out]; apply ByteArray.ext; simp [joinR, ByteArray.data_append]
        rw [hsuf, hn0, List.drop_zero] at hdrop
        have hCi : C = (Lib.byteCells all.data.toList).toArray := by rw [← hdrop]
        rw [Joins.cell_of_block hC, hCi]
        have hi' : i < all.data.size := hi
        simp [Lib.byteCells]
        exact ⟨_, Array.getElem?_eq_getElem hi', rfl⟩
      go_wp2
      go_ret2
      exact ⟨rfl, hbel⟩
    | cons t r =>
      obtain ⟨c, p', rfl, hcb, hcl, hch0, ht, hch'⟩ := hch
      have hJ : (joinR (t :: r)).size = (joinR r).size + t.size := by rw [joinR, ByteArray.size_append]
      have hN : (joinR r).size + t.size ≤ all.size := by
        have := congrArg ByteArray.size hall.out
        rw [ByteArray.size_append, hJ] at this
        omega
      have hcw := (hbel.block c hcl).trans hch0
      have hk0 : wr.cell? ⟨c, 0, none⟩ = some (.pointer p') := by simp [World.cell?, hcw]
      have hk1 : wr.cell? ⟨c, 1, none⟩ = some (.string t) := by simp [World.cell?, hcw]
      rw [hJ]
      generalize hn : (joinR r).size = n at *
      have hn1 : (n : Int) < (all.size : Int) := by omega
      have HJ : Hid _ := hJ
      have HN : Hid _ := hn
      clear hJ hn
      rw [Int.natCast_add]
      have ht1 : (t.size : Int) ≤ (all.size : Int) := by omega
      have hi5 : (Tryz.prog.info? 5).map (·.size) = some 1 := by kernel_rfl
      have hle : t.size ≤ all.size - n := by omega
      have hfit : n + t.size ≤ C.size := by omega
      obtain ⟨R, hR⟩ : ∃ R, R = (C.toList.take n ++ Lib.byteCells t.data.toList ++ C.toList.drop (n + t.size)).toArray := ⟨_, rfl⟩
      have HR : Hid _ := hR
      clear hR
      go_wp2
      go_region_held_law (fun w' => w'.cell? ⟨c, 1, none⟩ = some (.string t)) (first | exact (cell_setRow_other _ _ _ _ (Nat.ne_of_lt hcl)).trans hk1 | go_keep) (first | (refine step_copy_row rfl (.tmp 46) (.tmp 50) 94 9 rfl 5 Tryz.underlying94 hi5 w.heap.size n (all.size - n) (all.size - n) ?_ t ?_ C 5 ?_ hle hfit R HR.out ?_; simp [Act.eval, Act.put]; simp [Act.eval, Act.put]; exact hC))
      have hk0' : (wr.drew.setRow w.heap.size R).cell? ⟨c, 0, none⟩ = some (.pointer p') := (cell_setRow_other _ _ _ _ (Nat.ne_of_lt hcl)).trans hk0
      go_wp2
      go_roundw
      case rel =>
        refine ⟨r, p', R, t ++ suf, rfl, hch', by rw [HN.out], setRow_heap _ _ C R 5 _ hC, ?_, ?_, ?_, (hbel.drew.trans ⟨rfl, rfl, rfl, by simp, fun k hk => setRow_other _ _ _ _ (Nat.ne_of_lt hk)⟩)⟩
        · rw [HR.out]; simp [Lib.byteCells]; omega
        · show joinR r ++ (t ++ suf) = all
          rw [← ByteArray.append_assoc]; exact hall.out
        · rw [HN.out, HR.out]
          rw [HJ.out] at hdrop
          rw [List.append_assoc, List.drop_left' (by simp; omega), hdrop]
          simp [Lib.byteCells, ByteArray.data_append]
      case measure => simp [intOf]; omega

theorem All_err (b : Nat) (all : ByteArray) (e : Int) (w : World) (h : WrIs w b all e) (he : e ≠ 0) :
    Calls Tryz.prog 152 #[.pointer (some ⟨b, 0, none⟩)] w fun r w' => r = .returned (.tuple #[.string ⟨#[]⟩, .int .i64 e]) ∧ Below w.heap.size w w' := by
  obtain ⟨p, l, h1, h2, h3⟩ := h
  clear h2 h3
  have hc2 := h1.c2
  have he' : (e != 0) = true := by simpa using he
  go_enter Tryz.func152, Tryz.ntmps152
  go_wp2
  go_quiet (fail)
  go_wp2
  go_ret2
  exact ⟨rfl, below_drewN (Below.refl _ _) _⟩
end Go.Proofs.YtgodjnbbocnckaaGreat.Pk

namespace Go.Proofs.YtgodjnbbocnckaaGreat.Pk
open Go.RowKit
set_option linter.unusedVariables false
set_option maxRecDepth 100000
set_option linter.unusedSimpArgs false

theorem append_nil (s : ByteArray) : s ++ (⟨#[]⟩ : ByteArray) = s := by apply ByteArray.ext; simp [ByteArray.data_append]

theorem beN_be (k : Nat) (n : Nat) (h : n < 256 ^ k) : beN (be n k) = n := by
  have key : ∀ (k a : Nat), (be n k).foldl (fun a b => 256 * a + b.toNat) a = a * 256 ^ k + n % 256 ^ k := by
    intro k
    induction k with
    | zero => intro a; simp [be, Nat.mod_one]
    | succ k ih =>
      intro a
      rw [be, List.foldl_cons, ih]
      have hb : (UInt8.ofNat (n / 256 ^ k % 256)).toNat = n / 256 ^ k % 256 := by simp
      rw [hb, Nat.pow_succ, Nat.mod_mul]
      rw [Nat.add_mul, Nat.mul_comm 256 a, Nat.mul_assoc, Nat.mul_comm 256 (256 ^ k), Nat.mul_comm (n / 256 ^ k % 256) (256 ^ k)]
      omega
  unfold beN
  rw [key k 0, Nat.mod_eq_of_lt h]
  omega

theorem limI_nat (k : Nat) : limI k = ((256 ^ k : Nat) : Int) := by simp [limI]

theorem extract_left (a b : ByteArray) : (a ++ b).extract 0 a.size = a := by
  apply ByteArray.ext
  simp [ByteArray.data_extract, ByteArray.data_append]

theorem extract_right (a b : ByteArray) : (a ++ b).extract a.size (a ++ b).size = b := by
  apply ByteArray.ext
  simp [ByteArray.data_extract, ByteArray.data_append]
  have e1 : a.data.extract a.size (a.size + b.size) = #[] := by
    apply Array.eq_empty_of_size_eq_zero
    rw [Array.size_extract, show a.size = a.data.size from rfl]
    omega
  have e2 : b.data.extract 0 b.size = b.data := by
    rw [show b.size = b.data.size from rfl]
    simp
  rw [e1, e2]
  simp

theorem rdRaw_app (a b : ByteArray) : rdRaw (a ++ b) 0 a.size = (a, b, 0) := by
  rw [rdRaw_fits (by omega) (by rw [ByteArray.size_append]; omega), Int.toNat_natCast, extract_left, extract_right]

theorem rdNum_app (n k : Nat) (b : ByteArray) (h1 : 1 ≤ k) (h6 : k ≤ 6) (hn : n < 256 ^ k) : rdNum (beS n k ++ b) 0 k = (n, b, 0) := by
  unfold rdNum rdNumSt
  rw [if_neg (by omega)]
  have h := rdRaw_app (beS n k) b
  rw [beS_size] at h
  rw [h]
  show (beN (be n k), _) = _
  rw [beN_be k n hn]

theorem rdText_app (t b : ByteArray) (h : t.size ≤ 65535) : rdText (beS t.size 2 ++ t ++ b) 0 65535 = (t, b, 0) := by
  have h2 := rdNum_app t.size 2 (t ++ b) (by omega) (by omega) (by have : 256 ^ 2 = 65536 := by decide
                                                                   omega)
  rw [← ByteArray.append_assoc] at h2
  unfold rdText rdTextSt
  rw [show ((2 : Nat) : Int) = 2 from rfl] at h2
  rw [h2]
  dsimp only
  rw [if_neg (by omega)]
  exact rdRaw_app t b
end Go.Proofs.YtgodjnbbocnckaaGreat.Pk

namespace Go.Proofs.YtgodjnbbocnckaaGreat
open Go.RowKit Go.Maps Go.ChangeMaps
set_option linter.unusedVariables false
set_option linter.unusedSimpArgs false
set_option maxRecDepth 100000

variable {w w' : World} {db lb mb m sb : Nat} {S : Dk} {base pages gen : Nat}

/-- A store lies whole in block sb. -/
structure StIs (w : World) (sb db base pages gen : Nat) : Prop where
  blk : w.heap[sb]? = some (.cells #[.pointer (some ⟨db, 0, none⟩), .int .i64 (base : Int), .int .i64 (pages : Int), .int .i64 (gen : Int)] 114)
theorem StIs.c0 (h : StIs w sb db base pages gen) : w.cell? ⟨sb, 0, none⟩ = some (.pointer (some ⟨db, 0, none⟩)) := Joins.cell_of_block h.blk 0
theorem StIs.c1 (h : StIs w sb db base pages gen) : w.cell? ⟨sb, 1, none⟩ = some (.int .i64 (base : Int)) := Joins.cell_of_block h.blk 1
theorem StIs.c2 (h : StIs w sb db base pages gen) : w.cell? ⟨sb, 2, none⟩ = some (.int .i64 (pages : Int)) := Joins.cell_of_block h.blk 2
theorem StIs.c3 (h : StIs w sb db base pages gen) : w.cell? ⟨sb, 3, none⟩ = some (.int .i64 (gen : Int)) := Joins.cell_of_block h.blk 3
theorem StIs.lt (h : StIs w sb db base pages gen) : sb < w.heap.size := by
  rcases Nat.lt_or_ge sb w.heap.size with h' | h'
  · exact h'
  · have := h.blk; simp [Array.getElem?_eq_none h'] at this
theorem StIs.below (h : StIs w sb db base pages gen) (hb : Below w.heap.size w w') : StIs w' sb db base pages gen := ⟨(hb.block _ h.lt).trans h.blk⟩
theorem StIs.off {B : Nat → Prop} (h : StIs w sb db base pages gen) (ho : Off B w w') (hn : ¬ B sb) : StIs w' sb db base pages gen := ⟨(ho.block _ h.lt hn).trans h.blk⟩
theorem StIs.drew (h : StIs w sb db base pages gen) : StIs w.drew sb db base pages gen := ⟨h.blk⟩

theorem Pages_nil (w : World) : Calls Tryz.prog 61 #[.pointer none] w fun e w' => e = .returned (.int .i64 0) ∧ w' = w := by
  go_enter Tryz.func61, Tryz.ntmps61
  go_wp2
  go_ret
  exact ⟨rfl, rfl⟩
theorem StPages_any (w : World) (h : StIs w sb db base pages gen) : Calls Tryz.prog 61 #[.pointer (some ⟨sb, 0, none⟩)] w fun e w' => e = .returned (.int .i64 (pages : Int)) ∧ w' = w := by
  have hc := h.c2
  clear h
  go_enter Tryz.func61, Tryz.ntmps61
  go_wp2
  go_ret
  exact ⟨rfl, rfl⟩
theorem strefusal_nil (i : Int) (w : World) : Calls Tryz.prog 52 #[.pointer none, .int .i64 i] w fun e w' => e = .returned (.int .i64 11) ∧ w' = w := by
  go_enter Tryz.func52, Tryz.ntmps52
  go_wp2
  go_ret
  exact ⟨rfl, rfl⟩
/-- How a store refuses a page. -/
def stRef (pages : Nat) (i : Int) : Int := if i < 0 ∨ (pages : Int) ≤ i then 6 else 0
theorem strefusal_any (w : World) (h : StIs w sb db base pages gen) (i : Int) : Calls Tryz.prog 52 #[.pointer (some ⟨sb, 0, none⟩), .int .i64 i] w fun e w' => e = .returned (.int .i64 (stRef pages i)) ∧ w' = w := by
  have hc := h.c2
  clear h
  by_cases h1 : i < 0
  · go_enter Tryz.func52, Tryz.ntmps52
    go_wp2
    go_ret
    exact ⟨by simp [stRef, h1], rfl⟩
  · by_cases h2 : (pages : Int) ≤ i
    · go_enter Tryz.func52, Tryz.ntmps52
      go_wp2
      go_ret
      exact ⟨by simp [stRef, h2], rfl⟩
    · go_enter Tryz.func52, Tryz.ntmps52
      go_wp2
      go_ret
      exact ⟨by simp [stRef, h1, h2], rfl⟩
theorem stsector_any (w : World) (h : StIs w sb db base pages gen) (i j : Nat) (hb : base + 4 * i + j ≤ 100000) : Calls Tryz.prog 75 #[.pointer (some ⟨sb, 0, none⟩), .int .i64 (i : Int), .int .i64 (j : Int)] w fun e w' => e = .returned (.int .i64 ((base + 4 * i + j : Nat) : Int)) ∧ w' = w := by
  have hc := h.c1
  clear h
  have e1 : ((base + 4 * i + j : Nat) : Int) = (base : Int) + (i : Int) * 4 + (j : Int) := by omega
  rw [e1]
  have b1 : (base : Int) ≤ 100000 := by omega
  have b2 : (i : Int) * 4 ≤ 100000 := by omega
  have b3 : (j : Int) ≤ 100000 := by omega
  have b4 : (base : Int) + (i : Int) * 4 ≤ 100000 := by omega
  have b5 : (base : Int) + (i : Int) * 4 + (j : Int) ≤ 100000 := by omega
  go_enter Tryz.func75, Tryz.ntmps75
  go_wp2
  go_ret
  exact ⟨rfl, rfl⟩

/-! ### A mark's bytes -/
def hd (g l : Nat) : ByteArray := Pk.beS g 2 ++ Pk.beS l 6
theorem hd_size (g l : Nat) : (hd g l).size = 8 := by rw [hd, ByteArray.size_append, Pk.beS_size, Pk.beS_size]
def laidV (g : Nat) (l : Int) : ByteArray × Int := if l < 0 ∨ 281474976710656 ≤ l then (⟨#[]⟩, 6) else (hd g l.toNat, 0)
theorem wr_new (w : World) : Pk.WrIs (w.alloc (.cells #[.pointer none, .int .i64 0, .int .i64 0] 202)) w.heap.size ⟨#[]⟩ 0 :=
  ⟨none, [], (MapKept.heap_alloc w _).1, rfl, rfl⟩
theorem lay_gen {g : Nat} (hg : g ≤ 65535) : Pk.wrLay ⟨#[]⟩ 0 (Pk.putV ⟨#[]⟩ (g : Int) 2).1 (Pk.putV ⟨#[]⟩ (g : Int) 2).2 = (Pk.beS g 2, 0) := by
  have e : Pk.putV ⟨#[]⟩ (g : Int) 2 = (⟨#[]⟩ ++ Pk.beS g 2, 0) := by
    rw [Pk.putV_fits (by omega) (by rw [Pk.limI_2]; omega)]; rfl
  rw [e]
  simp only [Pk.wrLay]
  rw [if_neg (by simp), if_neg (by simp)]
  refine Prod.ext ?_ rfl
  apply ByteArray.ext; simp [ByteArray.data_append]
theorem lay_lsn (g : Nat) (l : Int) : Pk.wrLay (Pk.beS g 2) 0 (Pk.putV ⟨#[]⟩ l 6).1 (Pk.putV ⟨#[]⟩ l 6).2 = laidV g l := by
  by_cases h : l < 0 ∨ 281474976710656 ≤ l
  · rw [Pk.putV_range (by omega) (by rw [Pk.limI_6]; exact h)]
    simp [Pk.wrLay, laidV, h]
  · rw [Pk.putV_fits (by omega) (by rw [Pk.limI_6]; exact h)]
    simp only [Pk.wrLay, laidV]
    rw [if_neg (by simp), if_neg (by simp), if_neg h]
    refine Prod.ext ?_ rfl
    apply ByteArray.ext; simp [ByteArray.data_append, hd]
theorem laidV_size (g : Nat) (l : Int) : (laidV g l).1.size ≤ 8 := by
  unfold laidV; split
  · exact Nat.zero_le _
  · rw [hd_size]; exact Nat.le_refl _
theorem stAll_both (b : Nat) (all : ByteArray) (e : Int) (w : World) (h : Pk.WrIs w b all e) (hsz : all.size ≤ 140737488351232) (he : e ≠ 0 → all = ⟨#[]⟩) :
    Calls Tryz.prog 152 #[.pointer (some ⟨b, 0, none⟩)] w fun r w' => r = .returned (.tuple #[.string all, .int .i64 e]) ∧ Below w.heap.size w w' := by
  by_cases h0 : e = 0
  · subst h0; exact Pk.All_any b all w h hsz
  · rw [he h0]; exact Pk.All_err b all e w h h0
def ststepW (A : ByteArray × Int) (n k : Int) : ByteArray × Int := Pk.wrLay A.1 A.2 (Pk.putV ⟨#[]⟩ n k).1 (Pk.putV ⟨#[]⟩ n k).2
structure WS (w : World) (a b : Nat) (g l : Int) (A : ByteArray × Int) (j : Nat) : Prop where
  wr : Pk.WrIs w b A.1 A.2
  sz : A.1.size ≤ j
  lt : a < w.heap.size
  mrk : w.heap[a]? = some (.cells #[.int .i64 g, .int .i64 l] 110)
theorem WS.k1 {w : World} {a b : Nat} {g l : Int} {A : ByteArray × Int} {j : Nat} (h : WS w a b g l A j) : w.cell? ⟨a, 1, none⟩ = some (.int .i64 l) := Joins.cell_of_block h.mrk 1
theorem ststepW_size (A : ByteArray × Int) (n k : Int) : (ststepW A n k).1.size ≤ A.1.size + 6 := by
  have := (Pk.putV_size n k).1
  unfold ststepW Pk.wrLay
  split
  · exact Nat.le_add_right _ _
  · split
    · exact Nat.zero_le _
    · simp only [ByteArray.size_append]; omega
theorem ststepW_laid {g : Nat} (hg : g ≤ 65535) (l : Int) : ststepW (ststepW (⟨#[]⟩, 0) (g : Int) 2) l 6 = laidV g l := by
  unfold ststepW
  dsimp only
  rw [lay_gen hg]
  exact lay_lsn g l
end Go.Proofs.YtgodjnbbocnckaaGreat

namespace Go.Proofs.YtgodjnbbocnckaaGreat
open Go.RowKit Go.Maps Go.ChangeMaps
set_option linter.unusedVariables false
set_option linter.unusedSimpArgs false
set_option maxRecDepth 100000

set_option maxHeartbeats 1000000 in
theorem stlaid_any (w : World) (g : Nat) (l : Int) (hg : g ≤ 65535) : Calls Tryz.prog 122 #[.agg #[.int .i64 (g : Int), .int .i64 l]] w fun e w' => e = .returned (.tuple #[.string (laidV g l).1, .int .i64 (laidV g l).2]) ∧ Below w.heap.size w w' := by
  have h1 : WS ((w.alloc (.cells #[.int .i64 (g : Int), .int .i64 l] 110)).alloc (.cells #[.pointer none, .int .i64 0, .int .i64 0] 202)) w.heap.size (w.heap.size + 1) (g : Int) l (⟨#[]⟩, 0) 0 := by
    have h := wr_new (w.alloc (.cells #[.int .i64 (g : Int), .int .i64 l] 110))
    rw [show (w.alloc (.cells #[.int .i64 (g : Int), .int .i64 l] 110)).heap.size = w.heap.size + 1 by simp] at h
    exact ⟨h, Nat.le_refl _, by simp; omega, (Below.heap_alloc _ _ _ (by simp)).trans (MapKept.heap_alloc w _).1⟩
  obtain ⟨f, hf⟩ : ∃ f, f = ststepW := ⟨_, rfl⟩
  have C1 : Hid (∀ w' n k (A : ByteArray × Int) (j : Nat), WS w' w.heap.size (w.heap.size + 1) (g : Int) l A j → j ≤ 100 →
      Calls Tryz.prog 147 #[.pointer (some ⟨w.heap.size + 1, 0, none⟩), .int .i64 n, .int .i64 k] w' fun r w'' => r = .returned (.tuple #[]) ∧ WS w'' w.heap.size (w.heap.size + 1) (g : Int) l (f A n k) (j + 6) ∧ Pk.Off (w.heap.size + 1) w' w'') := fun w' n k A j h hz => by
    refine (Pk.WNum_any (w.heap.size + 1) A.1 A.2 n k w' h.wr (by have := h.sz; omega)).mono ?_
    rintro e w'' ⟨he, hw, ho⟩
    rw [hf]
    exact ⟨he, ⟨hw, by have := ststepW_size A n k; have := h.sz; omega, Nat.lt_of_lt_of_le h.lt ho.size, (ho.block _ h.lt (by omega)).trans h.mrk⟩, ho⟩
  have hL := ststepW_laid hg l
  rw [← hf] at hL
  rw [← hL]
  have hBe : Hid ((f (f (⟨#[]⟩, 0) (g : Int) 2) l 6).2 ≠ 0 → (f (f (⟨#[]⟩, 0) (g : Int) 2) l 6).1 = ⟨#[]⟩) := by
    intro hy
    rw [hL] at hy ⊢
    unfold laidV at hy ⊢
    split at hy
    · rw [if_pos (by assumption)]
    · exact absurd rfl hy
  clear hL hf
  have BB : Hid (Below w.heap.size w ((w.alloc (.cells #[.int .i64 (g : Int), .int .i64 l] 110)).alloc (.cells #[.pointer none, .int .i64 0, .int .i64 0] 202))) := ((Below.refl _ _).alloc (Nat.le_refl _) _).alloc (by simp) _
  go_enter Tryz.func122, Tryz.ntmps122
  go_wp2_with (first
    | (go_at_call 147; refine (C1.out _ _ _ _ _ h1 (by omega)).mono ?_; clear h1; rintro e w1 ⟨rfl, h1, o1⟩; have k1 := h1.k1; have B2 : Hid (Below w.heap.size w w1) := BB.out.trans (o1.below (by omega) BB.out.size); clear BB; have BB : Hid (Below w.heap.size w w1) := B2.out; clear B2 o1)
    | (go_at_call 152; refine (stAll_both _ _ _ _ h1.wr (by have := h1.sz; omega) hBe.out).mono ?_; rintro e w3 ⟨rfl, b3⟩))
  go_ret2
  have o : Below w.heap.size w w1 := BB.out
  exact ⟨rfl, o.trans (b3.mono o.size)⟩
end Go.Proofs.YtgodjnbbocnckaaGreat

namespace Go.Proofs.YtgodjnbbocnckaaGreat
open Go.RowKit Go.Maps Go.ChangeMaps
set_option linter.unusedVariables false
set_option linter.unusedSimpArgs false
set_option maxRecDepth 100000

section
variable {w w' : World} {db lb mb m : Nat} {S : Dk}
/-- A disk whose counts are small. -/
structure Dq (k : Nat) (S : Dk) : Prop where
  ok : S.Ok
  acts : S.acts ≤ (k : Int)
  downs : S.downs ≤ (k : Int)
theorem Dq.mono {k k' : Nat} (h : Dq k S) (hk : k ≤ k') : Dq k' S := ⟨h.ok, by have := h.acts; omega, by have := h.downs; omega⟩
theorem actDk_counts (S : Dk) : (actDk S).acts ≤ S.acts + 1 ∧ (actDk S).downs ≤ S.downs + 1 := by
  unfold actDk offDk; split
  · exact ⟨by dsimp only; omega, Int.le_refl _⟩
  · split
    · exact ⟨Int.le_refl _, by dsimp only; omega⟩
    · exact ⟨Int.le_refl _, by dsimp only; omega⟩
theorem writeDk_counts (S : Dk) (i : Int) (s : ByteArray) : (writeDk S i s).acts ≤ S.acts + 1 ∧ (writeDk S i s).downs ≤ S.downs + 1 := by
  have := actDk_counts S
  unfold writeDk
  split
  · exact ⟨by omega, by omega⟩
  · split
    · exact ⟨by omega, by omega⟩
    · split
      · exact this
      · exact this
theorem Dq.write {k : Nat} (h : Dq k S) (hk : k ≤ 100000) (i : Int) (s : ByteArray) : Dq (k + 1) (writeDk S i s) := by
  have h1 := writeDk_counts S i s
  have := h.acts
  have := h.downs
  exact ⟨writeDk_ok h.ok (by omega) (by omega) i s, by omega, by omega⟩
theorem syncDk_counts (S : Dk) : (syncDk S).acts ≤ S.acts + 1 ∧ (syncDk S).downs ≤ S.downs + 1 := by
  have := actDk_counts S
  unfold syncDk
  split
  · split
    · exact this
    · exact this
  · exact ⟨by omega, by omega⟩
theorem Dq.sync {k : Nat} (h : Dq k S) (hk : k ≤ 100000) : Dq (k + 1) (syncDk S) := by
  have h1 := syncDk_counts S
  have := h.acts
  have := h.downs
  exact ⟨syncDk_ok h.ok (by omega) (by omega), by omega, by omega⟩
theorem Dq.off {k : Nat} (h : Dq k S) (hk : k ≤ 100000) (x : Int) : Dq (k + 1) (offDk S x) := by
  have := h.acts
  have := h.downs
  exact ⟨offDk_ok h.ok _ (by omega), by simp only [offDk]; omega, by simp only [offDk]; omega⟩
theorem Dq.up {k : Nat} (h : Dq k S) (b : Bool) : Dq k { S with up := b } := ⟨up_ok h.ok b, h.acts, h.downs⟩
theorem Dq.new {n : Nat} (h1 : 1 ≤ n) (h2 : n ≤ 8192) : Dq 0 (newDk n) := ⟨newDk_ok h1 h2, Int.le_refl _, Int.le_refl _⟩
theorem offDk_n (S : Dk) (x : Int) : (offDk S x).n = S.n := rfl
theorem writeDk_n (S : Dk) (i : Int) (s : ByteArray) : (writeDk S i s).n = S.n := by
  unfold writeDk
  split
  · rfl
  · split
    · rfl
    · split
      · exact actDk_n S
      · exact actDk_n S
theorem syncDk_n (S : Dk) : (syncDk S).n = S.n := by
  unfold syncDk
  split
  · split
    · exact actDk_n S
    · exact actDk_n S
  · rfl

end
section
variable {S : Dk} {R R' : Nat → ByteArray → Prop}
def crE (S : Dk) : Int := if S.up then 0 else 9
def crDk (S : Dk) (x : Int) : Dk := if S.up then offDk S x else S
def calmDk (S : Dk) : Dk := { S with set := false, left := 0, keep := 0 }
/-- Each sector has, lasting and waiting, what R lets it have. -/
structure AllR (R : Nat → ByteArray → Prop) (S : Dk) : Prop where
  sure : ∀ i, R i (S.sure i)
  wait : ∀ i c, S.wait i = some c → R i c
theorem AllR.now (h : AllR R S) (i : Nat) : R i (S.now i) := by
  unfold Dk.now
  cases hw : S.wait i with
  | none => exact h.sure i
  | some c => exact h.wait i c hw
theorem AllR.mono (h : AllR R S) (hR : ∀ i c, R i c → R' i c) : AllR R' S := ⟨fun i => hR _ _ (h.sure i), fun i c hc => hR _ _ (h.wait i c hc)⟩
theorem AllR.off (h : AllR R S) (x : Int) : AllR R (offDk S x) := by
  refine ⟨fun i => ?_, fun i c hc => by cases hc⟩
  show R i (lossF S.sure S.wait x i)
  unfold lossF
  cases hw : S.wait i with
  | none => exact h.sure i
  | some c =>
    dsimp only
    split
    · exact h.wait i c hw
    · exact h.sure i
theorem AllR.act (h : AllR R S) : AllR R (actDk S) := by
  unfold actDk
  split
  · exact h.off _
  · split
    · exact ⟨h.sure, h.wait⟩
    · exact ⟨h.sure, h.wait⟩
theorem AllR.write (h : AllR R S) (i : Nat) (s : ByteArray) (hR : R i (pad s)) : AllR R (writeDk S (i : Int) s) := by
  unfold writeDk
  split
  · exact h
  · split
    · exact h
    · split
      · exact h.act
      · rename_i h1 h2 h3
        refine ⟨h.act.sure, fun j c hc => ?_⟩
        have hc' : upd S.wait (i : Int).toNat (some (pad s)) j = some c := hc
        rw [Int.toNat_natCast] at hc'
        by_cases e : j = i
        · subst e
          rw [upd_same] at hc'
          cases hc'
          exact hR
        · rw [upd_other _ _ e] at hc'
          exact h.wait j c hc'
theorem AllR.sync (h : AllR R S) : AllR R (syncDk S) := by
  unfold syncDk
  split
  · split
    · exact ⟨fun i => h.now i, fun i c hc => by cases hc⟩
    · exact h.act
  · exact h
theorem AllR.crash (h : AllR R S) (x : Int) : AllR R (crDk S x) := by
  unfold crDk
  split
  · exact h.off x
  · exact h
theorem crDk_up (S : Dk) (x : Int) : (crDk S x).up = false := by
  unfold crDk
  cases hu : S.up
  · simp [hu]
  · simp [offDk]

end
end Go.Proofs.YtgodjnbbocnckaaGreat

namespace Go.Proofs.YtgodjnbbocnckaaGreat
open Go.RowKit Go.Maps Go.ChangeMaps
set_option linter.unusedVariables false
set_option linter.unusedSimpArgs false
set_option maxRecDepth 100000

variable {w w' : World} {db lb mb m sb : Nat} {S : Dk} {base pages gen : Nat}

/-- A sector of a page. -/
def sec (g l : Nat) (t : ByteArray) (i : Nat) : ByteArray := hd g l ++ t.extract (i * 56) ((i + 1) * 56)
theorem sec_size {g l : Nat} {t : ByteArray} (ht : t.size = 224) {i : Nat} (hi : i < 4) : (sec g l t i).size = 64 := by
  rw [sec, ByteArray.size_append, hd_size, ByteArray.size_extract, ht]; omega
theorem pad_self {s : ByteArray} (h : s.size = 64) : pad s = s := by
  unfold pad; rw [h]; apply ByteArray.ext; simp
/-- Four writes, up to the first error. -/
def wrK (b : Nat) (t : Nat → ByteArray) (S : Dk) : Nat → Dk × Int
  | 0 => (S, 0)
  | k + 1 => if (wrK b t S k).2 = 0 then (writeDk (wrK b t S k).1 ((b + k : Nat) : Int) (t k), writeE (wrK b t S k).1 ((b + k : Nat) : Int) (t k)) else wrK b t S k
theorem wrK_err {b : Nat} {t : Nat → ByteArray} {S : Dk} {k : Nat} (h : (wrK b t S k).2 ≠ 0) : ∀ n, wrK b t S (k + n) = wrK b t S k
  | 0 => rfl
  | n + 1 => by
    have := wrK_err h n
    show (if (wrK b t S (k + n)).2 = 0 then _ else wrK b t S (k + n)) = _
    rw [this, if_neg h]
theorem wrK_dq {b : Nat} {t : Nat → ByteArray} {S : Dk} {q : Nat} (h : Dq q S) (hq : q ≤ 90000) : ∀ k, k ≤ 4 → Dq (q + k) (wrK b t S k).1
  | 0, _ => h
  | k + 1, hk => by
    have := wrK_dq h hq (b := b) (t := t) k (by omega)
    rw [wrK]
    split
    · exact this.write (by omega) _ _
    · exact this.mono (by omega)
theorem wrK_n (b : Nat) (t : Nat → ByteArray) (S : Dk) : ∀ k, (wrK b t S k).1.n = S.n
  | 0 => rfl
  | k + 1 => by
    rw [wrK]
    split
    · exact (writeDk_n _ _ _).trans (wrK_n b t S k)
    · exact wrK_n b t S k
end Go.Proofs.YtgodjnbbocnckaaGreat

namespace Go.Proofs.YtgodjnbbocnckaaGreat
open Go.RowKit Go.Maps Go.ChangeMaps
set_option linter.unusedVariables false
set_option linter.unusedSimpArgs false
set_option maxRecDepth 100000

variable {w w' : World} {db lb mb m sb : Nat} {S : Dk} {base pages gen : Nat}

theorem Off.drewN {B : Nat → Prop} {a w : World} (h : Off B a w) (n : Nat) : Off B a (w.drewN n) := ⟨h.os, h.tape, h.output, h.size, h.block⟩
set_option maxHeartbeats 1000000 in
theorem StWrite_good (w : World) (h : StIs w sb db base pages gen) (hD : DkIs w db lb mb m S) {q : Nat} (hq : Dq q S) (hk : q ≤ 90000) (hm : m ≤ 90000) (hne : ¬ disk3 db lb mb sb) (hp : base + 4 * pages ≤ 8192)
    (id : Nat) (hid : id < pages) (hg : gen ≤ 65535) (text : ByteArray) (ht : text.size = 224) (l : Nat) (hl : l < 281474976710656) :
    Calls Tryz.prog 102 #[.pointer (some ⟨sb, 0, none⟩), .int .i64 (id : Int), .string text, .int .i64 (l : Int)] w fun e w' =>
      e = .returned (.int .i64 (wrK (base + 4 * id) (sec gen l text) S 4).2) ∧ DkIs w' db lb mb (m + 4) (wrK (base + 4 * id) (sec gen l text) S 4).1 ∧ Off (disk3 db lb mb) w w' := by
  have C0 : Hid (∀ w, StIs w sb db base pages gen → Calls Tryz.prog 52 #[.pointer (some ⟨sb, 0, none⟩), .int .i64 (id : Int)] w fun e w' => e = .returned (.int .i64 0) ∧ w' = w) := fun w h => by
    have := strefusal_any w h (id : Int)
    have e : stRef pages (id : Int) = 0 := by simp [stRef]; omega
    rwa [e] at this
  have CL : Hid (∀ w, Calls Tryz.prog 122 #[.agg #[.int .i64 (gen : Int), .int .i64 (l : Int)]] w fun e w' => e = .returned (.tuple #[.string (hd gen l), .int .i64 0]) ∧ Below w.heap.size w w') := fun w => by
    have := stlaid_any w gen (l : Int) hg
    have e : laidV gen (l : Int) = (hd gen l, 0) := by
      unfold laidV; rw [if_neg (by omega)]; rfl
    rwa [e] at this
  obtain ⟨T, hT⟩ : ∃ T, T = wrK (base + 4 * id) (sec gen l text) S := ⟨_, rfl⟩
  have hT0 : Hid (T 0 = (S, 0)) := by rw [hT]; rfl
  have hTd : Hid (∀ k, k ≤ 4 → Dq (q + k) (T k).1) := by rw [hT]; exact wrK_dq hq hk
  have hTe : Hid (∀ k, (T k).2 ≠ 0 → ∀ n, T (k + n) = T k) := by rw [hT]; exact fun k h => wrK_err h
  have hTs : Hid (∀ k, (T k).2 = 0 → T (k + 1) = (writeDk (T k).1 ((base + 4 * id + k : Nat) : Int) (sec gen l text k), writeE (T k).1 ((base + 4 * id + k : Nat) : Int) (sec gen l text k))) := by
    rw [hT]; intro k h; rw [wrK, if_pos h]
  rw [← hT]
  clear hT
  have CS : Hid (∀ w (j : Nat), StIs w sb db base pages gen → j ≤ 4 → Calls Tryz.prog 75 #[.pointer (some ⟨sb, 0, none⟩), .int .i64 (id : Int), .int .i64 (j : Int)] w fun e w' => e = .returned (.int .i64 ((base + 4 * id + j : Nat) : Int)) ∧ w' = w) :=
    fun w j h hj => stsector_any w h id j (by omega)
  have CW : Hid (∀ w (j : Nat), DkIs w db lb mb (m + j) (T j).1 → j < 4 → (T j).2 = 0 → Calls Tryz.prog 109 #[.pointer (some ⟨db, 0, none⟩), .int .i64 ((base + 4 * id + j : Nat) : Int), .string (sec gen l text j)] w fun e w' =>
      e = .returned (.int .i64 (T (j + 1)).2) ∧ DkIs w' db lb mb (m + (j + 1)) (T (j + 1)).1 ∧ Off (disk3 db lb mb) w w') := fun w j h hj hz => by
    have := Write_any w h (hTd.out j (by omega)).ok (by omega) ((base + 4 * id + j : Nat) : Int) (sec gen l text j) (by rw [sec_size ht hj]; omega)
    rw [hTs.out j hz]; exact this
  have hsec : Hid (∀ j, hd gen l ++ text.extract (j * 56) ((j + 1) * 56) = sec gen l text j) := fun j => rfl
  have hz1 := hd_size gen l
  have hc3 := h.c3
  have hid2 : (id : Int) ≤ 8192 := by omega
  have H : Hid _ := h
  have HD : Hid _ := hD
  clear h hD hid hp hq
  generalize hd gen l = HH at *
  go_enter Tryz.func102, Tryz.ntmps102
  go_wp2_with (first
    | (go_at_call 52; refine (C0.out _ H.out).mono ?_; rintro e w' ⟨rfl, rfl⟩)
    | (go_at_call 122; refine (CL.out _).mono ?_; rintro e w1 ⟨rfl, b1⟩))
  go_loopw [37] (fun i wr => ∃ j : Nat, j ≤ 4 ∧ i = .int .i64 j ∧ Hid ((T j).2 = 0) ∧ DkIs wr db lb mb (m + j) (T j).1 ∧ StIs wr sb db base pages gen ∧ Off (disk3 db lb mb) w' wr) (fun i _ => 4 - (intOf i).toNat)
  case atStart =>
    refine ⟨0, by omega, rfl, ?_, ?_, H.out.below b1, Off.of_below b1⟩
    · show (T 0).2 = 0
      rw [hT0.out]
    · rw [hT0.out]; exact HD.out.below b1
  case round =>
    obtain ⟨j, hj, rfl, hz, hd, hs, ho⟩ := hrel
    by_cases hlt : j < 4
    · have hc0 := hs.c0
      have hzc : (text.extract (j * 56) ((j + 1) * 56)).size = 56 := by rw [ByteArray.size_extract, ht]; omega
      have hx1 : (j : Int) * 56 ≤ 224 := by omega
      have hx2 : ((j : Int) + 1) * 56 ≤ 224 := by omega
      have hcat : HH ++ text.extract (j * 56) ((j + 1) * 56) = sec gen l text j := hsec.out j
      have hsl := hs.lt
      go_wp2
      go_region_held3 (fun W => W.cell? ⟨sb, 0, none⟩ = some (.pointer (some ⟨db, 0, none⟩))) (first | exact keep1 | exact hc0 | go_keep) (first
        | (go_at_call 75; refine (CS.out _ j ?_ ?_).mono ?_; exact hs.drew; exact hj; rintro e w2 ⟨rfl, rfl⟩)
        | (go_at_call 109; refine (CW.out _ j ?_ ?_ ?_).mono ?_; exact hd.drew; exact hlt; exact hz.out; rintro e w3 ⟨rfl, hD3, o3⟩; have keep1 := (o3.cell (p := ⟨sb, 0, none⟩) hsl hne).trans hc0))
      clear keep1 hc0 hcat hx1 hx2 hzc
      have oo := ho.drew.trans o3
      have hs3 := hs.drew.off o3 hne
      by_cases he : (T (j + 1)).2 = 0
      · have heb : ((T (j + 1)).2 != 0) = false := by simpa using he
        go_wp2
        go_roundw
        case rel => exact ⟨j + 1, by omega, by go_num, he, hD3, hs3, oo⟩
        case measure => simp [intOf]; omega
      · have heb : ((T (j + 1)).2 != 0) = true := by simpa using he
        have hee : T 4 = T (j + 1) := by
          have := hTe.out (j + 1) he (3 - j)
          rwa [show j + 1 + (3 - j) = 4 by omega] at this
        have HE : Hid _ := hee
        clear hee
        go_wp2
        go_ret
        rw [HE.out]
        exact ⟨rfl, hD3.mono (by omega), oo⟩
    · obtain rfl : j = 4 := by omega
      go_wp2
      go_ret
      exact ⟨by rw [hz.out]; rfl, hd, ho⟩
/-- What Write tells, and the disk behind it. -/
def stOut (base pages gen : Nat) (S : Dk) (id : Int) (text : ByteArray) (l : Int) : Dk × Int :=
  if id < 0 ∨ (pages : Int) ≤ id then (S, 6) else if text.size ≠ 224 then (S, 4) else if l < 0 ∨ 281474976710656 ≤ l then (S, 6) else wrK (base + 4 * id.toNat) (sec gen l.toNat text) S 4
theorem StWrite_nil (id : Int) (text : ByteArray) (l : Int) (w : World) : Calls Tryz.prog 102 #[.pointer none, .int .i64 id, .string text, .int .i64 l] w fun e w' => e = .returned (.int .i64 11) ∧ w' = w := by
  go_enter Tryz.func102, Tryz.ntmps102
  go_wp2_with (go_at_call 52; refine (strefusal_nil _ _).mono ?_; rintro e w' ⟨rfl, rfl⟩)
  go_ret
  exact ⟨rfl, rfl⟩
theorem StWrite_bad (w : World) (h : StIs w sb db base pages gen) (id : Int) (text : ByteArray) (l : Int) (hid : id < 0 ∨ (pages : Int) ≤ id) :
    Calls Tryz.prog 102 #[.pointer (some ⟨sb, 0, none⟩), .int .i64 id, .string text, .int .i64 l] w fun e w' => e = .returned (.int .i64 6) ∧ w' = w := by
  have C0 : Hid (∀ w, StIs w sb db base pages gen → Calls Tryz.prog 52 #[.pointer (some ⟨sb, 0, none⟩), .int .i64 id] w fun e w' => e = .returned (.int .i64 6) ∧ w' = w) := fun w h => by
    have := strefusal_any w h id
    have e : stRef pages id = 6 := by unfold stRef; rw [if_pos hid]
    rwa [e] at this
  have H : Hid _ := h
  clear h hid
  go_enter Tryz.func102, Tryz.ntmps102
  go_wp2_with (go_at_call 52; refine (C0.out _ H.out).mono ?_; rintro e w' ⟨rfl, rfl⟩)
  go_ret
  exact ⟨rfl, rfl⟩
theorem StWrite_form (w : World) (h : StIs w sb db base pages gen) (id : Int) (text : ByteArray) (l : Int) (hid : ¬ (id < 0 ∨ (pages : Int) ≤ id)) (hs : text.size ≤ 140737488351232) (ht : text.size ≠ 224) :
    Calls Tryz.prog 102 #[.pointer (some ⟨sb, 0, none⟩), .int .i64 id, .string text, .int .i64 l] w fun e w' => e = .returned (.int .i64 4) ∧ w' = w := by
  have C0 : Hid (∀ w, StIs w sb db base pages gen → Calls Tryz.prog 52 #[.pointer (some ⟨sb, 0, none⟩), .int .i64 id] w fun e w' => e = .returned (.int .i64 0) ∧ w' = w) := fun w h => by
    have := strefusal_any w h id
    have e : stRef pages id = 0 := by unfold stRef; rw [if_neg hid]
    rwa [e] at this
  have hb : ((text.size : Int) != 224) = true := by simp; omega
  have H : Hid _ := h
  clear h hid
  go_enter Tryz.func102, Tryz.ntmps102
  go_wp2_with (go_at_call 52; refine (C0.out _ H.out).mono ?_; rintro e w' ⟨rfl, rfl⟩)
  go_ret
  exact ⟨rfl, rfl⟩
theorem StWrite_range (w : World) (h : StIs w sb db base pages gen) (id : Int) (text : ByteArray) (l : Int) (hid : ¬ (id < 0 ∨ (pages : Int) ≤ id)) (hg : gen ≤ 65535) (ht : text.size = 224) (hl : l < 0 ∨ 281474976710656 ≤ l) :
    Calls Tryz.prog 102 #[.pointer (some ⟨sb, 0, none⟩), .int .i64 id, .string text, .int .i64 l] w fun e w' => e = .returned (.int .i64 6) ∧ Below w.heap.size w w' := by
  have C0 : Hid (∀ w, StIs w sb db base pages gen → Calls Tryz.prog 52 #[.pointer (some ⟨sb, 0, none⟩), .int .i64 id] w fun e w' => e = .returned (.int .i64 0) ∧ w' = w) := fun w h => by
    have := strefusal_any w h id
    have e : stRef pages id = 0 := by unfold stRef; rw [if_neg hid]
    rwa [e] at this
  have CL : Hid (∀ w, Calls Tryz.prog 122 #[.agg #[.int .i64 (gen : Int), .int .i64 l]] w fun e w' => e = .returned (.tuple #[.string ⟨#[]⟩, .int .i64 6]) ∧ Below w.heap.size w w') := fun w => by
    have := stlaid_any w gen l hg
    have e : laidV gen l = (⟨#[]⟩, 6) := by unfold laidV; rw [if_pos hl]
    rwa [e] at this
  have hc3 := h.c3
  have H : Hid _ := h
  clear h hid hl
  go_enter Tryz.func102, Tryz.ntmps102
  go_wp2_with (first
    | (go_at_call 52; refine (C0.out _ H.out).mono ?_; rintro e w' ⟨rfl, rfl⟩)
    | (go_at_call 122; refine (CL.out _).mono ?_; rintro e w1 ⟨rfl, b1⟩))
  go_ret
  exact ⟨rfl, b1⟩
theorem StWrite_any (w : World) (h : StIs w sb db base pages gen) (hD : DkIs w db lb mb m S) {q : Nat} (hq : Dq q S) (hk : q ≤ 90000) (hm : m ≤ 90000) (hne : ¬ disk3 db lb mb sb) (hp : base + 4 * pages ≤ 8192)
    (hg : gen ≤ 65535) (id : Int) (text : ByteArray) (hs : text.size ≤ 140737488351232) (l : Int) :
    Calls Tryz.prog 102 #[.pointer (some ⟨sb, 0, none⟩), .int .i64 id, .string text, .int .i64 l] w fun e w' =>
      e = .returned (.int .i64 (stOut base pages gen S id text l).2) ∧ DkIs w' db lb mb (m + 4) (stOut base pages gen S id text l).1 ∧ Off (disk3 db lb mb) w w' := by
  unfold stOut
  by_cases h1 : id < 0 ∨ (pages : Int) ≤ id
  · rw [if_pos h1]
    refine (StWrite_bad w h id text l h1).mono ?_
    rintro e w' ⟨rfl, rfl⟩
    exact ⟨rfl, hD.mono (by omega), Off.refl _ _⟩
  · rw [if_neg h1]
    by_cases h2 : text.size = 224
    · rw [if_neg (by omega)]
      by_cases h3 : l < 0 ∨ 281474976710656 ≤ l
      · rw [if_pos h3]
        refine (StWrite_range w h id text l h1 hg h2 h3).mono ?_
        rintro e w' ⟨rfl, b⟩
        exact ⟨rfl, (hD.below b).mono (by omega), Off.of_below b⟩
      · rw [if_neg h3]
        have := StWrite_good w h hD hq hk hm hne hp id.toNat (by omega) hg text h2 l.toNat (by omega)
        rw [Int.toNat_of_nonneg (by omega), Int.toNat_of_nonneg (by omega)] at this
        exact this
    · rw [if_pos h2]
      refine (StWrite_form w h id text l h1 hs h2).mono ?_
      rintro e w' ⟨rfl, rfl⟩
      exact ⟨rfl, hD.mono (by omega), Off.refl _ _⟩
end Go.Proofs.YtgodjnbbocnckaaGreat

namespace Go.Proofs.YtgodjnbbocnckaaGreat
open Go.RowKit Go.Maps Go.ChangeMaps
set_option linter.unusedVariables false
set_option linter.unusedSimpArgs false
set_option maxRecDepth 100000

variable {w w' : World} {db lb mb m sb : Nat} {S : Dk} {base pages gen : Nat}

/-! ### A sector, read -/
def rN (x : ByteArray × Int) (k : Int) : Nat × ByteArray × Int := Pk.rdNum x.1 x.2 k
def rR (x : ByteArray × Int) (k : Int) : ByteArray × ByteArray × Int := Pk.rdRaw x.1 x.2 k
/-- The generation, the record, the bytes of a sector. -/
def gnS (c : ByteArray) : Nat := (rN (c, 0) 2).1
def lnS (c : ByteArray) : Nat := (rN (rN (c, 0) 2).2 6).1
def txS (c : ByteArray) : ByteArray := (rR (rN (rN (c, 0) 2).2 6).2 56).1

theorem PkRead_any (s : ByteArray) (w : World) : Calls Tryz.prog 69 #[.string s] w fun e w' => e = .returned (.pointer (some ⟨w.heap.size, 0, none⟩)) ∧ w' = w.alloc (.cells #[.string s, .int .i64 0] 150) := by
  go_enter Tryz.func69, Tryz.ntmps69
  go_wp2
  go_ret
  exact ⟨rfl, rfl⟩

/-- A reader in block b, beside a block g of cells. -/
structure RP (w : World) (b g : Nat) (C : Array Value) (x : ByteArray × Int) : Prop where
  rd : Pk.isRd w b x.1 x.2
  sz : x.1.size ≤ 64
  blk : w.heap[g]? = some (.cells C 112)
  lt : g < w.heap.size
  ne : g ≠ b
theorem RP.c {b g : Nat} {C : Array Value} {x : ByteArray × Int} (h : RP w b g C x) (i : Nat) : w.cell? ⟨g, i, none⟩ = C[i]? := Joins.cell_of_block h.blk i
theorem RP.f {b g : Nat} {C : Array Value} {x : ByteArray × Int} (h : RP w b g C x) (i : Nat) : w.frozen? ⟨g, i, none⟩ = false := Joins.unfrozen_of_block h.blk i
theorem RP.set {b g : Nat} {C : Array Value} {x : ByteArray × Int} (h : RP w b g C x) (i : Nat) (v : Value) : RP (w.setCell ⟨g, i, none⟩ v) b g (C.setIfInBounds i v) x :=
  ⟨(Below.heap_setCell w _ v b h.ne.symm).trans h.rd, h.sz, Joins.block_setCell h.blk _, by have := h.lt; simpa [go_sem] using this, h.ne⟩
theorem RP.num {b g : Nat} {C : Array Value} {x : ByteArray × Int} (h : RP w b g C x) (k : Int) : Calls Tryz.prog 70 #[.pointer (some ⟨b, 0, none⟩), .int .i64 k] w fun e w' =>
    e = .returned (.int .i64 ((rN x k).1 : Int)) ∧ RP w' b g C (rN x k).2 ∧ Pk.Off b w w' := by
  refine (Pk.Num_any b x.1 x.2 k w (by have := h.sz; omega) h.rd).mono ?_
  rintro e w' ⟨he, hr, ho⟩
  exact ⟨he, ⟨hr, Nat.le_trans (Pk.rdNum_size _ _ _) h.sz, (ho.block g h.lt h.ne).trans h.blk, Nat.lt_of_lt_of_le h.lt ho.size, h.ne⟩, ho⟩
theorem RP.raw {b g : Nat} {C : Array Value} {x : ByteArray × Int} (h : RP w b g C x) (k : Int) : Calls Tryz.prog 72 #[.pointer (some ⟨b, 0, none⟩), .int .i64 k] w fun e w' =>
    e = .returned (.string (rR x k).1) ∧ RP w' b g C (rR x k).2 ∧ Pk.Off b w w' := by
  refine (Pk.Raw_any b x.1 x.2 k w (by have := h.sz; omega) h.rd).mono ?_
  rintro e w' ⟨he, hr, ho⟩
  exact ⟨he, ⟨hr, Nat.le_trans (Pk.rdRaw_size _ _ _) h.sz, (ho.block g h.lt h.ne).trans h.blk, Nat.lt_of_lt_of_le h.lt ho.size, h.ne⟩, ho⟩
/-- The first j parts lie in C. -/
structure PartsC (C : Array Value) (f : Nat → ByteArray) (j : Nat) : Prop where
  size : C.size = 12
  g : ∀ i, i < j → C[i * 3]? = some (.int .i64 (gnS (f i) : Int))
  l : ∀ i, i < j → C[i * 3 + 1]? = some (.int .i64 (lnS (f i) : Int))
  t : ∀ i, i < j → C[i * 3 + 2]? = some (.string (txS (f i)))
theorem PartsC.next {C : Array Value} {f : Nat → ByteArray} {j : Nat} (h : PartsC C f j) (hj : j < 4) :
    PartsC (((C.setIfInBounds (j * 3) (.int .i64 (gnS (f j) : Int))).setIfInBounds (j * 3 + 1) (.int .i64 (lnS (f j) : Int))).setIfInBounds (j * 3 + 2) (.string (txS (f j)))) f (j + 1) := by
  have hz := h.size
  refine ⟨by simp [hz], fun i hi => ?_, fun i hi => ?_, fun i hi => ?_⟩
  · by_cases e : i = j
    · subst e; simp [Array.getElem?_setIfInBounds]; omega
    · have := h.g i (by omega)
      rw [Array.getElem?_setIfInBounds, if_neg (by omega), Array.getElem?_setIfInBounds, if_neg (by omega), Array.getElem?_setIfInBounds, if_neg (by omega)]
      exact this
  · by_cases e : i = j
    · subst e; simp [Array.getElem?_setIfInBounds]; omega
    · have := h.l i (by omega)
      rw [Array.getElem?_setIfInBounds, if_neg (by omega), Array.getElem?_setIfInBounds, if_neg (by omega), Array.getElem?_setIfInBounds, if_neg (by omega)]
      exact this
  · by_cases e : i = j
    · subst e; simp [Array.getElem?_setIfInBounds]; omega
    · have := h.t i (by omega)
      rw [Array.getElem?_setIfInBounds, if_neg (by omega), Array.getElem?_setIfInBounds, if_neg (by omega), Array.getElem?_setIfInBounds, if_neg (by omega)]
      exact this
theorem make4 (w : World) : (Instr.makeSlice 106 (.int .i64 4) (.int .i64 4)).run Tryz.prog w = .ok (.slice (some ⟨w.heap.size, 0, none⟩) 4 4) (w.alloc (.cells #[.int .i64 0, .int .i64 0, .string ⟨#[]⟩, .int .i64 0, .int .i64 0, .string ⟨#[]⟩, .int .i64 0, .int .i64 0, .string ⟨#[]⟩, .int .i64 0, .int .i64 0, .string ⟨#[]⟩] 112)) := by kernel_rfl

set_option maxHeartbeats 1000000 in
theorem parts_any (w : World) (h : StIs w sb db base pages gen) (hD : DkIs w db lb mb m S) (hS : S.Ok) (hu : S.up = true) (id : Nat) (hid : id < pages) (hp : base + 4 * pages ≤ S.n) :
    Calls Tryz.prog 53 #[.pointer (some ⟨sb, 0, none⟩), .int .i64 (id : Int)] w fun e w' =>
      e = .returned (.tuple #[.slice (some ⟨w.heap.size, 0, none⟩) 4 4, .int .i64 0]) ∧ (∃ C, w'.heap[w.heap.size]? = some (.cells C 112) ∧ PartsC C (fun i => S.now (base + 4 * id + i)) 4) ∧ Below w.heap.size w w' := by
  have hn2 := hS.n2
  have CS : Hid (∀ w (j : Nat), StIs w sb db base pages gen → j ≤ 4 → Calls Tryz.prog 75 #[.pointer (some ⟨sb, 0, none⟩), .int .i64 (id : Int), .int .i64 (j : Int)] w fun e w' => e = .returned (.int .i64 ((base + 4 * id + j : Nat) : Int)) ∧ w' = w) :=
    fun w j h hj => stsector_any w h id j (by omega)
  obtain ⟨f, hf⟩ : ∃ f, f = (fun i => S.now (base + 4 * id + i)) := ⟨_, rfl⟩
  have CR : Hid (∀ w (j : Nat), DkIs w db lb mb m S → j < 4 → Calls Tryz.prog 68 #[.pointer (some ⟨db, 0, none⟩), .int .i64 ((base + 4 * id + j : Nat) : Int)] w fun e w' =>
      e = .returned (.tuple #[.string (f j), .int .i64 0]) ∧ Below w.heap.size w w') := fun w j h hj => by
    have := Read_any w h hS (base + 4 * id + j) (by omega) hu
    rw [hf]; exact this
  have hfz : Hid (∀ j, j < 4 → (f j).size = 64) := fun j hj => by
    rw [hf]
    show (S.now _).size = 64
    unfold Dk.now
    cases hw : S.wait (base + 4 * id + j) with
    | none => exact hD.row.size _ (by omega)
    | some c => exact (hS.wait _ c hw).2
  rw [← hf]
  have hmk := make4
  have H : Hid _ := h
  have HD : Hid _ := hD
  have hsl := h.lt
  have hid2 : (id : Int) ≤ 8192 := by omega
  clear h hD hf hid hp hS
  go_enter Tryz.func53, Tryz.ntmps53
  go_wp2
  go_loopw [12] (fun i wr => ∃ (j : Nat) (C : Array Value), j ≤ 4 ∧ i = .int .i64 j ∧ wr.heap[w.heap.size]? = some (.cells C 112) ∧ PartsC C f j ∧ Below w.heap.size w wr) (fun i _ => 4 - (intOf i).toNat)
  case atStart =>
    exact ⟨0, _, by omega, rfl, (MapKept.heap_alloc w _).1, ⟨rfl, fun i hi => absurd hi (by omega), fun i hi => absurd hi (by omega), fun i hi => absurd hi (by omega)⟩, (Below.refl _ _).alloc (Nat.le_refl _) _⟩
  case round =>
    obtain ⟨j, C, hj, rfl, hC, hP, hb⟩ := hrel
    by_cases hlt : j < 4
    · have hs := H.out.below hb
      have hd := HD.out.below hb
      have hc0 := hs.c0
      have hslr := hs.lt
      have hgl : w.heap.size < wr.heap.size := by
        rcases Nat.lt_or_ge w.heap.size wr.heap.size with h' | h'
        · exact h'
        · simp [Array.getElem?_eq_none h'] at hC
      have hcz := hfz.out j hlt
      go_wp2
      go_region_held3 (fun W => W.cell? ⟨sb, 0, none⟩ = some (.pointer (some ⟨db, 0, none⟩))) (first | exact keep1 | exact hc0 | go_keep) (first
        | (go_at_call 75; refine (CS.out _ j ?_ ?_).mono ?_; exact hs.drew; exact hj; rintro e w2 ⟨rfl, rfl⟩)
        | (go_at_call 68; refine (CR.out _ j ?_ ?_).mono ?_; exact hd.drew; exact hlt; rintro e w3 ⟨rfl, b3⟩; have keep1 := (b3.cell (p := ⟨sb, 0, none⟩) hslr).trans hc0))
      have hb3 : Below w.heap.size w w3 := hb.drew.trans (b3.mono hb.size)
      have hC3 : w3.heap[w.heap.size]? = some (.cells C 112) := (b3.block _ hgl).trans hC
      have hgl3 : w.heap.size < w3.heap.size := Nat.lt_of_lt_of_le hgl b3.size
      have h1 : RP (w3.alloc (.cells #[.string (f j), .int .i64 0] 150)) w3.heap.size w.heap.size C (f j, 0) :=
        ⟨(MapKept.heap_alloc w3 _).1, by rw [hcz]; exact Nat.le_refl _, (Below.heap_alloc _ _ _ hgl3).trans hC3, by simp; omega, by omega⟩
      clear keep1 hc0 hs hd b3 hC
      obtain ⟨v0, e0⟩ : ∃ v, C[j * 3]? = some v := ⟨_, Array.getElem?_eq_getElem (by rw [hP.size]; omega)⟩
      obtain ⟨v1, e1⟩ : ∃ v, C[j * 3 + 1]? = some v := ⟨_, Array.getElem?_eq_getElem (by rw [hP.size]; omega)⟩
      obtain ⟨v2, e2⟩ : ∃ v, C[j * 3 + 2]? = some v := ⟨_, Array.getElem?_eq_getElem (by rw [hP.size]; omega)⟩
      have e2' : ∀ x y : Value, ((C.setIfInBounds (j * 3) x).setIfInBounds (j * 3 + 1) y)[j * 3 + 2]? = some v2 := fun x y => by
        rw [Array.getElem?_setIfInBounds, if_neg (by omega), Array.getElem?_setIfInBounds, if_neg (by omega)]; exact e2
      have BB : Hid (Below w.heap.size w (w3.alloc (.cells #[.string (f j), .int .i64 0] 150))) := hb3.alloc hb3.size _
      have hle := hb3.size
      clear hb3
      go_wp2_with (first
        | (go_at_call 69; refine (PkRead_any _ _).mono ?_; rintro e w4 ⟨rfl, rfl⟩)
        | (go_at_call 70; refine (h1.num _).mono ?_; clear h1; rintro e w5 ⟨rfl, h1, o1⟩; have k0 := (h1.c (j * 3)).trans e0; have k1 := (h1.c (j * 3 + 1)).trans e1; have k2 := (h1.c (j * 3 + 2)).trans e2; have hff := h1.f; have B2 : Hid (Below w.heap.size w w5) := BB.out.trans (o1.below hle BB.out.size); clear BB; have BB : Hid (Below w.heap.size w w5) := B2.out; clear B2 o1)
        | (go_at_call 72; refine (((h1.set _ _).set _ _).raw _).mono ?_; clear h1; rintro e w6 ⟨rfl, h1, o1⟩; have k2 := (h1.c (j * 3 + 2)).trans (e2' _ _); have hff := h1.f))
      have hle5 : w.heap.size ≤ w5.heap.size := BB.out.size
      have B5 : ∀ x y : Value, Below w.heap.size w ((w5.setCell ⟨w.heap.size, j * 3, none⟩ x).setCell ⟨w.heap.size, j * 3 + 1, none⟩ y) := fun x y => (BB.out.setCell (Nat.le_refl _) _).setCell (Nat.le_refl _) _
      have B6 : Below w.heap.size w w6 := (B5 _ _).trans (o1.below hle (B5 _ _).size)
      go_roundw
      case rel => exact ⟨j + 1, _, by omega, by go_num, (h1.set _ _).blk, hP.next hlt, B6.setCell (Nat.le_refl _) _⟩
      case measure => simp [intOf]; omega
    · obtain rfl : j = 4 := by omega
      go_wp2
      go_ret2
      exact ⟨rfl, ⟨C, hC, hP⟩, hb⟩
end Go.Proofs.YtgodjnbbocnckaaGreat
