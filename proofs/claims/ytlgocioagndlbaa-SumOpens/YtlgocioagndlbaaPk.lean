/- The layer pack, as far as sum calls it: a number in four bytes, and a reader. (The texts of stage 1's seat, at this seat's numbers.) -/
import Derived.Test.YtlgocioagndlbaaRun
import Derived.Laws.BytesArg
import Derived.Laws.BitsAllLaws
import Derived.Lib.SmallJoins
namespace Go.Proofs.Ytlgocioagndlbaa
open Go.RowKit
set_option linter.unusedVariables false
set_option linter.unusedSimpArgs false
set_option maxRecDepth 100000

theorem isWidth_any (n : Int) (w : World) :
    Calls Try.prog 30 #[.int .i64 n] w fun e w' => e = .returned (.bool (decide (1 ≤ n) && decide (n ≤ 6))) ∧ w' = w := by
  by_cases h1 : 1 ≤ n
  · have h1' : decide (1 ≤ n) = true := by simpa using h1
    go_enter Try.func30, Try.ntmps30
    go_wp2
    go_ret
    exact ⟨by simp [h1], rfl⟩
  · have h1' : decide (1 ≤ n) = false := by simpa using h1
    go_enter Try.func30, Try.ntmps30
    go_wp2
    go_ret
    exact ⟨by simp, rfl⟩
/-- n in k bytes, the highest first. -/
def be (n : Nat) : Nat → List UInt8
  | 0 => []
  | k + 1 => UInt8.ofNat (n / 256 ^ k % 256) :: be n k
def beS (n k : Nat) : ByteArray := ⟨(be n k).toArray⟩
theorem be_length (n k : Nat) : (be n k).length = k := by induction k <;> simp [be, *]
theorem beS_size (n k : Nat) : (beS n k).size = k := by simp [beS, ByteArray.size, be_length]
theorem byte_0 (n : Nat) : ((n : Int) % 256).toNat = n % 256 := by omega
theorem byte_1 (n : Nat) : ((n : Int) / 256 % 256).toNat = n / 256 % 256 := by omega
theorem byte_2 (n : Nat) : ((n : Int) / 65536 % 256).toNat = n / 65536 % 256 := by omega
theorem byte_3 (n : Nat) : ((n : Int) / 16777216 % 256).toNat = n / 16777216 % 256 := by omega
theorem beS_4 (n : Nat) : beS n 4 = ⟨#[UInt8.ofNat (n / 16777216 % 256), UInt8.ofNat (n / 65536 % 256), UInt8.ofNat (n / 256 % 256), UInt8.ofNat (n % 256)]⟩ := by
  simp [beS, be]
set_option maxHeartbeats 1000000 in
theorem num_4 (n : Nat) (w : World) (hn : n ≤ 281474976710656) :
    Calls Try.prog 31 #[.int .i64 n, .int .i64 4] w fun e w' => e = .returned (.string (beS n 4)) ∧ Below w.heap.size w w' := by
  have hmf : ∀ (fn : Fn) (first cap : Array Value) (w : World), (Instr.makeFunc fn first cap).run Try.prog w = .ok (.func fn first cap) w := fun _ _ _ _ => rfl
  have hmk : ∀ w, (Instr.makeSlice 31 (.int .i64 0) (.int .i64 6)).run Try.prog w = .ok (.slice (some ⟨w.heap.size, 0, none⟩) 0 6) (w.alloc (.cells #[.int .u8 0, .int .u8 0, .int .u8 0, .int .u8 0, .int .u8 0, .int .u8 0] 5)) := fun _ => by kernel_rfl
  go_enter Try.func31, Try.ntmps31
  go_wp2
  refine wp_loop_rounds 5 ?_
  rw [rounds_succ]
  go_wp2
  go_end0
  go_wp2
  rw [rounds_succ]
  go_wp2
  go_end0
  go_wp2
  rw [rounds_succ]
  go_wp2
  go_end0
  go_wp2
  rw [rounds_succ]
  go_wp2
  go_end0
  go_wp2
  rw [rounds_succ]
  go_wp2
  rw [run_convert_bytes_arg (P := Try.prog) _ 31 5 Try.underlying31 Try.underlying5 w.heap.size 0 4 6 [(n : Int) / 16777216 % 256, (n : Int) / 65536 % 256, (n : Int) / 256 % 256, (n : Int) % 256] rfl ?hc 9 Try.underlying9]
  case hc =>
    intro i hi
    have : i = 0 ∨ i = 1 ∨ i = 2 ∨ i = 3 := by omega
    rcases this with rfl | rfl | rfl | rfl <;> simp [go_sem]
  go_wp2
  go_ret
  refine ⟨?_, ?_⟩
  · rw [beS_4]
    exact congrArg (fun b => Ending.returned (.string b)) (by simp [strOfNums, byte_0, byte_1, byte_2, byte_3])
  · repeat (first | exact Below.refl _ _ | refine Below.alloc ?_ (by simp <;> omega) _)
/-- All blocks but b are as they were; new ones may have come. -/
structure Off (b : Nat) (w w' : World) : Prop where
  os : w'.os = w.os
  tape : w'.tape = w.tape
  output : w'.output = w.output
  size : w.heap.size ≤ w'.heap.size
  block : ∀ k, k < w.heap.size → k ≠ b → w'.heap[k]? = w.heap[k]?
theorem Off.refl (b : Nat) (w : World) : Off b w w := ⟨rfl, rfl, rfl, Nat.le_refl _, fun _ _ _ => rfl⟩
theorem Off.trans {d : Nat} {a b c : World} (h : Off d a b) (k : Off d b c) : Off d a c :=
  ⟨k.os.trans h.os, k.tape.trans h.tape, k.output.trans h.output, Nat.le_trans h.size k.size, fun i hi hn => (k.block i (Nat.lt_of_lt_of_le hi h.size) hn).trans (h.block i hi hn)⟩
theorem Off.of_below {b : Nat} {w w' : World} (h : Below w.heap.size w w') : Off b w w' := ⟨h.os, h.tape, h.output, h.size, fun k hk _ => h.block k hk⟩
theorem Off.below {b B : Nat} {w w' : World} (h : Off b w w') (hb : B ≤ b) (hB : B ≤ w.heap.size) : Below B w w' :=
  ⟨h.os, h.tape, h.output, h.size, fun k hk => h.block k (Nat.lt_of_lt_of_le hk hB) (Nat.ne_of_lt (Nat.lt_of_lt_of_le hk hb))⟩
theorem Off.alloc {b : Nat} {a w : World} (h : Off b a w) (o : Obj) : Off b a (w.alloc o) :=
  h.trans (Off.of_below ((Below.refl _ _).alloc (Nat.le_refl _) o))
theorem Off.drew {b : Nat} {a w : World} (h : Off b a w) : Off b a w.drew := ⟨h.os, h.tape, h.output, h.size, h.block⟩
theorem Off.setCell {b : Nat} {a w : World} (h : Off b a w) (i : Nat) (v : Value) : Off b a (w.setCell ⟨b, i, none⟩ v) := by
  refine h.trans ⟨rfl, rfl, rfl, ?_, fun k _ hk => Below.heap_setCell w _ v k hk⟩
  simp [go_sem]
/-- A reader lies whole in block b. -/
def isRd (w : World) (b : Nat) (s : ByteArray) (e : Int) : Prop := w.heap[b]? = some (.cells #[.string s, .int .i64 e] 53)
theorem isRd.c0 {w : World} {b : Nat} {s : ByteArray} {e : Int} (h : isRd w b s e) : w.cell? ⟨b, 0, none⟩ = some (.string s) := by
  unfold isRd at h; simp [World.cell?, h]
theorem isRd.c1 {w : World} {b : Nat} {s : ByteArray} {e : Int} (h : isRd w b s e) : w.cell? ⟨b, 1, none⟩ = some (.int .i64 e) := by
  unfold isRd at h; simp [World.cell?, h]
theorem isRd.f {w : World} {b : Nat} {s : ByteArray} {e : Int} (h : isRd w b s e) (i : Nat) : w.frozen? ⟨b, i, none⟩ = false := by
  unfold isRd at h; simp [World.frozen?, h]
theorem isRd.lt {w : World} {b : Nat} {s : ByteArray} {e : Int} (h : isRd w b s e) : b < w.heap.size := by
  unfold isRd at h
  rcases Nat.lt_or_ge b w.heap.size with h' | h'
  · exact h'
  · simp [Array.getElem?_eq_none h'] at h
theorem isRd.below {w w' : World} {b : Nat} {s : ByteArray} {e : Int} (h : isRd w b s e) (hb : Below w.heap.size w w') : isRd w' b s e := (hb.block b h.lt).trans h
theorem isRd.off {w w' : World} {b c : Nat} {s : ByteArray} {e : Int} (h : isRd w b s e) (hb : Off c w w') (hn : b ≠ c) : isRd w' b s e := (hb.block b h.lt hn).trans h
theorem isRd.set0 {w : World} {b : Nat} {s : ByteArray} {e : Int} (h : isRd w b s e) (t : ByteArray) : isRd (w.setCell ⟨b, 0, none⟩ (.string t)) b t e := by
  unfold isRd at *
  rw [Joins.block_setCell h]; rfl
theorem isRd.set1 {w : World} {b : Nat} {s : ByteArray} {e : Int} (h : isRd w b s e) (x : Int) : isRd (w.setCell ⟨b, 1, none⟩ (.int .i64 x)) b s x := by
  unfold isRd at *
  rw [Joins.block_setCell h]; rfl
/-- The reader behind a fault x: what was left and its first error. -/
def rdFail (l : ByteArray) (e x : Int) : ByteArray × Int := if e = 0 then (⟨#[]⟩, x) else (l, e)
/-- What is read of n bytes, what is left, the error. -/
def rdRaw (l : ByteArray) (e n : Int) : ByteArray × ByteArray × Int :=
  if e ≠ 0 then (⟨#[]⟩, l, e) else if n < 0 then (⟨#[]⟩, ⟨#[]⟩, 1) else if (l.size : Int) < n then (⟨#[]⟩, ⟨#[]⟩, 2) else (l.extract 0 n.toNat, l.extract n.toNat l.size, 0)
theorem rdRaw_had {l : ByteArray} {e n : Int} (h : e ≠ 0) : rdRaw l e n = (⟨#[]⟩, l, e) := by simp [rdRaw, h]
theorem rdRaw_neg {l : ByteArray} {n : Int} (h : n < 0) : rdRaw l 0 n = (⟨#[]⟩, ⟨#[]⟩, 1) := by simp [rdRaw, h]
theorem rdRaw_short {l : ByteArray} {n : Int} (h : ¬ n < 0) (h2 : (l.size : Int) < n) : rdRaw l 0 n = (⟨#[]⟩, ⟨#[]⟩, 2) := by simp [rdRaw, h, h2]
theorem rdRaw_fits {l : ByteArray} {n : Int} (h : ¬ n < 0) (h2 : ¬ (l.size : Int) < n) : rdRaw l 0 n = (l.extract 0 n.toNat, l.extract n.toNat l.size, 0) := by simp [rdRaw, h, h2]
def beN (l : List UInt8) : Nat := l.foldl (fun a b => 256 * a + b.toNat) 0
/-- The number that is read of k bytes, what is left, the error. -/
def rdNumSt (l : ByteArray) (e k : Int) : ByteArray × Int := if k < 1 ∨ 6 < k then rdFail l e 1 else (l, e)
def rdNum (l : ByteArray) (e k : Int) : Nat × ByteArray × Int :=
  (beN (rdRaw (rdNumSt l e k).1 (rdNumSt l e k).2 k).1.data.toList, (rdRaw (rdNumSt l e k).1 (rdNumSt l e k).2 k).2)
theorem Left_any (b : Nat) (s : ByteArray) (e : Int) (w : World) (hs : s.size ≤ 140737488351232) (h : isRd w b s e) : Calls Try.prog 27 #[.pointer (some ⟨b, 0, none⟩)] w fun e w' => e = .returned (.int .i64 s.size) ∧ w' = w := by
  have hc0 := h.c0
  go_enter Try.func27, Try.ntmps27
  go_wp2
  go_ret
  exact ⟨rfl, rfl⟩
theorem Err_any (b : Nat) (s : ByteArray) (e : Int) (w : World) (h : isRd w b s e) : Calls Try.prog 28 #[.pointer (some ⟨b, 0, none⟩)] w fun r w' => r = .returned (.int .i64 e) ∧ w' = w := by
  have hc1 := h.c1
  go_enter Try.func28, Try.ntmps28
  go_wp2
  go_ret
  exact ⟨rfl, rfl⟩
theorem fail_had (b : Nat) (s : ByteArray) (e x : Int) (w : World) (h : isRd w b s e) (he : e ≠ 0) : Calls Try.prog 32 #[.pointer (some ⟨b, 0, none⟩), .int .i64 x] w fun e w' => e = .returned (.tuple #[]) ∧ w' = w := by
  have he' : (e == 0) = false := by simpa using he
  go_enter Try.func32, Try.ntmps32
  go_wp2_with (go_at_call 28; refine (Err_any b s e _ h).mono ?_; rintro e w' ⟨rfl, rfl⟩)
  go_end0
  exact ⟨rfl, rfl⟩
theorem fail_new (b : Nat) (s : ByteArray) (x : Int) (w : World) (h : isRd w b s 0) : Calls Try.prog 32 #[.pointer (some ⟨b, 0, none⟩), .int .i64 x] w fun e w' => e = .returned (.tuple #[]) ∧ isRd w' b ⟨#[]⟩ x ∧ Off b w w' := by
  have hc0 := h.c0
  have hc1 := h.c1
  have hf := h.f
  go_enter Try.func32, Try.ntmps32
  go_wp2_with (go_at_call 28; refine (Err_any b s 0 _ h).mono ?_; rintro e w' ⟨rfl, rfl⟩)
  go_end0
  exact ⟨rfl, (h.set0 _).set1 _, ((Off.refl _ _).setCell _ _).setCell _ _⟩
theorem fail_any (b : Nat) (s : ByteArray) (e x : Int) (w : World) (h : isRd w b s e) : Calls Try.prog 32 #[.pointer (some ⟨b, 0, none⟩), .int .i64 x] w fun r w' => r = .returned (.tuple #[]) ∧ isRd w' b (rdFail s e x).1 (rdFail s e x).2 ∧ Off b w w' := by
  by_cases he : e = 0
  · subst he
    exact fail_new b s x w h
  · simp only [rdFail, he, if_false]
    refine (fail_had b s e x w h he).mono ?_
    rintro r w' ⟨rfl, rfl⟩
    exact ⟨rfl, h, Off.refl _ _⟩
set_option maxHeartbeats 1000000 in
theorem Raw_any (b : Nat) (l : ByteArray) (e n : Int) (w : World) (hs : l.size ≤ 140737488351232) (h : isRd w b l e) :
    Calls Try.prog 26 #[.pointer (some ⟨b, 0, none⟩), .int .i64 n] w fun r w' => r = .returned (.string (rdRaw l e n).1) ∧ isRd w' b (rdRaw l e n).2.1 (rdRaw l e n).2.2 ∧ Off b w w' := by
  by_cases he : e = 0
  · subst he
    by_cases hn : n < 0
    · rw [rdRaw_neg hn]
      go_enter Try.func26, Try.ntmps26
      go_wp2_with (first | (go_at_call 32; refine (fail_new b l _ _ h).mono ?_; rintro e w1 ⟨rfl, h1, o1⟩) | (go_at_call 28; refine (Err_any b _ _ _ h1).mono ?_; rintro e w' ⟨rfl, rfl⟩))
      go_ret
      exact ⟨rfl, h1, o1⟩
    · by_cases hl : (l.size : Int) < n
      · rw [rdRaw_short hn hl]
        go_enter Try.func26, Try.ntmps26
        go_wp2_with (first | (go_at_call 27; refine (Left_any b _ _ _ hs h).mono ?_; rintro e w' ⟨rfl, rfl⟩) | (go_at_call 32; refine (fail_new b l _ _ h).mono ?_; rintro e w1 ⟨rfl, h1, o1⟩) | (go_at_call 28; refine (Err_any b _ _ _ h1).mono ?_; rintro e w' ⟨rfl, rfl⟩))
        go_ret
        exact ⟨rfl, h1, o1⟩
      · rw [rdRaw_fits hn hl]
        obtain ⟨m, rfl⟩ : ∃ m : Nat, n = m := ⟨n.toNat, by omega⟩
        have hm : m ≤ l.size := by omega
        have hc0 := h.c0
        have hf := h.f
        rw [Int.toNat_natCast]
        go_enter Try.func26, Try.ntmps26
        go_wp2_with (first | (go_at_call 27; refine (Left_any b _ _ _ hs h).mono ?_; rintro e w' ⟨rfl, rfl⟩) | (go_at_call 28; refine (Err_any b _ _ _ h).mono ?_; rintro e w' ⟨rfl, rfl⟩))
        go_ret
        exact ⟨rfl, h.set0 _, (Off.refl _ _).setCell _ _⟩
  · rw [rdRaw_had he]
    have he' : (e != 0) = true := by simpa using he
    go_enter Try.func26, Try.ntmps26
    go_wp2_with (first | (go_at_call 27; refine (Left_any b _ _ _ hs h).mono ?_; rintro e w' ⟨rfl, rfl⟩) | (go_at_call 32; refine (fail_had b l _ _ _ h he).mono ?_; rintro e w1 ⟨rfl, rfl⟩) | (go_at_call 28; refine (Err_any b _ _ _ h).mono ?_; rintro e w' ⟨rfl, rfl⟩))
    all_goals (go_ret; exact ⟨rfl, h, Off.refl _ _⟩)
theorem beN_snoc (l : List UInt8) (c : UInt8) : beN (l ++ [c]) = 256 * beN l + c.toNat := by simp [beN]
theorem beN_lt (l : List UInt8) : beN l < 256 ^ l.length := by
  have key : ∀ (l : List UInt8) (a n : Nat), a < 256 ^ n → l.foldl (fun a b => 256 * a + b.toNat) a < 256 ^ (n + l.length) := by
    intro l
    induction l with
    | nil => intro a n h; simpa using h
    | cons c l ih =>
      intro a n h
      have hc := c.toNat_lt
      have := ih (256 * a + c.toNat) (n + 1) (by rw [Nat.pow_succ]; omega)
      rw [List.foldl_cons, List.length_cons]
      rw [show n + (l.length + 1) = n + 1 + l.length by omega]
      exact this
  have := key l 0 0 (by simp)
  simpa [beN] using this
theorem beN_le6 (l : List UInt8) (h : l.length ≤ 6) : beN l < 281474976710656 := by
  have h1 := beN_lt l
  have h2 : 256 ^ l.length ≤ 256 ^ 6 := Nat.pow_le_pow_right (by omega) h
  have h3 : 256 ^ 6 = 281474976710656 := by decide
  omega
theorem or_byte (x : Nat) (c : UInt8) (h : x < 281474976710656) : bits BinOp.or IntKind.i64 ((x : Int) * 256) (wrap64 (c.toNat : Int)) = ((256 * x + c.toNat : Nat) : Int) := by
  have hc := c.toNat_lt
  have e1 : wrap64 (c.toNat : Int) = (c.toNat : Int) := by unfold wrap64; omega
  rw [e1]
  show IntKind.i64.wrap ((BitVec.ofInt 64 ((x : Int) * 256) ||| BitVec.ofInt 64 (c.toNat : Int)).toNat : Int) = _
  have e2 : ((x : Int) * 256) = ((256 * x : Nat) : Int) := by omega
  rw [e2, BitVec.toNat_or, ofInt_u64 (256 * x) (by omega), ofInt_u64 c.toNat (by omega), nat_join8 (256 * x) c.toNat (by omega) (by omega), IntKind.wrap_i64]
  omega
theorem rdFail_size (l : ByteArray) (e x : Int) : (rdFail l e x).1.size ≤ l.size := by
  unfold rdFail
  split
  · exact Nat.zero_le _
  · exact Nat.le_refl _
theorem rdFail_ne (l : ByteArray) (e x : Int) (hx : x ≠ 0) : (rdFail l e x).2 ≠ 0 := by
  unfold rdFail
  split
  · exact hx
  · assumption
theorem size_nil : (⟨#[]⟩ : ByteArray).size = 0 := rfl
theorem rdRaw_size (l : ByteArray) (e n : Int) : (rdRaw l e n).2.1.size ≤ l.size := by
  unfold rdRaw
  repeat' split
  all_goals simp [ByteArray.size_extract, size_nil]
theorem rdRaw_size1 (l : ByteArray) (e n : Int) (k : Nat) (h : n ≤ k) : (rdRaw l e n).1.size ≤ k := by
  unfold rdRaw
  repeat' split
  all_goals simp [ByteArray.size_extract, size_nil]
  all_goals omega
theorem rdNumSt_size (l : ByteArray) (e k : Int) : (rdNumSt l e k).1.size ≤ l.size := by
  unfold rdNumSt
  split
  · exact rdFail_size _ _ _
  · exact Nat.le_refl _
theorem rdNumSt_size1 (l : ByteArray) (e k : Int) : (rdRaw (rdNumSt l e k).1 (rdNumSt l e k).2 k).1.size ≤ 6 := by
  unfold rdNumSt
  split
  · rw [rdRaw_had (rdFail_ne _ _ _ (by decide))]; exact Nat.zero_le _
  · exact rdRaw_size1 _ _ _ 6 (by omega)
theorem rdNum_size (l : ByteArray) (e k : Int) : (rdNum l e k).2.1.size ≤ l.size := Nat.le_trans (rdRaw_size _ _ _) (rdNumSt_size _ _ _)
theorem rdNum_lt (l : ByteArray) (e k : Int) : (rdNum l e k).1 < 281474976710656 := beN_le6 _ (rdNumSt_size1 l e k)
set_option maxHeartbeats 1000000 in
theorem Num_any (b : Nat) (l : ByteArray) (e k : Int) (w : World) (hs : l.size ≤ 140737488351232) (h : isRd w b l e) :
    Calls Try.prog 25 #[.pointer (some ⟨b, 0, none⟩), .int .i64 k] w fun r w' => r = .returned (.int .i64 (rdNum l e k).1) ∧ isRd w' b (rdNum l e k).2.1 (rdNum l e k).2.2 ∧ Off b w w' := by
  have hcv := fun w s => run_bytes_of_string (P := Try.prog) w 9 31 5 s Try.underlying9 Try.underlying31 Try.underlying5
  have hl0 := Nat.le_trans (rdNumSt_size l e k) hs
  have hsv := rdNumSt_size1 l e k
  obtain ⟨l0, e0, hst⟩ : ∃ l0 e0, rdNumSt l e k = (l0, e0) := ⟨_, _, rfl⟩
  rw [hst] at hl0 hsv
  dsimp only at hl0 hsv
  obtain ⟨sv, st, hp⟩ : ∃ sv st, rdRaw l0 e0 k = (sv, st) := ⟨_, _, rfl⟩
  have c1 := fun w h => Raw_any b l0 e0 k w hl0 h
  have hr : rdNum l e k = (beN sv.data.toList, st) := by simp only [rdNum, hst, hp]
  rw [hr]
  rw [hp] at c1 hsv
  dsimp only at c1 hsv
  have C1 : Hid _ := c1
  clear c1 hp hr hl0
  by_cases hk : k < 1 ∨ 6 < k
  · have hd : (decide (1 ≤ k) && decide (k ≤ 6)) = false := by simp; omega
    have c0 := fun w h => fail_any b l e 1 w h
    rw [rdNumSt, if_pos hk] at hst
    rw [hst] at c0
    have C0 : Hid _ := c0
    clear c0 hst hk hs
    go_enter Try.func25, Try.ntmps25
    go_wp2_with (first | (go_at_call 30; refine (isWidth_any _ _).mono ?_; rintro e w' ⟨rfl, rfl⟩) | (go_at_call 32; refine (C0.out _ h).mono ?_; rintro e w0 ⟨rfl, h0, o0⟩) | (go_at_call 26; refine (C1.out _ h0).mono ?_; rintro e w1 ⟨rfl, h1, o1⟩))
    have hcell := fun j hj => bytesRow_cell w1 sv (grownCap w1 sv.size 0 5) (bytesRow sv (grownCap w1 sv.size 0 5)).size j hj
    generalize bytesRow sv (grownCap w1 sv.size 0 5) = R at hcell ⊢
    generalize grownCap w1 sv.size 0 5 = gc at hcell ⊢
    go_loop [5, 18] (fun n i => ∃ j : Nat, j ≤ sv.size ∧ i = .int .i64 j ∧ n = .int .i64 (beN (sv.data.toList.take j))) (fun _ i => sv.size - (intOf i).toNat)
    case atStart => exact ⟨0, Nat.zero_le _, rfl, rfl⟩
    case round =>
      obtain ⟨j, hj, rfl, rfl⟩ := hrel
      by_cases hlt : j < sv.size
      · have hc := hcell j hlt
        have hlt2 := beN_le6 (sv.data.toList.take j) (by have := List.length_take_le j sv.data.toList; omega)
        go_wp2
        go_round
        case rel => exact ⟨j + 1, by omega, by go_num, by rw [or_byte _ _ hlt2, take_snoc _ _ hlt, beN_snoc]⟩
        case measure => simp [intOf]; omega
      · go_wp2
        go_ret
        rw [List.take_of_length_le (by simp; omega)]
        exact ⟨rfl, h1.below (((Below.refl _ _).alloc (Nat.le_refl _) _).drew), ((o0.trans o1).alloc _).drew⟩
  · have hd : (decide (1 ≤ k) && decide (k ≤ 6)) = true := by simp; omega
    rw [rdNumSt, if_neg hk] at hst
    obtain ⟨rfl, rfl⟩ := Prod.mk.inj hst
    clear hst hk hs
    go_enter Try.func25, Try.ntmps25
    go_wp2_with (first | (go_at_call 30; refine (isWidth_any _ _).mono ?_; rintro e w' ⟨rfl, rfl⟩) | (go_at_call 26; refine (C1.out _ h).mono ?_; rintro e w1 ⟨rfl, h1, o1⟩))
    have hcell := fun j hj => bytesRow_cell w1 sv (grownCap w1 sv.size 0 5) (bytesRow sv (grownCap w1 sv.size 0 5)).size j hj
    generalize bytesRow sv (grownCap w1 sv.size 0 5) = R at hcell ⊢
    generalize grownCap w1 sv.size 0 5 = gc at hcell ⊢
    go_loop [5, 18] (fun n i => ∃ j : Nat, j ≤ sv.size ∧ i = .int .i64 j ∧ n = .int .i64 (beN (sv.data.toList.take j))) (fun _ i => sv.size - (intOf i).toNat)
    case atStart => exact ⟨0, Nat.zero_le _, rfl, rfl⟩
    case round =>
      obtain ⟨j, hj, rfl, rfl⟩ := hrel
      by_cases hlt : j < sv.size
      · have hc := hcell j hlt
        have hlt2 := beN_le6 (sv.data.toList.take j) (by have := List.length_take_le j sv.data.toList; omega)
        go_wp2
        go_round
        case rel => exact ⟨j + 1, by omega, by go_num, by rw [or_byte _ _ hlt2, take_snoc _ _ hlt, beN_snoc]⟩
        case measure => simp [intOf]; omega
      · go_wp2
        go_ret
        rw [List.take_of_length_le (by simp; omega)]
        exact ⟨rfl, h1.below (((Below.refl _ _).alloc (Nat.le_refl _) _).drew), (o1.alloc _).drew⟩
theorem beN_be (k : Nat) (n : Nat) (h : n < 256 ^ k) : beN (be n k) = n := by
  have key : ∀ (k a : Nat), (be n k).foldl (fun a b => 256 * a + b.toNat) a = a * 256 ^ k + n % 256 ^ k := by
    intro k
    induction k with
    | zero => intro a; simp [be, Nat.mod_one]
    | succ k ih =>
      intro a
      rw [be, List.foldl_cons, ih]
      have hb : (UInt8.ofNat (n / 256 ^ k % 256)).toNat = n / 256 ^ k % 256 := by simp
      rw [hb, Nat.pow_succ, Nat.mod_mul]
      rw [Nat.add_mul, Nat.mul_comm 256 a, Nat.mul_assoc, Nat.mul_comm 256 (256 ^ k), Nat.mul_comm (n / 256 ^ k % 256) (256 ^ k)]
      omega
  unfold beN
  rw [key k 0, Nat.mod_eq_of_lt h]
  omega
theorem extract_left (a b : ByteArray) : (a ++ b).extract 0 a.size = a := by
  apply ByteArray.ext
  simp [ByteArray.data_extract, ByteArray.data_append]
theorem extract_right (a b : ByteArray) : (a ++ b).extract a.size (a ++ b).size = b := by
  apply ByteArray.ext
  simp [ByteArray.data_extract, ByteArray.data_append]
  have e1 : a.data.extract a.size (a.size + b.size) = #[] := by
    apply Array.eq_empty_of_size_eq_zero
    rw [Array.size_extract, show a.size = a.data.size from rfl]
    omega
  have e2 : b.data.extract 0 b.size = b.data := by
    rw [show b.size = b.data.size from rfl]
    simp
  rw [e1, e2]
  simp
end Go.Proofs.Ytlgocioagndlbaa
