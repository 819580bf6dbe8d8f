/- The program's reader: what each of its calls returns and leaves, of a nil reader and of any other. -/
import Derived.Test.YtljedbakdlhlbaaPkPut
import Derived.Lib.SmallJoins
namespace Go.Proofs.Ytljedbakdlhlbaa.Pk
open Go.RowKit
set_option linter.unusedVariables false
set_option linter.unusedSimpArgs false
set_option maxRecDepth 100000

/-- All blocks but b are as they were; new ones may have come. -/
structure Off (b : Nat) (w w' : World) : Prop where
  os : w'.os = w.os
  tape : w'.tape = w.tape
  output : w'.output = w.output
  size : w.heap.size ≤ w'.heap.size
  block : ∀ k, k < w.heap.size → k ≠ b → w'.heap[k]? = w.heap[k]?
theorem Off.refl (b : Nat) (w : World) : Off b w w := ⟨rfl, rfl, rfl, Nat.le_refl _, fun _ _ _ => rfl⟩
theorem Off.trans {d : Nat} {a b c : World} (h : Off d a b) (k : Off d b c) : Off d a c :=
  ⟨k.os.trans h.os, k.tape.trans h.tape, k.output.trans h.output, Nat.le_trans h.size k.size, fun i hi hn => (k.block i (Nat.lt_of_lt_of_le hi h.size) hn).trans (h.block i hi hn)⟩
theorem Off.of_below {b : Nat} {w w' : World} (h : Below w.heap.size w w') : Off b w w' := ⟨h.os, h.tape, h.output, h.size, fun k hk _ => h.block k hk⟩
theorem Off.below {b B : Nat} {w w' : World} (h : Off b w w') (hb : B ≤ b) (hB : B ≤ w.heap.size) : Below B w w' :=
  ⟨h.os, h.tape, h.output, h.size, fun k hk => h.block k (Nat.lt_of_lt_of_le hk hB) (Nat.ne_of_lt (Nat.lt_of_lt_of_le hk hb))⟩
theorem Off.alloc {b : Nat} {a w : World} (h : Off b a w) (o : Obj) : Off b a (w.alloc o) :=
  h.trans (Off.of_below ((Below.refl _ _).alloc (Nat.le_refl _) o))
theorem Off.drew {b : Nat} {a w : World} (h : Off b a w) : Off b a w.drew := ⟨h.os, h.tape, h.output, h.size, h.block⟩
theorem Off.setCell {b : Nat} {a w : World} (h : Off b a w) (i : Nat) (v : Value) : Off b a (w.setCell ⟨b, i, none⟩ v) := by
  refine h.trans ⟨rfl, rfl, rfl, ?_, fun k _ hk => Below.heap_setCell w _ v k hk⟩
  simp [go_sem]

/-- A reader lies whole in block b. -/
def isRd (w : World) (b : Nat) (s : ByteArray) (e : Int) : Prop := w.heap[b]? = some (.cells #[.string s, .int .i64 e] 75)
theorem isRd.c0 {w : World} {b : Nat} {s : ByteArray} {e : Int} (h : isRd w b s e) : w.cell? ⟨b, 0, none⟩ = some (.string s) := by
  unfold isRd at h; simp [World.cell?, h]
theorem isRd.c1 {w : World} {b : Nat} {s : ByteArray} {e : Int} (h : isRd w b s e) : w.cell? ⟨b, 1, none⟩ = some (.int .i64 e) := by
  unfold isRd at h; simp [World.cell?, h]
theorem isRd.f {w : World} {b : Nat} {s : ByteArray} {e : Int} (h : isRd w b s e) (i : Nat) : w.frozen? ⟨b, i, none⟩ = false := by
  unfold isRd at h; simp [World.frozen?, h]
theorem isRd.lt {w : World} {b : Nat} {s : ByteArray} {e : Int} (h : isRd w b s e) : b < w.heap.size := by
  unfold isRd at h
  rcases Nat.lt_or_ge b w.heap.size with h' | h'
  · exact h'
  · simp [Array.getElem?_eq_none h'] at h
theorem isRd.below {w w' : World} {b : Nat} {s : ByteArray} {e : Int} (h : isRd w b s e) (hb : Below w.heap.size w w') : isRd w' b s e := (hb.block b h.lt).trans h
theorem isRd.off {w w' : World} {b c : Nat} {s : ByteArray} {e : Int} (h : isRd w b s e) (hb : Off c w w') (hn : b ≠ c) : isRd w' b s e := (hb.block b h.lt hn).trans h
theorem isRd.set0 {w : World} {b : Nat} {s : ByteArray} {e : Int} (h : isRd w b s e) (t : ByteArray) : isRd (w.setCell ⟨b, 0, none⟩ (.string t)) b t e := by
  unfold isRd at *
  rw [Joins.block_setCell h]; rfl
theorem isRd.set1 {w : World} {b : Nat} {s : ByteArray} {e : Int} (h : isRd w b s e) (x : Int) : isRd (w.setCell ⟨b, 1, none⟩ (.int .i64 x)) b s x := by
  unfold isRd at *
  rw [Joins.block_setCell h]; rfl

/-- The reader behind a fault x: what was left and its first error. -/
def rdFail (l : ByteArray) (e x : Int) : ByteArray × Int := if e = 0 then (⟨#[]⟩, x) else (l, e)
/-- What is read of n bytes, what is left, the error. -/
def rdRaw (l : ByteArray) (e n : Int) : ByteArray × ByteArray × Int :=
  if e ≠ 0 then (⟨#[]⟩, l, e) else if n < 0 then (⟨#[]⟩, ⟨#[]⟩, 1) else if (l.size : Int) < n then (⟨#[]⟩, ⟨#[]⟩, 2) else (l.extract 0 n.toNat, l.extract n.toNat l.size, 0)
theorem rdRaw_had {l : ByteArray} {e n : Int} (h : e ≠ 0) : rdRaw l e n = (⟨#[]⟩, l, e) := by simp [rdRaw, h]
theorem rdRaw_neg {l : ByteArray} {n : Int} (h : n < 0) : rdRaw l 0 n = (⟨#[]⟩, ⟨#[]⟩, 1) := by simp [rdRaw, h]
theorem rdRaw_short {l : ByteArray} {n : Int} (h : ¬ n < 0) (h2 : (l.size : Int) < n) : rdRaw l 0 n = (⟨#[]⟩, ⟨#[]⟩, 2) := by simp [rdRaw, h, h2]
theorem rdRaw_fits {l : ByteArray} {n : Int} (h : ¬ n < 0) (h2 : ¬ (l.size : Int) < n) : rdRaw l 0 n = (l.extract 0 n.toNat, l.extract n.toNat l.size, 0) := by simp [rdRaw, h, h2]
def beN (l : List UInt8) : Nat := l.foldl (fun a b => 256 * a + b.toNat) 0
/-- The number that is read of k bytes, what is left, the error. -/
def rdNumSt (l : ByteArray) (e k : Int) : ByteArray × Int := if k < 1 ∨ 6 < k then rdFail l e 1 else (l, e)
def rdNum (l : ByteArray) (e k : Int) : Nat × ByteArray × Int :=
  (beN (rdRaw (rdNumSt l e k).1 (rdNumSt l e k).2 k).1.data.toList, (rdRaw (rdNumSt l e k).1 (rdNumSt l e k).2 k).2)
def rdTextSt (l : ByteArray) (e m : Int) : ByteArray × Int := if m < (rdNum l e 2).1 then rdFail (rdNum l e 2).2.1 (rdNum l e 2).2.2 3 else (rdNum l e 2).2
def rdText (l : ByteArray) (e m : Int) : ByteArray × ByteArray × Int := rdRaw (rdTextSt l e m).1 (rdTextSt l e m).2 (rdNum l e 2).1
def rdEnd (l : ByteArray) (e : Int) : ByteArray × Int := if 0 < l.size then rdFail l e 4 else (l, e)

theorem Left_nil (w : World) : Calls Try.prog 45 #[.pointer none] w fun e w' => e = .returned (.int .i64 0) ∧ w' = w := by
  go_enter Try.func45, Try.ntmps45
  go_wp2
  go_ret
  exact ⟨rfl, rfl⟩
theorem Err_nil (w : World) : Calls Try.prog 44 #[.pointer none] w fun e w' => e = .returned (.int .i64 11) ∧ w' = w := by
  go_enter Try.func44, Try.ntmps44
  go_wp2
  go_ret
  exact ⟨rfl, rfl⟩
theorem fail_nil (x : Int) (w : World) : Calls Try.prog 35 #[.pointer none, .int .i64 x] w fun e w' => e = .returned (.tuple #[]) ∧ w' = w := by
  go_enter Try.func35, Try.ntmps35
  go_wp2_with (go_at_call 44; refine (Err_nil _).mono ?_; rintro e w' ⟨rfl, rfl⟩)
  go_end0
  exact ⟨rfl, rfl⟩
theorem Left_any (b : Nat) (s : ByteArray) (e : Int) (w : World) (hs : s.size ≤ 140737488351232) (h : isRd w b s e) : Calls Try.prog 45 #[.pointer (some ⟨b, 0, none⟩)] w fun e w' => e = .returned (.int .i64 s.size) ∧ w' = w := by
  have hc0 := h.c0
  go_enter Try.func45, Try.ntmps45
  go_wp2
  go_ret
  exact ⟨rfl, rfl⟩
theorem Err_any (b : Nat) (s : ByteArray) (e : Int) (w : World) (h : isRd w b s e) : Calls Try.prog 44 #[.pointer (some ⟨b, 0, none⟩)] w fun r w' => r = .returned (.int .i64 e) ∧ w' = w := by
  have hc1 := h.c1
  go_enter Try.func44, Try.ntmps44
  go_wp2
  go_ret
  exact ⟨rfl, rfl⟩
theorem fail_had (b : Nat) (s : ByteArray) (e x : Int) (w : World) (h : isRd w b s e) (he : e ≠ 0) : Calls Try.prog 35 #[.pointer (some ⟨b, 0, none⟩), .int .i64 x] w fun e w' => e = .returned (.tuple #[]) ∧ w' = w := by
  have he' : (e == 0) = false := by simpa using he
  go_enter Try.func35, Try.ntmps35
  go_wp2_with (go_at_call 44; refine (Err_any b s e _ h).mono ?_; rintro e w' ⟨rfl, rfl⟩)
  go_end0
  exact ⟨rfl, rfl⟩
theorem fail_new (b : Nat) (s : ByteArray) (x : Int) (w : World) (h : isRd w b s 0) : Calls Try.prog 35 #[.pointer (some ⟨b, 0, none⟩), .int .i64 x] w fun e w' => e = .returned (.tuple #[]) ∧ isRd w' b ⟨#[]⟩ x ∧ Off b w w' := by
  have hc0 := h.c0
  have hc1 := h.c1
  have hf := h.f
  go_enter Try.func35, Try.ntmps35
  go_wp2_with (go_at_call 44; refine (Err_any b s 0 _ h).mono ?_; rintro e w' ⟨rfl, rfl⟩)
  go_end0
  exact ⟨rfl, (h.set0 _).set1 _, ((Off.refl _ _).setCell _ _).setCell _ _⟩
theorem fail_any (b : Nat) (s : ByteArray) (e x : Int) (w : World) (h : isRd w b s e) : Calls Try.prog 35 #[.pointer (some ⟨b, 0, none⟩), .int .i64 x] w fun r w' => r = .returned (.tuple #[]) ∧ isRd w' b (rdFail s e x).1 (rdFail s e x).2 ∧ Off b w w' := by
  by_cases he : e = 0
  · subst he
    exact fail_new b s x w h
  · simp only [rdFail, he, if_false]
    refine (fail_had b s e x w h he).mono ?_
    rintro r w' ⟨rfl, rfl⟩
    exact ⟨rfl, h, Off.refl _ _⟩

theorem Raw_nil (n : Int) (w : World) : Calls Try.prog 36 #[.pointer none, .int .i64 n] w fun e w' => e = .returned (.string ⟨#[]⟩) ∧ w' = w := by
  go_enter Try.func36, Try.ntmps36
  go_wp2_with (first | (go_at_call 44; refine (Err_nil _).mono ?_; rintro e w' ⟨rfl, rfl⟩) | (go_at_call 45; refine (Left_nil _).mono ?_; rintro e w' ⟨rfl, rfl⟩) | (go_at_call 35; refine (fail_nil _ _).mono ?_; rintro e w' ⟨rfl, rfl⟩))
  all_goals (go_ret; exact ⟨rfl, rfl⟩)
theorem Num_nil (n : Int) (w : World) : Calls Try.prog 34 #[.pointer none, .int .i64 n] w fun e w' => e = .returned (.int .i64 0) ∧ Below w.heap.size w w' := by
  have hcv := fun w => run_bytes_of_string (P := Try.prog) w 9 67 5 ⟨#[]⟩ Try.underlying9 Try.underlying67 Try.underlying5
  go_enter Try.func34, Try.ntmps34
  go_wp2_with (first | (go_at_call 43; refine (isWidth_any _ _).mono ?_; rintro e w' ⟨rfl, rfl⟩) | (go_at_call 36; refine (Raw_nil _ _).mono ?_; rintro e w' ⟨rfl, rfl⟩) | (go_at_call 35; refine (fail_nil _ _).mono ?_; rintro e w' ⟨rfl, rfl⟩))
  all_goals
    refine wp_loop_rounds 1 ?_
    rw [rounds_succ]
    go_wp2
    go_ret
    exact ⟨rfl, ((Below.refl _ _).alloc (Nat.le_refl _) _).drew⟩
theorem Text_nil (n : Int) (w : World) : Calls Try.prog 24 #[.pointer none, .int .i64 n] w fun e w' => e = .returned (.string ⟨#[]⟩) ∧ Below w.heap.size w w' := by
  go_enter Try.func24, Try.ntmps24
  go_wp2_with (first | (go_at_call 34; refine (Num_nil _ _).mono ?_; rintro e w1 ⟨rfl, hb⟩) | (go_at_call 36; refine (Raw_nil _ _).mono ?_; rintro e w' ⟨rfl, rfl⟩) | (go_at_call 35; refine (fail_nil _ _).mono ?_; rintro e w' ⟨rfl, rfl⟩))
  all_goals (go_ret; exact ⟨rfl, hb⟩)

set_option maxHeartbeats 1000000 in
theorem Raw_any (b : Nat) (l : ByteArray) (e n : Int) (w : World) (hs : l.size ≤ 140737488351232) (h : isRd w b l e) :
    Calls Try.prog 36 #[.pointer (some ⟨b, 0, none⟩), .int .i64 n] w fun r w' => r = .returned (.string (rdRaw l e n).1) ∧ isRd w' b (rdRaw l e n).2.1 (rdRaw l e n).2.2 ∧ Off b w w' := by
  by_cases he : e = 0
  · subst he
    by_cases hn : n < 0
    · rw [rdRaw_neg hn]
      go_enter Try.func36, Try.ntmps36
      go_wp2_with (first | (go_at_call 35; refine (fail_new b l _ _ h).mono ?_; rintro e w1 ⟨rfl, h1, o1⟩) | (go_at_call 44; refine (Err_any b _ _ _ h1).mono ?_; rintro e w' ⟨rfl, rfl⟩))
      go_ret
      exact ⟨rfl, h1, o1⟩
    · by_cases hl : (l.size : Int) < n
      · rw [rdRaw_short hn hl]
        go_enter Try.func36, Try.ntmps36
        go_wp2_with (first | (go_at_call 45; refine (Left_any b _ _ _ hs h).mono ?_; rintro e w' ⟨rfl, rfl⟩) | (go_at_call 35; refine (fail_new b l _ _ h).mono ?_; rintro e w1 ⟨rfl, h1, o1⟩) | (go_at_call 44; refine (Err_any b _ _ _ h1).mono ?_; rintro e w' ⟨rfl, rfl⟩))
        go_ret
        exact ⟨rfl, h1, o1⟩
      · rw [rdRaw_fits hn hl]
        obtain ⟨m, rfl⟩ : ∃ m : Nat, n = m := ⟨n.toNat, by omega⟩
        have hm : m ≤ l.size := by omega
        have hc0 := h.c0
        have hf := h.f
        rw [Int.toNat_natCast]
        go_enter Try.func36, Try.ntmps36
        go_wp2_with (first | (go_at_call 45; refine (Left_any b _ _ _ hs h).mono ?_; rintro e w' ⟨rfl, rfl⟩) | (go_at_call 44; refine (Err_any b _ _ _ h).mono ?_; rintro e w' ⟨rfl, rfl⟩))
        go_ret
        exact ⟨rfl, h.set0 _, (Off.refl _ _).setCell _ _⟩
  · rw [rdRaw_had he]
    have he' : (e != 0) = true := by simpa using he
    go_enter Try.func36, Try.ntmps36
    go_wp2_with (first | (go_at_call 45; refine (Left_any b _ _ _ hs h).mono ?_; rintro e w' ⟨rfl, rfl⟩) | (go_at_call 35; refine (fail_had b l _ _ _ h he).mono ?_; rintro e w1 ⟨rfl, rfl⟩) | (go_at_call 44; refine (Err_any b _ _ _ h).mono ?_; rintro e w' ⟨rfl, rfl⟩))
    all_goals (go_ret; exact ⟨rfl, h, Off.refl _ _⟩)
end Go.Proofs.Ytljedbakdlhlbaa.Pk
