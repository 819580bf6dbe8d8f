/- The disk's calls New, Read, Start, Arm, Calm; the law's whole. -/
import Derived.Test.YtljedbakdlhlbaaDkLeaf
namespace Go.Proofs.Ytljedbakdlhlbaa
open Go.RowKit Go.Maps Go.ChangeMaps
set_option linter.unusedVariables false
set_option linter.unusedSimpArgs false
set_option maxRecDepth 100000

variable {w w' : World} {db lb mb m : Nat} {S : Dk}

theorem madeSec (n : Nat) (i j : Nat) (hi : i < n) (hj : j < 64) : (madeCells (secL zs64).toArray (n * 64))[i * 64 + j]? = (secL zs64)[j]? := by
  have hz : (secL zs64).length = 64 := by rw [secL_length, zs64_size]
  have hl : i * 64 + j < n * 64 := by omega
  have hm : (i * 64 + j) % 64 = j := by omega
  simp [madeCells, hl, hz, hm]
  rw [List.getElem?_eq_getElem (by omega)]
  simp [getElem!_def, List.getElem?_eq_getElem (show j < (secL zs64).length by omega)]
theorem run_make64 (n : Nat) (hn : n ≤ 8192) (w : World) : (Instr.makeSlice 49 (.int .i64 (n : Int)) (.int .i64 (n : Int))).run Try.prog w = .ok (.slice (some ⟨w.heap.size, 0, none⟩) n n) (w.alloc (.cells (madeCells (secL zs64).toArray (n * 64)) 65)) := by
  obtain ⟨i, hi, hz⟩ := Option.map_eq_some_iff.1 (show (Try.prog.info? 65).map (fun i => (i.zero, i.size, i.bytes)) = some (some (secV zs64), 64, 64) by kernel_rfl)
  simp only [Prod.mk.injEq] at hz
  obtain ⟨h1, h2, h3⟩ := hz
  have := run_make (P := Try.prog) w 49 65 i (secV zs64) Try.underlying49 hi h1 .i64 .i64 n n (by omega) (Int.le_refl _) (by rw [h3]; omega) (by omega)
  rw [h2] at this
  simpa [secV, Value.cells] using this
/-- A new disk. -/
def newDk (n : Nat) : Dk := ⟨n, fun _ => zs64, fun _ => none, true, false, 0, 0, 0, 0⟩
theorem newDk_ok {n : Nat} (h1 : 1 ≤ n) (h2 : n ≤ 8192) : (newDk n).Ok := ⟨h1, h2, fun i c h => (by cases h), by simp [newDk], by simp [newDk], by simp [newDk], by simp [newDk], by simp [newDk], by simp [newDk], by simp [newDk], by simp [newDk]⟩
theorem New_bad (i : Int) (h : i < 1 ∨ 8192 < i) (w : World) : Calls Try.prog 8 #[.int .i64 i] w fun e w' => e = .returned (.tuple #[.pointer none, .int .i64 1]) ∧ w' = w := by
  by_cases h1 : i < 1
  · go_enter Try.func8, Try.ntmps8
    go_wp2
    go_ret2
    exact ⟨rfl, rfl⟩
  · have h2 : 8192 < i := by omega
    go_enter Try.func8, Try.ntmps8
    go_wp2
    go_ret2
    exact ⟨rfl, rfl⟩
theorem New_any (n : Nat) (h1 : 1 ≤ n) (h2 : n ≤ 8192) (w : World) : Calls Try.prog 8 #[.int .i64 (n : Int)] w fun e w' => e = .returned (.tuple #[.pointer (some ⟨w.heap.size + 2, 0, none⟩), .int .i64 0]) ∧ DkIs w' (w.heap.size + 2) w.heap.size (w.heap.size + 1) 0 (newDk n) ∧ Below w.heap.size w w' := by
  have hmm := @run_makeMap Try.prog
  have hmk := run_make64 n h2
  obtain ⟨M, hM⟩ : ∃ M, M = madeCells (secL zs64).toArray (n * 64) := ⟨_, rfl⟩
  rw [← hM] at hmk
  have HM : Hid _ := hM
  clear hM
  have i1 : ¬ (n : Int) < 1 := by omega
  have i2 : ¬ (8192 : Int) < (n : Int) := by omega
  go_enter Try.func8, Try.ntmps8
  go_wp2
  go_ret2
  have bel : Below w.heap.size w (((w.alloc (.cells M 65)).alloc (.map #[] 0)).alloc (.cells ((newDk n).cells w.heap.size (w.heap.size + 1)) 54)) :=
    (((Below.refl _ _).alloc (Nat.le_refl _) _).alloc (by simp) _).alloc (by simp; omega) _
  refine ⟨rfl, (?_ : DkIs (((w.alloc (.cells M 65)).alloc (.map #[] 0)).alloc (.cells ((newDk n).cells w.heap.size (w.heap.size + 1)) 54)) _ _ _ _ _), bel⟩
  have z1 : (w.alloc (.cells M 65)).heap.size = w.heap.size + 1 := by simp
  have z2 : ((w.alloc (.cells M 65)).alloc (.map #[] 0)).heap.size = w.heap.size + 2 := by simp
  have b1 : (((w.alloc (.cells M 65)).alloc (.map #[] 0)).alloc (.cells ((newDk n).cells w.heap.size (w.heap.size + 1)) 54)).heap[w.heap.size]? = some (.cells M 65) := by
    rw [Below.heap_alloc _ _ _ (by omega), Below.heap_alloc _ _ _ (by omega)]; exact (MapKept.heap_alloc w _).1
  refine ⟨?_, ?_, ?_, ?_⟩
  · rw [← z2]; exact (MapKept.heap_alloc _ _).1
  · refine ⟨by simp; omega, fun i hi j v hv => ?_, fun i hi j hj => ⟨?_, by simp [World.frozen?, b1]⟩, fun i hi => zs64_size, _, _, b1⟩
    · have hj : j < 64 := by have := (List.getElem?_eq_some_iff.1 hv).1; rw [secL_length] at this; exact this
      rw [Joins.cell_of_block b1, HM.out, madeSec n i j hi hj]; exact hv
    · rw [Joins.cell_of_block b1, HM.out, madeSec n i j hi hj, List.getElem?_eq_getElem (by rw [secL_length, zs64_size]; exact hj)]; rfl
  · have := MapIs.made (w.alloc (.cells M 65))
    rw [z1] at this
    exact this.of_block (Below.heap_alloc _ _ _ (by omega))
  · omega

theorem Start_any (w : World) (h : DkIs w db lb mb m S) (hn : 1 ≤ S.n) : Calls Try.prog 17 #[.pointer (some ⟨db, 0, none⟩)] w fun e w' => e = .returned (.int .i64 (if S.up then 19 else 0)) ∧ DkIs w' db lb mb m { S with up := true } ∧ Off (disk3 db lb mb) w w' := by
  have hc := h.c2
  have hf := h.f
  have H : Hid _ := h
  clear h
  cases hu : S.up
  · rw [hu] at hc
    go_enter Try.func17, Try.ntmps17
    go_wp2_with (go_at_call 26; refine (isMade_any _ H.out hn).mono ?_; rintro e w' ⟨rfl, rfl⟩)
    go_ret
    exact ⟨rfl, H.out.setC 2 _ _ rfl rfl rfl rfl, (Off.refl _ _).setCell (d3a _ _ _) _ _⟩
  · rw [hu] at hc
    go_enter Try.func17, Try.ntmps17
    go_wp2_with (go_at_call 26; refine (isMade_any _ H.out hn).mono ?_; rintro e w' ⟨rfl, rfl⟩)
    go_ret
    have e1 : { S with up := true } = S := by rw [← hu]
    exact ⟨rfl, by rw [e1]; exact H.out, Off.refl _ _⟩
def armE (up : Bool) (acts : Int) : Int := if up then (if acts < 0 then 1 else 0) else 9
def armDk (S : Dk) (acts keep : Int) : Dk := if S.up ∧ ¬ acts < 0 then { S with set := true, left := acts, keep := keep } else S
theorem Arm_any (w : World) (h : DkIs w db lb mb m S) (hn : 1 ≤ S.n) (i k : Int) : Calls Try.prog 16 #[.pointer (some ⟨db, 0, none⟩), .int .i64 i, .int .u64 k] w fun e w' => e = .returned (.int .i64 (armE S.up i)) ∧ DkIs w' db lb mb m (armDk S i k) ∧ Off (disk3 db lb mb) w w' := by
  have hf := h.f
  have hc3 := h.c3
  have hc4 := h.c4
  have hc5 := h.c5
  have C : Hid (∀ w, DkIs w db lb mb m S → Calls Try.prog 30 #[.pointer (some ⟨db, 0, none⟩)] w fun e w' => e = .returned (.int .i64 (refI S.up)) ∧ w' = w) := fun w h => refusal_any w h hn
  have H : Hid _ := h
  clear h
  cases hu : S.up
  · have e0 : refI false = 9 := rfl
    rw [hu, e0] at C
    go_enter Try.func16, Try.ntmps16
    go_wp2_with (go_at_call 30; refine (C.out _ H.out).mono ?_; rintro e w' ⟨rfl, rfl⟩)
    go_ret
    exact ⟨rfl, by simp [armDk, hu]; exact H.out, Off.refl _ _⟩
  · have e0 : refI true = 0 := rfl
    rw [hu, e0] at C
    by_cases hi : i < 0
    · go_enter Try.func16, Try.ntmps16
      go_wp2_with (go_at_call 30; refine (C.out _ H.out).mono ?_; rintro e w' ⟨rfl, rfl⟩)
      go_ret
      exact ⟨by simp [armE, hi], by simp [armDk, hi]; exact H.out, Off.refl _ _⟩
    · go_enter Try.func16, Try.ntmps16
      go_wp2_with (go_at_call 30; refine (C.out _ H.out).mono ?_; rintro e w' ⟨rfl, rfl⟩)
      go_ret
      refine ⟨by simp [armE, hi], ?_, (((Off.refl _ _).setCell (d3a _ _ _) _ _).setCell (d3a _ _ _) _ _).setCell (d3a _ _ _) _ _⟩
      have e2 : armDk S i k = { S with set := true, left := i, keep := k } := by simp [armDk, hi, hu]
      rw [e2]
      exact ((H.out.setC 3 (.bool true) { S with set := true } rfl rfl rfl rfl).setC 4 (.int .i64 i) { S with set := true, left := i } rfl rfl rfl rfl).setC 5 _ _ rfl rfl rfl rfl
end Go.Proofs.Ytljedbakdlhlbaa
