/- The disk's Read and Write, where nothing lets the power go. -/
import Derived.Test.YtljedbakdlhlbaaDkOps
import Derived.Deep.RegionHeldLaw
import Derived.Deep.WholeRow
namespace Go.Proofs.Ytljedbakdlhlbaa
open Go.RowKit Go.Maps Go.ChangeMaps
set_option linter.unusedVariables false
set_option linter.unusedSimpArgs false
set_option maxRecDepth 100000

variable {w w' : World} {db lb mb m : Nat} {S : Dk}

theorem wpList_alloc64 {ops : Array Oper} {rest : List Oper} {o : Oper} {a : Act} {Q : Exit → Act → World → Prop} (w : World) (hg : o.guard = none) (hop : o.op = Op.alloc 65)
    (h : wpList Try.prog ops Q rest (a.put o.dst (.pointer (some ⟨w.heap.size, 0, none⟩))) (w.alloc (.cells (secL zs64).toArray 65))) : wpList Try.prog ops Q (o :: rest) a w := by
  refine wpList_plain hg fun K' hK' => ?_
  unfold Oper.wp
  simp [execOp, hop, Instr.alloc, zero64, Result.andThen, secV, Value.cells]
  exact hK' _ _ h
theorem wpList_store_new64 {ops : Array Oper} {rest : List Oper} {o : Oper} {a : Act} {Q : Exit → Act → World → Prop} (w : World) (C : Array Value) (hg : o.guard = none) (x y : Operand) (hop : o.op = Op.store 65 x y)
    (hx : a.eval x = .pointer (some ⟨w.heap.size, 0, none⟩)) (c : ByteArray) (hy : a.eval y = secV c) (hc : c.size = 64) (hC : C.size = 64)
    (h : wpList Try.prog ops Q rest (a.put o.dst undef) (w.alloc (.cells (secL c).toArray 65))) : wpList Try.prog ops Q (o :: rest) a (w.alloc (.cells C 65)) := by
  refine wpList_plain hg fun K' hK' => ?_
  have hs : (secL c).toArray.size = 64 := by simp [secL_length, hc]
  have hrun := run_storeAt_new (P := Try.prog) w 65 C (secL c).toArray (by rw [hs]; exact info64) (by rw [hC, hs]) (all_oneCell_toArray (secL_one c))
  unfold Oper.wp
  simp [execOp, hop, hx, hy, secV, hrun, Result.andThen]
  exact hK' _ _ h
theorem wpList_load64 {ops : Array Oper} {rest : List Oper} {o : Oper} {a : Act} {Q : Exit → Act → World → Prop} (w : World) (hg : o.guard = none) (x : Operand) (hop : o.op = Op.load 65 x)
    (b of : Nat) (hx : a.eval x = .pointer (some ⟨b, of, none⟩)) (c : ByteArray) (hc : c.size = 64) (hr : w.rangeAt b of (secL c))
    (h : wpList Try.prog ops Q rest (a.put o.dst (secV c)) w) : wpList Try.prog ops Q (o :: rest) a w :=
  wpList_load_mid hg 65 x hop b of hx (secL c) _ hr row64 rfl (by rw [secL_length, hc]; exact info64) h
/-- What a read gives. -/
def Dk.now (S : Dk) (i : Nat) : ByteArray := (S.wait i).getD (S.sure i)
theorem zsz : (secL zs64).toArray.size = 64 := by simp [secL_length, zs64_size]
theorem conv64 {w : World} {b : Nat} {c : ByteArray} (hc : c.size = 64) (h : w.rangeAt b 0 (secL c)) : (convert 67 9 (.slice (some ⟨b, 0, none⟩) 64 64)).run Try.prog w = .ok (.string c) w := by
  have := Lib.run_convert_whole (P := Try.prog) w 67 5 9 Try.underlying67 Try.underlying5 Try.underlying9 b 0 c (fun i hi => by
    have := h i _ (secL_get c i hi)
    simpa using this) 64
  rw [hc] at this
  exact this
theorem rangeAt_new (w : World) (c : ByteArray) : (w.alloc (.cells (secL c).toArray 65)).rangeAt w.heap.size 0 (secL c) := fun j v hv => by
  rw [Joins.cell_of_block (MapKept.heap_alloc w _).1]; simpa using hv

set_option maxHeartbeats 1000000 in
theorem Read_any (w : World) (h : DkIs w db lb mb m S) (hS : S.Ok) (i : Nat) (hi : i < S.n) (hu : S.up = true) : Calls Try.prog 14 #[.pointer (some ⟨db, 0, none⟩), .int .i64 (i : Int)] w fun e w' => e = .returned (.tuple #[.string (S.now i), .int .i64 0]) ∧ Below w.heap.size w w' := by
  have hc0 := h.c0
  have hc1 := h.c1
  have C : Hid (∀ w, DkIs w db lb mb m S → Calls Try.prog 28 #[.pointer (some ⟨db, 0, none⟩), .int .i64 (i : Int)] w fun e w' => e = .returned (.int .i64 0) ∧ w' = w) := fun w h => by
    have := refusalAt_any w h hS.n1 (i : Int)
    have e : refAt S.up S.n i = 0 := by simp [refAt, hu]; omega
    rwa [e] at this
  have hlk := h.map.look (show i < 8192 by have := hS.n2; omega)
  have hrow := h.row.at_ i hi
  have hsz := h.row.size i hi
  have hws := hS.wait i
  have H : Hid _ := h
  clear h
  obtain ⟨s, hs⟩ : ∃ s, s = S.sure i := ⟨_, rfl⟩
  have hnow : S.now i = (S.wait i).getD s := by rw [hs]; rfl
  rw [hnow]
  rw [← hs] at hrow hsz
  clear hs hnow
  have hlt := H.out.row.lt
  have hn2 := hS.n2
  cases hw : S.wait i with
  | some c =>
    rw [hw] at hlk
    have hcz := (hws c hw).2
    clear hws hrow
    simp only [Option.getD_some, Option.isSome_some] at hlk ⊢
    have hcv := conv64 hcz (rangeAt_new w c)
    go_enter Try.func14, Try.ntmps14
    go_wp2_with (first | (go_at_call 28; refine (C.out _ H.out).mono ?_; rintro e w' ⟨rfl, rfl⟩) | (refine wpList_alloc64 _ rfl rfl ?_) | (refine wpList_store_new64 _ _ rfl _ _ rfl rfl c rfl hcz zsz ?_))
    go_ret2
    exact ⟨rfl, (Below.refl _ _).alloc (Nat.le_refl _) _⟩
  | none =>
    rw [hw] at hlk
    clear hws
    simp only [Option.getD_none, Option.isSome_none] at hlk ⊢
    have hcv := conv64 hsz (rangeAt_new w s)
    have hrow' := fun o => World.rangeAt_alloc hrow o
    have hiI : (i : Int) < (S.n : Int) := by omega
    have hdl := H.out.lt
    have hc0' : ∀ o, (w.alloc o).cell? ⟨db, 0, none⟩ = some (.slice (some ⟨lb, 0, none⟩) S.n S.n) := fun o => by rw [World.cell?_alloc_lt _ _ _ hdl]; exact hc0
    go_enter Try.func14, Try.ntmps14
    go_wp2_with (first | (go_at_call 28; refine (C.out _ H.out).mono ?_; rintro e w' ⟨rfl, rfl⟩) | (refine wpList_alloc64 _ rfl rfl ?_) | (refine wpList_store_new64 _ _ rfl _ _ rfl rfl zs64 rfl zs64_size zsz ?_) | (refine wpList_store_new64 _ _ rfl _ _ rfl rfl s rfl hsz zsz ?_) | (refine wpList_load64 _ rfl _ rfl lb (i * 64) rfl s hsz (hrow' _) ?_))
    go_ret2
    exact ⟨rfl, (Below.refl _ _).alloc (Nat.le_refl _) _⟩
theorem Read_ref (w : World) (h : DkIs w db lb mb m S) (hn : 1 ≤ S.n) (i : Int) (x : Int) (he : refAt S.up S.n i = x) (hx : x ≠ 0) : Calls Try.prog 14 #[.pointer (some ⟨db, 0, none⟩), .int .i64 i] w fun e w' => e = .returned (.tuple #[.string ⟨#[]⟩, .int .i64 x]) ∧ w' = w := by
  have C : Hid (∀ w, DkIs w db lb mb m S → Calls Try.prog 28 #[.pointer (some ⟨db, 0, none⟩), .int .i64 i] w fun e w' => e = .returned (.int .i64 x) ∧ w' = w) := fun w h => by
    have := refusalAt_any w h hn i
    rwa [he] at this
  have H : Hid _ := h
  have hx' : (x == 0) = false := by simpa using hx
  clear h he
  go_enter Try.func14, Try.ntmps14
  go_wp2_with (go_at_call 28; refine (C.out _ H.out).mono ?_; rintro e w' ⟨rfl, rfl⟩)
  go_ret2
  exact ⟨rfl, rfl⟩
end Go.Proofs.Ytljedbakdlhlbaa
