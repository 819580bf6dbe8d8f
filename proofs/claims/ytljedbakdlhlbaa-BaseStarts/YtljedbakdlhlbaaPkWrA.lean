/- The program's writer: what All returns of any writer that is not nil. -/
import Derived.Test.YtljedbakdlhlbaaPkWr
import Derived.Lib.BufferWrite
import Derived.Lib.LazyBuf
import Derived.Lib.SlBytesRow
import Derived.Deep.OwnRows
import Derived.Deep.RegionHeldLaw
namespace Go.Proofs.Ytljedbakdlhlbaa.Pk
open Go.RowKit
set_option linter.unusedVariables false
set_option linter.unusedSimpArgs false
set_option maxRecDepth 100000

theorem step_copy_row {P : Program} {ops : Array Oper} {o : Oper} {a : Act} {w : World} {K : Act → World → Prop} {Q : Exit → Act → World → Prop} {E : Prop}
    (hg : o.guard = none) (d x : Operand) (dT sT : TypeId) (hop : o.op = Op.call { callee := Callee.builtin Builtin.copy, args := #[d, x], argTypes := #[dT, sT] })
    (elem : TypeId) (hu : P.underlying dT = some (.slice elem)) (hs : (P.info? elem).map (·.size) = some 1)
    (g off dLen dCap : Nat) (hd : a.eval d = .slice (some ⟨g, off, none⟩) dLen dCap) (t : ByteArray) (hx : a.eval x = .string t) (cur : Array Value) (ty : TypeId)
    (hgk : w.heap[g]? = some (.cells cur ty (0, 0))) (hle : t.size ≤ dLen) (hfit : off + t.size ≤ cur.size)
    (R : Array Value) (hR : R = (cur.toList.take off ++ Lib.byteCells t.data.toList ++ cur.toList.drop (off + t.size)).toArray)
    (hK : K (a.put o.dst (goInt t.size)) (w.setRow g R)) :
    if Region.wanted o (yielded ops a.tmps) = true then Oper.wp P o a w K Q else E := by
  subst hR
  have hw : Region.wanted o (yielded ops a.tmps) = true := by simp [Region.wanted, hg]
  rw [if_pos hw]
  have hrun := Lib.run_copy_row_string (P := P) w dT sT o.type elem g off dLen dCap t cur ty hu hs hgk hle hfit
  unfold Oper.wp
  simp [execOp, hop, resolve, invoke, builtin, hd, hx, hrun, Result.andThen]
  rw [List.append_assoc] at hK
  exact hK

set_option maxHeartbeats 1000000 in
theorem All_any (b : Nat) (all : ByteArray) (w : World) (h : WrIs w b all 0) (hsz : all.size ≤ 140737488351232) :
    Calls Try.prog 33 #[.pointer (some ⟨b, 0, none⟩)] w fun r w' => r = .returned (.tuple #[.string all, .int .i64 0]) ∧ Below w.heap.size w w' := by
  obtain ⟨p, l, h1, h2, h3⟩ := h
  have H3 : Hid _ := h3
  clear h3
  have hc0 := h1.c0
  have hc1 := h1.c1
  have hc2 := h1.c2
  have hlt := h1.lt
  have hmk : ∀ w, (Instr.makeSlice 67 (.int .i64 (all.size : Int)) (.int .i64 (all.size : Int))).run Try.prog w = .ok (.slice (some ⟨w.heap.size, 0, none⟩) all.size all.size) (w.alloc (.cells (madeCells #[.int .u8 0] all.size) 5)) :=
    fun w => run_make_row' 67 5 (.int .u8 0) 1 Try.underlying67 (by kernel_rfl) rfl .i64 .i64 all.size (by omega) (by omega) w
  go_enter Try.func33, Try.ntmps33
  go_wp2
  go_loopw [5, 6] (fun en pp wr => ∃ (r : List ByteArray) (q : Option Addr) (C : Array Value) (suf : ByteArray), pp = .pointer q ∧ Chain b w q r ∧ en = .int .i64 (joinR r).size ∧ wr.heap[w.heap.size]? = some (.cells C 5) ∧ C.size = all.size ∧ Hid (joinR r ++ suf = all) ∧ C.toList.drop (joinR r).size = Lib.byteCells suf.data.toList ∧ Below w.heap.size w wr) (fun en _ _ => (intOf en).toNat)
  case atStart =>
    refine ⟨l, p, _, ⟨#[]⟩, rfl, h2, by rw [H3.out], (MapKept.heap_alloc w _).1, size_madeCells _ _, ?_, ?_, (Below.refl _ _).alloc (Nat.le_refl _) _⟩
    · show joinR l ++ ⟨#[]⟩ = all
      rw [H3.out]; apply ByteArray.ext; simp [ByteArray.data_append]
    · rw [H3.out, List.drop_of_length_le (by simp [size_madeCells])]; rfl
  case round =>
    obtain ⟨r, q, C, suf, rfl, hch, rfl, hC, hCz, hall, hdrop, hbel⟩ := hrel
    cases r with
    | nil =>
      have hq : q = none := hch
      subst hq
      have hn0 : (joinR []).size = 0 := rfl
      have hcv : (convert 67 9 (.slice (some ⟨w.heap.size, 0, none⟩) all.size all.size)).run Try.prog wr = .ok (.string all) wr := by
        refine Lib.run_convert_whole (P := Try.prog) wr 67 5 9 Try.underlying67 Try.underlying5 Try.underlying9 w.heap.size 0 all (fun i hi => ?_) all.size
        have hsuf : suf = all := by rw [← hall.out]; apply ByteArray.ext; simp [joinR, ByteArray.data_append]
        rw [hsuf, hn0, List.drop_zero] at hdrop
        have hCi : C = (Lib.byteCells all.data.toList).toArray := by rw [← hdrop]
        rw [Joins.cell_of_block hC, hCi]
        have hi' : i < all.data.size := hi
        simp [Lib.byteCells]
        exact ⟨_, Array.getElem?_eq_getElem hi', rfl⟩
      go_wp2
      go_ret2
      exact ⟨rfl, hbel⟩
    | cons t r =>
      obtain ⟨c, p', rfl, hcb, hcl, hch0, ht, hch'⟩ := hch
      have hJ : (joinR (t :: r)).size = (joinR r).size + t.size := by rw [joinR, ByteArray.size_append]
      have hN : (joinR r).size + t.size ≤ all.size := by
        have := congrArg ByteArray.size hall.out
        rw [ByteArray.size_append, hJ] at this
        omega
      have hcw := (hbel.block c hcl).trans hch0
      have hk0 : wr.cell? ⟨c, 0, none⟩ = some (.pointer p') := by simp [World.cell?, hcw]
      have hk1 : wr.cell? ⟨c, 1, none⟩ = some (.string t) := by simp [World.cell?, hcw]
      rw [hJ]
      generalize hn : (joinR r).size = n at *
      have hn1 : (n : Int) < (all.size : Int) := by omega
      have HJ : Hid _ := hJ
      have HN : Hid _ := hn
      clear hJ hn
      rw [Int.natCast_add]
      have ht1 : (t.size : Int) ≤ (all.size : Int) := by omega
      have hi5 : (Try.prog.info? 5).map (·.size) = some 1 := by kernel_rfl
      have hle : t.size ≤ all.size - n := by omega
      have hfit : n + t.size ≤ C.size := by omega
      obtain ⟨R, hR⟩ : ∃ R, R = (C.toList.take n ++ Lib.byteCells t.data.toList ++ C.toList.drop (n + t.size)).toArray := ⟨_, rfl⟩
      have HR : Hid _ := hR
      clear hR
      go_wp2
      go_region_held_law (fun w' => w'.cell? ⟨c, 1, none⟩ = some (.string t)) (first | exact (cell_setRow_other _ _ _ _ (Nat.ne_of_lt hcl)).trans hk1 | go_keep) (first | (refine step_copy_row rfl (.tmp 46) (.tmp 50) 67 9 rfl 5 Try.underlying67 hi5 w.heap.size n (all.size - n) (all.size - n) ?_ t ?_ C 5 ?_ hle hfit R HR.out ?_; simp [Act.eval, Act.put]; simp [Act.eval, Act.put]; exact hC))
      have hk0' : (wr.drew.setRow w.heap.size R).cell? ⟨c, 0, none⟩ = some (.pointer p') := (cell_setRow_other _ _ _ _ (Nat.ne_of_lt hcl)).trans hk0
      go_wp2
      go_roundw
      case rel =>
        refine ⟨r, p', R, t ++ suf, rfl, hch', by rw [HN.out], setRow_heap _ _ C R 5 _ hC, ?_, ?_, ?_, (hbel.drew.trans ⟨rfl, rfl, rfl, by simp, fun k hk => setRow_other _ _ _ _ (Nat.ne_of_lt hk)⟩)⟩
        · rw [HR.out]; simp [Lib.byteCells]; omega
        · show joinR r ++ (t ++ suf) = all
          rw [← ByteArray.append_assoc]; exact hall.out
        · rw [HN.out, HR.out]
          rw [HJ.out] at hdrop
          rw [List.append_assoc, List.drop_left' (by simp; omega), hdrop]
          simp [Lib.byteCells, ByteArray.data_append]
      case measure => simp [intOf]; omega

theorem All_err (b : Nat) (all : ByteArray) (e : Int) (w : World) (h : WrIs w b all e) (he : e ≠ 0) :
    Calls Try.prog 33 #[.pointer (some ⟨b, 0, none⟩)] w fun r w' => r = .returned (.tuple #[.string ⟨#[]⟩, .int .i64 e]) ∧ Below w.heap.size w w' := by
  obtain ⟨p, l, h1, h2, h3⟩ := h
  clear h2 h3
  have hc2 := h1.c2
  have he' : (e != 0) = true := by simpa using he
  go_enter Try.func33, Try.ntmps33
  go_wp2
  go_quiet (fail)
  go_wp2
  go_ret2
  exact ⟨rfl, below_drewN (Below.refl _ _) _⟩
end Go.Proofs.Ytljedbakdlhlbaa.Pk
