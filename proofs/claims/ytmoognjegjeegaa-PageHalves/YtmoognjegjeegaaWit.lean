/- Lists with a cell more, or one less: the law's with, without; what is cut off a slice of cells. -/
import Derived.Test.YtmoognjegjeegaaLCel
namespace Go.Proofs.Ytmoognjegjeegaa
open Go.RowKit
set_option linter.unusedVariables false
set_option linter.unusedSimpArgs false
set_option maxRecDepth 100000

section
variable {w w' : World} {a : Option Addr} {cap : Nat} {L : List Cl}
theorem Cs.take (h : Cs w a L) (i : Nat) : Cs w a (L.take i) := ⟨fun j hj => by
  rw [List.length_take] at hj
  obtain ⟨b, off, h0, h1, h2, h3⟩ := h.at_ j (by omega)
  exact ⟨b, off, h0, h1, by rw [List.getElem_take]; exact h2, by rw [List.getElem_take]; exact h3⟩⟩
theorem Sl.to (h : Sl w a cap L) (i : Nat) (hi : i ≤ L.length) : (∀ W, (Instr.slice 22 (.slice a L.length cap) none (some (.int .i64 (i : Int))) none).run Try.prog W = .ok (.slice a i cap) W) ∧ Sl w a cap (L.take i) := by
  refine ⟨fun W => ?_, ⟨h.cs.take i, by have := h.room; rw [List.length_take]; omega, h.nil, h.form⟩⟩
  have hr := run_slice_h (P := Try.prog) W 22 a L.length cap (by kernel_rfl) .i64 (i : Int) (by omega) (by have := h.room; omega)
  have hz : ∀ w, (Go.sizeOf (Try.prog.elem 22)).run Try.prog w = .ok 2 w := fun w => by kernel_rfl
  rw [hr, hz]
  simp only [Result.andThen, sliced, Int.toNat_natCast, Nat.sub_zero, Nat.zero_mul]
  rcases h.form with rfl | ⟨b, o, rfl⟩
  · split <;> rfl
  · split
    · rfl
    · simp [Addr.add_mid]
theorem Sl.from (h : Sl w a cap L) (i : Nat) (x : Int) (hx : x = (i : Int)) (hi : i ≤ L.length) : ∃ a', (∀ W, (Instr.slice 22 (.slice a L.length cap) (some (.int .i64 x)) none none).run Try.prog W = .ok (.slice a' (L.length - i) (cap - i)) W) ∧ Sl w a' (cap - i) (L.drop i) := by
  subst hx
  have hc := h.room
  have hz : ∀ w, (Go.sizeOf (Try.prog.elem 22)).run Try.prog w = .ok 2 w := fun w => by kernel_rfl
  have hr : ∀ W, (Instr.slice 22 (.slice a L.length cap) (some (.int .i64 (i : Int))) none none).run Try.prog W = .ok (.slice (if cap = i then a else a.map (·.add (i * 2))) (L.length - i) (cap - i)) W := fun W => by
    rw [run_slice_l (P := Try.prog) W 22 a L.length cap (by kernel_rfl) .i64 (i : Int) (by omega) (by omega), hz]
    simp only [Result.andThen, sliced, Int.toNat_natCast]
  by_cases e : cap = i
  · have hL : L.drop i = [] := List.drop_eq_nil_of_le (by omega)
    refine ⟨a, fun W => by rw [hr W, if_pos e], ⟨by rw [hL]; exact Cs.nil w a, by rw [hL]; simp, fun _ => by omega, h.form⟩⟩
  · rcases h.form with hn | ⟨b, o, rfl⟩
    · have := h.nil hn
      have : i = 0 := by omega
      omega
    · refine ⟨some ⟨b, o + i * 2, none⟩, fun W => by rw [hr W, if_neg e, Option.map_some, Addr.add_mid], ⟨⟨fun j hj => ?_⟩, by rw [List.length_drop]; omega, fun e => (by cases e), Or.inr ⟨b, o + i * 2, rfl⟩⟩⟩
      rw [List.length_drop] at hj
      obtain ⟨b', o', h0, h1, h2, h3⟩ := h.cs.at_ (i + j) (by omega)
      cases h0
      refine ⟨b, o + i * 2, rfl, h1, ?_, ?_⟩
      · rw [List.getElem_drop, show o + i * 2 + j * 2 = o + (i + j) * 2 by omega]; exact h2
      · rw [List.getElem_drop, show o + i * 2 + j * 2 + 1 = o + (i + j) * 2 + 1 by omega]; exact h3
end
theorem cs_one (w : World) (c : Cl) : Cs (w.alloc (.cells #[.string c.k, .string c.v] 28)) (some ⟨w.heap.size, 0, none⟩) [c] := ⟨fun t ht => by
  have e : t = 0 := by simpa using ht
  subst e
  exact ⟨w.heap.size, 0, rfl, by simp, (Cb.c0 ⟨(MapKept.heap_alloc w _).1⟩ : _), (Cb.c1 ⟨(MapKept.heap_alloc w _).1⟩ : _)⟩⟩
/-- What a call leaves that made a slice. -/
structure Made (w w' : World) (e : Ending) (L : List Cl) : Prop where
  ex : ∃ a cap, e = .returned (.slice a L.length cap) ∧ Sl w' a cap L
  below : Below w.heap.size w w'
set_option maxHeartbeats 1000000 in
theorem without_any (w : World) {a : Option Addr} {cap : Nat} {L : List Cl} (h : Sl w a cap L) (hln : L.length ≤ 1000) (i : Nat) (hi : i < L.length) : Calls Try.prog 31 #[.slice a L.length cap, .int .i64 (i : Int)] w fun e w' => Made w w' e (del L i) := by
  obtain ⟨s1, t1⟩ := h.to i (by omega)
  obtain ⟨a2, s2, t2⟩ := h.from (i + 1) ((i : Int) + 1) (by omega) (by omega)
  have T1 : Hid _ := t1
  have T2 : Hid _ := t2
  have hdl : Hid ((del L i).length = i + (L.length - (i + 1))) := (by simp only [del, List.length_append, List.length_take, List.length_drop]; omega : (del L i).length = i + (L.length - (i + 1)))
  clear t1 t2 h
  have hlt : (L.take i).length = i := by rw [List.length_take]; omega
  have hld : (L.drop (i + 1)).length = L.length - (i + 1) := List.length_drop
  have HLT : Hid _ := hlt
  have HLD : Hid _ := hld
  clear hlt hld
  have Z0 : Below w.heap.size w (w.alloc (.cells #[] 28)) := (Below.refl _ _).alloc (Nat.le_refl _) _
  have O0 : Own w.heap.size (w.alloc (.cells #[] 28)) (some ⟨w.heap.size, 0, none⟩) 0 [] := Own.made w (Nat.le_refl _)
  go_enter Try.func31, Try.ntmps31
  go_wp2_with (first | (refine wpList_append_own' (B := w.heap.size) rfl (.tmp 6) (.tmp 9) rfl rfl (n := 0) (xs := []) rfl O0 Z0.size rfl (news := L.take i) HLT.out T1.out.nil (T1.out.cs.below Z0) (by omega) ?_; intro a3 cap3 w3 O3 hb3; rw [Nat.zero_add]) | (refine wpList_append_own' (B := w.heap.size) rfl (.tmp 11) (.tmp 15) rfl rfl (n := i) (xs := [] ++ L.take i) (by rw [List.nil_append]; exact HLT.out.symm) O3 (Z0.trans hb3).size rfl (news := L.drop (i + 1)) HLD.out T2.out.nil (T2.out.cs.below (Z0.trans hb3)) (by omega) ?_; intro a4 cap4 w4 O4 hb4))
  go_ret
  have e : [] ++ L.take i ++ L.drop (i + 1) = del L i := by rw [List.nil_append]; rfl
  rw [e] at O4
  exact ⟨⟨a4, cap4, by rw [hdl.out]; rfl, O4.row.sl⟩, (Z0.trans hb3).trans hb4⟩
set_option maxHeartbeats 1000000 in
theorem with_any (w : World) {a : Option Addr} {cap : Nat} {L : List Cl} (h : Sl w a cap L) (hln : L.length ≤ 1000) (i : Nat) (hi : i ≤ L.length) (c : Cl) : Calls Try.prog 35 #[.slice a L.length cap, .int .i64 (i : Int), .agg #[.string c.k, .string c.v]] w fun e w' => Made w w' e (ins L i c) := by
  obtain ⟨s1, t1⟩ := h.to i (by omega)
  obtain ⟨a2, s2, t2⟩ := h.from i (i : Int) rfl (by omega)
  have T1 : Hid _ := t1
  have T2 : Hid _ := t2
  have hdl : Hid ((ins L i c).length = i + 1 + (L.length - i)) := (by simp only [ins, List.length_append, List.length_cons, List.length_take, List.length_drop]; omega : (ins L i c).length = i + 1 + (L.length - i))
  clear t1 t2 h
  have hlt : (L.take i).length = i := by rw [List.length_take]; omega
  have hld : (L.drop i).length = L.length - i := List.length_drop
  have HLT : Hid _ := hlt
  have HLD : Hid _ := hld
  clear hlt hld
  go_enter Try.func35, Try.ntmps35
  go_wp2_with (first | (refine wpList_box_cb _ rfl _ rfl rfl ?_; intro w0 b0 N0; have Z0 : Below w0.heap.size w0 (w0.alloc (.cells #[] 28)) := (Below.refl _ _).alloc (Nat.le_refl _) _; have O0 : Own w0.heap.size (w0.alloc (.cells #[] 28)) (some ⟨w0.heap.size, 0, none⟩) 0 [] := Own.made w0 (Nat.le_refl _)) | (refine wpList_append_own' (B := w0.heap.size) rfl (.tmp 8) (.tmp 11) rfl rfl (n := 0) (xs := []) rfl O0 Z0.size rfl (news := L.take i) HLT.out T1.out.nil ((T1.out.cs.below N0.below).below Z0) (by omega) ?_; intro a3 cap3 w3 O3 hb3; rw [Nat.zero_add]; have Z3 : Below w0.heap.size w0 w3 := Z0.trans hb3; have hB3 : Cb w3 b0 c.k c.v := N0.cb.below Z3; have f0 := hB3.c0; have f1 := hB3.c1; have Z4 : Below w0.heap.size w0 (w3.alloc (.cells #[.string c.k, .string c.v] 28)) := thnA Z3 _; have O4 := O3.below ((Below.refl _ _).alloc (Nat.le_refl _) (.cells #[.string c.k, .string c.v] 28)); have C4 : Cs (w3.alloc (.cells #[.string c.k, .string c.v] 28)) (some ⟨w3.heap.size, 0, none⟩) [c] := cs_one w3 c) | (refine wpList_append_own' (B := w0.heap.size) rfl (.tmp 13) (.tmp 15) rfl rfl (n := i) (xs := [] ++ L.take i) (by rw [List.nil_append]; exact HLT.out.symm) O4 Z4.size rfl (news := [c]) rfl (fun e => by cases e) C4 (by omega) ?_; intro a5 cap5 w5 O5 hb5; have Z5 : Below w0.heap.size w0 w5 := Z4.trans hb5) | (refine wpList_append_own' (B := w0.heap.size) rfl (.tmp 17) (.tmp 20) rfl rfl (n := i + 1) (xs := [] ++ L.take i ++ [c]) (by simp only [List.nil_append, List.length_append, List.length_singleton, HLT.out]) O5 Z5.size rfl (news := L.drop i) HLD.out T2.out.nil ((T2.out.cs.below N0.below).below Z5) (by omega) ?_; intro a6 cap6 w6 O6 hb6))
  go_ret
  have e : [] ++ L.take i ++ [c] ++ L.drop i = ins L i c := by rw [List.nil_append, List.append_assoc]; rfl
  rw [e] at O6
  exact ⟨⟨a6, cap6, by rw [hdl.out]; rfl, O6.row.sl⟩, thn N0.below (Z5.trans hb6)⟩
end Go.Proofs.Ytmoognjegjeegaa
