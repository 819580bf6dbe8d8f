/- What is told of a page: Right, Kind, Level, Count, Room, Cells, Find, At. -/
import Derived.Test.YtmoognjegjeegaaFnd
namespace Go.Proofs.Ytmoognjegjeegaa
open Go.RowKit
set_option linter.unusedVariables false
set_option linter.unusedSimpArgs false
set_option maxRecDepth 100000

theorem opened {w w1 w2 w3 : World} {b : Nat} {s t : List UInt8} (h1 : Below w.heap.size w w1) (N : New w1 w2 b s) (P : Put w2 w3 b t) : Below w.heap.size w w3 := by
  have z1 := h1.size
  have z2 := N.below.size
  have z3 := N.le
  exact thn h1 (N.below.trans (P.below z3 z2))
theorem Right.size {p : ByteArray} (h : Right (bts p)) : p.size = 224 := by rw [← bts_length]; exact h.head.len
section
variable {w : World} {b : Nat} {s : List UInt8}
theorem Kind_right (w : World) (p : ByteArray) (h : Right (bts p)) : Calls Try.prog 13 #[.string p] w fun e w' => e = .returned (.int .i64 (g (bts p) 0 : Nat)) ∧ Below w.heap.size w w' := by
  have hTl : (bts p).length = 224 := h.head.len
  have CR : Hid (∀ w, Calls Try.prog 37 #[.string p] w fun e w' => e = .returned (.tuple #[pgV (bts p), .bool true]) ∧ Below w.heap.size w w') := fun w => read_right w p h
  have C2 : Hid (∀ w b, Sh w b (bts p) → Calls Try.prog 41 #[.pointer (some ⟨b, 0, none⟩)] w fun e w' => e = .returned (.int .i64 (g (bts p) 0 : Nat)) ∧ w' = w) := fun w b h' => kind_any w h'
  clear h
  generalize bts p = T at *
  go_enter Try.func13, Try.ntmps13
  go_wp2_with (first | (go_at_call 37; refine (CR.out _).mono ?_; rintro e w1 ⟨rfl, hb1⟩) | (refine wpList_new_sh _ rfl rfl ?_; intro w2 b2 N2) | (refine wpList_put_sh _ rfl _ _ rfl rfl (t := T) rfl N2.sh hTl ?_; intro w3 P3) | (go_at_call 41; refine (C2.out _ _ P3.sh).mono ?_; rintro e w4 ⟨rfl, rfl⟩))
  go_ret
  exact ⟨rfl, opened hb1 N2 P3⟩
theorem Kind_wrong (w : World) (p : ByteArray) (hz : p.size ≤ 140737488351232) (h : ¬ Right (bts p)) : Calls Try.prog 13 #[.string p] w fun e w' => e = .returned (.int .i64 0) ∧ Below w.heap.size w w' := by
  have hTl := zs_length
  have CR : Hid (∀ w, Calls Try.prog 37 #[.string p] w fun e w' => e = .returned (.tuple #[pgV zs, .bool false]) ∧ Below w.heap.size w w') := fun w => read_wrong w p hz h
  clear h
  go_enter Try.func13, Try.ntmps13
  go_wp2_with (first | (go_at_call 37; refine (CR.out _).mono ?_; rintro e w1 ⟨rfl, hb1⟩) | (refine wpList_new_sh _ rfl rfl ?_; intro w2 b2 N2) | (refine wpList_put_sh _ rfl _ _ rfl rfl (t := zs) rfl N2.sh hTl ?_; intro w3 P3))
  go_ret
  exact ⟨rfl, opened hb1 N2 P3⟩
theorem Level_right (w : World) (p : ByteArray) (h : Right (bts p)) : Calls Try.prog 14 #[.string p] w fun e w' => e = .returned (.int .i64 (g (bts p) 1 : Nat)) ∧ Below w.heap.size w w' := by
  have hTl : (bts p).length = 224 := h.head.len
  have CR : Hid (∀ w, Calls Try.prog 37 #[.string p] w fun e w' => e = .returned (.tuple #[pgV (bts p), .bool true]) ∧ Below w.heap.size w w') := fun w => read_right w p h
  have C2 : Hid (∀ w b, Sh w b (bts p) → Calls Try.prog 42 #[.pointer (some ⟨b, 0, none⟩)] w fun e w' => e = .returned (.int .i64 (g (bts p) 1 : Nat)) ∧ w' = w) := fun w b h' => level_any w h'
  clear h
  generalize bts p = T at *
  go_enter Try.func14, Try.ntmps14
  go_wp2_with (first | (go_at_call 37; refine (CR.out _).mono ?_; rintro e w1 ⟨rfl, hb1⟩) | (refine wpList_new_sh _ rfl rfl ?_; intro w2 b2 N2) | (refine wpList_put_sh _ rfl _ _ rfl rfl (t := T) rfl N2.sh hTl ?_; intro w3 P3) | (go_at_call 42; refine (C2.out _ _ P3.sh).mono ?_; rintro e w4 ⟨rfl, rfl⟩))
  go_ret
  exact ⟨rfl, opened hb1 N2 P3⟩
theorem Level_wrong (w : World) (p : ByteArray) (hz : p.size ≤ 140737488351232) (h : ¬ Right (bts p)) : Calls Try.prog 14 #[.string p] w fun e w' => e = .returned (.int .i64 0) ∧ Below w.heap.size w w' := by
  have hTl := zs_length
  have CR : Hid (∀ w, Calls Try.prog 37 #[.string p] w fun e w' => e = .returned (.tuple #[pgV zs, .bool false]) ∧ Below w.heap.size w w') := fun w => read_wrong w p hz h
  clear h
  go_enter Try.func14, Try.ntmps14
  go_wp2_with (first | (go_at_call 37; refine (CR.out _).mono ?_; rintro e w1 ⟨rfl, hb1⟩) | (refine wpList_new_sh _ rfl rfl ?_; intro w2 b2 N2) | (refine wpList_put_sh _ rfl _ _ rfl rfl (t := zs) rfl N2.sh hTl ?_; intro w3 P3))
  go_ret
  exact ⟨rfl, opened hb1 N2 P3⟩
theorem Count_right (w : World) (p : ByteArray) (h : Right (bts p)) : Calls Try.prog 15 #[.string p] w fun e w' => e = .returned (.int .i64 (cnt (bts p) : Nat)) ∧ Below w.heap.size w w' := by
  have hTl : (bts p).length = 224 := h.head.len
  have CR : Hid (∀ w, Calls Try.prog 37 #[.string p] w fun e w' => e = .returned (.tuple #[pgV (bts p), .bool true]) ∧ Below w.heap.size w w') := fun w => read_right w p h
  have C2 : Hid (∀ w b, Sh w b (bts p) → Calls Try.prog 39 #[.pointer (some ⟨b, 0, none⟩)] w fun e w' => e = .returned (.int .i64 (cnt (bts p) : Nat)) ∧ w' = w) := fun w b h' => count_any w h'
  clear h
  generalize bts p = T at *
  go_enter Try.func15, Try.ntmps15
  go_wp2_with (first | (go_at_call 37; refine (CR.out _).mono ?_; rintro e w1 ⟨rfl, hb1⟩) | (refine wpList_new_sh _ rfl rfl ?_; intro w2 b2 N2) | (refine wpList_put_sh _ rfl _ _ rfl rfl (t := T) rfl N2.sh hTl ?_; intro w3 P3) | (go_at_call 39; refine (C2.out _ _ P3.sh).mono ?_; rintro e w4 ⟨rfl, rfl⟩))
  go_ret
  exact ⟨rfl, opened hb1 N2 P3⟩
theorem Count_wrong (w : World) (p : ByteArray) (hz : p.size ≤ 140737488351232) (h : ¬ Right (bts p)) : Calls Try.prog 15 #[.string p] w fun e w' => e = .returned (.int .i64 0) ∧ Below w.heap.size w w' := by
  have hTl := zs_length
  have CR : Hid (∀ w, Calls Try.prog 37 #[.string p] w fun e w' => e = .returned (.tuple #[pgV zs, .bool false]) ∧ Below w.heap.size w w') := fun w => read_wrong w p hz h
  clear h
  go_enter Try.func15, Try.ntmps15
  go_wp2_with (first | (go_at_call 37; refine (CR.out _).mono ?_; rintro e w1 ⟨rfl, hb1⟩) | (refine wpList_new_sh _ rfl rfl ?_; intro w2 b2 N2) | (refine wpList_put_sh _ rfl _ _ rfl rfl (t := zs) rfl N2.sh hTl ?_; intro w3 P3))
  go_ret
  exact ⟨rfl, opened hb1 N2 P3⟩
theorem Room_right (w : World) (p : ByteArray) (h : Right (bts p)) : Calls Try.prog 16 #[.string p] w fun e w' => e = .returned (.int .i64 (rm (bts p) : Nat)) ∧ Below w.heap.size w w' := by
  have hTl : (bts p).length = 224 := h.head.len
  have CR : Hid (∀ w, Calls Try.prog 37 #[.string p] w fun e w' => e = .returned (.tuple #[pgV (bts p), .bool true]) ∧ Below w.heap.size w w') := fun w => read_right w p h
  have C2 : Hid (∀ w b, Sh w b (bts p) → Calls Try.prog 43 #[.pointer (some ⟨b, 0, none⟩)] w fun e w' => e = .returned (.int .i64 (rm (bts p) : Nat)) ∧ Below w.heap.size w w') := fun w b h' => room_any w h' h
  clear h
  generalize bts p = T at *
  go_enter Try.func16, Try.ntmps16
  go_wp2_with (first | (go_at_call 37; refine (CR.out _).mono ?_; rintro e w1 ⟨rfl, hb1⟩) | (refine wpList_new_sh _ rfl rfl ?_; intro w2 b2 N2) | (refine wpList_put_sh _ rfl _ _ rfl rfl (t := T) rfl N2.sh hTl ?_; intro w3 P3) | (go_at_call 43; refine (C2.out _ _ P3.sh).mono ?_; rintro e w4 ⟨rfl, hb4⟩))
  go_ret
  exact ⟨rfl, thn (opened hb1 N2 P3) hb4⟩
theorem Room_wrong (w : World) (p : ByteArray) (hz : p.size ≤ 140737488351232) (h : ¬ Right (bts p)) : Calls Try.prog 16 #[.string p] w fun e w' => e = .returned (.int .i64 0) ∧ Below w.heap.size w w' := by
  have hTl := zs_length
  have CR : Hid (∀ w, Calls Try.prog 37 #[.string p] w fun e w' => e = .returned (.tuple #[pgV zs, .bool false]) ∧ Below w.heap.size w w') := fun w => read_wrong w p hz h
  clear h
  go_enter Try.func16, Try.ntmps16
  go_wp2_with (first | (go_at_call 37; refine (CR.out _).mono ?_; rintro e w1 ⟨rfl, hb1⟩) | (refine wpList_new_sh _ rfl rfl ?_; intro w2 b2 N2) | (refine wpList_put_sh _ rfl _ _ rfl rfl (t := zs) rfl N2.sh hTl ?_; intro w3 P3))
  go_ret
  exact ⟨rfl, opened hb1 N2 P3⟩
theorem Right_right (w : World) (p : ByteArray) (h : Right (bts p)) : Calls Try.prog 12 #[.string p] w fun e w' => e = .returned (.bool true) ∧ Below w.heap.size w w' := by
  have hTl : (bts p).length = 224 := h.head.len
  have CR : Hid (∀ w, Calls Try.prog 37 #[.string p] w fun e w' => e = .returned (.tuple #[pgV (bts p), .bool true]) ∧ Below w.heap.size w w') := fun w => read_right w p h
  clear h
  generalize bts p = T at *
  go_enter Try.func12, Try.ntmps12
  go_wp2_with (first | (go_at_call 37; refine (CR.out _).mono ?_; rintro e w1 ⟨rfl, hb1⟩) | (refine wpList_new_sh _ rfl rfl ?_; intro w2 b2 N2) | (refine wpList_put_sh _ rfl _ _ rfl rfl (t := T) rfl N2.sh hTl ?_; intro w3 P3))
  go_ret
  exact ⟨rfl, opened hb1 N2 P3⟩
theorem Right_wrong (w : World) (p : ByteArray) (hz : p.size ≤ 140737488351232) (h : ¬ Right (bts p)) : Calls Try.prog 12 #[.string p] w fun e w' => e = .returned (.bool false) ∧ Below w.heap.size w w' := by
  have hTl := zs_length
  have CR : Hid (∀ w, Calls Try.prog 37 #[.string p] w fun e w' => e = .returned (.tuple #[pgV zs, .bool false]) ∧ Below w.heap.size w w') := fun w => read_wrong w p hz h
  clear h
  go_enter Try.func12, Try.ntmps12
  go_wp2_with (first | (go_at_call 37; refine (CR.out _).mono ?_; rintro e w1 ⟨rfl, hb1⟩) | (refine wpList_new_sh _ rfl rfl ?_; intro w2 b2 N2) | (refine wpList_put_sh _ rfl _ _ rfl rfl (t := zs) rfl N2.sh hTl ?_; intro w3 P3))
  go_ret
  exact ⟨rfl, opened hb1 N2 P3⟩
theorem Cells_right (w : World) (p : ByteArray) (h : Right (bts p)) : Calls Try.prog 17 #[.string p] w fun e w' => ∃ a, e = .returned (.slice (some ⟨a, 0, none⟩) (cnt (bts p)) (cnt (bts p))) ∧ Cs w' (some ⟨a, 0, none⟩) (cells (bts p)) ∧ Below w.heap.size w w' := by
  have hTl : (bts p).length = 224 := h.head.len
  have CR : Hid (∀ w, Calls Try.prog 37 #[.string p] w fun e w' => e = .returned (.tuple #[pgV (bts p), .bool true]) ∧ Below w.heap.size w w') := fun w => read_right w p h
  have C2 : Hid (∀ w b, Sh w b (bts p) → Calls Try.prog 44 #[.pointer (some ⟨b, 0, none⟩)] w fun e w' => ∃ a, e = .returned (.slice (some ⟨a, 0, none⟩) (cnt (bts p)) (cnt (bts p))) ∧ Cs w' (some ⟨a, 0, none⟩) (cells (bts p)) ∧ Below w.heap.size w w') := fun w b h' => cells_any w h' h
  clear h
  generalize bts p = T at *
  go_enter Try.func17, Try.ntmps17
  go_wp2_with (first | (go_at_call 37; refine (CR.out _).mono ?_; rintro e w1 ⟨rfl, hb1⟩) | (refine wpList_new_sh _ rfl rfl ?_; intro w2 b2 N2) | (refine wpList_put_sh _ rfl _ _ rfl rfl (t := T) rfl N2.sh hTl ?_; intro w3 P3) | (go_at_call 44; refine (C2.out _ _ P3.sh).mono ?_; rintro e w4 ⟨a, rfl, hc4, hb4⟩))
  go_ret
  exact ⟨_, rfl, hc4, thn (opened hb1 N2 P3) hb4⟩
theorem Cells_wrong (w : World) (p : ByteArray) (hz : p.size ≤ 140737488351232) (h : ¬ Right (bts p)) : Calls Try.prog 17 #[.string p] w fun e w' => e = .returned (.slice none 0 0) ∧ Below w.heap.size w w' := by
  have hTl := zs_length
  have CR : Hid (∀ w, Calls Try.prog 37 #[.string p] w fun e w' => e = .returned (.tuple #[pgV zs, .bool false]) ∧ Below w.heap.size w w') := fun w => read_wrong w p hz h
  clear h
  go_enter Try.func17, Try.ntmps17
  go_wp2_with (first | (go_at_call 37; refine (CR.out _).mono ?_; rintro e w1 ⟨rfl, hb1⟩) | (refine wpList_new_sh _ rfl rfl ?_; intro w2 b2 N2) | (refine wpList_put_sh _ rfl _ _ rfl rfl (t := zs) rfl N2.sh hTl ?_; intro w3 P3))
  go_ret
  exact ⟨rfl, opened hb1 N2 P3⟩
theorem Find_right (w : World) (p x : ByteArray) (h : Right (bts p)) : Calls Try.prog 10 #[.string p, .string x] w fun e w' => e = .returned (.tuple #[.int .i64 (plc (cells (bts p)) x : Nat), .bool (isAt (cells (bts p)) x)]) ∧ Below w.heap.size w w' := by
  have hTl : (bts p).length = 224 := h.head.len
  have CR : Hid (∀ w, Calls Try.prog 37 #[.string p] w fun e w' => e = .returned (.tuple #[pgV (bts p), .bool true]) ∧ Below w.heap.size w w') := fun w => read_right w p h
  have C2 : Hid (∀ w b, Sh w b (bts p) → Calls Try.prog 38 #[.pointer (some ⟨b, 0, none⟩), .string x] w fun e w' => e = .returned (.tuple #[.int .i64 (plc (cells (bts p)) x : Nat), .bool (isAt (cells (bts p)) x)]) ∧ Below w.heap.size w w') := fun w b h' => find_any w h' h x
  clear h
  generalize bts p = T at *
  go_enter Try.func10, Try.ntmps10
  go_wp2_with (first | (go_at_call 37; refine (CR.out _).mono ?_; rintro e w1 ⟨rfl, hb1⟩) | (refine wpList_new_sh _ rfl rfl ?_; intro w2 b2 N2) | (refine wpList_put_sh _ rfl _ _ rfl rfl (t := T) rfl N2.sh hTl ?_; intro w3 P3) | (go_at_call 38; refine (C2.out _ _ P3.sh).mono ?_; rintro e w4 ⟨rfl, hb4⟩))
  go_ret2
  exact ⟨rfl, thn (opened hb1 N2 P3) hb4⟩
theorem Find_wrong (w : World) (p x : ByteArray) (hz : p.size ≤ 140737488351232) (h : ¬ Right (bts p)) : Calls Try.prog 10 #[.string p, .string x] w fun e w' => e = .returned (.tuple #[.int .i64 0, .bool false]) ∧ Below w.heap.size w w' := by
  have hTl := zs_length
  have CR : Hid (∀ w, Calls Try.prog 37 #[.string p] w fun e w' => e = .returned (.tuple #[pgV zs, .bool false]) ∧ Below w.heap.size w w') := fun w => read_wrong w p hz h
  clear h
  go_enter Try.func10, Try.ntmps10
  go_wp2_with (first | (go_at_call 37; refine (CR.out _).mono ?_; rintro e w1 ⟨rfl, hb1⟩) | (refine wpList_new_sh _ rfl rfl ?_; intro w2 b2 N2) | (refine wpList_put_sh _ rfl _ _ rfl rfl (t := zs) rfl N2.sh hTl ?_; intro w3 P3))
  go_ret2
  exact ⟨rfl, opened hb1 N2 P3⟩
end
end Go.Proofs.Ytmoognjegjeegaa
