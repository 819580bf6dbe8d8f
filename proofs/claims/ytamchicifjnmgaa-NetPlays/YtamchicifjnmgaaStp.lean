/- The law's step: Send, Copy, and what take does. -/
import Derived.Test.YtamchicifjnmgaaTk
namespace Go.Proofs.Ytamchicifjnmgaa
open Go.RowKit
set_option linter.unusedVariables false
set_option linter.unusedSimpArgs false
set_option maxRecDepth 100000
variable {B : Nat} {w0 w : World} {nb pb : Nat} {S : Nt}
section
variable {a : Option Addr} {cap : Nat} {Sn : Nt} {b : Option Addr} {capb : Nat} {Sp : Nt}
theorem Duo.set1 (h : Duo B w0 w nb pb a cap Sn b capb Sp) (x : Int) : Duo B w0 (w.setCell ⟨pb, 1, none⟩ (.int .i64 x)) nb pb a cap Sn b capb { Sp with sent := x } := h.doc (h.p.set1 x) ((Turn.refl _ _ _).set _ _)
theorem Duo.set2 (h : Duo B w0 w nb pb a cap Sn b capb Sp) (x : Int) : Duo B w0 (w.setCell ⟨pb, 2, none⟩ (.int .i64 x)) nb pb a cap Sn b capb { Sp with lost := x } := h.doc (h.p.set2 x) ((Turn.refl _ _ _).set _ _)
theorem Duo.box (h : Duo B w0 w nb pb a cap Sn b capb Sp) {ob : Nat} (hz : w.heap.size = ob) (oc : Array Value) : Both B w0 (w.alloc (.cells oc 31)) nb pb Sn b capb Sp ob oc := ⟨⟨a, cap, h.alloc _⟩, by rw [← hz]; exact heap_alloc_new w _⟩
end
theorem Both.mid {Sn : Nt} {b : Option Addr} {capb : Nat} {Sp : Nt} {ob : Nat} {oc : Array Value} {w' : World} (h : Both B w0 w nb pb Sn b capb Sp ob oc) (hG : w.grownBy w' (own b)) :
    w'.cell? ⟨pb, 0, none⟩ = some (.slice b Sp.way.length capb) ∧ w'.frozen? ⟨pb, 0, none⟩ = false ∧ ∀ i, w'.cell? ⟨ob, i, none⟩ = oc[i]? := by
  obtain ⟨h1, h2⟩ := h.p.mid hG
  refine ⟨h1, h2, fun i => ?_⟩
  have hb : w'.heap[ob]? = some (.cells oc 31) := (hG.block ob h.olt (fun e => h.p.row.tag h.op (by decide) e.symm)).trans h.op
  exact Joins.cell_of_block hb i
theorem send_full {S : Nt} {s : ByteArray} (hf : 128 ≤ S.way.length) : sendS S s = ⟨S.way, S.sent + 1, S.lost + 1⟩ := by simp [sendS, putS, hf]
theorem send_room {S : Nt} {s : ByteArray} (hf : S.way.length < 128) : sendS S s = ⟨S.way ++ [s], S.sent + 1, S.lost⟩ := by
  have : ¬ 128 ≤ S.way.length := by omega
  simp [sendS, putS, this]
theorem put_full {S : Nt} {s : ByteArray} (hf : 128 ≤ S.way.length) : putS S s = ⟨S.way, S.sent, S.lost + 1⟩ := by simp [putS, hf]
theorem put_room {S : Nt} {s : ByteArray} (hf : S.way.length < 128) : putS S s = ⟨S.way ++ [s], S.sent, S.lost⟩ := by
  have : ¬ 128 ≤ S.way.length := by omega
  simp [putS, this]

theorem step_send_full (h : Pair B w0 w nb pb S) (hS : S.Ok) (hs : S.sent < 1000000) (hl : S.lost < 1000000) (i k : Int) (s : ByteArray) (hf : 128 ≤ S.way.length) :
    Calls Try.prog 8 #[.pointer (some ⟨nb, 0, none⟩), .pointer (some ⟨pb, 0, none⟩), .agg #[.int .i64 0, .int .i64 i, .int .i64 k, .string s]] w fun e w' => e = .returned (.bool true) ∧ Next B w0 w' nb pb S := by
  obtain ⟨a, cap, b, capb, hD⟩ := h
  have hc0 := hD.p.c0
  have hc1 := hD.p.c1
  have hc2 := hD.p.c2
  have hfz := hD.p.f
  have hlt := hD.p.lt
  have l0 := hS.l0
  have s0 := hS.s0
  have hf' : (128 : Int) ≤ (S.way.length : Int) := by omega
  have H1 : Hid (∀ oc, Both B w0 (((w.setCell ⟨pb, 1, none⟩ (.int .i64 (S.sent + 1))).setCell ⟨pb, 2, none⟩ (.int .i64 (S.lost + 1))).alloc (.cells oc 31)) nb pb S b capb ⟨S.way, S.sent + 1, S.lost + 1⟩ w.heap.size oc) := fun oc =>
    ((hD.set1 (S.sent + 1)).set2 (S.lost + 1)).box (by simp [go_sem]) oc
  have CS : Hid (∀ w1 Sp ob oc, Both B w0 w1 nb pb S b capb Sp ob oc → Calls Try.prog 11 #[.pointer (some ⟨nb, 0, none⟩), .string s] w1 fun e w' => e = .returned (.bool false) ∧ Both B w0 w' nb pb ⟨S.way, S.sent + 1, S.lost + 1⟩ b capb Sp ob oc) := fun w1 Sp ob oc h => by
    rw [← send_full (s := s) hf]
    refine h.net (fun a cap hn => ?_)
    have := Send_any w1 hn hS s hs
    rwa [show roomB S = false by simp [roomB, hf]] at this
  have HX : Hid (Nx S ⟨S.way, S.sent + 1, S.lost + 1⟩) := ⟨hS.len, by simp only; omega, by simp only; omega, by simp only; omega, by simp only; omega⟩
  clear hD
  go_enter Try.func8, Try.ntmps8
  go_wp2_with (go_at_call 11; refine (CS.out _ _ _ _ (H1.out _)).mono ?_; rintro e w1 ⟨rfl, hBo⟩)
  go_ret
  exact ⟨rfl, Next.mk hBo HX.out⟩
set_option maxHeartbeats 1000000 in
theorem step_send (h : Pair B w0 w nb pb S) (hS : S.Ok) (hs : S.sent < 1000000) (i k : Int) (s : ByteArray) (hf : S.way.length < 128) :
    Calls Try.prog 8 #[.pointer (some ⟨nb, 0, none⟩), .pointer (some ⟨pb, 0, none⟩), .agg #[.int .i64 0, .int .i64 i, .int .i64 k, .string s]] w fun e w' => e = .returned (.bool true) ∧ Next B w0 w' nb pb S := by
  obtain ⟨a, cap, b, capb, hD⟩ := h
  have hc0 := hD.p.c0
  have hc1 := hD.p.c1
  have hfz := hD.p.f
  have hlt := hD.p.lt
  have s0 := hS.s0
  have hf' : (S.way.length : Int) < 128 := by omega
  have H1 : Hid (∀ oc, Both B w0 ((w.setCell ⟨pb, 1, none⟩ (.int .i64 (S.sent + 1))).alloc (.cells oc 31)) nb pb S b capb ⟨S.way, S.sent + 1, S.lost⟩ w.heap.size oc) := fun oc =>
    (hD.set1 (S.sent + 1)).box (by simp [go_sem]) oc
  have CS : Hid (∀ w1 b capb Sp ob oc, Both B w0 w1 nb pb S b capb Sp ob oc → Calls Try.prog 11 #[.pointer (some ⟨nb, 0, none⟩), .string s] w1 fun e w' => e = .returned (.bool true) ∧ Both B w0 w' nb pb ⟨S.way ++ [s], S.sent + 1, S.lost⟩ b capb Sp ob oc) := fun w1 b capb Sp ob oc h => by
    rw [← send_room (s := s) hf]
    refine h.net (fun a cap hn => ?_)
    have := Send_any w1 hn hS s hs
    rwa [show roomB S = true by simp [roomB]; omega] at this
  have HX : Hid (Nx S ⟨S.way ++ [s], S.sent + 1, S.lost⟩) := ⟨by simp; omega, by simp only; omega, by simp only; omega, by simp only; omega, by simp only; omega⟩
  clear hD
  go_enter Try.func8, Try.ntmps8
  go_wp2_with fail
  generalize hwq : (w.setCell ⟨pb, 1, none⟩ (.int .i64 (S.sent + 1))).alloc _ = wq
  have hB1 : Both B w0 wq nb pb S b capb ⟨S.way, S.sent + 1, S.lost⟩ w.heap.size #[.int .i64 0, .int .i64 i, .int .i64 k, .string s] := by rw [← hwq]; exact H1.out _
  clear hwq hc0 hc1 hfz H1
  have d0 := hB1.p.c0
  have dlt := hB1.p.lt
  have o3 : wq.cell? ⟨w.heap.size, 3, none⟩ = some (.string s) := hB1.c 3
  have olt : w.heap.size < wq.heap.size := hB1.olt
  have HR : Hid (∀ o, Both B w0 ((wq.alloc o).drew) nb pb S b capb ⟨S.way, S.sent + 1, S.lost⟩ w.heap.size #[.int .i64 0, .int .i64 i, .int .i64 k, .string s]) := fun o => (hB1.alloc o).drew
  clear hB1
  go_region_law (refine step_append_row rfl (.tmp 98) (.tmp 101) rfl (n := S.way.length) (xs := S.way) (by simp [Act.eval, Act.put]) rfl (HR.out _).p.row ⟨wq.heap.size, 0, none⟩ 1 1 [s] (by simp [Act.eval, Act.put]) rfl (one_new (by simp)) (by omega) ?_; intro b' capb' w2 hR hG hO; obtain ⟨e0, ef, eo⟩ := (HR.out _).mid hG; have e3 : w2.cell? ⟨w.heap.size, 3, none⟩ = some (.string s) := eo 3; clear eo)
  all_goals (
    go_wp2_with (go_at_call 11; go_must (refine (CS.out _ _ _ _ _ _ ((HR.out _).app hG hO hR (by simp))).mono ?_; rintro e w3 ⟨rfl, hBo⟩))
    go_ret
    exact ⟨rfl, Next.mk hBo HX.out⟩)
theorem step_take (h : Pair B w0 w nb pb S) (hS : S.Ok) (hl : S.lost < 1000000) (kd i k : Int) (s : ByteArray) (hk : kd = 1 ∨ kd = 2) :
    Calls Try.prog 8 #[.pointer (some ⟨nb, 0, none⟩), .pointer (some ⟨pb, 0, none⟩), .agg #[.int .i64 kd, .int .i64 i, .int .i64 k, .string s]] w fun e w' => e = .returned (.bool true) ∧ Next B w0 w' nb pb S := by
  have C : Hid (∀ w1, Pair B w0 w1 nb pb S → Calls Try.prog 20 #[.pointer (some ⟨nb, 0, none⟩), .pointer (some ⟨pb, 0, none⟩), .agg #[.int .i64 kd, .int .i64 i, .int .i64 k, .string s]] w1 fun e w' => e = .returned (.bool true) ∧ Next B w0 w' nb pb S) := fun w1 h => by
    by_cases hi : i < 0 ∨ (S.way.length : Int) ≤ i
    · rcases hk with rfl | rfl
      · exact take_take_no h hS i k s hi
      · exact take_drop_no h hS i k s hi
    · obtain ⟨n, rfl⟩ : ∃ n : Nat, i = (n : Int) := ⟨i.toNat, by omega⟩
      rcases hk with rfl | rfl
      · exact take_take_yes h hS n k s (by omega)
      · exact take_drop_yes h hS hl n k s (by omega)
  have H : Hid (∀ o, Pair B w0 (w.alloc o) nb pb S) := fun o => by
    obtain ⟨a, cap, b, capb, hD⟩ := h
    exact ⟨a, cap, b, capb, hD.alloc o⟩
  clear h
  rcases hk with rfl | rfl
  · go_enter Try.func8, Try.ntmps8
    go_wp2_with (go_at_call 20; refine (C.out _ (H.out _)).mono ?_; rintro e w1 ⟨rfl, hN⟩)
    go_ret
    exact ⟨rfl, hN⟩
  · go_enter Try.func8, Try.ntmps8
    go_wp2_with (go_at_call 20; refine (C.out _ (H.out _)).mono ?_; rintro e w1 ⟨rfl, hN⟩)
    go_ret
    exact ⟨rfl, hN⟩
theorem step_copy_no (h : Pair B w0 w nb pb S) (hS : S.Ok) (i k : Int) (s : ByteArray) (hi : i < 0 ∨ (S.way.length : Int) ≤ i) :
    Calls Try.prog 8 #[.pointer (some ⟨nb, 0, none⟩), .pointer (some ⟨pb, 0, none⟩), .agg #[.int .i64 3, .int .i64 i, .int .i64 k, .string s]] w fun e w' => e = .returned (.bool true) ∧ Next B w0 w' nb pb S := by
  obtain ⟨b, capb, hp, hb⟩ := h.box
  have HB : Hid (∀ oc, Both B w0 (w.alloc (.cells oc 31)) nb pb S b capb S w.heap.size oc) := hb
  have CT : Hid (∀ w1 ob oc, Both B w0 w1 nb pb S b capb S ob oc → Calls Try.prog 21 #[.pointer (some ⟨pb, 0, none⟩), .int .i64 i] w1 fun e w' => e = .returned (.bool false) ∧ w' = w1) := fun w1 ob oc h => by
    have := there_any w1 h.p i; rwa [isIn_no hi] at this
  have CD : Hid (∀ w1 ob oc, Both B w0 w1 nb pb S b capb S ob oc → Calls Try.prog 13 #[.pointer (some ⟨nb, 0, none⟩), .int .i64 i] w1 fun e w' => e = .returned (.int .i64 8) ∧ Both B w0 w' nb pb S b capb S ob oc) := fun w1 ob oc h => h.same (fun a cap hn => Copy_bad w1 hn i hi)
  have HX : Hid (Nx S S) := Nx.refl hS
  clear h hp hb hi
  go_enter Try.func8, Try.ntmps8
  go_wp2_with (first | (go_at_call 13; refine (CD.out _ _ _ (HB.out _)).mono ?_; rintro e w2 ⟨rfl, hBo⟩; have o1 : w2.cell? ⟨w.heap.size, 1, none⟩ = some (.int .i64 i) := hBo.c 1) | (go_at_call 21; refine (CT.out _ _ _ hBo).mono ?_; rintro e w1 ⟨rfl, hw1⟩; subst hw1))
  go_ret
  exact ⟨rfl, Next.mk hBo HX.out⟩
theorem step_copy_full (h : Pair B w0 w nb pb S) (hS : S.Ok) (hl : S.lost < 1000000) (i : Nat) (k : Int) (s : ByteArray) (hi : i < S.way.length) (hf : 128 ≤ S.way.length) :
    Calls Try.prog 8 #[.pointer (some ⟨nb, 0, none⟩), .pointer (some ⟨pb, 0, none⟩), .agg #[.int .i64 3, .int .i64 (i : Int), .int .i64 k, .string s]] w fun e w' => e = .returned (.bool true) ∧ Next B w0 w' nb pb S := by
  obtain ⟨b, capb, hp, hb⟩ := h.box
  have HB : Hid (∀ oc, Both B w0 (w.alloc (.cells oc 31)) nb pb S b capb S w.heap.size oc) := hb
  have CT : Hid (∀ w1 Sn ob oc, Both B w0 w1 nb pb Sn b capb S ob oc → Calls Try.prog 21 #[.pointer (some ⟨pb, 0, none⟩), .int .i64 (i : Int)] w1 fun e w' => e = .returned (.bool true) ∧ w' = w1) := fun w1 Sn ob oc h => by
    have := there_any w1 h.p i; rwa [isIn_yes hi] at this
  have CD : Hid (∀ w1 ob oc, Both B w0 w1 nb pb S b capb S ob oc → Calls Try.prog 13 #[.pointer (some ⟨nb, 0, none⟩), .int .i64 (i : Int)] w1 fun e w' => e = .returned (.int .i64 7) ∧ Both B w0 w' nb pb ⟨S.way, S.sent, S.lost + 1⟩ b capb S ob oc) := fun w1 ob oc h => by
    refine h.net (fun a cap hn => ?_)
    have := Copy_ok w1 hn hS i hi
    rwa [show copyE S = 7 by simp [copyE, hf], put_full hf] at this
  have HX : Hid (Nx S ⟨S.way, S.sent, S.lost + 1⟩) := ⟨hS.len, by simp only; omega, by simp only; omega, by simp only; omega, by simp only; omega⟩
  have hf' : (128 : Int) ≤ (S.way.length : Int) := by omega
  have l0 := hS.l0
  clear h hp hb hi hf
  go_enter Try.func8, Try.ntmps8
  go_wp2_with (first | (go_at_call 13; refine (CD.out _ _ _ (HB.out _)).mono ?_; rintro e w2 ⟨rfl, hBo⟩; have o1 : w2.cell? ⟨w.heap.size, 1, none⟩ = some (.int .i64 (i : Int)) := hBo.c 1; have d0 := hBo.p.c0; have d2 := hBo.p.c2; have df := hBo.p.f) | (go_at_call 21; refine (CT.out _ _ _ _ hBo).mono ?_; rintro e w1 ⟨rfl, hw1⟩; subst hw1))
  go_ret
  exact ⟨rfl, Next.mk (hBo.set2 _) HX.out⟩
end Go.Proofs.Ytamchicifjnmgaa
