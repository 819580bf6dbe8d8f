/- The law's take: Take and Drop, beside the document's. -/
import Derived.Test.YtamchicifjnmgaaTwo
import Derived.Deep.RegionLaw
namespace Go.Proofs.Ytamchicifjnmgaa
open Go.RowKit
set_option linter.unusedVariables false
set_option linter.unusedSimpArgs false
set_option maxRecDepth 100000

variable {B : Nat} {w0 w : World} {nb pb : Nat} {S : Nt}
theorem isIn_no {n : Nat} {i : Int} (h : i < 0 ∨ (n : Int) ≤ i) : isIn n i = false := by simp [isIn]; omega
theorem isIn_yes {n i : Nat} (h : i < n) : isIn n (i : Int) = true := by simp [isIn]; omega
theorem cut_len {S : Nt} {i : Nat} (hi : i < S.way.length) : (S.way.take i ++ S.way.drop (i + 1)).length = S.way.length - 1 := by simp; omega

theorem take_drop_no (h : Pair B w0 w nb pb S) (hS : S.Ok) (i k : Int) (s : ByteArray) (hi : i < 0 ∨ (S.way.length : Int) ≤ i) :
    Calls Try.prog 20 #[.pointer (some ⟨nb, 0, none⟩), .pointer (some ⟨pb, 0, none⟩), .agg #[.int .i64 2, .int .i64 i, .int .i64 k, .string s]] w fun e w' => e = .returned (.bool true) ∧ Next B w0 w' nb pb S := by
  obtain ⟨b, capb, hp, hb⟩ := h.box
  have HB : Hid (∀ oc, Both B w0 (w.alloc (.cells oc 31)) nb pb S b capb S w.heap.size oc) := hb
  have CT : Hid (∀ w1 ob oc, Both B w0 w1 nb pb S b capb S ob oc → Calls Try.prog 21 #[.pointer (some ⟨pb, 0, none⟩), .int .i64 i] w1 fun e w' => e = .returned (.bool false) ∧ w' = w1) := fun w1 ob oc h => by
    have := there_any w1 h.p i; rwa [isIn_no hi] at this
  have CD : Hid (∀ w1 ob oc, Both B w0 w1 nb pb S b capb S ob oc → Calls Try.prog 12 #[.pointer (some ⟨nb, 0, none⟩), .int .i64 i] w1 fun e w' => e = .returned (.int .i64 8) ∧ Both B w0 w' nb pb S b capb S ob oc) := fun w1 ob oc h => h.same (fun a cap hn => Drop_bad w1 hn i hi)
  have HX : Hid (Nx S S) := Nx.refl hS
  clear h hp hb hi
  go_enter Try.func20, Try.ntmps20
  go_wp2_with (first | (go_at_call 21; refine (CT.out _ _ _ (HB.out _)).mono ?_; rintro e w1 ⟨rfl, hw1⟩; subst hw1) | (go_at_call 12; refine (CD.out _ _ _ (HB.out _)).mono ?_; rintro e w2 ⟨rfl, hBo⟩))
  go_ret
  exact ⟨rfl, Next.mk hBo HX.out⟩
set_option maxHeartbeats 1000000 in
theorem take_drop_yes (h : Pair B w0 w nb pb S) (hS : S.Ok) (hl : S.lost < 1000000) (i : Nat) (k : Int) (s : ByteArray) (hi : i < S.way.length) :
    Calls Try.prog 20 #[.pointer (some ⟨nb, 0, none⟩), .pointer (some ⟨pb, 0, none⟩), .agg #[.int .i64 2, .int .i64 (i : Int), .int .i64 k, .string s]] w fun e w' => e = .returned (.bool true) ∧ Next B w0 w' nb pb S := by
  obtain ⟨b, capb, hp, hb⟩ := h.box
  have HB : Hid (∀ oc, Both B w0 (w.alloc (.cells oc 31)) nb pb S b capb S w.heap.size oc) := hb
  have CT : Hid (∀ w1 ob oc, Both B w0 w1 nb pb S b capb S ob oc → Calls Try.prog 21 #[.pointer (some ⟨pb, 0, none⟩), .int .i64 (i : Int)] w1 fun e w' => e = .returned (.bool true) ∧ w' = w1) := fun w1 ob oc h => by
    have := there_any w1 h.p i; rwa [isIn_yes hi] at this
  have CD : Hid (∀ w1 ob oc, Both B w0 w1 nb pb S b capb S ob oc → Calls Try.prog 12 #[.pointer (some ⟨nb, 0, none⟩), .int .i64 (i : Int)] w1 fun e w' => e = .returned (.int .i64 0) ∧ Both B w0 w' nb pb (dropS S i) b capb S ob oc) := fun w1 ob oc h => h.net (fun a cap hn => Drop_ok w1 hn hS i hi)
  have CW : Hid (∀ w1, NtIs w1 28 pb b capb { S with lost := S.lost + 1 } → Calls Try.prog 26 #[.slice b S.way.length capb, .int .i64 (i : Int)] w1 fun e w' => ∃ a' cap', e = .returned (.slice a' (S.way.length - 1) cap') ∧ Row w' a' cap' (S.way.take i ++ S.way.drop (i + 1)) ∧ Below w1.heap.size w1 w' ∧ Fresh w1.heap.size a') :=
    fun w1 h => without_any w1 S.way S.way.length rfl h.row i hi (by have := hS.len; omega)
  have HX : Hid (Nx S (dropS S i)) := ⟨by have := hS.len; have := cut_len hi; simp only [dropS, cutS]; omega, by simp only [dropS, cutS]; omega, by simp only [dropS, cutS]; omega, by simp only [dropS]; omega, by simp only [dropS]; omega⟩
  have HL : Hid (S.way.length - 1 = (S.way.take i ++ S.way.drop (i + 1)).length) := (cut_len hi).symm
  have l0 := hS.l0
  clear h hp hb hi
  go_enter Try.func20, Try.ntmps20
  go_wp2_with (first | (go_at_call 21; refine (CT.out _ _ _ (HB.out _)).mono ?_; rintro e w1 ⟨rfl, hw1⟩; subst hw1) | (go_at_call 12; refine (CD.out _ _ _ (HB.out _)).mono ?_; rintro e w2 ⟨rfl, hBo⟩; have d2 := hBo.p.c2; have df := hBo.p.f))
  have hB2 := hBo.set2 (S.lost + 1)
  generalize hwq : w2.setCell ⟨pb, 2, none⟩ (.int .i64 (S.lost + 1)) = wq at hB2 ⊢
  clear d2 df hBo hwq w2
  have d0 := hB2.p.c0
  have df := hB2.p.f
  have o1 : wq.cell? ⟨w.heap.size, 1, none⟩ = some (.int .i64 (i : Int)) := hB2.c 1
  have H2 : Hid _ := hB2
  clear hB2
  go_region_with (go_at_call 26; go_must (refine (CW.out _ H2.out.drew.p).mono ?_; rintro e w3 ⟨a', cap', rfl, hR, hb3, hF⟩; have e0 : w3.cell? ⟨pb, 0, none⟩ = some (.slice b S.way.length capb) := (hb3.cell (by exact H2.out.p.lt)).trans d0; have ef : w3.frozen? ⟨pb, 0, none⟩ = false := (World.frozen?_of_block (hb3.block pb H2.out.p.lt)).trans (df 0)))
  all_goals (go_wp2; go_ret; exact ⟨rfl, Next.mk (H2.out.drew.fresh hb3 hF hR HL.out) HX.out⟩)
theorem take_take_no (h : Pair B w0 w nb pb S) (hS : S.Ok) (i k : Int) (s : ByteArray) (hi : i < 0 ∨ (S.way.length : Int) ≤ i) :
    Calls Try.prog 20 #[.pointer (some ⟨nb, 0, none⟩), .pointer (some ⟨pb, 0, none⟩), .agg #[.int .i64 1, .int .i64 i, .int .i64 k, .string s]] w fun e w' => e = .returned (.bool true) ∧ Next B w0 w' nb pb S := by
  obtain ⟨b, capb, hp, hb⟩ := h.box
  have HB : Hid (∀ oc, Both B w0 (w.alloc (.cells oc 31)) nb pb S b capb S w.heap.size oc) := hb
  have CT : Hid (∀ w1 ob oc, Both B w0 w1 nb pb S b capb S ob oc → Calls Try.prog 21 #[.pointer (some ⟨pb, 0, none⟩), .int .i64 i] w1 fun e w' => e = .returned (.bool false) ∧ w' = w1) := fun w1 ob oc h => by
    have := there_any w1 h.p i; rwa [isIn_no hi] at this
  have CD : Hid (∀ w1 ob oc, Both B w0 w1 nb pb S b capb S ob oc → Calls Try.prog 15 #[.pointer (some ⟨nb, 0, none⟩), .int .i64 i] w1 fun e w' => e = .returned (.tuple #[.string ⟨#[]⟩, .int .i64 8]) ∧ Both B w0 w' nb pb S b capb S ob oc) := fun w1 ob oc h => h.same (fun a cap hn => Take_bad w1 hn i hi)
  have HX : Hid (Nx S S) := Nx.refl hS
  clear h hp hb hi
  go_enter Try.func20, Try.ntmps20
  go_wp2_with (first | (go_at_call 21; refine (CT.out _ _ _ (HB.out _)).mono ?_; rintro e w1 ⟨rfl, hw1⟩; subst hw1) | (go_at_call 15; refine (CD.out _ _ _ (HB.out _)).mono ?_; rintro e w2 ⟨rfl, hBo⟩))
  go_ret
  exact ⟨rfl, Next.mk hBo HX.out⟩
set_option maxHeartbeats 1000000 in
theorem take_take_yes (h : Pair B w0 w nb pb S) (hS : S.Ok) (i : Nat) (k : Int) (s : ByteArray) (hi : i < S.way.length) :
    Calls Try.prog 20 #[.pointer (some ⟨nb, 0, none⟩), .pointer (some ⟨pb, 0, none⟩), .agg #[.int .i64 1, .int .i64 (i : Int), .int .i64 k, .string s]] w fun e w' => e = .returned (.bool true) ∧ Next B w0 w' nb pb S := by
  obtain ⟨b, capb, hp, hb⟩ := h.box
  obtain ⟨g, rfl, hg, _, _⟩ := hp.row.form (way_ne hi)
  have HB : Hid (∀ oc, Both B w0 (w.alloc (.cells oc 31)) nb pb S (some ⟨g, 0, none⟩) capb S w.heap.size oc) := hb
  have CT : Hid (∀ w1 ob oc, Both B w0 w1 nb pb S (some ⟨g, 0, none⟩) capb S ob oc → Calls Try.prog 21 #[.pointer (some ⟨pb, 0, none⟩), .int .i64 (i : Int)] w1 fun e w' => e = .returned (.bool true) ∧ w' = w1) := fun w1 ob oc h => by
    have := there_any w1 h.p i; rwa [isIn_yes hi] at this
  have CD : Hid (∀ w1 ob oc, Both B w0 w1 nb pb S (some ⟨g, 0, none⟩) capb S ob oc → Calls Try.prog 15 #[.pointer (some ⟨nb, 0, none⟩), .int .i64 (i : Int)] w1 fun e w' => e = .returned (.tuple #[.string S.way[i], .int .i64 0]) ∧ Both B w0 w' nb pb (cutS S i) (some ⟨g, 0, none⟩) capb S ob oc) := fun w1 ob oc h => h.net (fun a cap hn => Take_ok w1 hn hS i hi)
  have CW : Hid (∀ w1, NtIs w1 28 pb (some ⟨g, 0, none⟩) capb S → Calls Try.prog 26 #[.slice (some ⟨g, 0, none⟩) S.way.length capb, .int .i64 (i : Int)] w1 fun e w' => ∃ a' cap', e = .returned (.slice a' (S.way.length - 1) cap') ∧ Row w' a' cap' (S.way.take i ++ S.way.drop (i + 1)) ∧ Below w1.heap.size w1 w' ∧ Fresh w1.heap.size a') :=
    fun w1 h => without_any w1 S.way S.way.length rfl h.row i hi (by have := hS.len; omega)
  have HX : Hid (Nx S (cutS S i)) := ⟨by have := hS.len; have := cut_len hi; simp only [cutS]; omega, by simp only [cutS]; omega, by simp only [cutS]; omega, by simp only [cutS]; omega, by simp only [cutS]; omega⟩
  have HL : Hid (S.way.length - 1 = (S.way.take i ++ S.way.drop (i + 1)).length) := (cut_len hi).symm
  have HC : Hid (∀ w1, NtIs w1 28 pb (some ⟨g, 0, none⟩) capb S → w1.cell? ⟨g, i, none⟩ = some (.string S.way[i])) := fun w1 h => h.row.cell hi
  have hi' : (i : Int) < (S.way.length : Int) := by omega
  clear h hp hb
  generalize S.way[i] = tx at CD HC
  clear hi
  go_enter Try.func20, Try.ntmps20
  go_wp2_with (first | (go_at_call 21; refine (CT.out _ _ _ (HB.out _)).mono ?_; rintro e w1 ⟨rfl, hw1⟩; subst hw1) | (go_at_call 15; refine (CD.out _ _ _ (HB.out _)).mono ?_; rintro e w2 ⟨rfl, hBo⟩; have d0 := hBo.p.c0; have dr := HC.out _ hBo.p; have o1 : w2.cell? ⟨w.heap.size, 1, none⟩ = some (.int .i64 (i : Int)) := hBo.c 1))
  go_quiet (fail)
  go_wp2_with fail
  generalize hwq : w2.drewN _ = wq
  have hB2 : Both B w0 wq nb pb (cutS S i) (some ⟨g, 0, none⟩) capb S w.heap.size #[.int .i64 1, .int .i64 (i : Int), .int .i64 k, .string s] := by rw [← hwq]; exact hBo.drewN _
  clear d0 dr o1 hBo hwq w2
  have d0 := hB2.p.c0
  have df := hB2.p.f
  have o1 : wq.cell? ⟨w.heap.size, 1, none⟩ = some (.int .i64 (i : Int)) := hB2.c 1
  have H2 : Hid (Both B w0 wq nb pb (cutS S i) (some ⟨g, 0, none⟩) capb S w.heap.size #[.int .i64 1, .int .i64 (i : Int), .int .i64 k, .string s]) := hB2
  clear hB2
  go_region_with (go_at_call 26; go_must (refine (CW.out _ H2.out.drew.p).mono ?_; rintro e w3 ⟨a', cap', rfl, hR, hb3, hF⟩; have e0 : w3.cell? ⟨pb, 0, none⟩ = some (.slice (some ⟨g, 0, none⟩) S.way.length capb) := (hb3.cell (by exact H2.out.p.lt)).trans d0; have ef : w3.frozen? ⟨pb, 0, none⟩ = false := (World.frozen?_of_block (hb3.block pb H2.out.p.lt)).trans (df 0)))
  all_goals (go_wp2; go_ret; exact ⟨by simp, Next.mk (H2.out.drew.fresh hb3 hF hR HL.out) HX.out⟩)
end Go.Proofs.Ytamchicifjnmgaa
