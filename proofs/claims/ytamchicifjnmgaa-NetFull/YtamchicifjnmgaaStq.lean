/- The law's step: Copy where there is room, and Swap; the step as a whole. -/
import Derived.Test.YtamchicifjnmgaaStp
import Derived.BigRegion
namespace Go.Proofs.Ytamchicifjnmgaa
open Go.RowKit
set_option linter.unusedVariables false
set_option linter.unusedSimpArgs false
set_option maxRecDepth 100000
variable {B : Nat} {w0 w : World} {nb pb : Nat} {S : Nt}

set_option maxHeartbeats 4000000 in
theorem step_copy (h : Pair B w0 w nb pb S) (hS : S.Ok) (i : Nat) (k : Int) (s : ByteArray) (hi : i < S.way.length) (hf : S.way.length < 128) :
    Calls Try.prog 8 #[.pointer (some ⟨nb, 0, none⟩), .pointer (some ⟨pb, 0, none⟩), .agg #[.int .i64 3, .int .i64 (i : Int), .int .i64 k, .string s]] w fun e w' => e = .returned (.bool true) ∧ Next B w0 w' nb pb S := by
  obtain ⟨b, capb, hp, hb⟩ := h.box
  obtain ⟨g, rfl, hg, _, _⟩ := hp.row.form (way_ne hi)
  have HB : Hid (∀ oc, Both B w0 (w.alloc (.cells oc 31)) nb pb S (some ⟨g, 0, none⟩) capb S w.heap.size oc) := hb
  have CT : Hid (∀ w1 Sn ob oc, Both B w0 w1 nb pb Sn (some ⟨g, 0, none⟩) capb S ob oc → Calls Try.prog 21 #[.pointer (some ⟨pb, 0, none⟩), .int .i64 (i : Int)] w1 fun e w' => e = .returned (.bool true) ∧ w' = w1) := fun w1 Sn ob oc h => by
    have := there_any w1 h.p i; rwa [isIn_yes hi] at this
  have CD : Hid (∀ w1 ob oc, Both B w0 w1 nb pb S (some ⟨g, 0, none⟩) capb S ob oc → Calls Try.prog 13 #[.pointer (some ⟨nb, 0, none⟩), .int .i64 (i : Int)] w1 fun e w' => e = .returned (.int .i64 0) ∧ Both B w0 w' nb pb ⟨S.way ++ [S.way[i]], S.sent, S.lost⟩ (some ⟨g, 0, none⟩) capb S ob oc) := fun w1 ob oc h => by
    refine h.net (fun a cap hn => ?_)
    have := Copy_ok w1 hn hS i hi
    rwa [show copyE S = 0 by simp [copyE]; omega, put_room hf] at this
  have HX : Hid (Nx S ⟨S.way ++ [S.way[i]], S.sent, S.lost⟩) := ⟨by simp; omega, by simp only; omega, by simp only; omega, by simp only; omega, by simp only; omega⟩
  have HC : Hid (∀ w1, NtIs w1 28 pb (some ⟨g, 0, none⟩) capb S → w1.cell? ⟨g, i, none⟩ = some (.string S.way[i])) := fun w1 h => h.row.cell hi
  have hf' : (S.way.length : Int) < 128 := by omega
  have hi' : (i : Int) < (S.way.length : Int) := by omega
  clear h hp hb
  generalize S.way[i] = tx at CD HC HX
  clear hi
  go_enter Try.func8, Try.ntmps8
  go_wp2_with (first | (go_at_call 13; refine (CD.out _ _ _ (HB.out _)).mono ?_; rintro e w2 ⟨rfl, hBo⟩; have o1 : w2.cell? ⟨w.heap.size, 1, none⟩ = some (.int .i64 (i : Int)) := hBo.c 1; have d0 := hBo.p.c0; have dr := HC.out _ hBo.p) | (go_at_call 21; refine (CT.out _ _ _ _ hBo).mono ?_; rintro e w1 ⟨rfl, hw1⟩; subst hw1))
  have dlt := hBo.p.lt
  have olt : w.heap.size < w1.heap.size := hBo.olt
  have glt : g < w1.heap.size := hBo.p.row.lt g rfl
  have HR : Hid (∀ o, Both B w0 ((w1.alloc o).drew) nb pb ⟨S.way ++ [tx], S.sent, S.lost⟩ (some ⟨g, 0, none⟩) capb S w.heap.size #[.int .i64 3, .int .i64 (i : Int), .int .i64 k, .string s]) := fun o => (hBo.alloc o).drew
  clear hBo
  go_region_law (refine step_append_row rfl (.tmp 149) (.tmp 158) rfl (n := S.way.length) (xs := S.way) (by simp [Act.eval, Act.put]) rfl (HR.out _).p.row ⟨w1.heap.size, 0, none⟩ 1 1 [tx] (by simp [Act.eval, Act.put]) rfl (one_new (by simp)) (by omega) ?_; intro b' capb' w3 hR hG hO; obtain ⟨e0, ef, eo⟩ := (HR.out _).mid hG; clear eo)
  all_goals (
    go_wp2
    go_ret
    exact ⟨rfl, Next.mk ((HR.out _).app hG hO hR (by simp)) HX.out⟩)
end Go.Proofs.Ytamchicifjnmgaa
