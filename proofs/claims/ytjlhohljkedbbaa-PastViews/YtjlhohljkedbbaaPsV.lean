/- slices.Clone of cells; View of a past that nobody made. -/
import Derived.Test.YtjlhohljkedbbaaPsI
namespace Go.Proofs.Ytjlhohljkedbbaa.Pa
open Go.RowKit Gm Go.Maps
set_option linter.unusedVariables false
set_option linter.unusedSimpArgs false
set_option maxRecDepth 100000
theorem elC : El 23 39 2 (.agg #[.string ⟨#[]⟩, .string ⟨#[]⟩]) := ⟨Try.underlying23, by
  obtain ⟨i, h1, h2, h3, h4⟩ := info_parts (show (Try.prog.info? 39).map (fun i => (i.zero, i.size, i.bytes)) = some (some (.agg #[.string ⟨#[]⟩, .string ⟨#[]⟩]), 2, 32) by kernel_rfl)
  exact ⟨i, h1, h2, h3, by omega⟩, rfl, by omega⟩
theorem bC0 (w : World) : (Instr.buildSlice 23 0 #[]).run Try.prog w = .ok (.slice (some ⟨w.heap.size, 0, none⟩) 0 0) (w.alloc (.cells #[] 39)) := by kernel_rfl
/-- What Clone leaves. -/
structure ClO (w w' : World) (v : Value) (M : List (List Value)) : Prop where
  row : Row w' 39 2 v M
  bel : Below w.heap.size w w'
  own : ∀ g, v.ownBlock = some g → w.heap.size ≤ g
structure ClE (w : World) (e : Ending) (w' : World) (M : List (List Value)) : Prop where
  ex : ∃ v, e = .returned v ∧ ClO w w' v M
section
variable {w w' : World} {M : List (List Value)} {g of c : Nat}
theorem Clone_any (hM : ∀ d ∈ M, d.length = 2) (hn : M.length ≤ 90000) (hg : g < w.heap.size) (hc : ∀ j u, M.flatten[j]? = some u → w.cell? ⟨g, of + j, none⟩ = some u) (h1 : ∀ u ∈ M.flatten, u.oneCell' = true) : Calls Try.prog 25 #[.slice (some ⟨g, of, none⟩) M.length c] w fun e w' => ClE w e w' M := by
  have HM : Hid (∀ d ∈ M, d.length = 2) := hM
  have HC : Hid (∀ wx, Below w.heap.size w wx → ∀ j u, M.flatten[j]? = some u → wx.cell? ⟨g, of + j, none⟩ = some u) := fun wx hb j u hu => by
    have h := hc j u hu
    rw [World.cell?_of_block (hb.block g hg)]
    exact h
  have H1 : Hid (∀ u ∈ M.flatten, u.oneCell' = true) := h1
  have HN : Hid (M.length ≤ 90000) := hn
  have he : ∀ w a n c, (binOp .eql 23 (.slice (some a) n c) (.slice none 0 0)).run Try.prog w = .ok (.bool false) w := fun w a n c => by
    have := Lib.run_eql_slice_nil (P := Try.prog) w 23 _ (some a) n c 0 0 Try.underlying23
    simpa using this
  clear hM hc h1 hn hg
  generalize hm : M.length = m at *
  have Hm : Hid (M.length = m) := hm
  clear hm
  go_enter Try.func25, Try.ntmps25
  go_wp2_with first
    | (refine wpList_build0 _ rfl rfl bC0 ?_; intro w1 b1 N1)
    | (refine wpList_append elC (L := []) (M := M) rfl _ _ rfl rfl (Row.empty N1.is) rfl Hm.out HM.out (HC.out _ N1.bel) H1.out (by have := HN.out; have := Hm.out; simp only [List.length_nil]; omega) ?_; intro a2 c2 w2 A2)
  go_ret
  have A3 : App w1 w2 39 2 (.slice (some ⟨b1, 0, none⟩) 0 0) (.slice a2 m c2) M := by
    rw [show ([] : List (List Value)).length + m = m from Nat.zero_add m] at A2
    exact A2
  clear A2
  refine ⟨.slice a2 m c2, rfl, A3.row, N1.bel.trans (A3.bel (fun g e => by cases e; rw [N1.eq]; exact Nat.le_refl _) N1.bel.size), fun g e => ?_⟩
  rcases A3.own with h | h
  · rw [h] at e; cases e; rw [N1.eq]; exact Nat.le_refl _
  · rw [h] at e; cases e; exact N1.bel.size
theorem first_one {k v : ByteArray} (hb : At w g 39 #[.string k, .string v]) : Calls Try.prog 17 #[.slice (some ⟨g, 0, none⟩) 1 1, .int .i64 1] w fun e w' => ClE w e w' [[.string k, .string v]] := by
  have C : Hid (Calls Try.prog 25 #[.slice (some ⟨g, 0, none⟩) 1 1] w fun e w' => ClE w e w' [[.string k, .string v]]) := Clone_any (M := [[.string k, .string v]]) (by simp) (by simp) hb.lt (fun j u hu => hb.range j u (by simpa using hu)) (by intro u hu; simp at hu; rcases hu with rfl | rfl <;> rfl)
  clear hb
  go_enter Try.func17, Try.ntmps17
  go_wp2_with (go_at_call 25; refine C.out.mono ?_; rintro e w2 ⟨u, rfl, hu⟩)
  go_ret
  exact ⟨_, rfl, hu⟩
theorem View_nil {k v lo hi : ByteArray} (hb : At w g 39 #[.string k, .string v]) : Calls Try.prog 10 #[.pointer none, .slice (some ⟨g, 0, none⟩) 1 1, .string lo, .string hi, .int .i64 1] w fun e w' => ClE w e w' [[.string k, .string v]] := by
  have C : Hid (∀ w, Calls Try.prog 14 #[.pointer none] w fun e w' => e = .returned (.bool false) ∧ w' = w) := isMade_nil
  have D : Hid (Calls Try.prog 17 #[.slice (some ⟨g, 0, none⟩) 1 1, .int .i64 1] w fun e w' => ClE w e w' [[.string k, .string v]]) := first_one hb
  clear hb
  go_enter Try.func10, Try.ntmps10
  go_wp2_with first
    | (go_at_call 14; refine (C.out _).mono ?_; rintro e w2 ⟨rfl, rfl⟩)
    | (go_at_call 17; refine D.out.mono ?_; rintro e w2 ⟨u, rfl, hu⟩)
  go_ret
  exact ⟨_, rfl, hu⟩
theorem Keys_zero {z : Nat} {y : Option Nat} (h : At w z 51 #[.map y, .map none]) : Calls Try.prog 23 #[.pointer (some ⟨z, 0, none⟩)] w fun e w' => e = .returned (.slice none 0 0) ∧ w' = w := by
  have H : Hid (At w z 51 #[.map y, .map none]) := h
  clear h
  go_enter Try.func23, Try.ntmps23
  go_wp2_with (go_at_call 14; refine (isMade_zero H.out).mono ?_; rintro e w2 ⟨rfl, rfl⟩)
  go_ret
  exact ⟨rfl, rfl⟩
end
end Go.Proofs.Ytjlhohljkedbbaa.Pa
