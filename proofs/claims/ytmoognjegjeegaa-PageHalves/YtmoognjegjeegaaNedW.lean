/- What a cell needs, told by both: the walk of PageNeeds. -/
import Derived.Test.YtmoognjegjeegaaAwk
import Derived.Deep.Slices
namespace Go.Proofs.Ytmoognjegjeegaa
open Go.RowKit
set_option linter.unusedVariables false
set_option linter.unusedSimpArgs false
set_option maxRecDepth 100000

theorem lneed_any (w : World) (c : Cl) (hk : c.k.size ≤ 140737488351232) (hv : c.v.size ≤ 140737488351232) : Calls Try.prog 28 #[.agg #[.string c.k, .string c.v]] w fun e w' => e = .returned (.int .i64 (need c)) ∧ Below w.heap.size w w' := by
  have e1 : (need c : Int) = 3 + (c.k.size : Int) + (c.v.size : Int) := by simp only [need]; omega
  rw [e1]
  go_enter Try.func28, Try.ntmps28
  go_wp2
  go_ret
  exact ⟨rfl, (Below.refl _ _).alloc (Nat.le_refl _) _⟩
theorem needs_walk (w : World) (k v : ByteArray) (hk : k.size ≤ 140737488351232) (hv : v.size ≤ 140737488351232) : Calls Try.prog 5 #[.agg #[.string k, .string v]] w fun e w' => e = .returned (.bool true) ∧ Below w.heap.size w w' := by
  have C1 : Hid (∀ w, Calls Try.prog 27 #[.agg #[.string k, .string v]] w fun e w' => e = .returned (.int .i64 (need ⟨k, v⟩)) ∧ Below w.heap.size w w') := fun w => Need_any w ⟨k, v⟩ hk hv
  have C2 : Hid (∀ w, Calls Try.prog 28 #[.agg #[.string k, .string v]] w fun e w' => e = .returned (.int .i64 (need ⟨k, v⟩)) ∧ Below w.heap.size w w') := fun w => lneed_any w ⟨k, v⟩ hk hv
  have C3 : Hid (∀ w, Calls Try.prog 18 #[] w fun e w' => e = .returned (.bool true) ∧ Below w.heap.size w w') := fun w => awake_any w
  generalize need ⟨k, v⟩ = n at *
  have hnn : ((n : Int) == (n : Int)) = true := by simp
  go_enter Try.func5, Try.ntmps5
  go_wp2_with (refine wpList_box_cb _ rfl _ rfl rfl ?_; intro w0 b0 N0; have d0 := N0.cb.c0; have d1 := N0.cb.c1)
  have keep0 : ∀ W, Below w0.drew.heap.size w0.drew W → W.cell? ⟨b0, 0, none⟩ = some (.string k) ∧ W.cell? ⟨b0, 1, none⟩ = some (.string v) := fun W hb => ⟨(hb.cell (by exact N0.cb.lt)).trans d0, (hb.cell (by exact N0.cb.lt)).trans d1⟩
  have KP : Hid _ := keep0
  clear keep0
  go_region_held3 (fun w' => w'.cell? ⟨b0, 0, none⟩ = some (.string k) ∧ w'.cell? ⟨b0, 1, none⟩ = some (.string v)) (first | exact keep3 | exact keep2 | exact keep1 | exact ⟨d0, d1⟩ | go_keep) (first | (go_at_call 27; refine (C1.out _).mono ?_; rintro e w2 ⟨rfl, hb2⟩; have keep1 := KP.out w2 hb2) | (go_at_call 28; refine (C2.out _).mono ?_; rintro e w3 ⟨rfl, hb3⟩; have hb3' := thn hb2 hb3; have keep2 := KP.out w3 hb3') | (go_at_call 18; refine (C3.out _).mono ?_; rintro e w4 ⟨rfl, hb4⟩; have hb4' := thn hb3' hb4; have keep3 := KP.out w4 hb4'))
  go_wp2
  go_ret
  exact ⟨rfl, thn (below_drewN N0.below 1) hb4'⟩
theorem open_cell {H : Type} {enc : TypeId × Value → H} {w : World} {fuel : Nat} {cs : Array Value} {d : DataW H} {p : List MemPlace} (hcs : cs.size = Try.prog.cellsOf 28)
    (h : DataW.trod enc Try.prog w 0 (fun _ => true) true fuel 28 cs.toList = some (d, p)) (hw : ∀ n ∈ d.weights Try.prog 28, n ≤ reachBytes) :
    ∃ k v : ByteArray, cs = #[.string k, .string v] ∧ k.size ≤ 140737488351232 ∧ v.size ≤ 140737488351232 := by
  have h28 : Try.prog.cellsOf 28 = 2 := by kernel_rfl
  have h9 : Try.prog.cellsOf 9 = 1 := by kernel_rfl
  rw [h28] at hcs
  obtain ⟨xs, k, hk, hx, _, hxl, hf⟩ := DataW.trod_struct Try.underlying28 h
  obtain ⟨l⟩ := cs
  match xs, hxl, l, hcs with
  | [y0, y1], _, [v0, v1], _ =>
    have f0 := hf 0 _ rfl
    have f1 := hf 1 _ rfl
    simp [h9] at f0 f1
    obtain ⟨s0, i0, j0, _⟩ := DataW.trod_string Try.underlying9 f0
    obtain ⟨s1, i1, j1, _⟩ := DataW.trod_string Try.underlying9 f1
    simp at i0 i1
    subst i0 i1 j0 j1
    simp only [Prod.mk.injEq, List.map_cons, List.map_nil] at hx
    obtain ⟨rfl, _⟩ := hx
    refine ⟨s0, s1, rfl, ?_, ?_⟩
    · have := hw s0.data.toList.length (by simp [DataW.weights, Try.underlying28, DataW.weightsEach])
      simpa [reachBytes] using this
    · have := hw s1.data.toList.length (by simp [DataW.weights, Try.underlying28, DataW.weightsEach])
      simpa [reachBytes] using this
end Go.Proofs.Ytmoognjegjeegaa
