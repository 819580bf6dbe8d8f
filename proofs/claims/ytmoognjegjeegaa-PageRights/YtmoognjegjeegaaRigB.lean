/- The walk of PageRights, bytes that are a page that is not Free. -/
import Derived.Test.YtmoognjegjeegaaRigW
import Derived.Deep.RegionHeld3
namespace Go.Proofs.Ytmoognjegjeegaa
open Go.RowKit
set_option linter.unusedVariables false
set_option linter.unusedSimpArgs false
set_option maxRecDepth 100000

set_option maxHeartbeats 4000000 in
theorem rights_B (w : World) (p x : ByteArray) (i : Int) (h : Right (bts p)) (hkk : g (bts p) 0 ≠ 0) : Calls Try.prog 3 #[.string p, .string x, .int .i64 i] w fun e w' => e = .returned (.bool true) ∧ Below w.heap.size w w' := by
  have C0 : Hid (∀ w, Calls Try.prog 9 #[.string p] w fun e w' => ∃ a cap, e = .returned (.tuple #[.slice a (cnt (bts p)) cap, .bool true]) ∧ Sl w' a cap (cells (bts p)) ∧ Below w.heap.size w w') := fun w => lcells_right w p h
  have C1 : Hid (∀ w, Calls Try.prog 10 #[.string p, .string x] w fun e w' => e = .returned (.tuple #[.int .i64 (plc (cells (bts p)) x : Nat), .bool (isAt (cells (bts p)) x)]) ∧ Below w.heap.size w w') := fun w => Find_right w p x h
  have C3 : Hid (∀ w, Calls Try.prog 12 #[.string p] w fun e w' => e = .returned (.bool true) ∧ Below w.heap.size w w') := fun w => Right_right w p h
  have C4 : Hid (∀ w, Calls Try.prog 13 #[.string p] w fun e w' => e = .returned (.int .i64 (g (bts p) 0 : Nat)) ∧ Below w.heap.size w w') := fun w => Kind_right w p h
  have C5 : Hid (∀ w, Calls Try.prog 14 #[.string p] w fun e w' => e = .returned (.int .i64 (g (bts p) 1 : Nat)) ∧ Below w.heap.size w w') := fun w => Level_right w p h
  have C6 : Hid (∀ w, Calls Try.prog 15 #[.string p] w fun e w' => e = .returned (.int .i64 (cnt (bts p) : Nat)) ∧ Below w.heap.size w w') := fun w => Count_right w p h
  have C7 : Hid (∀ w, Calls Try.prog 16 #[.string p] w fun e w' => e = .returned (.int .i64 (rm (bts p) : Nat)) ∧ Below w.heap.size w w') := fun w => Room_right w p h
  have C8 : Hid (∀ w, Calls Try.prog 17 #[.string p] w fun e w' => ∃ a, e = .returned (.slice (some ⟨a, 0, none⟩) (cnt (bts p)) (cnt (bts p))) ∧ Cs w' (some ⟨a, 0, none⟩) (cells (bts p)) ∧ Below w.heap.size w w') := fun w => Cells_right w p h
  have C9 : Hid (∀ w, Calls Try.prog 18 #[] w fun e w' => e = .returned (.bool true) ∧ Below w.heap.size w w') := fun w => awake_any w
  have hsm := h.small
  have hn := h.head.slotlt
  have hcl := cells_length (bts p)
  have CP : Hid (∀ w a cap, Cs w a (cells (bts p)) → Calls Try.prog 19 #[.slice a (cnt (bts p)) cap, .string x] w fun e w' => e = .returned (.tuple #[.int .i64 (plc (cells (bts p)) x : Nat), .bool (isAt (cells (bts p)) x)]) ∧ Below w.heap.size w w') := fun w a cap hc => by
    have := place_any w cap hc hsm.len x
    rw [hcl] at this; exact this
  have CM : Hid (∀ w a cap, Cs w a (cells (bts p)) → Calls Try.prog 20 #[.slice a (cnt (bts p)) cap] w fun e w' => e = .returned (.int .i64 (220 - (needs (cells (bts p)) : Int))) ∧ Below w.heap.size w w') := fun w a cap hc => by
    have := lroom_any w cap hc hsm
    rw [hcl] at this; exact this
  have CS : Hid (∀ w a a' cap cap', Cs w a (cells (bts p)) → Cs w a' (cells (bts p)) → Calls Try.prog 21 #[.slice a (cnt (bts p)) cap, .slice a' (cnt (bts p)) cap'] w fun e w' => e = .returned (.bool true) ∧ Below w.heap.size w w') := fun w a a' cap cap' hc hc' => by
    have := same_any w cap cap' hc hc' hsm.len
    rw [hcl] at this; exact this
  have hp := h.size
  have hg := idx_g p
  have i0 := fun h => hg 0 h
  have i1 := fun h => hg 1 h
  have b0 := g_lt (bts p) 0
  have b1 := g_lt (bts p) 1
  have hfit := h.fit
  have hrm : (g (bts p) 0 = 0 ∧ rm (bts p) = 0) ∨ (g (bts p) 0 ≠ 0 ∧ (rm (bts p) : Int) = 220 - (needs (cells (bts p)) : Int)) := by
    by_cases e : g (bts p) 0 = 0
    · exact Or.inl ⟨e, by rw [rm, if_pos e]⟩
    · exact Or.inr ⟨e, by rw [rm, if_neg e]; omega⟩
  have hq : ∀ q : Bool, (q != q) = false := fun q => by cases q <;> rfl
  have C2 : Hid (∃ k v er, (∀ w, Calls Try.prog 11 #[.string p, .int .i64 i] w fun e w' => e = .returned (.tuple #[.agg #[.string k, .string v], .int .i64 er]) ∧ Below w.heap.size w w') ∧ (((i < 0 ∨ (cnt (bts p) : Int) ≤ i) ∧ k = ⟨#[]⟩ ∧ v = ⟨#[]⟩ ∧ er = 8) ∨ ∃ t : Nat, i = (t : Int) ∧ t < cnt (bts p) ∧ k = (cell (bts p) t).k ∧ v = (cell (bts p) t).v ∧ er = 0)) := by
    by_cases hi : i < 0 ∨ (cnt (bts p) : Int) ≤ i
    · exact ⟨_, _, _, fun w => At_none w p i h hi, Or.inl ⟨hi, rfl, rfl, rfl⟩⟩
    · obtain ⟨t, rfl⟩ : ∃ t : Nat, i = (t : Int) := ⟨i.toNat, by omega⟩
      exact ⟨_, _, _, fun w => At_right w p t h (by omega), Or.inr ⟨t, rfl, by omega, rfl, rfl, rfl⟩⟩
  obtain ⟨ck, cv, er, C2a, hcase⟩ := C2.out
  have CA : Hid _ := C2a
  have HCASE : Hid _ := hcase
  have HCG : Hid (∀ t (ht : t < cnt (bts p)), (cells (bts p))[t]? = some (cell (bts p) t)) := (fun t ht => cells_get ht : ∀ t (ht : t < cnt (bts p)), (cells (bts p))[t]? = some (cell (bts p) t))
  clear C2 C2a hcase hg h hsm hcl hfit
  generalize bts p = s at *
  generalize plc (cells s) x = pl at *
  generalize isAt (cells s) x = ia at *
  generalize g s 1 = l0 at *
  have hia := hq ia
  have hpl : ((pl : Int) != (pl : Int)) = false := by simp
  have hl0 : ((l0 : Int) != (l0 : Int)) = false := by simp
  have hcn : ((cnt s : Int) != (cnt s : Int)) = false := by simp
  have hrr : ((rm s : Int) != (rm s : Int)) = false := by simp
  have hgg : ((g s 0 : Int) != (g s 0 : Int)) = false := by simp
  obtain ⟨hk, hr⟩ : g s 0 ≠ 0 ∧ (rm s : Int) = 220 - (needs (cells s) : Int) := by
    rcases hrm with h | h
    · exact absurd h.1 hkk
    · exact h
  have hk' : ((g s 0 : Int) == 0) = false := by simp; omega
  rw [← hr] at CM
  clear hk hr hrm hkk
  generalize g s 0 = k0 at *
  generalize rm s = rr at *
  go_enter Try.func3, Try.ntmps3
  go_wp2_with (first | (go_at_call 9; refine (C0.out _).mono ?_; rintro e w1 ⟨a1, cap1, rfl, hL1, hb1⟩) | (go_at_call 10; refine (C1.out _).mono ?_; rintro e w2 ⟨rfl, hb2⟩) | (go_at_call 11; refine (CA.out _).mono ?_; rintro e w3 ⟨rfl, hb3⟩) | (refine wpList_new_cb _ rfl rfl ?_; intro w4 b4 N4) | (refine wpList_put_cb _ rfl _ _ rfl rfl rfl N4.cb ?_; intro w5 P5; have hb5 := boxed (thn hb2 hb3) N4 P5) | (go_at_call 12; refine (C3.out _).mono ?_; rintro e w6 ⟨rfl, hb6⟩; have hL6 := hL1.below (thn hb5 hb6)) | (go_at_call 19; refine (CP.out _ _ _ hL6.cs).mono ?_; rintro e w7 ⟨rfl, hb7⟩; have hL7 := hL6.below hb7) | (go_at_call 20; refine (CM.out _ _ _ hL7.cs).mono ?_; rintro e w8 ⟨rfl, hb8⟩; have hL8 := hL7.below hb8))
  have y1 : IntKind.i64.wrap (k0 : Int) = (k0 : Int) := IntWalk.i64_in _ (by omega)
  have y2 : IntKind.i64.wrap (l0 : Int) = (l0 : Int) := IntWalk.i64_in _ (by omega)
  have y3 : RowKit.wrap64 (k0 : Int) = (k0 : Int) := (IntWalk.i64_left _).symm.trans y1
  have y4 : RowKit.wrap64 (l0 : Int) = (l0 : Int) := (IntWalk.i64_left _).symm.trans y2
  have Z8 : Below w8.heap.size w8 w8.drew := below_drewN (Below.refl _ _) 1
  go_region_held3 (fun _ => True) (trivial) (first | (go_at_call 13; refine (C4.out _).mono ?_; rintro e wA ⟨rfl, hA⟩; have zA := thn Z8 hA) | (go_at_call 14; refine (C5.out _).mono ?_; rintro e wB ⟨rfl, hB⟩; have zB := thn zA hB) | (go_at_call 15; refine (C6.out _).mono ?_; rintro e wC ⟨rfl, hC⟩; have zC := thn zB hC) | (go_at_call 17; refine (C8.out _).mono ?_; rintro e wD ⟨a2, rfl, hcD, hD⟩; have zD := thn zC hD; have hLD := hL8.below zD) | (go_at_call 21; refine (CS.out _ _ _ _ _ hcD hLD.cs).mono ?_; rintro e wE ⟨rfl, hE⟩; have zE := thn zD hE) | (go_at_call 16; refine (C7.out _).mono ?_; rintro e wF ⟨rfl, hF⟩; have zF := thn zE hF))
  all_goals
    clear hA hB hC hD hE zA zB zC zD zE hcD hLD
    have hbF : Below w8.heap.size w8 wF := zF
    have hb8' : Below w1.heap.size w1 w8 := thn (thn (thn hb5 hb6) hb7) hb8
    have hBF : Cb wF b4 ck cv := ((((P5.cb.below hb6).below hb7).below hb8).below hbF)
    have f0 := hBF.c0
    have f1 := hBF.c1
    have hLF := hL8.below hbF
    have hwF : Below w.heap.size w wF := thn (thn hb1 hb8') hbF
    clear hF zF hbF
    rcases HCASE.out with ⟨hi, rfl, rfl, rfl⟩ | ⟨t, rfl, ht, hk, hv, rfl⟩
    · by_cases h0 : i < 0
      · clear hi
        go_wp2_with (go_at_call 18; refine (C9.out _).mono ?_; rintro e wG ⟨rfl, hG⟩)
        go_ret
        exact ⟨rfl, thn hwF hG⟩
      · have h1 : (cnt s : Int) ≤ i := by omega
        clear hi
        go_wp2_with (go_at_call 18; refine (C9.out _).mono ?_; rintro e wG ⟨rfl, hG⟩)
        go_ret
        exact ⟨rfl, thn hwF hG⟩
    · have hcl := cells_length s
      obtain ⟨b, off, rfl, hbl, c0, c1⟩ := hLF.cs.at_ t (by omega)
      have hct := HCG.out t ht
      rw [List.getElem?_eq_getElem (by omega)] at hct
      simp only [Option.some.injEq] at hct
      rw [hct, ← hk] at c0
      rw [hct, ← hv] at c1
      have ht' : ¬ (cnt s : Int) ≤ (t : Int) := by omega
      have ht0 : ¬ (t : Int) < 0 := by omega
      have hkeep : ∀ W, Below wF.drew.heap.size wF.drew W → (W.cell? ⟨b4, 0, none⟩ = some (.string ck) ∧ W.cell? ⟨b4, 1, none⟩ = some (.string cv)) ∧ W.cell? ⟨b, off + t * 2, none⟩ = some (.string ck) ∧ W.cell? ⟨b, off + t * 2 + 1, none⟩ = some (.string cv) := fun W hW => ⟨⟨(hW.cell (by exact hBF.lt)).trans f0, (hW.cell (by exact hBF.lt)).trans f1⟩, (hW.cell (by exact hbl)).trans c0, (hW.cell (by exact hbl)).trans c1⟩
      have KP : Hid _ := hkeep
      clear hkeep hct hk hv hcl
      go_wp2
      go_region_held3 (fun W => (W.cell? ⟨b4, 0, none⟩ = some (.string ck) ∧ W.cell? ⟨b4, 1, none⟩ = some (.string cv)) ∧ W.cell? ⟨b, off + t * 2, none⟩ = some (.string ck) ∧ W.cell? ⟨b, off + t * 2 + 1, none⟩ = some (.string cv)) (first | exact keep1 | exact ⟨⟨f0, f1⟩, c0, c1⟩ | go_keep) (first | (go_at_call 18; refine (C9.out _).mono ?_; rintro e wG ⟨rfl, hG⟩; have keep1 := KP.out wG hG))
      all_goals
        go_wp2
        go_ret
        exact ⟨rfl, thn (below_drewN hwF 1) hG⟩
end Go.Proofs.Ytmoognjegjeegaa
