/- The law DiskPlays, walked. -/
import Derived.Test.YtoafoopenmppgaaRd
import Derived.Deep.RegionLaw
import Derived.Deep.RegionHeld3
namespace Go.Proofs.Ytoafoopenmppgaa
open Go.RowKit Go.Maps Go.ChangeMaps Go.Sort
set_option linter.unusedVariables false
set_option linter.unusedSimpArgs false
set_option maxRecDepth 100000

theorem wpAnyH_imp {P : Program} {ops : Array Oper} {Q : Exit → Act → World → Prop} {md : Region.Mode} {S T : World → Prop} (h : ∀ w, T w → S w) : ∀ (fuel : Nat) (listed : Array Bool) (a : Act) (w : World), wpAnyH P md ops Q T fuel listed a w → wpAnyH P md ops Q S fuel listed a w
  | 0, _, _, _, hh => hh
  | fuel + 1, _, _, _, hh => ⟨hh.1, fun i hi => wpOp_mono (fun a' w' h' => ⟨h _ h'.1, wpAnyH_imp h fuel _ a' w' h'.2⟩) (hh.2 i hi)⟩

set_option maxHeartbeats 8000000 in
theorem plays_in (n : Nat) (h1 : 1 ≤ n) (h2 : n ≤ 100) (a : Option Addr) (len cp : Nat) (f : Nat → Int × Int × ByteArray × Int) (w : World) (hO : IsOps w a len f) :
    Calls Try.prog 3 #[.int .i64 (n : Int), .slice a len cp] w fun e w' => e = .returned (.bool true) ∧ Below w.heap.size w w' := by
  obtain ⟨B, hB⟩ : ∃ B, B = w.heap.size := ⟨_, rfl⟩
  have C0 : Hid (Calls Try.prog 8 #[.int .i64 (n : Int)] w fun e w' => e = .returned (.tuple #[.pointer (some ⟨B + 2, 0, none⟩), .int .i64 0]) ∧ DkIs w' (B + 2) B (B + 1) 0 (newDk n) ∧ Below B w w') := by
    rw [hB]; exact New_any n h1 (by omega) w
  have CW : Hid (∀ w, Calls Try.prog 9 #[.string ⟨#[]⟩] w fun e w' => e = .returned (.string zs64) ∧ w' = w) := fun w => whole_any _ w (by decide)
  have HB : Hid (B ≤ w.heap.size) := Nat.le_of_eq hB
  have HO : Hid (∀ (wr : World) i, Below B w wr → i < len → ∃ b off, a = some ⟨b, off, none⟩ ∧ wr.cell? ⟨b, off + i * 4, none⟩ = some (.int .i64 (f i).1) ∧ wr.cell? ⟨b, off + i * 4 + 1, none⟩ = some (.int .i64 (f i).2.1) ∧ wr.cell? ⟨b, off + i * 4 + 2, none⟩ = some (.string (f i).2.2.1) ∧ wr.cell? ⟨b, off + i * 4 + 3, none⟩ = some (.int .u64 (f i).2.2.2)
    ∧ (f i).2.1 ≤ 9223372036854775807 ∧ (f i).2.2.1.size ≤ 9223372036854775807 ∧ 0 ≤ (f i).2.2.2 ∧ (f i).2.2.2 ≤ 18446744073709551615) := fun wr i hb hi => by
    obtain ⟨b, off, g0, g1, g2, g3, g4, g5, g6⟩ := hO i hi
    have e : ∀ j, wr.cell? ⟨b, j, none⟩ = w.cell? ⟨b, j, none⟩ := fun j => hb.cell (by rw [hB]; exact g1)
    exact ⟨b, off, g0, by rw [e]; exact g2, by rw [e]; exact g3, by rw [e]; exact g4, by rw [e]; exact g5, g6⟩
  obtain ⟨i0, hi, hz0, hz1, hz2⟩ := info_parts (show (Try.prog.info? 35).map (fun i => (i.zero, i.size, i.bytes)) = some (some (.agg #[.string ⟨#[]⟩, .string ⟨#[]⟩, .bool false]), 3, 40) by kernel_rfl)
  have HI : Hid (Try.prog.info? 35 = some i0 ∧ i0.zero = some (.agg #[.string ⟨#[]⟩, .string ⟨#[]⟩, .bool false]) ∧ i0.size = 3 ∧ i0.bytes = 40) := ⟨hi, hz0, hz1, hz2⟩
  have n1 : ¬ (100 : Int) < (n : Int) := by omega
  have n2 : ¬ (n : Int) < 1 := by omega
  have n3 : ¬ (8192 : Int) < (n : Int) := by omega
  rw [← hB]
  clear hB hO hi hz0 hz1 hz2
  go_enter Try.func3, Try.ntmps3
  go_wp2_with (go_at_call 8; refine C0.out.mono ?_; rintro e w1 ⟨rfl, hD0, hb0⟩)
  have hK1 : B + 2 < w1.heap.size := hD0.lt
  go_loopw [8] (fun iv wr => ∃ (i : Nat) (v : Value), iv = .int .i64 (i : Int) ∧ i ≤ n ∧ wr.heap[w1.heap.size]? = some (.cells #[v, .bool false, .bool false, .int .i64 0, .int .u64 0, .int .i64 0, .int .i64 0] 32) ∧ wr.ownsRow (w1.heap.size + 1) 35 3 v i (xsN i) ∧ DkIs wr (B + 2) B (B + 1) 0 (newDk n) ∧ Below B w wr ∧ w1.heap.size + 1 ≤ wr.heap.size) (fun iv _ => n - (intOf iv).toNat)
  case atStart =>
    refine ⟨0, .slice none 0 0, rfl, by omega, (MapKept.heap_alloc w1 _).1, ⟨rfl, .inl ⟨rfl, rfl⟩⟩, hD0.below (below_alloc _ _), hb0.alloc (by have := hb0.size; have := HB.out; omega) _, by simp⟩
  case round =>
    obtain ⟨i, v, rfl, hin, hblk, hrow, hD, hb, hsz⟩ := hrel
    by_cases hil : i < n
    · have iI : (i : Int) < (n : Int) := by omega
      have c0 : wr.cell? ⟨w1.heap.size, 0, none⟩ = some v := Joins.cell_of_block hblk 0
      have c0A : ∀ o, (wr.alloc o).cell? ⟨w1.heap.size, 0, none⟩ = some v := fun o => (World.cell?_alloc_lt _ _ _ (by show w1.heap.size < wr.heap.size; omega)).trans c0
      have HRA : Hid (∀ o, ((wr.alloc o).drew).ownsRow (w1.heap.size + 1) 35 3 v i (xsN i)) := fun o => hrow.alloc o
      have HNB : Hid (∀ o, ((wr.alloc o).drew).heap[wr.heap.size]? = some o) := fun o => (MapKept.heap_alloc wr o).1
      have HNE : Hid (some w1.heap.size ≠ v.ownBlock) := row_ne_low hrow (by omega)
      have HRL : Hid _ := hrow.lt
      have HBLK : Hid (∀ o, ((wr.alloc o).drew).heap[w1.heap.size]? = some (.cells #[v, .bool false, .bool false, .int .i64 0, .int .u64 0, .int .i64 0, .int .i64 0] 32)) := fun o => (Below.heap_alloc wr o _ (by omega)).trans hblk
      have HBE : Hid (Below w1.heap.size wr wr) := Below.refl _ _
      go_wp2
      go_region_law (first
        | (refine step_append_lies _ rfl (.tmp 54) (.tmp 58) 29 rfl (w1.heap.size + 1) 35 i0 _ 3 40 Try.underlying29 HI.out.1 HI.out.2.1 HI.out.2.2.1 HI.out.2.2.2 rfl (by decide) v i (xsN i) (by simp [Act.eval, Act.put]) (HRA.out _) ⟨wr.heap.size, 0, none⟩ 1 1 [.string zs64, .string zs64, .bool false] (by simp [Act.eval, Act.put]) rfl (World.news_of_block (HNB.out _)) (by simp [Value.oneCell']) (by omega) (by unfold maxLen; omega) (by omega) (by simp; omega) (wr.heap.size + 1) (by simp) ?_; intro g cap w2 hown2 hgrow hat hlt; have hpbk := (hgrow.block w1.heap.size (by simp; omega) HNE.out).trans (HBLK.out _); have cc0 : w2.cell? ⟨w1.heap.size, 0, none⟩ = some v := Joins.cell_of_block hpbk 0; have ff0 : w2.frozen? ⟨w1.heap.size, 0, none⟩ = false := Joins.unfrozen_of_block hpbk 0)
        | (rw [if_pos (by rfl)]; go_simp; go_wp2_with (go_at_call 9; refine (CW.out _).mono ?_; rintro e w2 ⟨rfl, hw2⟩; subst hw2)))
      all_goals (
        have hBK : Below w1.heap.size wr w2 := (((Below.refl _ _).alloc (by omega) _).drew).grown hgrow (by simp; omega) (fun j hj => by have := (HRL.out j hj).1; omega)
        go_wp2
        refine ⟨⟨i + 1, .slice (some ⟨g, 0, none⟩) (i + 1) cap, by simp, by omega, ?_, ?_, ?_, ?_, ?_⟩, by simp [intOf]; omega⟩
        · rw [Joins.block_setCell hpbk]; rfl
        · rw [xsN_succ] at hown2
          exact ownsRow_setCell_below hown2 (by show w1.heap.size < _; omega) _
        · have hBS : Below w1.heap.size wr (w2.setCell ⟨w1.heap.size, 0, none⟩ (.slice (some ⟨g, 0, none⟩) (i + 1) cap)) := hBK.setCell (Nat.le_refl _) _
          exact hD.keep (hBS.block _ (by omega)) (hBS.block _ (by omega)) (hBS.block _ (by omega)) hBS.size
        · exact hb.trans ((hBK.setCell (Nat.le_refl _) _).mono (by omega))
        · rw [setCell_size]; have := hBK.size; omega)
    · obtain rfl : i = n := by omega
      have iI : ¬ ((i : Int) < (i : Int)) := by omega
      obtain ⟨rb, cap, hR0⟩ := Rd.new h1 h2 hD hblk hrow hb HB.out (show B + 2 < w1.heap.size from hK1)
      obtain ⟨pb, hpb⟩ : ∃ pb, pb = w1.heap.size := ⟨_, rfl⟩
      rw [← hpb] at hR0 ⊢
      have HR0 : Hid _ := hR0
      have CU : Hid (∀ m u ac dn (w' : World), Rd w w' B pb rb cap i m u ac dn → Calls Try.prog 11 #[.pointer (some ⟨B + 2, 0, none⟩)] w' fun e w'' => e = .returned (.bool u) ∧ w'' = w') := fun m u ac dn w' h => h.up_c
      have CZ : Hid (∀ m u ac dn (w' : World), Rd w w' B pb rb cap i m u ac dn → Calls Try.prog 12 #[.pointer (some ⟨B + 2, 0, none⟩)] w' fun e w'' => e = .returned (.int .i64 (i : Int)) ∧ w'' = w') := fun m u ac dn w' h => h.size_c
      have CA : Hid (∀ m u ac dn (w' : World), Rd w w' B pb rb cap i m u ac dn → Calls Try.prog 13 #[.pointer (some ⟨B + 2, 0, none⟩)] w' fun e w'' => e = .returned (.int .i64 ac) ∧ w'' = w') := fun m u ac dn w' h => h.acts_c
      have CN : Hid (∀ m u ac dn (w' : World), Rd w w' B pb rb cap i m u ac dn → Calls Try.prog 14 #[.pointer (some ⟨B + 2, 0, none⟩)] w' fun e w'' => e = .returned (.int .i64 dn) ∧ w'' = w') := fun m u ac dn w' h => h.downs_c
      have CT : Hid (∀ m u ac dn (w' : World), Rd w w' B pb rb cap i m u ac dn → m ≤ 1000 → Calls Try.prog 15 #[.pointer (some ⟨B + 2, 0, none⟩), .pointer (some ⟨pb, 0, none⟩)] w' fun e w'' => e = .returned (.bool true) ∧ Rd w w'' B pb rb cap i m u ac dn) := fun m u ac dn w' h hm => h.waits_c _ hm
      have CS : Hid (∀ m u ac dn (w' : World) (kind i' k : Int) (s : ByteArray), Rd w w' B pb rb cap i m u ac dn → m < 1000 → (i' ≤ 9223372036854775807 ∧ s.size ≤ 9223372036854775807 ∧ 0 ≤ k ∧ k ≤ 18446744073709551615) → Calls Try.prog 10 #[.pointer (some ⟨B + 2, 0, none⟩), .pointer (some ⟨pb, 0, none⟩), .agg #[.int .i64 kind, .int .i64 i', .string s, .int .u64 k]] w' fun e w'' => e = .returned (.bool true) ∧ ∃ u' ac' dn', Rd w w'' B pb rb cap i (m + 1) u' ac' dn') := fun m u ac dn w' kind i' k s h hm hh => h.step_c _ hm kind i' k hh.1 hh.2.2.1 hh.2.2.2 s hh.2.1
      clear hblk hrow hD hb hsz hR0 hD0 hb0 hK1 hpb CW C0 HI hin hil n1 n2 n3
      go_wp2
      go_loopw [9] (fun iv wr => ∃ (k : Nat) (u : Bool) (ac dn : Int), iv = .int .i64 (k : Int) ∧ k ≤ 80 ∧ Hid (Rd w wr B pb rb cap i k u ac dn)) (fun iv _ => 80 - (intOf iv).toNat)
      case atStart => exact ⟨0, true, 0, 0, rfl, by omega, HR0.out⟩
      case round =>
        clear HR0
        obtain ⟨k, u, ac, dn, rfl, hk, hR⟩ := hrel
        by_cases hkl : k < len
        · have kI : (k : Int) < (len : Int) := by omega
          by_cases hk8 : k < 80
          · have kJ : (k : Int) < 80 := by omega
            obtain ⟨b, off, rfl, e0, e1, e2, e3, eb⟩ := HO.out _ k hR.out.bel hkl
            have HC0 : ∀ wr, Below B w wr → wr.cell? ⟨b, off + k * 4, none⟩ = some (.int .i64 (f k).1) ∧ wr.cell? ⟨b, off + k * 4 + 1, none⟩ = some (.int .i64 (f k).2.1) ∧ wr.cell? ⟨b, off + k * 4 + 2, none⟩ = some (.string (f k).2.2.1) ∧ wr.cell? ⟨b, off + k * 4 + 3, none⟩ = some (.int .u64 (f k).2.2.2) := fun wr hb => by
              obtain ⟨b', off', e, g0, g1, g2, g3, _⟩ := HO.out wr k hb hkl
              cases e
              exact ⟨g0, g1, g2, g3⟩
            generalize f k = fk at e0 e1 e2 e3 eb HC0
            obtain ⟨x0, x1, x2, x3⟩ := fk
            simp only at e0 e1 e2 e3 eb HC0
            have HC : Hid (∀ w', Below B w w' → w'.cell? ⟨b, off + k * 4, none⟩ = some (.int .i64 x0) ∧ w'.cell? ⟨b, off + k * 4 + 1, none⟩ = some (.int .i64 x1) ∧ w'.cell? ⟨b, off + k * 4 + 2, none⟩ = some (.string x2) ∧ w'.cell? ⟨b, off + k * 4 + 3, none⟩ = some (.int .u64 x3)) := HC0
            clear HC0 e0 e1 e2 e3
            have HE : Hid _ := eb
            have hR : Hid (Rd w wr.drew B pb rb cap i k u ac dn) := hR.out.drew
            clear eb
            go_wp2
            refine wp_region_held_drew (S := (fun (w' : World) => w'.cell? ⟨b, off + k * 4, none⟩ = some (.int .i64 x0) ∧ w'.cell? ⟨b, off + k * 4 + 1, none⟩ = some (.int .i64 x1) ∧ w'.cell? ⟨b, off + k * 4 + 2, none⟩ = some (.string x2) ∧ w'.cell? ⟨b, off + k * 4 + 3, none⟩ = some (.int .u64 x3))) (by kernel_rfl) (HC.out _ hR.out.bel) (fun hHeld => ?_)
            refine wpAnyH_take (i := 0) (oi := _) (v := ?_) rfl (by kernel_rfl) (by kernel_rfl) (by kernel_rfl) (fun _ _ _ h => h) (Or.inl ⟨by rfl, ?_⟩) hHeld ?_
            rotate_left
            · (intro w hSw; (try dsimp only at hSw); go_simp; (try with_reducible rfl))
            try simp only [Act.put, List.setIfInBounds_toArray, List.set_cons_zero, List.set_cons_succ, List.getElem_toArray, List.getElem_cons_succ, List.getElem_cons_zero]
            refine wpAnyH_take (i := 1) (oi := _) (v := ?_) rfl (by kernel_rfl) (by kernel_rfl) (by kernel_rfl) (fun _ _ _ h => h) (Or.inl ⟨by rfl, ?_⟩) hHeld ?_
            rotate_left
            · (intro w hSw; (try dsimp only at hSw); go_simp; (try with_reducible rfl))
            try simp only [Act.put, List.setIfInBounds_toArray, List.set_cons_zero, List.set_cons_succ, List.getElem_toArray, List.getElem_cons_succ, List.getElem_cons_zero]
            refine wpAnyH_take (i := 2) (oi := _) (v := ?_) rfl (by kernel_rfl) (by kernel_rfl) (by kernel_rfl) (fun _ _ _ h => h) (Or.inl ⟨by rfl, ?_⟩) hHeld ?_
            rotate_left
            · (intro w hSw; (try dsimp only at hSw); go_simp; (try with_reducible rfl))
            try simp only [Act.put, List.setIfInBounds_toArray, List.set_cons_zero, List.set_cons_succ, List.getElem_toArray, List.getElem_cons_succ, List.getElem_cons_zero]
            refine wpAnyH_take (i := 3) (oi := _) (v := ?_) rfl (by kernel_rfl) (by kernel_rfl) (by kernel_rfl) (fun _ _ _ h => h) (Or.inl ⟨by rfl, ?_⟩) hHeld ?_
            rotate_left
            · (intro w hSw; (try dsimp only at hSw); go_simp; (try with_reducible rfl))
            try simp only [Act.put, List.setIfInBounds_toArray, List.set_cons_zero, List.set_cons_succ, List.getElem_toArray, List.getElem_cons_succ, List.getElem_cons_zero]
            refine wpAnyH_take (i := 4) (oi := _) (v := ?_) rfl (by kernel_rfl) (by kernel_rfl) (by kernel_rfl) (fun _ _ _ h => h) (Or.inl ⟨by rfl, ?_⟩) hHeld ?_
            rotate_left
            · (intro w hSw; (try dsimp only at hSw); go_simp; (try with_reducible rfl))
            try simp only [Act.put, List.setIfInBounds_toArray, List.set_cons_zero, List.set_cons_succ, List.getElem_toArray, List.getElem_cons_succ, List.getElem_cons_zero]
            refine wpAnyH_take (i := 5) (oi := _) (v := ?_) rfl (by kernel_rfl) (by kernel_rfl) (by kernel_rfl) (fun _ _ _ h => h) (Or.inl ⟨by rfl, ?_⟩) hHeld ?_
            rotate_left
            · (intro w hSw; (try dsimp only at hSw); go_simp; (try with_reducible rfl))
            try simp only [Act.put, List.setIfInBounds_toArray, List.set_cons_zero, List.set_cons_succ, List.getElem_toArray, List.getElem_cons_succ, List.getElem_cons_zero]
            refine wpAnyH_ready (rs := [6]) (by kernel_rfl) (by simp) ?_
            refine AllReadyH.cons (o := _) rfl (fun K hK => ?_) AllReadyH.nil
            go_simp
            refine (CS.out _ _ _ _ _ _ _ _ _ hR.out (by omega) HE.out).mono ?_
            rintro e w2 ⟨rfl, u2, ac2, dn2, hR2⟩
            have hR3 : Hid (Rd w w2 B pb rb cap i (k + 1) u2 ac2 dn2) := hR2
            clear hR2
            have HT : Hid (∀ w', Rd w w' B pb rb cap i (k + 1) u2 ac2 dn2 → (fun (w' : World) => w'.cell? ⟨pb, 1, none⟩ = some (.bool (!u2)) ∧ w'.cell? ⟨pb, 5, none⟩ = some (.int .i64 ac2) ∧ w'.cell? ⟨pb, 6, none⟩ = some (.int .i64 dn2) ∧ w'.cell? ⟨b, off + k * 4, none⟩ = some (.int .i64 x0) ∧ w'.cell? ⟨b, off + k * 4 + 1, none⟩ = some (.int .i64 x1) ∧ w'.cell? ⟨b, off + k * 4 + 2, none⟩ = some (.string x2) ∧ w'.cell? ⟨b, off + k * 4 + 3, none⟩ = some (.int .u64 x3)) w') := fun w' h => ⟨h.down, h.acts, h.downs, HC.out _ h.bel⟩
            go_wp2_with fail
            refine hK.out _ _ (HC.out _ hR3.out.bel) (fun hHeld => ?_)
            clear hK K
            try simp only [Act.put, List.setIfInBounds_toArray, List.set_cons_zero, List.set_cons_succ, List.getElem_toArray, List.getElem_cons_succ, List.getElem_cons_zero]
            clear hHeld
            refine wpAnyH_imp (T := (fun (w' : World) => w'.cell? ⟨pb, 1, none⟩ = some (.bool (!u2)) ∧ w'.cell? ⟨pb, 5, none⟩ = some (.int .i64 ac2) ∧ w'.cell? ⟨pb, 6, none⟩ = some (.int .i64 dn2) ∧ w'.cell? ⟨b, off + k * 4, none⟩ = some (.int .i64 x0) ∧ w'.cell? ⟨b, off + k * 4 + 1, none⟩ = some (.int .i64 x1) ∧ w'.cell? ⟨b, off + k * 4 + 2, none⟩ = some (.string x2) ∧ w'.cell? ⟨b, off + k * 4 + 3, none⟩ = some (.int .u64 x3))) (fun w h => h.2.2.2) _ _ _ _ ?_
            have hHeld : ((fun (w' : World) => w'.cell? ⟨pb, 1, none⟩ = some (.bool (!u2)) ∧ w'.cell? ⟨pb, 5, none⟩ = some (.int .i64 ac2) ∧ w'.cell? ⟨pb, 6, none⟩ = some (.int .i64 dn2) ∧ w'.cell? ⟨b, off + k * 4, none⟩ = some (.int .i64 x0) ∧ w'.cell? ⟨b, off + k * 4 + 1, none⟩ = some (.int .i64 x1) ∧ w'.cell? ⟨b, off + k * 4 + 2, none⟩ = some (.string x2) ∧ w'.cell? ⟨b, off + k * 4 + 3, none⟩ = some (.int .u64 x3))) _ := HT.out _ hR3.out
            refine wpAnyH_take (i := 7) (oi := _) (v := ?_) rfl (by kernel_rfl) (by kernel_rfl) (by kernel_rfl) (fun _ _ _ h => h) (Or.inl ⟨by rfl, ?_⟩) hHeld ?_
            rotate_left
            · (intro w hSw; (try dsimp only at hSw); go_simp; (try with_reducible rfl))
            try simp only [Act.put, List.setIfInBounds_toArray, List.set_cons_zero, List.set_cons_succ, List.getElem_toArray, List.getElem_cons_succ, List.getElem_cons_zero]
            refine wpAnyH_take (i := 8) (oi := _) (v := ?_) rfl (by kernel_rfl) (by kernel_rfl) (by kernel_rfl) (fun _ _ _ h => h) (Or.inl ⟨by rfl, ?_⟩) hHeld ?_
            rotate_left
            · (intro w hSw; (try dsimp only at hSw); go_simp; (try with_reducible rfl))
            try simp only [Act.put, List.setIfInBounds_toArray, List.set_cons_zero, List.set_cons_succ, List.getElem_toArray, List.getElem_cons_succ, List.getElem_cons_zero]
            refine wpAnyH_take (i := 9) (oi := _) (v := ?_) rfl (by kernel_rfl) (by kernel_rfl) (by kernel_rfl) (fun _ _ _ h => h) (Or.inl ⟨by rfl, ?_⟩) hHeld ?_
            rotate_left
            · (intro w hSw; (try dsimp only at hSw); go_simp; (try with_reducible rfl))
            try simp only [Act.put, List.setIfInBounds_toArray, List.set_cons_zero, List.set_cons_succ, List.getElem_toArray, List.getElem_cons_succ, List.getElem_cons_zero]
            refine wpAnyH_take (i := 11) (oi := _) (v := ?_) rfl (by kernel_rfl) (by kernel_rfl) (by kernel_rfl) (fun _ _ _ h => h) (Or.inl ⟨by rfl, ?_⟩) hHeld ?_
            rotate_left
            · (intro w hSw; (try dsimp only at hSw); go_simp; (try with_reducible rfl))
            try simp only [Act.put, List.setIfInBounds_toArray, List.set_cons_zero, List.set_cons_succ, List.getElem_toArray, List.getElem_cons_succ, List.getElem_cons_zero]
            refine wpAnyH_take (i := 12) (oi := _) (v := ?_) rfl (by kernel_rfl) (by kernel_rfl) (by kernel_rfl) (fun _ _ _ h => h) (Or.inl ⟨by rfl, ?_⟩) hHeld ?_
            rotate_left
            · (intro w hSw; (try dsimp only at hSw); go_simp; (try with_reducible rfl))
            try simp only [Act.put, List.setIfInBounds_toArray, List.set_cons_zero, List.set_cons_succ, List.getElem_toArray, List.getElem_cons_succ, List.getElem_cons_zero]
            refine wpAnyH_take (i := 13) (oi := _) (v := ?_) rfl (by kernel_rfl) (by kernel_rfl) (by kernel_rfl) (fun _ _ _ h => h) (Or.inl ⟨by rfl, ?_⟩) hHeld ?_
            rotate_left
            · (intro w hSw; (try dsimp only at hSw); go_simp; (try with_reducible rfl))
            try simp only [Act.put, List.setIfInBounds_toArray, List.set_cons_zero, List.set_cons_succ, List.getElem_toArray, List.getElem_cons_succ, List.getElem_cons_zero]
            refine wpAnyH_take (i := 14) (oi := _) (v := ?_) rfl (by kernel_rfl) (by kernel_rfl) (by kernel_rfl) (fun _ _ _ h => h) (Or.inl ⟨by rfl, ?_⟩) hHeld ?_
            rotate_left
            · (intro w hSw; (try dsimp only at hSw); go_simp; (try with_reducible rfl))
            try simp only [Act.put, List.setIfInBounds_toArray, List.set_cons_zero, List.set_cons_succ, List.getElem_toArray, List.getElem_cons_succ, List.getElem_cons_zero]
            refine wpAnyH_ready (rs := [10]) (by kernel_rfl) (by simp) ?_
            refine AllReadyH.cons (o := _) rfl (fun K hK => ?_) AllReadyH.nil
            go_simp
            refine (CU.out _ _ _ _ _ hR3.out).mono ?_
            rintro e w3 ⟨rfl, hw3⟩
            subst hw3
            go_wp2_with fail
            refine hK.out _ _ hHeld (fun hHeld => ?_)
            clear hK K
            try simp only [Act.put, List.setIfInBounds_toArray, List.set_cons_zero, List.set_cons_succ, List.getElem_toArray, List.getElem_cons_succ, List.getElem_cons_zero]
            refine wpAnyH_take (i := 15) (oi := _) (v := ?_) rfl (by kernel_rfl) (by kernel_rfl) (by kernel_rfl) (fun _ _ _ h => h) (Or.inl ⟨by rfl, ?_⟩) hHeld ?_
            rotate_left
            · (intro w hSw; (try dsimp only at hSw); go_simp; (try with_reducible rfl))
            try simp only [Act.put, List.setIfInBounds_toArray, List.set_cons_zero, List.set_cons_succ, List.getElem_toArray, List.getElem_cons_succ, List.getElem_cons_zero]
            refine wpAnyH_take (i := 16) (oi := _) (v := ?_) rfl (by kernel_rfl) (by kernel_rfl) (by kernel_rfl) (fun _ _ _ h => h) (Or.inl ⟨by rfl, ?_⟩) hHeld ?_
            rotate_left
            · (intro w hSw; (try dsimp only at hSw); go_simp; (try with_reducible rfl))
            try simp only [Act.put, List.setIfInBounds_toArray, List.set_cons_zero, List.set_cons_succ, List.getElem_toArray, List.getElem_cons_succ, List.getElem_cons_zero]
            refine wpAnyH_take (i := 17) (oi := _) (v := ?_) rfl (by kernel_rfl) (by kernel_rfl) (by kernel_rfl) (fun _ _ _ h => h) (Or.inl ⟨by rfl, ?_⟩) hHeld ?_
            rotate_left
            · (intro w hSw; (try dsimp only at hSw); go_simp; (try with_reducible rfl))
            try simp only [Act.put, List.setIfInBounds_toArray, List.set_cons_zero, List.set_cons_succ, List.getElem_toArray, List.getElem_cons_succ, List.getElem_cons_zero]
            refine wpAnyH_take (i := 18) (oi := _) (v := ?_) rfl (by kernel_rfl) (by kernel_rfl) (by kernel_rfl) (fun _ _ _ h => h) (Or.inl ⟨by rfl, ?_⟩) hHeld ?_
            rotate_left
            · (intro w hSw; (try dsimp only at hSw); go_simp; (try with_reducible rfl))
            try simp only [Act.put, List.setIfInBounds_toArray, List.set_cons_zero, List.set_cons_succ, List.getElem_toArray, List.getElem_cons_succ, List.getElem_cons_zero]
            refine wpAnyH_take (i := 20) (oi := _) (v := ?_) rfl (by kernel_rfl) (by kernel_rfl) (by kernel_rfl) (fun _ _ _ h => h) (Or.inl ⟨by rfl, ?_⟩) hHeld ?_
            rotate_left
            · (intro w hSw; (try dsimp only at hSw); go_simp; (try with_reducible rfl))
            try simp only [Act.put, List.setIfInBounds_toArray, List.set_cons_zero, List.set_cons_succ, List.getElem_toArray, List.getElem_cons_succ, List.getElem_cons_zero]
            refine wpAnyH_ready (rs := [19]) (by kernel_rfl) (by simp) ?_
            refine AllReadyH.cons (o := _) rfl (fun K hK => ?_) AllReadyH.nil
            go_simp
            refine (CZ.out _ _ _ _ _ hR3.out).mono ?_
            rintro e w3 ⟨rfl, hw3⟩
            subst hw3
            go_wp2_with fail
            refine hK.out _ _ hHeld (fun hHeld => ?_)
            clear hK K
            try simp only [Act.put, List.setIfInBounds_toArray, List.set_cons_zero, List.set_cons_succ, List.getElem_toArray, List.getElem_cons_succ, List.getElem_cons_zero]
            refine wpAnyH_take (i := 21) (oi := _) (v := ?_) rfl (by kernel_rfl) (by kernel_rfl) (by kernel_rfl) (fun _ _ _ h => h) (Or.inl ⟨by rfl, ?_⟩) hHeld ?_
            rotate_left
            · (intro w hSw; (try dsimp only at hSw); go_simp; (try with_reducible rfl))
            try simp only [Act.put, List.setIfInBounds_toArray, List.set_cons_zero, List.set_cons_succ, List.getElem_toArray, List.getElem_cons_succ, List.getElem_cons_zero]
            refine wpAnyH_take (i := 22) (oi := _) (v := ?_) rfl (by kernel_rfl) (by kernel_rfl) (by kernel_rfl) (fun _ _ _ h => h) (Or.inl ⟨by rfl, ?_⟩) hHeld ?_
            rotate_left
            · (intro w hSw; (try dsimp only at hSw); go_simp; (try with_reducible rfl))
            try simp only [Act.put, List.setIfInBounds_toArray, List.set_cons_zero, List.set_cons_succ, List.getElem_toArray, List.getElem_cons_succ, List.getElem_cons_zero]
            refine wpAnyH_take (i := 23) (oi := _) (v := ?_) rfl (by kernel_rfl) (by kernel_rfl) (by kernel_rfl) (fun _ _ _ h => h) (Or.inl ⟨by rfl, ?_⟩) hHeld ?_
            rotate_left
            · (intro w hSw; (try dsimp only at hSw); go_simp; (try with_reducible rfl))
            try simp only [Act.put, List.setIfInBounds_toArray, List.set_cons_zero, List.set_cons_succ, List.getElem_toArray, List.getElem_cons_succ, List.getElem_cons_zero]
            refine wpAnyH_take (i := 24) (oi := _) (v := ?_) rfl (by kernel_rfl) (by kernel_rfl) (by kernel_rfl) (fun _ _ _ h => h) (Or.inl ⟨by rfl, ?_⟩) hHeld ?_
            rotate_left
            · (intro w hSw; (try dsimp only at hSw); go_simp; (try with_reducible rfl))
            try simp only [Act.put, List.setIfInBounds_toArray, List.set_cons_zero, List.set_cons_succ, List.getElem_toArray, List.getElem_cons_succ, List.getElem_cons_zero]
            refine wpAnyH_take (i := 26) (oi := _) (v := ?_) rfl (by kernel_rfl) (by kernel_rfl) (by kernel_rfl) (fun _ _ _ h => h) (Or.inl ⟨by rfl, ?_⟩) hHeld ?_
            rotate_left
            · (intro w hSw; (try dsimp only at hSw); go_simp; (try with_reducible rfl))
            try simp only [Act.put, List.setIfInBounds_toArray, List.set_cons_zero, List.set_cons_succ, List.getElem_toArray, List.getElem_cons_succ, List.getElem_cons_zero]
            refine wpAnyH_take (i := 27) (oi := _) (v := ?_) rfl (by kernel_rfl) (by kernel_rfl) (by kernel_rfl) (fun _ _ _ h => h) (Or.inl ⟨by rfl, ?_⟩) hHeld ?_
            rotate_left
            · (intro w hSw; (try dsimp only at hSw); go_simp; (try with_reducible rfl))
            try simp only [Act.put, List.setIfInBounds_toArray, List.set_cons_zero, List.set_cons_succ, List.getElem_toArray, List.getElem_cons_succ, List.getElem_cons_zero]
            refine wpAnyH_take (i := 28) (oi := _) (v := ?_) rfl (by kernel_rfl) (by kernel_rfl) (by kernel_rfl) (fun _ _ _ h => h) (Or.inl ⟨by rfl, ?_⟩) hHeld ?_
            rotate_left
            · (intro w hSw; (try dsimp only at hSw); go_simp; (try with_reducible rfl))
            try simp only [Act.put, List.setIfInBounds_toArray, List.set_cons_zero, List.set_cons_succ, List.getElem_toArray, List.getElem_cons_succ, List.getElem_cons_zero]
            refine wpAnyH_take (i := 29) (oi := _) (v := ?_) rfl (by kernel_rfl) (by kernel_rfl) (by kernel_rfl) (fun _ _ _ h => h) (Or.inl ⟨by rfl, ?_⟩) hHeld ?_
            rotate_left
            · (intro w hSw; (try dsimp only at hSw); go_simp; (try with_reducible rfl))
            try simp only [Act.put, List.setIfInBounds_toArray, List.set_cons_zero, List.set_cons_succ, List.getElem_toArray, List.getElem_cons_succ, List.getElem_cons_zero]
            refine wpAnyH_ready (rs := [25]) (by kernel_rfl) (by simp) ?_
            refine AllReadyH.cons (o := _) rfl (fun K hK => ?_) AllReadyH.nil
            go_simp
            refine (CA.out _ _ _ _ _ hR3.out).mono ?_
            rintro e w3 ⟨rfl, hw3⟩
            subst hw3
            go_wp2_with fail
            refine hK.out _ _ hHeld (fun hHeld => ?_)
            clear hK K
            try simp only [Act.put, List.setIfInBounds_toArray, List.set_cons_zero, List.set_cons_succ, List.getElem_toArray, List.getElem_cons_succ, List.getElem_cons_zero]
            refine wpAnyH_take (i := 30) (oi := _) (v := ?_) rfl (by kernel_rfl) (by kernel_rfl) (by kernel_rfl) (fun _ _ _ h => h) (Or.inl ⟨by rfl, ?_⟩) hHeld ?_
            rotate_left
            · (intro w hSw; (try dsimp only at hSw); go_simp; (try with_reducible rfl))
            try simp only [Act.put, List.setIfInBounds_toArray, List.set_cons_zero, List.set_cons_succ, List.getElem_toArray, List.getElem_cons_succ, List.getElem_cons_zero]
            refine wpAnyH_take (i := 31) (oi := _) (v := ?_) rfl (by kernel_rfl) (by kernel_rfl) (by kernel_rfl) (fun _ _ _ h => h) (Or.inl ⟨by rfl, ?_⟩) hHeld ?_
            rotate_left
            · (intro w hSw; (try dsimp only at hSw); go_simp; (try with_reducible rfl))
            try simp only [Act.put, List.setIfInBounds_toArray, List.set_cons_zero, List.set_cons_succ, List.getElem_toArray, List.getElem_cons_succ, List.getElem_cons_zero]
            refine wpAnyH_take (i := 32) (oi := _) (v := ?_) rfl (by kernel_rfl) (by kernel_rfl) (by kernel_rfl) (fun _ _ _ h => h) (Or.inl ⟨by rfl, ?_⟩) hHeld ?_
            rotate_left
            · (intro w hSw; (try dsimp only at hSw); go_simp; (try with_reducible rfl))
            try simp only [Act.put, List.setIfInBounds_toArray, List.set_cons_zero, List.set_cons_succ, List.getElem_toArray, List.getElem_cons_succ, List.getElem_cons_zero]
            refine wpAnyH_take (i := 33) (oi := _) (v := ?_) rfl (by kernel_rfl) (by kernel_rfl) (by kernel_rfl) (fun _ _ _ h => h) (Or.inl ⟨by rfl, ?_⟩) hHeld ?_
            rotate_left
            · (intro w hSw; (try dsimp only at hSw); go_simp; (try with_reducible rfl))
            try simp only [Act.put, List.setIfInBounds_toArray, List.set_cons_zero, List.set_cons_succ, List.getElem_toArray, List.getElem_cons_succ, List.getElem_cons_zero]
            refine wpAnyH_take (i := 35) (oi := _) (v := ?_) rfl (by kernel_rfl) (by kernel_rfl) (by kernel_rfl) (fun _ _ _ h => h) (Or.inl ⟨by rfl, ?_⟩) hHeld ?_
            rotate_left
            · (intro w hSw; (try dsimp only at hSw); go_simp; (try with_reducible rfl))
            try simp only [Act.put, List.setIfInBounds_toArray, List.set_cons_zero, List.set_cons_succ, List.getElem_toArray, List.getElem_cons_succ, List.getElem_cons_zero]
            refine wpAnyH_take (i := 36) (oi := _) (v := ?_) rfl (by kernel_rfl) (by kernel_rfl) (by kernel_rfl) (fun _ _ _ h => h) (Or.inl ⟨by rfl, ?_⟩) hHeld ?_
            rotate_left
            · (intro w hSw; (try dsimp only at hSw); go_simp; (try with_reducible rfl))
            try simp only [Act.put, List.setIfInBounds_toArray, List.set_cons_zero, List.set_cons_succ, List.getElem_toArray, List.getElem_cons_succ, List.getElem_cons_zero]
            refine wpAnyH_take (i := 37) (oi := _) (v := ?_) rfl (by kernel_rfl) (by kernel_rfl) (by kernel_rfl) (fun _ _ _ h => h) (Or.inl ⟨by rfl, ?_⟩) hHeld ?_
            rotate_left
            · (intro w hSw; (try dsimp only at hSw); go_simp; (try with_reducible rfl))
            try simp only [Act.put, List.setIfInBounds_toArray, List.set_cons_zero, List.set_cons_succ, List.getElem_toArray, List.getElem_cons_succ, List.getElem_cons_zero]
            refine wpAnyH_take (i := 38) (oi := _) (v := ?_) rfl (by kernel_rfl) (by kernel_rfl) (by kernel_rfl) (fun _ _ _ h => h) (Or.inl ⟨by rfl, ?_⟩) hHeld ?_
            rotate_left
            · (intro w hSw; (try dsimp only at hSw); go_simp; (try with_reducible rfl))
            try simp only [Act.put, List.setIfInBounds_toArray, List.set_cons_zero, List.set_cons_succ, List.getElem_toArray, List.getElem_cons_succ, List.getElem_cons_zero]
            refine wpAnyH_ready (rs := [34]) (by kernel_rfl) (by simp) ?_
            refine AllReadyH.cons (o := _) rfl (fun K hK => ?_) AllReadyH.nil
            go_simp
            refine (CN.out _ _ _ _ _ hR3.out).mono ?_
            rintro e w3 ⟨rfl, hw3⟩
            subst hw3
            go_wp2_with fail
            refine hK.out _ _ hHeld (fun hHeld => ?_)
            clear hK K
            try simp only [Act.put, List.setIfInBounds_toArray, List.set_cons_zero, List.set_cons_succ, List.getElem_toArray, List.getElem_cons_succ, List.getElem_cons_zero]
            refine wpAnyH_take (i := 39) (oi := _) (v := ?_) rfl (by kernel_rfl) (by kernel_rfl) (by kernel_rfl) (fun _ _ _ h => h) (Or.inl ⟨by rfl, ?_⟩) hHeld ?_
            rotate_left
            · (intro w hSw; (try dsimp only at hSw); go_simp; (try with_reducible rfl))
            try simp only [Act.put, List.setIfInBounds_toArray, List.set_cons_zero, List.set_cons_succ, List.getElem_toArray, List.getElem_cons_succ, List.getElem_cons_zero]
            refine wpAnyH_take (i := 40) (oi := _) (v := ?_) rfl (by kernel_rfl) (by kernel_rfl) (by kernel_rfl) (fun _ _ _ h => h) (Or.inl ⟨by rfl, ?_⟩) hHeld ?_
            rotate_left
            · (intro w hSw; (try dsimp only at hSw); go_simp; (try with_reducible rfl))
            try simp only [Act.put, List.setIfInBounds_toArray, List.set_cons_zero, List.set_cons_succ, List.getElem_toArray, List.getElem_cons_succ, List.getElem_cons_zero]
            refine wpAnyH_take (i := 41) (oi := _) (v := ?_) rfl (by kernel_rfl) (by kernel_rfl) (by kernel_rfl) (fun _ _ _ h => h) (Or.inl ⟨by rfl, ?_⟩) hHeld ?_
            rotate_left
            · (intro w hSw; (try dsimp only at hSw); go_simp; (try with_reducible rfl))
            try simp only [Act.put, List.setIfInBounds_toArray, List.set_cons_zero, List.set_cons_succ, List.getElem_toArray, List.getElem_cons_succ, List.getElem_cons_zero]
            refine wpAnyH_take (i := 42) (oi := _) (v := ?_) rfl (by kernel_rfl) (by kernel_rfl) (by kernel_rfl) (fun _ _ _ h => h) (Or.inl ⟨by rfl, ?_⟩) hHeld ?_
            rotate_left
            · (intro w hSw; (try dsimp only at hSw); go_simp; (try with_reducible rfl))
            try simp only [Act.put, List.setIfInBounds_toArray, List.set_cons_zero, List.set_cons_succ, List.getElem_toArray, List.getElem_cons_succ, List.getElem_cons_zero]
            refine wpAnyH_take (i := 43) (oi := _) (v := ?_) rfl (by kernel_rfl) (by kernel_rfl) (by kernel_rfl) (fun _ _ _ h => h) (Or.inl ⟨by rfl, ?_⟩) hHeld ?_
            rotate_left
            · (intro w hSw; (try dsimp only at hSw); go_simp; (try with_reducible rfl))
            try simp only [Act.put, List.setIfInBounds_toArray, List.set_cons_zero, List.set_cons_succ, List.getElem_toArray, List.getElem_cons_succ, List.getElem_cons_zero]
            refine wpAnyH_ready (rs := [44]) (by kernel_rfl) (by simp) ?_
            refine AllReadyH.cons (o := _) rfl (fun K hK => ?_) AllReadyH.nil
            go_simp
            refine (CT.out _ _ _ _ _ hR3.out (by omega)).mono ?_
            rintro e w3 ⟨rfl, hR4⟩
            have hR5 : Hid (Rd w w3 B pb rb cap i (k + 1) u2 ac2 dn2) := hR4
            clear hR4
            go_wp2_with fail
            refine hK.out _ _ (HT.out _ hR5.out) (fun hHeld => ?_)
            clear hK K
            try simp only [Act.put, List.setIfInBounds_toArray, List.set_cons_zero, List.set_cons_succ, List.getElem_toArray, List.getElem_cons_succ, List.getElem_cons_zero]
            refine wpAnyH_take (i := 45) (oi := _) (v := ?_) rfl (by kernel_rfl) (by kernel_rfl) (by kernel_rfl) (fun _ _ _ h => h) (Or.inl ⟨by rfl, ?_⟩) hHeld ?_
            rotate_left
            · (intro w hSw; (try dsimp only at hSw); go_simp; (try with_reducible rfl))
            try simp only [Act.put, List.setIfInBounds_toArray, List.set_cons_zero, List.set_cons_succ, List.getElem_toArray, List.getElem_cons_succ, List.getElem_cons_zero]
            refine wpAnyH_take (i := 46) (oi := _) (v := ?_) rfl (by kernel_rfl) (by kernel_rfl) (by kernel_rfl) (fun _ _ _ h => h) (Or.inl ⟨by rfl, ?_⟩) hHeld ?_
            rotate_left
            · (intro w hSw; (try dsimp only at hSw); go_simp; (try with_reducible rfl))
            try simp only [Act.put, List.setIfInBounds_toArray, List.set_cons_zero, List.set_cons_succ, List.getElem_toArray, List.getElem_cons_succ, List.getElem_cons_zero]
            refine wpAnyH_done (by kernel_rfl) ?_ _
            go_wp2
            exact ⟨⟨k + 1, u2, ac2, dn2, by simp, by omega, hR5.out⟩, by simp [intOf]; omega⟩
          · have kJ : ¬ (k : Int) < 80 := by omega
            go_wp2_with (go_at_call 7; refine (awake_any _).mono ?_; rintro e w3 ⟨rfl, hr⟩; have hb2 := hR.out.bel.trans (hr.mono hR.out.hB))
            go_ret
            exact ⟨rfl, hb2⟩
        · have kI : ¬ (k : Int) < (len : Int) := by omega
          go_wp2_with (go_at_call 7; refine (awake_any _).mono ?_; rintro e w3 ⟨rfl, hr⟩; have hb2 := hR.out.bel.trans (hr.mono hR.out.hB))
          go_ret
          exact ⟨rfl, hb2⟩
end Go.Proofs.Ytoafoopenmppgaa
