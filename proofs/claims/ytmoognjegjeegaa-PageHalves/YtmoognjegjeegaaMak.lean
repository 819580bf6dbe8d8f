/- A page of cells: Make, New. -/
import Derived.Test.YtmoognjegjeegaaOps
namespace Go.Proofs.Ytmoognjegjeegaa
open Go.RowKit
set_option linter.unusedVariables false
set_option linter.unusedSimpArgs false
set_option maxRecDepth 100000

/-- Why the i-th cell can't be laid. -/
def bad (k : Nat) (L : List Cl) (i : Nat) : Int := match L[i]? with
  | none => 0
  | some c => if long c ≠ 0 then long c else if k = 0 then 4 else if 0 < i ∧ lt (L[i - 1]?.getD c).k c.k = false then 4 else if 220 < needs (L.take i) + need c then 7 else 0
/-- Why a page can't be made of cells. -/
def firstBad (k : Nat) (L : List Cl) : Int := (((List.range L.length).map (bad k L)).find? (fun x => x != 0)).getD 0
theorem firstBad_at {k : Nat} {L : List Cl} {i : Nat} (hi : i < L.length) (h : ∀ j, j < i → bad k L j = 0) (hb : bad k L i ≠ 0) : firstBad k L = bad k L i := by
  have e : List.range L.length = List.range i ++ (i :: (List.range (L.length - i - 1)).map (fun x => x + (i + 1))) := by
    apply List.ext_getElem?
    intro t
    by_cases h1 : t < i
    · rw [List.getElem?_append_left (by simpa using h1)]
      rw [List.getElem?_range (by omega), List.getElem?_range h1]
    · rw [List.getElem?_append_right (by simp; omega), List.length_range]
      by_cases h2 : t = i
      · subst h2; rw [Nat.sub_self, List.getElem?_cons_zero, List.getElem?_range hi]
      · obtain ⟨d, rfl⟩ : ∃ d, t = i + 1 + d := ⟨t - i - 1, by omega⟩
        rw [show i + 1 + d - i = d + 1 by omega, List.getElem?_cons_succ, List.getElem?_map]
        by_cases h3 : i + 1 + d < L.length
        · rw [List.getElem?_range h3, List.getElem?_range (by omega)]
          simp; omega
        · rw [List.getElem?_eq_none (by simp; omega), List.getElem?_eq_none (by simp; omega)]; rfl
  rw [firstBad, e, List.map_append, List.find?_append]
  have h0 : ((List.range i).map (bad k L)).find? (fun x => x != 0) = none := by
    rw [List.find?_eq_none]
    intro x hx
    obtain ⟨j, hj, rfl⟩ := List.mem_map.1 hx
    simp [h j (List.mem_range.1 hj)]
  rw [h0, Option.none_or, List.map_cons, List.find?_cons_of_pos (by simpa using hb)]
  rfl
theorem firstBad_ok {k : Nat} {L : List Cl} (h : ∀ j, j < L.length → bad k L j = 0) : firstBad k L = 0 := by
  have h0 : ((List.range L.length).map (bad k L)).find? (fun x => x != 0) = none := by
    rw [List.find?_eq_none]
    intro x hx
    obtain ⟨j, hj, rfl⟩ := List.mem_map.1 hx
    simp [h j (List.mem_range.1 hj)]
  rw [firstBad, h0]; rfl
theorem firstBad_no {k : Nat} {L : List Cl} (h : firstBad k L = 0) : ∀ j, j < L.length → bad k L j = 0 := by
  intro j
  induction j using Nat.strongRecOn with
  | ind j ih =>
    intro hj
    refine Decidable.byContradiction fun hb => hb ?_
    rw [← firstBad_at hj (fun t ht => ih t ht (by omega)) hb, h]
section
variable {k l : Nat} {L : List Cl} {i : Nat}
theorem bad_get (hi : i < L.length) : bad k L i = if long L[i] ≠ 0 then long L[i] else if k = 0 then 4 else if 0 < i ∧ lt (L[i - 1]?.getD L[i]).k L[i].k = false then 4 else if 220 < needs (L.take i) + need L[i] then 7 else 0 := by
  rw [bad, List.getElem?_eq_getElem hi]
/-- What lies behind cells that are not bad. -/
structure Good (k : Nat) (L : List Cl) (i : Nat) : Prop where
  long : long (L[i]?.getD ⟨⟨#[]⟩, ⟨#[]⟩⟩) = 0
  k : k ≠ 0
  rise : 0 < i → ∃ a c, L[i - 1]? = some a ∧ L[i]? = some c ∧ lt a.k c.k = true
  fit : ∃ c, L[i]? = some c ∧ needs (L.take i) + need c ≤ 220
theorem good_of (hi : i < L.length) (h : bad k L i = 0) : Good k L i := by
  rw [bad_get hi] at h
  split at h
  · contradiction
  · rename_i h1
    split at h
    · cases h
    · rename_i h2
      split at h
      · cases h
      · rename_i h3
        split at h
        · cases h
        · rename_i h4
          refine ⟨by rw [List.getElem?_eq_getElem hi]; exact Decidable.byContradiction h1, h2, fun h0 => ?_, ⟨_, List.getElem?_eq_getElem hi, by omega⟩⟩
          refine ⟨L[i - 1], L[i], List.getElem?_eq_getElem (by omega), List.getElem?_eq_getElem hi, ?_⟩
          rw [List.getElem?_eq_getElem (by omega : i - 1 < L.length)] at h3
          cases e : lt L[i - 1].k L[i].k
          · exact absurd ⟨h0, e⟩ h3
          · rfl
theorem canPack_of (h1 : k ≤ 2) (h2 : l ≤ 255) (h3 : k = 2 ∨ l = 0) (hi : i ≤ L.length) (h : ∀ j, j < i → bad k L j = 0) : CanPack k l (L.take i) := by
  have hg : ∀ j (hj : j < i), Good k L j := fun j hj => good_of (by omega) (h j hj)
  have hlk : ∀ j (hj : j < i), L[j].k.size ≤ 16 ∧ L[j].v.size ≤ 32 := fun j hj => by
    have := (hg j hj).long
    rw [List.getElem?_eq_getElem (by omega : j < L.length)] at this
    exact ⟨long_k this, long_v this⟩
  refine ⟨h1, h2, h3, fun e => ?_, fun c hc => ?_, fun c hc => ?_, ?_, ?_⟩
  · by_cases e0 : i = 0
    · subst e0; simp
    · exact absurd e (hg 0 (by omega)).k
  · obtain ⟨j, hj, rfl⟩ := List.mem_take_iff_getElem.1 hc
    exact (hlk j (by omega)).1
  · obtain ⟨j, hj, rfl⟩ := List.mem_take_iff_getElem.1 hc
    exact (hlk j (by omega)).2
  · have hch : ∀ b a, (hab : a < b) → (hb : b < i) → lt L[a].k L[b].k = true := by
      intro b
      induction b with
      | zero => intro a ha; omega
      | succ b ih =>
        intro a ha hb
        obtain ⟨x, y, hx, hy, hl⟩ := (hg (b + 1) hb).rise (by omega)
        rw [Nat.add_sub_cancel, List.getElem?_eq_getElem (by omega)] at hx
        rw [List.getElem?_eq_getElem (by omega)] at hy
        simp only [Option.some.injEq] at hx hy
        subst hx hy
        by_cases e : a = b
        · subst e; exact hl
        · exact lt_trans (ih a (by omega) (by omega)) hl
    refine List.pairwise_iff_getElem.2 fun a b ha hb hab => ?_
    rw [List.getElem_take, List.getElem_take]
    rw [List.length_take] at hb
    exact hch b a hab (by omega)
  · by_cases e0 : i = 0
    · subst e0; simp [needs]
    · obtain ⟨c, hc, hf⟩ := (hg (i - 1) (by omega)).fit
      have := needs_take_succ (L := L) (i := i - 1) (by omega)
      rw [List.getElem?_eq_getElem (by omega)] at hc
      simp only [Option.some.injEq] at hc
      rw [show i - 1 + 1 = i by omega, hc] at this
      omega
end
theorem boxed {w w1 w2 w3 : World} {b : Nat} {k v k' v' : ByteArray} (h : Below w.heap.size w w1) (N : NewC w1 w2 b k v) (P : PutC w2 w3 b k' v') : Below w.heap.size w w3 := by
  have z1 := h.size
  have z2 := N.below.size
  have z3 := N.le
  exact thn h (N.below.trans (P.below z3 z2))
theorem Sh.boxed {w1 w2 w3 : World} {c b : Nat} {k v k' v' : ByteArray} {s : List UInt8} (h : Sh w1 c s) (N : NewC w1 w2 b k v) (P : PutC w2 w3 b k' v') : Sh w3 c s :=
  (h.below N.below).off P.off (by have := h.lt; have := N.le; omega)
theorem Make_arg (w : World) (k l : Int) (v : Value) (h : fit k l = false) : Calls Try.prog 23 #[.int .i64 k, .int .i64 l, v] w fun e w' => e = .returned (.tuple #[.string ⟨#[]⟩, .int .i64 1]) ∧ Below w.heap.size w w' := by
  have C5 : Hid (∀ w, Calls Try.prog 45 #[.int .i64 k, .int .i64 l] w fun e w' => e = .returned (.bool false) ∧ w' = w) := fun w => by
    have := fits_any w k l
    rw [h] at this; exact this
  clear h
  go_enter Try.func23, Try.ntmps23
  go_wp2_with (go_at_call 45; refine (C5.out _).mono ?_; rintro e w' ⟨rfl, rfl⟩)
  go_ret2
  exact ⟨rfl, Below.refl _ _⟩

set_option maxHeartbeats 2000000 in
theorem Make_any (w : World) (k l : Nat) {a : Option Addr} {L : List Cl} (cap : Nat) (hC : Cs w a L) (h1 : k ≤ 2) (h2 : l ≤ 255) (h3 : k = 2 ∨ l = 0) (hln : L.length ≤ 1000) :
    Calls Try.prog 23 #[.int .i64 (k : Int), .int .i64 (l : Int), .slice a L.length cap] w fun e w' => e = .returned (.tuple #[.string (if firstBad k L = 0 then tx (packS k l L) else ⟨#[]⟩), .int .i64 (firstBad k L)]) ∧ Below w.heap.size w w' := by
  have C5 : Hid (∀ w, Calls Try.prog 45 #[.int .i64 (k : Int), .int .i64 (l : Int)] w fun e w' => e = .returned (.bool true) ∧ w' = w) := fun w => by
    have := fits_any w k l
    rw [show fit k l = true by simp only [fit, decide_eq_true_eq]; omega] at this; exact this
  have C1 : Hid (∀ w, Calls Try.prog 46 #[.int .i64 (k : Int), .int .i64 (l : Int)] w fun e w' => e = .returned (pgV (blankS k l)) ∧ Below w.heap.size w w') := fun w => blank_any w k l (by omega) (by omega)
  have HCP : Hid (∀ i, i ≤ L.length → (∀ j, j < i → bad k L j = 0) → CanPack k l (L.take i)) := (fun i hi h => canPack_of h1 h2 h3 hi h : ∀ i, i ≤ L.length → (∀ j, j < i → bad k L j = 0) → CanPack k l (L.take i))
  generalize hF : (Ending.returned (.tuple #[.string (if firstBad k L = 0 then tx (packS k l L) else ⟨#[]⟩), .int .i64 (firstBad k L)])) = F
  have HF : Hid (F = Ending.returned (.tuple #[.string (if firstBad k L = 0 then tx (packS k l L) else ⟨#[]⟩), .int .i64 (firstBad k L)])) := hF.symm
  clear hF
  go_enter Try.func23, Try.ntmps23
  go_wp2_with (first | (go_at_call 45; refine (C5.out _).mono ?_; rintro e w' ⟨rfl, rfl⟩) | (go_at_call 46; refine (C1.out _).mono ?_; rintro e w2 ⟨rfl, hb2⟩) | (refine wpList_new_sh _ rfl rfl ?_; intro w3 b3 N3) | (refine wpList_put_sh _ rfl _ _ rfl rfl (t := blankS k l) rfl N3.sh (blankS_length k l) ?_; intro w4 P4))
  have hb4 : Below w'.heap.size w' w4 := opened hb2 N3 P4
  have hb3 : w'.heap.size ≤ b3 := by
    have := hb2.size
    have := N3.le
    omega
  go_loopw [21] (fun kv wr => ∃ i : Nat, kv = .int .i64 (i : Int) ∧ i ≤ L.length ∧ Hid (∀ j, j < i → bad k L j = 0) ∧ Sh wr b3 (packS k l (L.take i)) ∧ Below w'.heap.size w' wr) (fun kv _ => L.length - (intOf kv).toNat)
  case atStart => exact ⟨0, rfl, Nat.zero_le _, (fun j hj => absurd hj (Nat.not_lt_zero _) : ∀ j, j < 0 → bad k L j = 0), by rw [List.take_zero]; exact P4.sh, hb4⟩
  case round =>
    obtain ⟨i, rfl, hi, hbad, hS, hbel⟩ := hrel
    by_cases hlt : i < L.length
    · have hltI : (i : Int) < (L.length : Int) := by omega
      obtain ⟨bb, off, rfl, hb, c0, c1⟩ := hC.at' hbel hlt
      have hbg := bad_get (k := k) hlt
      have hcp := HCP.out i hi hbad.out
      have hpk := packed_all _ hcp
      have CL : Hid (∀ w, Calls Try.prog 47 #[.agg #[.string L[i].k, .string L[i].v]] w fun e w' => e = .returned (.int .i64 (long L[i])) ∧ Below w.heap.size w w') := fun w => tooLong_any w _
      have HFB : Hid (bad k L i ≠ 0 → firstBad k L = bad k L i) := (fun hb => firstBad_at hlt hbad.out hb : bad k L i ≠ 0 → firstBad k L = bad k L i)
      by_cases hlong : long L[i] = 0
      · rw [hlong] at CL
        have hk := long_k hlong
        have hv := long_v hlong
        rw [if_neg (by simpa using hlong)] at hbg
        have CN : Hid (∀ w, Calls Try.prog 27 #[.agg #[.string L[i].k, .string L[i].v]] w fun e w' => e = .returned (.int .i64 (need L[i])) ∧ Below w.heap.size w w') := fun w => Need_any w _ (by omega) (by omega)
        by_cases hk0 : k = 0
        · have hE : Hid (F = Ending.returned (.tuple #[.string ⟨#[]⟩, .int .i64 4])) := by
            have e1 : bad k L i = 4 := by rw [hbg, if_pos hk0]
            have e2 := HFB.out (by rw [e1]; decide)
            have : F = Ending.returned (.tuple #[.string ⟨#[]⟩, .int .i64 4]) := by rw [HF.out, e2, e1]; rfl
            exact this
          have hk0' : ((k : Int) == 0) = true := by simp; omega
          clear hbg hcp hpk hlong hS
          generalize L[i] = c at *
          go_wp2_with (first | (refine wpList_new_cb _ rfl rfl ?_; intro w5 b5 N5) | (refine wpList_put_cb _ rfl _ _ rfl rfl rfl N5.cb ?_; intro w6 P6; have f0 := P6.cb.c0; have f1 := P6.cb.c1) | (go_at_call 47; refine (CL.out _).mono ?_; rintro e w7 ⟨rfl, hb7⟩; have hB7 := P6.cb.below hb7; have f0 := hB7.c0; have f1 := hB7.c1))
          go_quiet (fail)
          go_wp2
          go_ret2
          exact ⟨by rw [hE.out]; rfl, below_drewN (thn (boxed hbel N5 P6) hb7) _⟩
        · rw [if_neg hk0] at hbg
          have hk0' : ((k : Int) == 0) = false := by simp; omega
          have hrm : rm (packS k l (L.take i)) = 220 - needs (L.take i) := by rw [rm, hpk.gk, if_neg hk0, hpk.cells]
          have CM : Hid (∀ w b, Sh w b (packS k l (L.take i)) → Calls Try.prog 43 #[.pointer (some ⟨b, 0, none⟩)] w fun e w' => e = .returned (.int .i64 (rm (packS k l (L.take i)) : Nat)) ∧ Below w.heap.size w w') := fun w b h' => room_any w h' hpk.right
          have hfit := hcp.fit
          have hcnt : cnt (packS k l (L.take i)) = i := by rw [← cells_length, hpk.cells, List.length_take]; omega
          have CY0 : bad k L i = 0 → ∀ w b, Sh w b (packS k l (L.take i)) → Calls Try.prog 48 #[.pointer (some ⟨b, 0, none⟩), .int .i64 (i : Int), .agg #[.string L[i].k, .string L[i].v]] w fun e w' => e = .returned (.tuple #[]) ∧ Put w w' b (packS k l (L.take (i + 1))) := fun hz w b h' => by
            have hg := good_of hlt hz
            obtain ⟨c, hc, hf⟩ := hg.fit
            rw [List.getElem?_eq_getElem hlt] at hc
            simp only [Option.some.injEq] at hc
            have hcl : CanLay (packS k l (L.take i)) i L[i] := ⟨hpk.right, by rw [hpk.gk]; exact hk0, by omega, hk, hv, by rw [hpk.cells, hc]; exact hf⟩
            have e : L.take (i + 1) = L.take i ++ [L[i]] := List.take_succ_eq_append_getElem hlt
            have hen := hpk.en
            rw [List.length_take, Nat.min_eq_left (by omega)] at hen
            have e2 : layS (packS k l (L.take i)) i L[i] = packS k l (L.take (i + 1)) := by
              rw [layS, if_neg (by rw [hcnt, hc]; omega), e, packS_snoc, hcnt]
            have := lay_any w h' i L[i] hcl
            rw [e2] at this
            exact this
          have CYH : Hid _ := CY0
          clear CY0
          have hst := needs_take_succ hlt
          generalize hrr : rm (packS k l (L.take i)) = r at *
          generalize needs (L.take i) = m at *
          generalize hPS : packS k l (L.take i) = PS at *
          obtain ⟨PN, hPN⟩ : ∃ PN, PN = packS k l (L.take (i + 1)) := ⟨_, rfl⟩
          rw [← hPN] at CYH
          have HPN : Hid _ := hPN
          clear hPN
          have HS : Hid _ := hS
          have hnd : need L[i] ≤ 51 := by simp only [need]; omega
          clear hS hcp hpk hcnt hst hPS hrr
          by_cases h0 : i = 0
          · subst h0
            rw [if_neg (by omega)] at hbg
            rw [Nat.zero_mul, Nat.add_zero] at c0 c1
            by_cases hf : 220 < m + need L[0]
            · have hE : Hid (F = Ending.returned (.tuple #[.string ⟨#[]⟩, .int .i64 7])) := by
                have e1 : bad k L 0 = 7 := by rw [hbg, if_pos hf]
                have e2 := HFB.out (by rw [e1]; decide)
                have : F = Ending.returned (.tuple #[.string ⟨#[]⟩, .int .i64 7]) := by rw [HF.out, e2, e1]; rfl
                exact this
              have hrI : (r : Int) < (need L[0] : Int) := by omega
              clear hbg hlong CYH hf
              generalize need L[0] = nd at *
              generalize L[0] = c at *
              go_wp2_with (first | (refine wpList_new_cb _ rfl rfl ?_; intro w5 b5 N5) | (refine wpList_put_cb _ rfl _ _ rfl rfl rfl N5.cb ?_; intro w6 P6; have f0 := P6.cb.c0; have f1 := P6.cb.c1) | (go_at_call 47; refine (CL.out _).mono ?_; rintro e w7 ⟨rfl, hb7⟩; have hB7 := P6.cb.below hb7; have f0 := hB7.c0; have f1 := hB7.c1))
              go_quiet (fail)
              go_wp2_with (first | (go_at_call 27; refine (CN.out _).mono ?_; rintro e w8 ⟨rfl, hb8⟩; have hS8 : Sh w8 b3 PS := (((HS.out.boxed N5 P6).below hb7).drewN _).below hb8; have hB8 : Cb w8 b5 c.k c.v := (hB7.of_block (by rfl) : Cb (w7.drewN nq) b5 c.k c.v).below hb8; have f0 := hB8.c0; have f1 := hB8.c1) | (go_at_call 43; refine (CM.out _ _ hS8).mono ?_; rintro e w9 ⟨rfl, hb9⟩; have hB9 := hB8.below hb9; have f0 := hB9.c0; have f1 := hB9.c1))
              go_ret2
              exact ⟨by rw [hE.out]; rfl, thn (thn (below_drewN (thn (boxed hbel N5 P6) hb7) _) hb8) hb9⟩
            · have e1 : bad k L 0 = 0 := by rw [hbg, if_neg hf]
              have CY : Hid _ := CYH.out e1
              have hbad2 : Hid (∀ j', j' < 0 + 1 → bad k L j' = 0) := (fun j' hj' => by
                by_cases e : j' = 0
                · subst e; exact e1
                · exact hbad.out j' (by omega) : ∀ j', j' < 0 + 1 → bad k L j' = 0)
              have hrI : ¬ (r : Int) < (need L[0] : Int) := by omega
              clear hbg hlong CYH hf e1
              generalize need L[0] = nd at *
              generalize L[0] = c at *
              go_wp2_with (first | (refine wpList_new_cb _ rfl rfl ?_; intro w5 b5 N5) | (refine wpList_put_cb _ rfl _ _ rfl rfl rfl N5.cb ?_; intro w6 P6; have f0 := P6.cb.c0; have f1 := P6.cb.c1) | (go_at_call 47; refine (CL.out _).mono ?_; rintro e w7 ⟨rfl, hb7⟩; have hB7 := P6.cb.below hb7; have f0 := hB7.c0; have f1 := hB7.c1))
              go_quiet (fail)
              go_wp2_with (first | (go_at_call 27; refine (CN.out _).mono ?_; rintro e w8 ⟨rfl, hb8⟩; have hS8 : Sh w8 b3 PS := (((HS.out.boxed N5 P6).below hb7).drewN _).below hb8; have hB8 : Cb w8 b5 c.k c.v := (hB7.of_block (by rfl) : Cb (w7.drewN nq) b5 c.k c.v).below hb8; have f0 := hB8.c0; have f1 := hB8.c1) | (go_at_call 43; refine (CM.out _ _ hS8).mono ?_; rintro e w9 ⟨rfl, hb9⟩; have hB9 := hB8.below hb9; have f0 := hB9.c0; have f1 := hB9.c1) | (go_at_call 48; refine (CY.out _ _ (hS8.below hb9)).mono ?_; rintro e w10 ⟨rfl, P10⟩))
              go_roundw
              case rel =>
                have hb' := thn (thn (below_drewN (thn (boxed hbel N5 P6) hb7) nq) hb8) hb9
                exact ⟨0 + 1, by go_num, by omega, hbad2, (by rw [← HPN.out]; exact P10.sh), hb'.trans (P10.below hb3 hb'.size)⟩
              case measure => simp [intOf]; omega
          · obtain ⟨j, rfl⟩ : ∃ j, i = j + 1 := ⟨i - 1, by omega⟩
            have hje : (L[j + 1 - 1]?.getD L[j + 1]).k = L[j].k := by rw [Nat.add_sub_cancel, List.getElem?_eq_getElem (by omega)]; rfl
            rw [hje] at hbg
            have hle := leq_not L[j].k L[j + 1].k
            obtain ⟨bb2, off2, hbb, hb2', e0, e1⟩ := hC.at_ j (by omega)
            simp only [Option.some.injEq, Addr.mk.injEq, and_true] at hbb
            obtain ⟨rfl, rfl⟩ := hbb
            have HE0 : Hid _ := e0
            clear e0 e1 hje
            have hj1 : ((j + 1 : Nat) : Int) = (j : Int) + 1 := by omega
            cases hl : lt L[j].k L[j + 1].k
            · have hE : Hid (F = Ending.returned (.tuple #[.string ⟨#[]⟩, .int .i64 4])) := by
                have e1 : bad k L (j + 1) = 4 := by rw [hbg, if_pos ⟨by omega, hl⟩]
                have e2 := HFB.out (by rw [e1]; decide)
                have : F = Ending.returned (.tuple #[.string ⟨#[]⟩, .int .i64 4]) := by rw [HF.out, e2, e1]; rfl
                exact this
              rw [hl] at hle
              clear hbg hlong hl CYH
              rw [hj1]
              generalize L[j + 1] = c at *
              generalize L[j] = c' at *
              go_wp2_with (first | (refine wpList_new_cb _ rfl rfl ?_; intro w5 b5 N5) | (refine wpList_put_cb _ rfl _ _ rfl rfl rfl N5.cb ?_; intro w6 P6; have f0 := P6.cb.c0; have f1 := P6.cb.c1) | (go_at_call 47; refine (CL.out _).mono ?_; rintro e w7 ⟨rfl, hb7⟩; have hB7 := P6.cb.below hb7; have f0 := hB7.c0; have f1 := hB7.c1))
              have hw7 := thn (boxed hbel N5 P6) hb7
              have e0 := (hw7.cell (by exact hb2')).trans HE0.out
              go_quiet (fail)
              go_wp2
              go_ret2
              exact ⟨by rw [hE.out]; rfl, below_drewN hw7 _⟩
            · rw [if_neg (by rw [hl]; simp)] at hbg
              rw [hl] at hle
              clear hl
              by_cases hf : 220 < m + need L[j + 1]
              · have hE : Hid (F = Ending.returned (.tuple #[.string ⟨#[]⟩, .int .i64 7])) := by
                  have e1 : bad k L (j + 1) = 7 := by rw [hbg, if_pos hf]
                  have e2 := HFB.out (by rw [e1]; decide)
                  have : F = Ending.returned (.tuple #[.string ⟨#[]⟩, .int .i64 7]) := by rw [HF.out, e2, e1]; rfl
                  exact this
                have hrI : (r : Int) < (need L[j + 1] : Int) := by omega
                clear hbg hlong CYH hf
                rw [hj1]
                generalize need L[j + 1] = nd at *
                generalize L[j + 1] = c at *
                generalize L[j] = c' at *
                go_wp2_with (first | (refine wpList_new_cb _ rfl rfl ?_; intro w5 b5 N5) | (refine wpList_put_cb _ rfl _ _ rfl rfl rfl N5.cb ?_; intro w6 P6; have f0 := P6.cb.c0; have f1 := P6.cb.c1) | (go_at_call 47; refine (CL.out _).mono ?_; rintro e w7 ⟨rfl, hb7⟩; have hB7 := P6.cb.below hb7; have f0 := hB7.c0; have f1 := hB7.c1))
                have hw7 := thn (boxed hbel N5 P6) hb7
                have e0 := (hw7.cell (by exact hb2')).trans HE0.out
                go_quiet (fail)
                go_wp2_with (first | (go_at_call 27; refine (CN.out _).mono ?_; rintro e w8 ⟨rfl, hb8⟩; have hS8 : Sh w8 b3 PS := (((HS.out.boxed N5 P6).below hb7).drewN _).below hb8; have hB8 : Cb w8 b5 c.k c.v := (hB7.of_block (by rfl) : Cb (w7.drewN nq) b5 c.k c.v).below hb8; have f0 := hB8.c0; have f1 := hB8.c1) | (go_at_call 43; refine (CM.out _ _ hS8).mono ?_; rintro e w9 ⟨rfl, hb9⟩; have hB9 := hB8.below hb9; have f0 := hB9.c0; have f1 := hB9.c1))
                go_ret2
                exact ⟨by rw [hE.out]; rfl, thn (thn (below_drewN (thn (boxed hbel N5 P6) hb7) _) hb8) hb9⟩
              · have e1 : bad k L (j + 1) = 0 := by rw [hbg, if_neg hf]
                have CY : Hid _ := CYH.out e1
                have hbad2 : Hid (∀ j', j' < j + 1 + 1 → bad k L j' = 0) := (fun j' hj' => by
                  by_cases e : j' = j + 1
                  · subst e; exact e1
                  · exact hbad.out j' (by omega) : ∀ j', j' < j + 1 + 1 → bad k L j' = 0)
                have hrI : ¬ (r : Int) < (need L[j + 1] : Int) := by omega
                clear hbg hlong CYH hf e1
                rw [hj1] at CY ⊢
                generalize need L[j + 1] = nd at *
                generalize L[j + 1] = c at *
                generalize L[j] = c' at *
                go_wp2_with (first | (refine wpList_new_cb _ rfl rfl ?_; intro w5 b5 N5) | (refine wpList_put_cb _ rfl _ _ rfl rfl rfl N5.cb ?_; intro w6 P6; have f0 := P6.cb.c0; have f1 := P6.cb.c1) | (go_at_call 47; refine (CL.out _).mono ?_; rintro e w7 ⟨rfl, hb7⟩; have hB7 := P6.cb.below hb7; have f0 := hB7.c0; have f1 := hB7.c1))
                have hw7 := thn (boxed hbel N5 P6) hb7
                have e0 := (hw7.cell (by exact hb2')).trans HE0.out
                go_quiet (fail)
                go_wp2_with (first | (go_at_call 27; refine (CN.out _).mono ?_; rintro e w8 ⟨rfl, hb8⟩; have hS8 : Sh w8 b3 PS := (((HS.out.boxed N5 P6).below hb7).drewN _).below hb8; have hB8 : Cb w8 b5 c.k c.v := (hB7.of_block (by rfl) : Cb (w7.drewN nq) b5 c.k c.v).below hb8; have f0 := hB8.c0; have f1 := hB8.c1) | (go_at_call 43; refine (CM.out _ _ hS8).mono ?_; rintro e w9 ⟨rfl, hb9⟩; have hB9 := hB8.below hb9; have f0 := hB9.c0; have f1 := hB9.c1) | (go_at_call 48; refine (CY.out _ _ (hS8.below hb9)).mono ?_; rintro e w10 ⟨rfl, P10⟩))
                go_roundw
                case rel =>
                  have hb' := thn (thn (below_drewN (thn (boxed hbel N5 P6) hb7) nq) hb8) hb9
                  exact ⟨j + 1 + 1, by go_num, by omega, hbad2, (by rw [← HPN.out]; exact P10.sh), hb'.trans (P10.below hb3 hb'.size)⟩
                case measure => simp [intOf]; omega
      · have hE : Hid (F = Ending.returned (.tuple #[.string ⟨#[]⟩, .int .i64 (long L[i])])) := by
          have e1 : bad k L i = long L[i] := by rw [hbg, if_pos hlong]
          have e2 := HFB.out (by rw [e1]; exact hlong)
          have : F = Ending.returned (.tuple #[.string ⟨#[]⟩, .int .i64 (long L[i])]) := by rw [HF.out, e2, e1, if_neg hlong]
          exact this
        have hl' : (long L[i] != 0) = true := by simpa using hlong
        clear hbg hcp hpk hlong hS
        generalize long L[i] = le at *
        generalize L[i] = c at *
        go_wp2_with (first | (refine wpList_new_cb _ rfl rfl ?_; intro w5 b5 N5) | (refine wpList_put_cb _ rfl _ _ rfl rfl rfl N5.cb ?_; intro w6 P6; have f0 := P6.cb.c0; have f1 := P6.cb.c1) | (go_at_call 47; refine (CL.out _).mono ?_; rintro e w7 ⟨rfl, hb7⟩; have hB7 := P6.cb.below hb7; have f0 := hB7.c0; have f1 := hB7.c1))
        go_ret2
        exact ⟨by rw [hE.out]; rfl, thn (boxed hbel N5 P6) hb7⟩
    · have hie : i = L.length := by omega
      subst hie
      rw [List.take_length] at hS
      have hlt' : ¬ (L.length : Int) < (L.length : Int) := by omega
      have e0 := firstBad_ok (k := k) hbad.out
      have hE : Hid (F = Ending.returned (.tuple #[.string (tx (packS k l L)), .int .i64 0])) := by
        have : F = Ending.returned (.tuple #[.string (tx (packS k l L)), .int .i64 0]) := by rw [HF.out, e0]; rfl
        exact this
      have C6 : Hid (∀ w b, Sh w b (packS k l L) → Calls Try.prog 49 #[.pointer (some ⟨b, 0, none⟩)] w fun e w' => e = .returned (.string (tx (packS k l L))) ∧ w' = w) := fun w b h' => text_any w h'
      clear e0
      generalize packS k l L = PS at *
      go_wp2_with (go_at_call 49; refine (C6.out _ _ hS).mono ?_; rintro e w9 ⟨rfl, rfl⟩)
      go_ret2
      exact ⟨by rw [hE.out]; rfl, hbel⟩
end Go.Proofs.Ytmoognjegjeegaa
