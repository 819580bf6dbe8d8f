/- A function value over a row of holds: IndexFunc, ContainsFunc, kept. -/
import Derived.Test.YtkpjamdlpofgcaaLkH
import Derived.Shelf.Abstract
namespace Go.Proofs.Ytkpjamdlpofgcaa
open Go.RowKit
set_option linter.unusedVariables false
set_option linter.unusedSimpArgs false
set_option maxRecDepth 100000

/-- The function g, with one variable caught in block hb, tells p of a hold. -/
structure Pr (w : World) (g hb : Nat) (p : Hd → Bool) : Prop where
  eg : ∀ args w, (callFunc g args).run Try.prog w = .ok (.enter g args) w
  tells : ∀ (wx : World) (x : Hd), Below w.heap.size w wx → Calls Try.prog g #[.agg x.A, .pointer (some ⟨hb, 0, none⟩)] wx fun e w' => e = .returned (.bool (p x)) ∧ Below wx.heap.size wx w'
structure IxO (w w' : World) (e : Ending) (t : Bool) : Prop where
  ex : ∃ r : Int, e = .returned (.int .i64 r) ∧ decide (0 ≤ r) = t
  bel : Below w.heap.size w w'
section
variable {B : Nat} {w : World} {a : Option Addr} {c g hb : Nat} {L : List Hd} {p : Hd → Bool}
theorem any_take_succ {i : Nat} (hi : i < L.length) : (L.take (i + 1)).any p = ((L.take i).any p || p L[i]) := by
  rw [List.take_succ_eq_append_getElem hi, List.any_append]
  simp
theorem filter_take_succ {i : Nat} (hi : i < L.length) : (L.take (i + 1)).filter p = (L.take i).filter p ++ (if p L[i] then [L[i]] else []) := by
  rw [List.take_succ_eq_append_getElem hi, List.filter_append]
  congr 1
  by_cases h : p L[i] = true
  · simp [h]
  · simp [h]
theorem any_hit {i : Nat} (hi : i < L.length) (h : p L[i] = true) : L.any p = true := List.any_eq_true.2 ⟨L[i], List.getElem_mem hi, h⟩
set_option maxHeartbeats 1000000 in
theorem IndexFunc_any (hs : Hs B w (.slice a L.length c) L) (hl : L.length ≤ 90000) (P : Pr w g hb p) :
    Calls Try.prog 40 #[.slice a L.length c, .func (.func g) #[] #[.pointer (some ⟨hb, 0, none⟩)]] w fun e w' => IxO w w' e (L.any p) := by
  have eg := P.eg
  have HP : Hid (∀ (wx : World) (x : Hd), Below w.heap.size w wx → Calls Try.prog g #[.agg x.A, .pointer (some ⟨hb, 0, none⟩)] wx fun e w' => e = .returned (.bool (p x)) ∧ Below wx.heap.size wx w') := P.tells
  have HS : Hid (Hs B w (.slice a L.length c) L) := hs
  have ht : Hid (L.any p = L.any p) := rfl
  generalize hT : L.any p = t
  have HT : Hid (L.any p = t) := hT
  clear hs P hT ht
  go_enter Try.func40, Try.ntmps40
  go_wp2
  go_loopw [5, 8] (fun s5 s8 wr => ∃ (i : Nat), s8 = .int .i64 (i : Int) ∧ i ≤ L.length ∧ Below w.heap.size w wr ∧ (L.take i).any p = false) (fun s5 s8 _ => L.length - (intOf s8).toNat)
  case atStart => exact ⟨0, rfl, Nat.zero_le _, Below.refl _ _, by simp⟩
  case round =>
    obtain ⟨i, rfl, hi, hb0, hno⟩ := hrel
    have HN : Hid ((L.take i).any p = false) := hno
    have HB : Hid (Below w.heap.size w wr) := hb0
    clear hno hb0
    by_cases hlt : i < L.length
    · have hltI : (i : Int) < (L.length : Int) := by omega
      obtain ⟨gb, ea, hgl, hcell⟩ := HS.out.at_ hlt
      subst ea
      have hr : Hid (wr.rangeAt gb (i * 5) (L[i].A.toList)) := hcell wr (HB.out.block gb hgl)
      have C := HP.out wr L[i] HB.out
      clear hcell hgl HP HS
      have hq : Hid (p L[i] = p L[i]) := rfl
      have HX : Hid (∀ q, p L[i] = q → (q = true → t = true) ∧ (q = false → (L.take (i + 1)).any p = false)) := (fun q hq => ⟨fun e => by rw [← HT.out]; exact any_hit hlt (hq.trans e), fun e => by rw [any_take_succ hlt, HN.out, hq, e]; rfl⟩ : ∀ q, p L[i] = q → (q = true → t = true) ∧ (q = false → (L.take (i + 1)).any p = false))
      generalize L[i] = x at *
      generalize p x = q at *
      have HQ : Hid ((q = true → t = true) ∧ (q = false → (L.take (i + 1)).any p = false)) := HX.out q rfl
      clear HX hq HN HT
      have C1 : Hid (Calls Try.prog g #[.agg x.A, .pointer (some ⟨hb, 0, none⟩)] wr fun e w' => e = .returned (.bool q) ∧ Below wr.heap.size wr w') := C
      clear C
      cases q
      · go_wp2_with first
          | (refine wpList_load_hdm (n := x) _ rfl (.tmp 14) rfl rfl hr.out ?_)
          | (go_at_fn g; refine C1.out.mono ?_; rintro e w2 ⟨rfl, b2⟩)
        go_roundw
        case rel => exact ⟨i + 1, by rfl, by omega, thn HB.out b2, HQ.out.2 trivial⟩
        case measure => simp [intOf]; omega
      · go_wp2_with first
          | (refine wpList_load_hdm (n := x) _ rfl (.tmp 14) rfl rfl hr.out ?_)
          | (go_at_fn g; refine C1.out.mono ?_; rintro e w2 ⟨rfl, b2⟩)
        go_ret
        exact ⟨⟨_, rfl, by rw [HQ.out.1 trivial]; simp⟩, thn HB.out b2⟩
    · have hltI : ¬ (i : Int) < (L.length : Int) := by omega
      have HE : Hid (t = false) := (by rw [← HT.out]; have := HN.out; rwa [List.take_of_length_le (by omega)] at this : t = false)
      go_wp2
      go_ret
      exact ⟨⟨_, rfl, by rw [HE.out]; rfl⟩, HB.out⟩
theorem ContainsFunc_any (hs : Hs B w (.slice a L.length c) L) (hl : L.length ≤ 90000) (P : Pr w g hb p) :
    Calls Try.prog 35 #[.slice a L.length c, .func (.func g) #[] #[.pointer (some ⟨hb, 0, none⟩)]] w fun e w' => e = .returned (.bool (L.any p)) ∧ Below w.heap.size w w' := by
  have C : Hid (Calls Try.prog 40 #[.slice a L.length c, .func (.func g) #[] #[.pointer (some ⟨hb, 0, none⟩)]] w fun e w' => IxO w w' e (L.any p)) := IndexFunc_any hs hl P
  clear hs P
  generalize L.any p = t at *
  go_enter Try.func35, Try.ntmps35
  go_wp2_with (go_at_call 40; refine C.out.mono ?_; rintro e w2 ⟨⟨r, rfl, hr⟩, b2⟩; have HR : Hid (decide (0 ≤ r) = t) := hr; clear hr)
  go_ret
  exact ⟨by rw [← HR.out]; rfl, b2⟩
structure KpO (w w' : World) (e : Ending) (L : List Hd) : Prop where
  ex : ∃ a c, e = .returned (.slice a L.length c) ∧ Hs w.heap.size w' (.slice a L.length c) L
  bel : Below w.heap.size w w'
theorem grown_below {w w' : World} {v : Value} {B : Nat} (h : w.grownBy w' v.ownBlock) (hB : ∀ g, v.ownBlock = some g → B ≤ g) (hw : B ≤ w.heap.size) : Below B w w' :=
  ⟨h.os, h.tape, h.output, h.size, fun k hk => h.block k (by omega) (fun e => by have := hB k e.symm; omega)⟩
set_option maxHeartbeats 1000000 in
theorem kept_any (hs : Hs B w (.slice a L.length c) L) (hl : L.length ≤ 90000) (P : Pr w g hb p) :
    Calls Try.prog 32 #[.slice a L.length c, .func (.func g) #[] #[.pointer (some ⟨hb, 0, none⟩)]] w fun e w' => KpO w w' e (L.filter p) := by
  have eg := P.eg
  have HP : Hid (∀ (wx : World) (x : Hd), Below w.heap.size w wx → Calls Try.prog g #[.agg x.A, .pointer (some ⟨hb, 0, none⟩)] wx fun e w' => e = .returned (.bool (p x)) ∧ Below wx.heap.size wx w') := P.tells
  have HS : Hid (Hs B w (.slice a L.length c) L) := hs
  clear hs P
  go_enter Try.func32, Try.ntmps32
  go_wp2
  go_loopw [5, 7, 10] (fun s5 s7 s10 wr => ∃ (i : Nat), s10 = .int .i64 (i : Int) ∧ i ≤ L.length ∧ Below w.heap.size w wr ∧ ∃ a5 c5, s5 = .slice a5 ((L.take i).filter p).length c5 ∧ Hs w.heap.size wr s5 ((L.take i).filter p)) (fun s5 s7 s10 _ => L.length - (intOf s10).toNat)
  case atStart => exact ⟨0, rfl, Nat.zero_le _, Below.refl _ _, none, 0, by simp, by simpa using Hs.nil _ _⟩
  case round =>
    obtain ⟨i, rfl, hi, hb0, a5, c5, rfl, h5⟩ := hrel
    have H5 : Hid (Hs w.heap.size wr (.slice a5 ((L.take i).filter p).length c5) ((L.take i).filter p)) := h5
    have HB : Hid (Below w.heap.size w wr) := hb0
    clear h5 hb0
    by_cases hlt : i < L.length
    · have hltI : (i : Int) < (L.length : Int) := by omega
      obtain ⟨gb, ea, hgl, hcell⟩ := HS.out.at_ hlt
      subst ea
      have hr : Hid (wr.rangeAt gb (i * 5) (L[i].A.toList)) := hcell wr (HB.out.block gb hgl)
      have C : Hid (∀ wx, Below w.heap.size w wx → Calls Try.prog g #[.agg L[i].A, .pointer (some ⟨hb, 0, none⟩)] wx fun e w' => e = .returned (.bool (p L[i])) ∧ Below wx.heap.size wx w') := fun wx h => HP.out wx L[i] h
      have hfl : Hid (((L.take i).filter p).length ≤ 90000) := (Nat.le_trans (List.length_filter_le _ _) (by rw [List.length_take]; omega) : ((L.take i).filter p).length ≤ 90000)
      have HX : Hid ((L.take (i + 1)).filter p = (L.take i).filter p ++ (if p L[i] then [L[i]] else [])) := filter_take_succ hlt
      clear hcell hgl HP HS
      generalize (L.take i).filter p = M at *
      generalize L[i] = x at *
      generalize p x = q at *
      cases q
      · have e1 : Hid ((L.take (i + 1)).filter p = M) := (by have := HX.out; rw [this]; simp : (L.take (i + 1)).filter p = M)
        clear HX
        go_wp2_with first
          | (refine wpList_load_hdm (n := x) _ rfl (.tmp 12) rfl rfl hr.out ?_)
          | (refine wpList_new_hd _ rfl rfl ?_; intro w1 b1 N1)
          | (refine wpList_put_hd (s := zH) (s' := x) _ rfl _ _ rfl rfl rfl N1.hd ?_; intro w2 P2; have B2 : Hid (Below wr.heap.size wr w2) := N1.below.trans (P2.below _ (by rw [N1.eq]; exact Nat.le_refl _) N1.below.size))
          | (refine wpList_load_hd (n := x) _ rfl (.tmp 7) rfl rfl P2.hd ?_)
          | (go_at_fn g; refine (C.out _ (thn HB.out B2.out)).mono ?_; rintro e w3 ⟨rfl, b3⟩)
        go_roundw
        case rel =>
          have H := thn B2.out b3
          exact ⟨i + 1, by rfl, by omega, thn HB.out H, a5, c5, by rw [e1.out], by rw [e1.out]; exact H5.out.bel H⟩
        case measure => simp [intOf]; omega
      · have e1 : Hid ((L.take (i + 1)).filter p = M ++ [x]) := (by have := HX.out; rw [this]; simp : (L.take (i + 1)).filter p = M ++ [x])
        clear HX
        go_wp2_with first
          | (refine wpList_load_hdm (n := x) _ rfl (.tmp 12) rfl rfl hr.out ?_)
          | (refine wpList_new_hd _ rfl rfl ?_; intro w1 b1 N1)
          | (refine wpList_put_hd (s := zH) (s' := x) _ rfl _ _ rfl rfl rfl N1.hd ?_; intro w2 P2; have B2 : Hid (Below wr.heap.size wr w2) := N1.below.trans (P2.below _ (by rw [N1.eq]; exact Nat.le_refl _) N1.below.size))
          | (have := b3; refine wpList_load_hd (n := x) _ rfl (.tmp 7) rfl rfl (P2.hd.bel b3) ?_)
          | (refine wpList_load_hd (n := x) _ rfl (.tmp 7) rfl rfl P2.hd ?_)
          | (go_at_fn g; refine (C.out _ (thn HB.out B2.out)).mono ?_; rintro e w3 ⟨rfl, b3⟩)
          | (refine wpList_build_hd (n := x) _ rfl _ rfl rfl ?_; intro w4 b4 N4; have BB : Hid (Below w.heap.size w w4) := thn (thn (thn HB.out B2.out) b3) N4.below; have H4 : Hid (Hs w.heap.size w4 (.slice a5 M.length c5) M) := ((H5.out.bel B2.out).bel b3).bel N4.below)
          | (refine wpList_append_hd rfl (.tmp 17) (.tmp 19) rfl rfl H4.out rfl N4.hd BB.out.size hfl.out ?_; intro a6 c6 w6 A6)
        go_roundw
        case rel =>
          have H := BB.out.trans (grown_below A6.grow (fun g e => (H4.out.blkAt e).1) BB.out.size)
          exact ⟨i + 1, by rfl, by omega, H, a6, c6, by rw [e1.out, List.length_append]; rfl, by rw [e1.out]; exact A6.hs⟩
        case measure => simp [intOf]; omega
    · have hltI : ¬ (i : Int) < (L.length : Int) := by omega
      have HE : Hid (L.take i = L) := List.take_of_length_le (by omega)
      have H6 := H5.out
      rw [HE.out] at H6 ⊢
      clear H5
      have H5 : Hid (Hs w.heap.size wr (.slice a5 (L.filter p).length c5) (L.filter p)) := H6
      clear H6 HP HS HE
      go_wp2
      go_ret
      exact ⟨⟨_, _, rfl, H5.out⟩, HB.out⟩
end
end Go.Proofs.Ytkpjamdlpofgcaa
