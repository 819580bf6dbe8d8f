/- Acts. -/
import Derived.Test.YtjlhohljkedbbaaPsH
namespace Go.Proofs.Ytjlhohljkedbbaa.Pa
open Go.RowKit Gm Go.Maps
set_option linter.unusedVariables false
set_option linter.unusedSimpArgs false
set_option maxRecDepth 100000
def sumL (L : List Dv) (left : Lit → Bool) : Nat := (L.map fun d => if left (.int .i64 d.g.txn) then 0 else d.g.ks.length).sum
def actsM (P : List Gn) : Nat := (P.map fun g => g.ks.length).sum
section
variable {W W' : Nat → Prop} {w w' : World} {pb bl bw : Nat} {L : List Dv} {P : List Gn} {left : Lit → Bool}
theorem sumL_start : sumL L (fun l => (fW L l).isSome) = 0 := by
  have : ∀ d ∈ L, (if (fW L (.int .i64 d.g.txn)).isSome = true then 0 else d.g.ks.length) = 0 := fun d hd => by
    rw [if_pos]
    rw [fW_at, Option.isSome_map, lkD, List.find?_isSome]
    exact ⟨d, hd, by simp⟩
  unfold sumL
  generalize hF : (fun d : Dv => if (fW L (.int .i64 d.g.txn)).isSome = true then 0 else d.g.ks.length) = F at this
  have h2 : ∀ d ∈ L, F d = 0 := fun d hd => by have := this d hd; rw [← hF]; exact this
  clear this hF
  induction L with
  | nil => rfl
  | cons a l ih => simp only [List.map_cons, List.sum_cons, h2 a (List.mem_cons_self ..), ih (fun d hd => h2 d (List.mem_cons_of_mem _ hd))]
theorem sumL_step (hn : L.Pairwise fun a b => a.g.txn ≠ b.g.txn ∧ a.b ≠ b.b) {d : Dv} (hd : d ∈ L) (hl : left (.int .i64 d.g.txn) = true) : sumL L (fun z => left z && !z.sameKey (.int .i64 d.g.txn)) = sumL L left + d.g.ks.length := by
  unfold sumL
  induction L with
  | nil => cases hd
  | cons a l ih =>
    rw [List.pairwise_cons] at hn
    simp only [List.map_cons, List.sum_cons]
    rcases List.mem_cons.1 hd with rfl | h
    · have e : l.map (fun y : Dv => if (left (.int .i64 y.g.txn) && !(Lit.int .i64 y.g.txn).sameKey (.int .i64 d.g.txn)) = true then 0 else y.g.ks.length) = l.map (fun y : Dv => if left (.int .i64 y.g.txn) = true then 0 else y.g.ks.length) := List.map_congr_left fun y hy => by
        have e2 : (Lit.int .i64 y.g.txn).sameKey (.int .i64 d.g.txn) = false := sameKey_ne (fun e2 => (hn.1 y hy).1 (by injection e2 with _ e3; exact e3.symm))
        simp only [e2, Bool.not_false, Bool.and_true]
      have e3 : (Lit.int .i64 d.g.txn).sameKey (.int .i64 d.g.txn) = true := WideAt.sameKey_self (kI _)
      rw [e]
      simp only [hl, e3, Bool.not_true, Bool.and_false, Bool.false_eq_true, if_false, if_true]
      omega
    · have e2 : (Lit.int .i64 a.g.txn).sameKey (.int .i64 d.g.txn) = false := sameKey_ne (fun e2 => (hn.1 d h).1 (by injection e2))
      rw [ih hn.2 h]
      simp only [e2, Bool.not_false, Bool.and_true]
      omega
theorem sumL_done (hl : ∀ l, left l = false) : sumL L left = actsM (L.map (·.g)) := by
  unfold sumL actsM
  rw [List.map_map]
  congr 1
  exact List.map_congr_left fun d hd => by simp [hl]
theorem sumL_le {m : Nat} (h : ∀ d ∈ L, d.g.ks.length ≤ m) : sumL L left ≤ L.length * m := by
  unfold sumL
  induction L with
  | nil => simp
  | cons a l ih =>
    have h1 := h a (List.mem_cons_self ..)
    have h2 := ih (fun d hd => h d (List.mem_cons_of_mem _ hd))
    simp only [List.map_cons, List.sum_cons, List.length_cons, Nat.add_mul, Nat.one_mul]
    split <;> omega
theorem Acts_nil (w : World) : Calls Try.prog 16 #[.pointer none] w fun e w' => e = .returned (.int .i64 0) ∧ w' = w := by
  have C : Hid (∀ w, Calls Try.prog 14 #[.pointer none] w fun e w' => e = .returned (.bool false) ∧ w' = w) := isMade_nil
  go_enter Try.func16, Try.ntmps16
  go_wp2_with (go_at_call 14; refine (C.out _).mono ?_; rintro e w2 ⟨rfl, rfl⟩)
  go_ret
  exact ⟨rfl, rfl⟩
theorem Acts_zero {z : Nat} {y : Option Nat} (h : At w z 51 #[.map y, .map none]) : Calls Try.prog 16 #[.pointer (some ⟨z, 0, none⟩)] w fun e w' => e = .returned (.int .i64 0) ∧ w' = w := by
  have H : Hid (At w z 51 #[.map y, .map none]) := h
  clear h
  go_enter Try.func16, Try.ntmps16
  go_wp2_with (go_at_call 14; refine (isMade_zero H.out).mono ?_; rintro e w2 ⟨rfl, rfl⟩)
  go_ret
  exact ⟨rfl, rfl⟩
theorem Acts_any (h : Dp W w pb P) (hn : P.length ≤ 1000) (hk : ∀ g ∈ P, g.ks.length ≤ 100000) : Calls Try.prog 16 #[.pointer (some ⟨pb, 0, none⟩)] w fun e w' => e = .returned (.int .i64 (actsM P)) ∧ Below w.heap.size w w' := by
  have HL : Hid (∀ j, W j → j < w.heap.size) := h.lt
  obtain ⟨bl, bw, L, hI, rfl⟩ := h.ex
  have H : Hid (DpI W w pb bl bw L) := hI
  have p1 : w.cell? ⟨pb, 1, none⟩ = some (.map (some bw)) := hI.is.c 1
  have HM : Hid (∀ lf, sumL L lf ≤ 100000000) := fun lf => Nat.le_trans (sumL_le (m := 100000) (fun d hd => hk _ (List.mem_map.2 ⟨d, hd, rfl⟩))) (by rw [List.length_map] at hn; omega)
  clear h hI hk hn
  go_enter Try.func16, Try.ntmps16
  go_wp2_with first
    | (go_at_call 14; refine (isMade_ok H.out.is).mono ?_; rintro e w2 ⟨rfl, rfl⟩)
    | (at_range; refine wpList_range_mp _ rfl _ rfl KI uW rfl H.out.wa ?_; intro w4 rb hr R4 B4)
  have HR : Hid (rb = w2.heap.size) := hr
  clear hr p1
  go_frame
  go_loopw [3] (fun s3 wr => ∃ (left : Lit → Bool) (cnt : Nat), s3 = .int .i64 (sumL L left : Nat) ∧ Below w2.heap.size w2 wr ∧ Mr wr 3 bw rb L.length (fW L) left cnt) (fun s3 wr => wr.rangeLeft bw rb)
  case atStart => exact ⟨_, _, by rw [sumL_start]; rfl, B4, R4⟩
  case round =>
    obtain ⟨left, cnt, rfl, hb, hr⟩ := hrel
    rename World => wo
    have HB : Hid (Below w2.heap.size w2 wo) := hb
    have HG : Hid (Mr wo 3 bw rb L.length (fW L) left cnt) := hr
    clear hb hr B4 R4
    go_wp2_with (first
      | (at_next; refine wpList_next_mp (Value.int .i64) (Lit.int .i64) _ rfl _ rfl KI (fun key l => invI) rfl HG.out ?_ ?_)
      | go_in)
    · intro hc0 hl0
      go_wp2
      go_ret
      exact ⟨by rw [sumL_done hl0]; rfl, HB.out⟩
    · intro tx v w5 cnt2 hk hl hv hr5 hlt ho hf hen
      obtain ⟨d, hd, rfl⟩ := fW_inv hv
      obtain rfl := (lkD_mem hd).2
      have B5 : Hid (Below w2.heap.size w2 w5) := HB.out.trans (hf.bel (fun j hj => by rw [hj, HR.out]; exact Nat.le_refl _) HB.out.size)
      have hm : (H.out.keep (fun j hj => B5.out.block j (HL.out j hj))).ks d (lkD_mem hd).1 = (H.out.keep (fun j hj => B5.out.block j (HL.out j hj))).ks d (lkD_mem hd).1 := rfl
      have hlen := fun ty => ((H.out.keep (fun j hj => B5.out.block j (HL.out j hj))).ks d (lkD_mem hd).1).len uK ty
      have HC : Hid (cnt2 < cnt ∧ wo.rangeLeft bw rb = cnt) := ⟨hlt, HG.out.left_eq⟩
      have HS : Hid (sumL L (fun z => left z && !z.sameKey (.int .i64 d.g.txn)) = sumL L left + d.g.ks.length) := sumL_step H.out.nd (lkD_mem hd).1 hl
      have h5 := HM.out (fun z => left z && !z.sameKey (.int .i64 d.g.txn))
      rw [HS.out] at h5
      have HR5 : Hid (Mr w5 3 bw rb L.length (fW L) (fun z => left z && !z.sameKey (.int .i64 d.g.txn)) cnt2) := hr5
      clear hr5 ho hf hv hl hlt hk hm
      generalize hS : sumL L left = S at *
      go_wp2
      go_roundw
      case rel => exact ⟨_, cnt2, by rw [HS.out]; rfl, B5.out, HR5.out⟩
      case measure => rw [HR5.out.left_eq, HC.out.2]; exact HC.out.1
end
end Go.Proofs.Ytjlhohljkedbbaa.Pa
