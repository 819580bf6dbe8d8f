/- Get. -/
import Derived.Test.YtjlhohljkedbbaaPsG
namespace Go.Proofs.Ytjlhohljkedbbaa.Pa
open Go.RowKit Gm Go.Maps
set_option linter.unusedVariables false
set_option linter.unusedSimpArgs false
set_option maxRecDepth 100000
section
variable {W W' : Nat → Prop} {w w' : World} {pb bl bw : Nat} {L : List Dv} {P : List Gn} {r : Rc} {I T : Value} {k : List UInt8} {left : Lit → Bool} {x : Ws} {t : Int} {is : Bool}
theorem Get_nil (w : World) (key : ByteArray) : Calls Try.prog 6 #[.pointer none, .string key] w fun e w' => e = .returned (.tuple #[.agg zW.A, .bool false]) ∧ Below w.heap.size w w' := by
  have C : Hid (∀ w, Calls Try.prog 14 #[.pointer none] w fun e w' => e = .returned (.bool false) ∧ w' = w) := isMade_nil
  have h2 := stW
  go_enter Try.func6, Try.ntmps6
  go_wp2_with first
    | (refine wpList_new_at (A := zW.A) _ zKv rfl rfl ?_; intro w2 b2 N2)
    | (go_at_call 14; refine (C.out _).mono ?_; rintro e w2 ⟨rfl, rfl⟩)
    | (refine wpList_put_at (A := zW.A) (A' := zW.A) h2 _ rfl _ _ rfl rfl rfl N2.is rfl rfl (oneW _) ?_; intro w3 P3)
  refine bodyPost_ret (results_at2 h2 rfl _ _ rfl P3.is rfl) rfl ?_
  exact ⟨rfl, np_bel N2 P3⟩
theorem Get_zero {z : Nat} {y : Option Nat} (h : At w z 51 #[.map y, .map none]) (key : ByteArray) : Calls Try.prog 6 #[.pointer (some ⟨z, 0, none⟩), .string key] w fun e w' => e = .returned (.tuple #[.agg zW.A, .bool false]) ∧ Below w.heap.size w w' := by
  have H : Hid (At w z 51 #[.map y, .map none]) := h
  have h2 := stW
  clear h
  go_enter Try.func6, Try.ntmps6
  go_wp2_with first
    | (refine wpList_new_at (A := zW.A) _ zKv rfl rfl ?_; intro w2 b2 N2)
    | (go_at_call 14; refine (isMade_zero (H.out.bel N2.bel)).mono ?_; rintro e w2 ⟨rfl, rfl⟩)
    | (refine wpList_put_at (A := zW.A) (A' := zW.A) h2 _ rfl _ _ rfl rfl rfl N2.is rfl rfl (oneW _) ?_; intro w3 P3)
  refine bodyPost_ret (results_at2 h2 rfl _ _ rfl P3.is rfl) rfl ?_
  exact ⟨rfl, np_bel N2 P3⟩
set_option maxHeartbeats 1000000 in
theorem Get_any (h : Dp W w pb P) (key : ByteArray) (hs : key.size ≤ 9223372036854775807) : Calls Try.prog 6 #[.pointer (some ⟨pb, 0, none⟩), .string key] w fun e w' => GtR w P key.data.toList e w' := by
  have HL : Hid (∀ j, W j → j < w.heap.size) := h.lt
  obtain ⟨bl, bw, L, hI, rfl⟩ := h.ex
  have H : Hid (DpI W w pb bl bw L) := hI
  have HS : Hid (keyOf Try.prog 9 (.string key) = some (.string key.data.toList)) := keyS hs
  have h2 := stW
  clear h hI hs
  go_enter Try.func6, Try.ntmps6
  go_wp2_with first
    | (have := N2; refine wpList_new_at (A := zW.A) _ zKv rfl rfl ?_; intro w3 b3 N3; have H3 : Hid (DpI W w3 pb bl bw L) := H.out.keep (fun j hj => (N2.bel.trans (N3.bel.mono N2.bel.size)).block j (HL.out j hj)); have p1 : w3.cell? ⟨pb, 1, none⟩ = some (.map (some bw)) := H3.out.is.c 1)
    | (refine wpList_new_at (A := zW.A) _ zKv rfl rfl ?_; intro w2 b2 N2; have H2 : Hid (DpI W w2 pb bl bw L) := H.out.keep (fun j hj => N2.bel.block j (HL.out j hj)))
    | (go_at_call 14; refine (isMade_ok H2.out.is).mono ?_; rintro e w2 ⟨rfl, rfl⟩)
    | (at_range; refine wpList_range_mp _ rfl _ rfl KI uW rfl H3.out.wa ?_; intro w4 rb hr R4 B4)
  have G0 : Hid (GtM W w w4 pb bl bw b2 b3 rb L (fun l => (fW L l).isSome) L.length zW) := (by
    have l2 := N2.is.lt
    have l3 := N3.is.lt
    have e2 := N2.eq
    have e3 := N3.eq
    have s2 := N2.bel.size
    have s3 := N3.bel.size
    exact ⟨thn (thn N2.bel N3.bel) B4, R4, (N2.is.bel N3.bel).bel B4, N3.is.bel B4, by omega, by omega, by omega, by omega, by omega, by omega⟩)
  clear R4 B4 N2 N3 H2 H3 p1 hr this
  go_frame
  go_loopw [7, 8] (fun s7 s8 wr => ∃ (left : Lit → Bool) (cnt : Nat) (x : Ws) (t : Int) (is : Bool), s7 = .int .i64 t ∧ s8 = .bool is ∧ GtM W w wr pb bl bw b2 b3 rb L left cnt x ∧ GtI L key.data.toList left x t is) (fun s7 s8 wr => wr.rangeLeft bw rb)
  case atStart => exact ⟨_, _, zW, 0, false, rfl, rfl, G0.out, GtI.start⟩
  case round =>
    obtain ⟨left, cnt, x, t, is, rfl, rfl, hG, hI⟩ := hrel
    rename World => wo
    have HG : Hid (GtM W w wo pb bl bw b2 b3 rb L left cnt x) := hG
    have HI : Hid (GtI L key.data.toList left x t is) := hI
    clear hG hI G0
    go_wp2_with (first
      | (at_next; refine wpList_next_mp (Value.int .i64) (Lit.int .i64) _ rfl _ rfl KI (fun key l => invI) rfl HG.out.r ?_ ?_)
      | go_in)
    · intro hc0 hl0
      go_wp2_with first
        | (refine wpList_load_at h2 (A := Ws.A x) _ rfl (.tmp 6) rfl rfl HG.out.c6 rfl ?_)
        | (refine wpList_put_at (A := zW.A) (A' := Ws.A x) h2 _ rfl _ _ rfl rfl rfl HG.out.c4 rfl rfl (oneW _) ?_; intro w9 P9)
      refine bodyPost_ret (results_at2 h2 rfl _ _ rfl P9.is rfl) rfl ?_
      exact ⟨⟨x, is, rfl, HI.out.done hl0⟩, HG.out.bel.trans ((P9.fr (· = b2) rfl).bel (fun j hj => by rw [hj]; exact HG.out.ge.1) HG.out.bel.size)⟩
    · intro tx v w5 cnt2 hk hl hv hr5 hlt ho hf hen
      obtain ⟨d, hd, rfl⟩ := fW_inv hv
      obtain rfl := (lkD_mem hd).2
      have HD : Hid (lkD L d.g.txn = some d) := hd
      have G5 : Hid (GtM W w w5 pb bl bw b2 b3 rb L (fun z => left z && !z.sameKey (.int .i64 d.g.txn)) cnt2 x) := HG.out.next hr5 ho hf
      have HC : Hid (cnt2 < cnt ∧ wo.rangeLeft bw rb = cnt) := ⟨hlt, HG.out.r.left_eq⟩
      have hlk : (Instr.lookup 52 (.map (some d.b)) (.string key) true).run Try.prog w5 = .ok (.tuple #[((fK d.g.ks (.string key.data.toList)).getD (.agg zW.A)), .bool (fK d.g.ks (.string key.data.toList)).isSome]) w5 := (((G5.out.dp H.out HL.out).ks d (lkD_mem hd).1).look KS uK (zKv _) HS.out)
      have HK0 : Hid (fK d.g.ks (.string key.data.toList) = (lkK d.g.ks key.data.toList).map fun p => .agg p.2.A) := rfl
      rw [HK0.out] at hlk
      clear hr5 ho hf hv hl hlt hk HK0
      cases hK0 : lkK d.g.ks key.data.toList with
      | none =>
        rw [hK0] at hlk
        have HK : Hid (lkK d.g.ks key.data.toList = none) := hK0
        clear hK0
        simp only [Option.map_none, Option.getD_none, Option.isSome_none] at hlk
        go_wp2_with first
          | (refine wpList_new_at (A := zW.A) _ zKv rfl rfl ?_; intro w6 b6 N6)
          | (refine wpList_put_at (A := zW.A) (A' := zW.A) h2 _ rfl _ _ rfl rfl rfl N6.is rfl rfl (oneW _) ?_; intro w7 P7)
        have G7 := G5.out.below (np_bel N6 P7)
        go_roundw
        case rel => exact ⟨_, cnt2, x, t, is, rfl, rfl, G7, HI.out.skip H.out.nd HD.out (Or.inl HK.out)⟩
        case measure => rw [G7.r.left_eq, HC.out.2]; exact HC.out.1
      | some p =>
        rw [hK0] at hlk
        have HK : Hid (lkK d.g.ks key.data.toList = some p) := hK0
        clear hK0
        simp only [Option.map_some, Option.getD_some, Option.isSome_some] at hlk
        by_cases hc : is = false ∨ d.g.txn < t
        · cases is with
          | false =>
            go_wp2_with first
              | (refine wpList_new_at (A := zW.A) _ zKv rfl rfl ?_; intro w6 b6 N6)
              | (have := N6; refine wpList_put_at (A := zW.A) (A' := Ws.A p.2) h2 _ rfl _ _ rfl rfl rfl N6.is rfl rfl (oneW _) ?_; intro w7 P7; have G7 : Hid (GtM W w w7 pb bl bw b2 b3 rb L (fun z => left z && !z.sameKey (.int .i64 d.g.txn)) cnt2 x) := G5.out.below (np_bel N6 P7))
              | (refine wpList_load_at h2 (A := Ws.A p.2) _ rfl (.tmp 11) rfl rfl P7.is rfl ?_)
              | (have := P7; refine wpList_put_at (A := Ws.A x) (A' := Ws.A p.2) h2 _ rfl _ _ rfl rfl rfl G7.out.c6 rfl rfl (oneW _) ?_; intro w8 P8; have G8 := G7.out.put H.out HL.out P8)
            go_roundw
            case rel => exact ⟨_, cnt2, p.2, _, true, rfl, rfl, G8, HI.out.take H.out.nd HD.out HK.out hc⟩
            case measure => rw [G8.r.left_eq, HC.out.2]; exact HC.out.1
          | true =>
            have hc2 : d.g.txn < t := hc.resolve_left (by simp)
            go_wp2_with first
              | (refine wpList_new_at (A := zW.A) _ zKv rfl rfl ?_; intro w6 b6 N6)
              | (have := N6; refine wpList_put_at (A := zW.A) (A' := Ws.A p.2) h2 _ rfl _ _ rfl rfl rfl N6.is rfl rfl (oneW _) ?_; intro w7 P7; have G7 : Hid (GtM W w w7 pb bl bw b2 b3 rb L (fun z => left z && !z.sameKey (.int .i64 d.g.txn)) cnt2 x) := G5.out.below (np_bel N6 P7))
              | (refine wpList_load_at h2 (A := Ws.A p.2) _ rfl (.tmp 11) rfl rfl P7.is rfl ?_)
              | (have := P7; refine wpList_put_at (A := Ws.A x) (A' := Ws.A p.2) h2 _ rfl _ _ rfl rfl rfl G7.out.c6 rfl rfl (oneW _) ?_; intro w8 P8; have G8 := G7.out.put H.out HL.out P8)
            go_roundw
            case rel => exact ⟨_, cnt2, p.2, _, true, rfl, rfl, G8, HI.out.take H.out.nd HD.out HK.out hc⟩
            case measure => rw [G8.r.left_eq, HC.out.2]; exact HC.out.1
        · cases is with
          | false => exact absurd (Or.inl rfl) hc
          | true =>
            have hc2 : ¬ d.g.txn < t := fun e => hc (Or.inr e)
            go_wp2_with first
              | (refine wpList_new_at (A := zW.A) _ zKv rfl rfl ?_; intro w6 b6 N6)
              | (refine wpList_put_at (A := zW.A) (A' := Ws.A p.2) h2 _ rfl _ _ rfl rfl rfl N6.is rfl rfl (oneW _) ?_; intro w7 P7)
            have G7 := G5.out.below (np_bel N6 P7)
            go_roundw
            case rel => exact ⟨_, cnt2, x, t, true, rfl, rfl, G7, HI.out.skip H.out.nd HD.out (Or.inr ⟨rfl, hc2⟩)⟩
            case measure => rw [G7.r.left_eq, HC.out.2]; exact HC.out.1
end
end Go.Proofs.Ytjlhohljkedbbaa.Pa
