/- What Open asks, as the law reckons it: mathematics. What Open answers, case by case. What Open answers, as the law reckons it: by the two bytes of a frame's size. RecOpens: what lies in memory. RecOpens: places out of the text, and ends that are too short. -/
import Derived.Test.YtakdfdnndogaiaaMan
import Derived.Test.YtakdfdnndogaiaaMae
import Derived.Test.YtakdfdnndogaiaaMaw
import Derived.Deep.RegionHeld3
import Derived.BigQuiet
namespace Go.Proofs.Ytakdfdnndogaiaa
open Go.RowKit
set_option linter.unusedVariables false
set_option linter.unusedSimpArgs false
set_option maxRecDepth 100000

theorem openV_yes {z : ByteArray} (h : Sm.sealV (z.extract 4 z.size) = z) : Sm.openV z = (z.extract 4 z.size, 0) := by
  have := Sm.open_seal (z.extract 4 z.size)
  unfold Sm.sealV at h
  rw [h] at this
  exact this
theorem beN_foldl : ∀ (l : List UInt8) (a : Nat), l.foldl (fun a b => 256 * a + b.toNat) a = a * 256 ^ l.length + Pk.beN l
  | [], a => by simp [Pk.beN]
  | c :: l, a => by
    have h1 := beN_foldl l (256 * a + c.toNat)
    have h2 := beN_foldl l (256 * 0 + c.toNat)
    rw [List.foldl_cons, h1]
    show _ = _ + (c :: l).foldl (fun a b => 256 * a + b.toNat) 0
    rw [List.foldl_cons, h2, List.length_cons, Nat.pow_succ, Nat.add_mul, Nat.mul_zero, Nat.zero_add, Nat.mul_comm 256 a, Nat.mul_assoc, Nat.mul_comm 256 (256 ^ l.length), Nat.add_assoc]
theorem beN_cons (c : UInt8) (l : List UInt8) : Pk.beN (c :: l) = c.toNat * 256 ^ l.length + Pk.beN l := by
  show (c :: l).foldl (fun a b => 256 * a + b.toNat) 0 = _
  rw [List.foldl_cons, beN_foldl]; simp
theorem beN_inj : ∀ (l m : List UInt8), l.length = m.length → Pk.beN l = Pk.beN m → l = m
  | [], [], _, _ => rfl
  | [], _ :: _, h, _ => by simp at h
  | _ :: _, [], h, _ => by simp at h
  | c :: l, d :: m, h, e => by
    have hl : l.length = m.length := by simpa using h
    rw [beN_cons, beN_cons, hl] at e
    have b1 := Pk.beN_lt l
    have b2 := Pk.beN_lt m
    rw [hl] at b1
    generalize 256 ^ m.length = K at *
    have hcd : c.toNat = d.toNat := by
      rcases Nat.lt_trichotomy c.toNat d.toNat with x | x | x
      · have y := Nat.mul_le_mul_right K (show c.toNat + 1 ≤ d.toNat from x)
        rw [Nat.succ_mul] at y
        omega
      · exact x
      · have y := Nat.mul_le_mul_right K (show d.toNat + 1 ≤ c.toNat from x)
        rw [Nat.succ_mul] at y
        omega
    rw [hcd] at e
    rw [beN_inj l m hl (by omega), UInt8.toNat_inj.1 hcd]
theorem be_beN (l : List UInt8) : Pk.be (Pk.beN l) l.length = l :=
  beN_inj _ _ (Pk.be_length _ _) (Pk.beN_be _ _ (Pk.beN_lt l))
theorem openV_no {z : ByteArray} (h4 : 4 ≤ z.size) (h : Sm.sealV (z.extract 4 z.size) ≠ z) : Sm.openV z = (⟨#[]⟩, 5) := by
  unfold Sm.openV
  rw [if_neg (by omega), if_neg]
  intro e
  apply h
  have hz : (z.extract 0 4).data.toList.length = 4 := by
    have : (z.extract 0 4).size = 4 := by rw [ByteArray.size_extract]; omega
    rw [Array.length_toList]
    exact this
  have hb := be_beN (z.extract 0 4).data.toList
  rw [hz] at hb
  unfold Sm.sealV
  rw [e, Int.toNat_natCast]
  have e2 : Pk.beS (Pk.beN (z.extract 0 4).data.toList) 4 = z.extract 0 4 := by
    apply ByteArray.ext
    unfold Pk.beS
    dsimp only
    rw [hb]
  rw [e2]
  apply ByteArray.ext
  rw [ByteArray.data_append, ByteArray.data_extract, ByteArray.data_extract, Array.extract_append_extract]
  rw [Nat.min_eq_left (by omega), Nat.max_eq_right (by omega)]
  exact Array.extract_size
theorem sN_two {s : ByteArray} (h : 2 ≤ s.size) : sN (s, 0) 2 = (s.extract 2 s.size, 0) := by
  rw [(nN_eq (s, 0) 2 (by omega) (by omega)).2, Pk.rdRaw_fits (by omega) (by dsimp only; omega)]
  rfl
theorem frM_range {s : ByteArray} (h6 : 6 ≤ s.size) (h : nN (s, 0) 2 < 1 ∨ 4096 < nN (s, 0) 2) : frM s = (⟨#[]⟩, 4) := by
  unfold frM
  rw [if_neg (by omega), if_pos h]
theorem frM_short {s : ByteArray} {k : Nat} (h6 : 6 ≤ s.size) (hk : nN (s, 0) 2 = (k : Int)) (h1 : 1 ≤ k) (h2 : k ≤ 4096) (h : s.size < 6 + k) : frM s = (⟨#[]⟩, 2) := by
  have e : frR s = (⟨#[]⟩, ⟨#[]⟩, 2) := by
    unfold frR
    rw [sN_two (by omega), hk, Pk.rdRaw_short (by omega) (by dsimp only; rw [ByteArray.size_extract]; omega)]
  unfold frM
  rw [if_neg (by omega), if_neg (by omega), e, if_pos (show (2 : Int) ≠ 0 by decide)]
theorem frR_fits {s : ByteArray} {k : Nat} (h6 : 6 ≤ s.size) (hk : nN (s, 0) 2 = (k : Int)) (h : 6 + k ≤ s.size) : (frR s).1 = s.extract 2 (6 + k) ∧ (frR s).2.2 = 0 := by
  unfold frR
  rw [sN_two (by omega), hk, Pk.rdRaw_fits (by omega) (by dsimp only; rw [ByteArray.size_extract]; omega)]
  refine ⟨?_, rfl⟩
  dsimp only
  rw [show ((4 : Int) + (k : Int)).toNat = 4 + k by omega, extract_extract1 s 2 (4 + k) (by omega)]
  congr 1
  omega
theorem frM_open {s : ByteArray} {k : Nat} (h6 : 6 ≤ s.size) (hk : nN (s, 0) 2 = (k : Int)) (h1 : 1 ≤ k) (h2 : k ≤ 4096) (h : 6 + k ≤ s.size) : frM s = Sm.openV (s.extract 2 (6 + k)) := by
  obtain ⟨e1, e2⟩ := frR_fits h6 hk h
  unfold frM
  rw [if_neg (by omega), if_neg (by omega), e2, if_neg (by simp), e1]
end Go.Proofs.Ytakdfdnndogaiaa

namespace Go.Proofs.Ytakdfdnndogaiaa
open Go.RowKit
set_option linter.unusedVariables false
set_option linter.unusedSimpArgs false
set_option maxRecDepth 100000

theorem nN_two {s : ByteArray} (a : Nat) (h : a + 2 ≤ s.size) : nN (s.extract a s.size, 0) 2 = 256 * ((s[a]'(by omega)).toNat : Int) + ((s[a + 1]'(by omega)).toNat : Int) := by
  rw [(nN_eq _ 2 (by omega) (by omega)).1, Pk.rdRaw_fits (by omega) (by dsimp only; rw [ByteArray.size_extract]; omega)]
  dsimp only
  rw [show ((2 : Int)).toNat = 2 from rfl, extract_extract1 s a 2 h]
  have e : (s.extract a (a + 2)).data.toList = [s[a]'(by omega), s[a + 1]'(by omega)] := by
    have hz : (s.extract a (a + 2)).data.toList.length = 2 := by
      rw [Array.length_toList]
      show (s.extract a (a + 2)).size = 2
      rw [ByteArray.size_extract]; omega
    refine List.ext_getElem hz ?_
    intro i h1 h2
    have hi : i < 2 := by rw [hz] at h1; exact h1
    rw [Array.getElem_toList]
    have e2 : (s.extract a (a + 2)).data[i]'(by rw [Array.length_toList] at h1; exact h1) = s.data[a + i]'(by have : s.data.size = s.size := rfl; omega) := by
      simp only [ByteArray.data_extract, Array.getElem_extract]
    rw [e2]
    have hi2 : i = 0 ∨ i = 1 := by omega
    rcases hi2 with rfl | rfl <;> rfl
  rw [e]
  simp only [Pk.beN, List.foldl_cons, List.foldl_nil]
  omega
section
variable {s : ByteArray} {a k : Nat}
theorem openM_out {s : ByteArray} {a : Int} (h : a < 0 ∨ (s.size : Int) < a) : openM s a = (zM, 0, 6) := by unfold openM; rw [if_pos h]
theorem openM_bad {E : Int} (ha : a ≤ s.size) (hE : E ≠ 0) (h : frM (s.extract a s.size) = (⟨#[]⟩, E)) : openM s (a : Int) = (zM, 0, E) := by
  unfold openM
  rw [if_neg (by omega), Int.toNat_natCast, h, if_pos hE]
theorem openM_six (ha : a ≤ s.size) (h : s.size - a < 6) : openM s (a : Int) = (zM, 0, 2) := by
  refine openM_bad ha (by decide) ?_
  unfold frM
  rw [if_pos (by rw [ByteArray.size_extract]; omega)]
theorem openM_good {t : ByteArray} (ha : a ≤ s.size) (h : frM (s.extract a s.size) = (t, 0)) : openM s (a : Int) = if (ofM t).2 ≠ 0 then (zM, (0 : Int), (ofM t).2) else ((ofM t).1, 6 + (t.size : Int), 0) := by
  unfold openM
  rw [if_neg (by omega), Int.toNat_natCast, h, if_neg (by simp)]
end
end Go.Proofs.Ytakdfdnndogaiaa

namespace Go.Proofs.Ytakdfdnndogaiaa
open Go.RowKit
set_option linter.unusedVariables false
set_option linter.unusedSimpArgs false
set_option maxRecDepth 100000

theorem ext_ext {s : ByteArray} {a b c d : Nat} (h : a + c ≤ b) : (s.extract a b).extract d c = s.extract (a + d) (a + c) := by
  apply ByteArray.ext
  simp only [ByteArray.data_extract]
  rw [Array.extract_extract]
  congr 1
  omega
theorem ext_size {s : ByteArray} {a b : Nat} (h : b ≤ s.size) : (s.extract a b).size = b - a := by
  rw [ByteArray.size_extract]; omega
section
variable {s : ByteArray} {a k : Nat}
theorem nN_k (ha : a + 6 ≤ s.size) (hk : 256 * (s[a]'(by omega)).toNat + (s[a + 1]'(by omega)).toNat = k) : nN (s.extract a s.size, 0) 2 = (k : Int) := by
  rw [nN_two a (by omega), ← hk]; omega
theorem openM_form (ha : a + 6 ≤ s.size) (hk : 256 * (s[a]'(by omega)).toNat + (s[a + 1]'(by omega)).toNat = k) (h : k < 1 ∨ 4096 < k) : openM s (a : Int) = (zM, 0, 4) := by
  refine openM_bad (by omega) (by decide) (frM_range ?_ ?_)
  · rw [ext_size (Nat.le_refl _)]; omega
  · rw [nN_k ha hk]; omega
theorem openM_short (ha : a + 6 ≤ s.size) (hk : 256 * (s[a]'(by omega)).toNat + (s[a + 1]'(by omega)).toNat = k) (h1 : 1 ≤ k) (h2 : k ≤ 4096) (h : s.size < a + 6 + k) : openM s (a : Int) = (zM, 0, 2) := by
  refine openM_bad (by omega) (by decide) (frM_short ?_ (nN_k ha hk) h1 h2 ?_)
  · rw [ext_size (Nat.le_refl _)]; omega
  · rw [ext_size (Nat.le_refl _)]; omega
theorem frM_at (ha : a + 6 ≤ s.size) (hk : 256 * (s[a]'(by omega)).toNat + (s[a + 1]'(by omega)).toNat = k) (h1 : 1 ≤ k) (h2 : k ≤ 4096) (h : a + 6 + k ≤ s.size) : frM (s.extract a s.size) = Sm.openV (s.extract (a + 2) (a + 6 + k)) := by
  rw [frM_open (by rw [ext_size (Nat.le_refl _)]; omega) (nN_k ha hk) h1 h2 (by rw [ext_size (Nat.le_refl _)]; omega), ext_ext (by omega), Nat.add_assoc]
theorem inner_at (h : a + 6 + k ≤ s.size) : (s.extract (a + 2) (a + 6 + k)).extract 4 (s.extract (a + 2) (a + 6 + k)).size = s.extract (a + 6) (a + 6 + k) := by
  rw [ext_size h, ext_ext (by omega)]
  congr 1
  omega
theorem openM_sum (ha : a + 6 ≤ s.size) (hk : 256 * (s[a]'(by omega)).toNat + (s[a + 1]'(by omega)).toNat = k) (h1 : 1 ≤ k) (h2 : k ≤ 4096) (h : a + 6 + k ≤ s.size) (hs : Sm.sealV (s.extract (a + 6) (a + 6 + k)) ≠ s.extract (a + 2) (a + 6 + k)) : openM s (a : Int) = (zM, 0, 5) := by
  refine openM_bad (by omega) (by decide) ?_
  rw [frM_at ha hk h1 h2 h]
  refine openV_no (by rw [ext_size h]; omega) ?_
  rw [inner_at h]
  exact hs
theorem openM_of (ha : a + 6 ≤ s.size) (hk : 256 * (s[a]'(by omega)).toNat + (s[a + 1]'(by omega)).toNat = k) (h1 : 1 ≤ k) (h2 : k ≤ 4096) (h : a + 6 + k ≤ s.size) (hs : Sm.sealV (s.extract (a + 6) (a + 6 + k)) = s.extract (a + 2) (a + 6 + k)) :
    openM s (a : Int) = if (ofM (s.extract (a + 6) (a + 6 + k))).2 ≠ 0 then (zM, (0 : Int), (ofM (s.extract (a + 6) (a + 6 + k))).2) else ((ofM (s.extract (a + 6) (a + 6 + k))).1, 6 + (k : Int), 0) := by
  have e : frM (s.extract a s.size) = (s.extract (a + 6) (a + 6 + k), 0) := by
    rw [frM_at ha hk h1 h2 h]
    have := openV_yes (z := s.extract (a + 2) (a + 6 + k)) (by rw [inner_at h]; exact hs)
    rw [inner_at h] at this
    exact this
  rw [openM_good (by omega) e, ext_size h, show a + 6 + k - (a + 6) = k by omega]
end
end Go.Proofs.Ytakdfdnndogaiaa

namespace Go.Proofs.Ytakdfdnndogaiaa
open Go.RowKit
set_option linter.unusedVariables false
set_option linter.unusedSimpArgs false
set_option maxRecDepth 100000

/-- What Open gave, and what the law wants, each in a block. -/
structure OpS (w w1 wx : World) (c1 c2 : Nat) (s : Sc) (I T : Value) (m : Rm) (s2 : Sc) (I2 T2 : Value) : Prop where
  b0 : Below w.heap.size w w1
  rv : RecV w1 (.agg (s.A I T)) m
  bel : Below w1.heap.size w1 wx
  a1 : RcAt wx c1 s I T
  a2 : RcAt wx c2 s2 I2 T2
  l2 : w1.heap.size ≤ c2
  n : c1 ≠ c2
section
variable {w w1 wx wq : World} {c1 c2 : Nat} {s s2 s' : Sc} {I T I2 T2 I' T' : Value} {m : Rm}
theorem OpS.below (h : OpS w w1 wx c1 c2 s I T m s2 I2 T2) (hb : Below wx.heap.size wx wq) : OpS w w1 wq c1 c2 s I T m s2 I2 T2 := ⟨h.b0, h.rv, thn h.bel hb, h.a1.below hb, h.a2.below hb, h.l2, h.n⟩
theorem OpS.put (h : OpS w w1 wx c1 c2 s I T m s2 I2 T2) (P : PutR wx wq c2 s' I' T') : OpS w w1 wq c1 c2 s I T m s' I' T' := ⟨h.b0, h.rv, h.bel.trans (P.below h.l2 h.bel.size), h.a1.off P.off h.n, P.rc, h.l2, h.n⟩
theorem OpS.rec1 (h : OpS w w1 wx c1 c2 s I T m s2 I2 T2) : RecV wx (.agg (s.A I T)) m := h.rv.below h.bel
theorem OpS.all (h : OpS w w1 wx c1 c2 s I T m s2 I2 T2) : Below w.heap.size w wx := thn h.b0 h.bel
theorem OpS.start {w2 w3 w4 : World} {s0 s1 : Sc} {I0 T0 I1 T1 : Value} (b0 : Below w.heap.size w w1) (rv : RecV w1 (.agg (s.A I T)) m) (N1 : NewR w1 w2 c1 s0 I0 T0) (P1 : PutR w2 w3 c1 s I T) (N2 : NewR w3 w4 c2 s1 I1 T1) (P2 : PutR w4 wx c2 s2 I2 T2) : OpS w w1 wx c1 c2 s I T m s2 I2 T2 := by
  have e1 := N1.eq
  have e2 := N2.eq
  have z1 := N1.rc.lt
  have z2 := P1.rc.lt
  have z3 := N1.below.size
  have B3 : Below w1.heap.size w1 w3 := N1.below.trans (P1.below (by omega) N1.below.size)
  have z4 := B3.size
  have B6 : Below w3.heap.size w3 wx := N2.below.trans (P2.below (by omega) N2.below.size)
  exact ⟨b0, rv, thn B3 B6, P1.rc.below B6, P2.rc, by omega, by omega⟩
end
end Go.Proofs.Ytakdfdnndogaiaa

namespace Go.Proofs.Ytakdfdnndogaiaa
open Go.RowKit
set_option linter.unusedVariables false
set_option linter.unusedSimpArgs false
set_option maxRecDepth 100000

section
variable {w : World} {t u z f : ByteArray} {a x y k : Int}
set_option maxHeartbeats 4000000 in
theorem opens_neg0 (ht : ¬ (1000 : Int) < t.size) (htz : t.size ≤ 1000) (h : a < 0) (ho : openM t a = (zM, 0, 6)) : Calls Try.prog 7 #[.string t, .int .i64 a] w fun e w' => e = .returned (.bool true) ∧ Below w.heap.size w w' := by
  have CO : Hid (∀ wx, Calls Try.prog 17 #[.string t, .int .i64 a] wx fun e w' => (∃ v, e = .returned (.tuple #[v, .int .i64 0, .int .i64 6]) ∧ RecV w' v zM) ∧ Below wx.heap.size wx w') := fun wx => (Open_any (w := wx) t a (by omega)).mono fun e w' h => by rw [ho] at h; exact ⟨⟨h.1.choose, h.1.choose_spec.1, h.1.choose_spec.2.recV⟩, h.2⟩
  clear ho
  have CK : Hid (∀ wx, Calls Try.prog 12 #[] wx fun e w' => e = .returned (.bool true) ∧ Below wx.heap.size wx w') := fun wx => awake_any wx
  have CS : Hid (∀ wx v1 v2, RecV wx v1 zM → RecV wx v2 zM → Calls Try.prog 14 #[v1, v2] wx fun e w' => e = .returned (.bool true) ∧ Below wx.heap.size wx w') := fun wx v1 v2 h1 h2 => Same_any h1 h2 (Nat.zero_le _) (Nat.zero_le _)
  go_enter Try.func7, Try.ntmps7
  go_wp2_with (first
    | (go_at_call 17; refine (CO.out _).mono ?_; clear CO; rintro e w1 ⟨⟨v1, rfl, r1⟩, b1⟩; have r1' := r1; obtain ⟨I1, T1, rfl, hI1, hT1⟩ := r1'.ex; have oI1 := hI1.one; have oT1 := hT1.one; clear r1' hI1 hT1)
    | (have := C1; refine wpList_new_rc _ rfl rfl ?_; intro w5 c2 N2)
    | (refine wpList_new_rc _ rfl rfl ?_; intro w2 c1 N1)
    | (refine wpList_at (Op.store 25 (.tmp 5) (.tmp 21)) rfl ?_; refine wpList_put_rc (s' := zM.s) (I' := I1) (T' := T1) _ rfl (.tmp 5) (.tmp 21) rfl rfl rfl N1.rc oI1 oT1 ?_; intro w3 P1; have C1 := P1.rc)
    | (refine wpList_at (Op.store 25 (.tmp 8) (.tmp 24)) rfl ?_; refine wpList_put_rc (s' := zS) (I' := nilV) (T' := nilV) _ rfl (.tmp 8) (.tmp 24) rfl rfl rfl N2.rc rfl rfl ?_; intro w6 P2; have H := OpS.start b1 r1 N1 P1 N2 P2; clear N1 P1 N2 P2 b1 r1 C1 this; obtain ⟨p0, p1, p2, p3, p4, p5, p6, p7, p8, p9, p10, p11, p12⟩ := H.a1.row)
    | (go_at_call 14; refine (CS.out _ _ _ H.rec1 ⟨nilV, nilV, rfl, SlI.nil _, SlT.nil _⟩).mono ?_; clear CS; rintro e w7 ⟨rfl, b7⟩)
    | (go_at_call 12; refine (CK.out _).mono ?_; clear CK; rintro e w8 ⟨rfl, b8⟩))
  go_ret
  exact ⟨rfl, thn (thn H.all b7) b8⟩
set_option maxHeartbeats 4000000 in
theorem opens_neg1 (ht : (1000 : Int) < t.size) (htz : t.size ≤ 140737488351232) (hu : t.extract 0 1000 = u) (huz : u.size ≤ 1000) (h : a < 0) (ho : openM u a = (zM, 0, 6)) : Calls Try.prog 7 #[.string t, .int .i64 a] w fun e w' => e = .returned (.bool true) ∧ Below w.heap.size w w' := by
  have hcu : ∀ W, (Instr.slice 9 (.string t) none (some (.int .i64 1000)) none).run Try.prog W = .ok (.string u) W := by
    intro W
    rw [← hu]
    have := run_slice_string_h (P := Try.prog) W 9 t Try.underlying9 .i64 1000 (by omega) (by omega)
    rw [show ((1000 : Int)).toNat = 1000 from rfl] at this
    exact this
  clear hu
  have CO : Hid (∀ wx, Calls Try.prog 17 #[.string u, .int .i64 a] wx fun e w' => (∃ v, e = .returned (.tuple #[v, .int .i64 0, .int .i64 6]) ∧ RecV w' v zM) ∧ Below wx.heap.size wx w') := fun wx => (Open_any (w := wx) u a (by omega)).mono fun e w' h => by rw [ho] at h; exact ⟨⟨h.1.choose, h.1.choose_spec.1, h.1.choose_spec.2.recV⟩, h.2⟩
  clear ho
  have CK : Hid (∀ wx, Calls Try.prog 12 #[] wx fun e w' => e = .returned (.bool true) ∧ Below wx.heap.size wx w') := fun wx => awake_any wx
  have CS : Hid (∀ wx v1 v2, RecV wx v1 zM → RecV wx v2 zM → Calls Try.prog 14 #[v1, v2] wx fun e w' => e = .returned (.bool true) ∧ Below wx.heap.size wx w') := fun wx v1 v2 h1 h2 => Same_any h1 h2 (Nat.zero_le _) (Nat.zero_le _)
  go_enter Try.func7, Try.ntmps7
  go_wp2_with (first
    | (go_at_call 17; refine (CO.out _).mono ?_; clear CO; rintro e w1 ⟨⟨v1, rfl, r1⟩, b1⟩; have r1' := r1; obtain ⟨I1, T1, rfl, hI1, hT1⟩ := r1'.ex; have oI1 := hI1.one; have oT1 := hT1.one; clear r1' hI1 hT1)
    | (have := C1; refine wpList_new_rc _ rfl rfl ?_; intro w5 c2 N2)
    | (refine wpList_new_rc _ rfl rfl ?_; intro w2 c1 N1)
    | (refine wpList_at (Op.store 25 (.tmp 5) (.tmp 21)) rfl ?_; refine wpList_put_rc (s' := zM.s) (I' := I1) (T' := T1) _ rfl (.tmp 5) (.tmp 21) rfl rfl rfl N1.rc oI1 oT1 ?_; intro w3 P1; have C1 := P1.rc)
    | (refine wpList_at (Op.store 25 (.tmp 8) (.tmp 24)) rfl ?_; refine wpList_put_rc (s' := zS) (I' := nilV) (T' := nilV) _ rfl (.tmp 8) (.tmp 24) rfl rfl rfl N2.rc rfl rfl ?_; intro w6 P2; have H := OpS.start b1 r1 N1 P1 N2 P2; clear N1 P1 N2 P2 b1 r1 C1 this; obtain ⟨p0, p1, p2, p3, p4, p5, p6, p7, p8, p9, p10, p11, p12⟩ := H.a1.row)
    | (go_at_call 14; refine (CS.out _ _ _ H.rec1 ⟨nilV, nilV, rfl, SlI.nil _, SlT.nil _⟩).mono ?_; clear CS; rintro e w7 ⟨rfl, b7⟩)
    | (go_at_call 12; refine (CK.out _).mono ?_; clear CK; rintro e w8 ⟨rfl, b8⟩))
  go_ret
  exact ⟨rfl, thn (thn H.all b7) b8⟩
set_option maxHeartbeats 4000000 in
theorem opens_far0 (ht : ¬ (1000 : Int) < t.size) (htz : t.size ≤ 1000) (h0 : ¬ a < 0) (h1 : (t.size : Int) < a) (ho : openM t a = (zM, 0, 6)) : Calls Try.prog 7 #[.string t, .int .i64 a] w fun e w' => e = .returned (.bool true) ∧ Below w.heap.size w w' := by
  have CO : Hid (∀ wx, Calls Try.prog 17 #[.string t, .int .i64 a] wx fun e w' => (∃ v, e = .returned (.tuple #[v, .int .i64 0, .int .i64 6]) ∧ RecV w' v zM) ∧ Below wx.heap.size wx w') := fun wx => (Open_any (w := wx) t a (by omega)).mono fun e w' h => by rw [ho] at h; exact ⟨⟨h.1.choose, h.1.choose_spec.1, h.1.choose_spec.2.recV⟩, h.2⟩
  clear ho
  have CK : Hid (∀ wx, Calls Try.prog 12 #[] wx fun e w' => e = .returned (.bool true) ∧ Below wx.heap.size wx w') := fun wx => awake_any wx
  have CS : Hid (∀ wx v1 v2, RecV wx v1 zM → RecV wx v2 zM → Calls Try.prog 14 #[v1, v2] wx fun e w' => e = .returned (.bool true) ∧ Below wx.heap.size wx w') := fun wx v1 v2 h1 h2 => Same_any h1 h2 (Nat.zero_le _) (Nat.zero_le _)
  go_enter Try.func7, Try.ntmps7
  go_wp2_with (first
    | (go_at_call 17; refine (CO.out _).mono ?_; clear CO; rintro e w1 ⟨⟨v1, rfl, r1⟩, b1⟩; have r1' := r1; obtain ⟨I1, T1, rfl, hI1, hT1⟩ := r1'.ex; have oI1 := hI1.one; have oT1 := hT1.one; clear r1' hI1 hT1)
    | (have := C1; refine wpList_new_rc _ rfl rfl ?_; intro w5 c2 N2)
    | (refine wpList_new_rc _ rfl rfl ?_; intro w2 c1 N1)
    | (refine wpList_at (Op.store 25 (.tmp 5) (.tmp 21)) rfl ?_; refine wpList_put_rc (s' := zM.s) (I' := I1) (T' := T1) _ rfl (.tmp 5) (.tmp 21) rfl rfl rfl N1.rc oI1 oT1 ?_; intro w3 P1; have C1 := P1.rc)
    | (refine wpList_at (Op.store 25 (.tmp 8) (.tmp 24)) rfl ?_; refine wpList_put_rc (s' := zS) (I' := nilV) (T' := nilV) _ rfl (.tmp 8) (.tmp 24) rfl rfl rfl N2.rc rfl rfl ?_; intro w6 P2; have H := OpS.start b1 r1 N1 P1 N2 P2; clear N1 P1 N2 P2 b1 r1 C1 this; obtain ⟨p0, p1, p2, p3, p4, p5, p6, p7, p8, p9, p10, p11, p12⟩ := H.a1.row)
    | (go_at_call 14; refine (CS.out _ _ _ H.rec1 ⟨nilV, nilV, rfl, SlI.nil _, SlT.nil _⟩).mono ?_; clear CS; rintro e w7 ⟨rfl, b7⟩)
    | (go_at_call 12; refine (CK.out _).mono ?_; clear CK; rintro e w8 ⟨rfl, b8⟩))
  go_ret
  exact ⟨rfl, thn (thn H.all b7) b8⟩
set_option maxHeartbeats 4000000 in
theorem opens_far1 (ht : (1000 : Int) < t.size) (htz : t.size ≤ 140737488351232) (hu : t.extract 0 1000 = u) (huz : u.size ≤ 1000) (h0 : ¬ a < 0) (h1 : (u.size : Int) < a) (ho : openM u a = (zM, 0, 6)) : Calls Try.prog 7 #[.string t, .int .i64 a] w fun e w' => e = .returned (.bool true) ∧ Below w.heap.size w w' := by
  have hcu : ∀ W, (Instr.slice 9 (.string t) none (some (.int .i64 1000)) none).run Try.prog W = .ok (.string u) W := by
    intro W
    rw [← hu]
    have := run_slice_string_h (P := Try.prog) W 9 t Try.underlying9 .i64 1000 (by omega) (by omega)
    rw [show ((1000 : Int)).toNat = 1000 from rfl] at this
    exact this
  clear hu
  have CO : Hid (∀ wx, Calls Try.prog 17 #[.string u, .int .i64 a] wx fun e w' => (∃ v, e = .returned (.tuple #[v, .int .i64 0, .int .i64 6]) ∧ RecV w' v zM) ∧ Below wx.heap.size wx w') := fun wx => (Open_any (w := wx) u a (by omega)).mono fun e w' h => by rw [ho] at h; exact ⟨⟨h.1.choose, h.1.choose_spec.1, h.1.choose_spec.2.recV⟩, h.2⟩
  clear ho
  have CK : Hid (∀ wx, Calls Try.prog 12 #[] wx fun e w' => e = .returned (.bool true) ∧ Below wx.heap.size wx w') := fun wx => awake_any wx
  have CS : Hid (∀ wx v1 v2, RecV wx v1 zM → RecV wx v2 zM → Calls Try.prog 14 #[v1, v2] wx fun e w' => e = .returned (.bool true) ∧ Below wx.heap.size wx w') := fun wx v1 v2 h1 h2 => Same_any h1 h2 (Nat.zero_le _) (Nat.zero_le _)
  go_enter Try.func7, Try.ntmps7
  go_wp2_with (first
    | (go_at_call 17; refine (CO.out _).mono ?_; clear CO; rintro e w1 ⟨⟨v1, rfl, r1⟩, b1⟩; have r1' := r1; obtain ⟨I1, T1, rfl, hI1, hT1⟩ := r1'.ex; have oI1 := hI1.one; have oT1 := hT1.one; clear r1' hI1 hT1)
    | (have := C1; refine wpList_new_rc _ rfl rfl ?_; intro w5 c2 N2)
    | (refine wpList_new_rc _ rfl rfl ?_; intro w2 c1 N1)
    | (refine wpList_at (Op.store 25 (.tmp 5) (.tmp 21)) rfl ?_; refine wpList_put_rc (s' := zM.s) (I' := I1) (T' := T1) _ rfl (.tmp 5) (.tmp 21) rfl rfl rfl N1.rc oI1 oT1 ?_; intro w3 P1; have C1 := P1.rc)
    | (refine wpList_at (Op.store 25 (.tmp 8) (.tmp 24)) rfl ?_; refine wpList_put_rc (s' := zS) (I' := nilV) (T' := nilV) _ rfl (.tmp 8) (.tmp 24) rfl rfl rfl N2.rc rfl rfl ?_; intro w6 P2; have H := OpS.start b1 r1 N1 P1 N2 P2; clear N1 P1 N2 P2 b1 r1 C1 this; obtain ⟨p0, p1, p2, p3, p4, p5, p6, p7, p8, p9, p10, p11, p12⟩ := H.a1.row)
    | (go_at_call 14; refine (CS.out _ _ _ H.rec1 ⟨nilV, nilV, rfl, SlI.nil _, SlT.nil _⟩).mono ?_; clear CS; rintro e w7 ⟨rfl, b7⟩)
    | (go_at_call 12; refine (CK.out _).mono ?_; clear CK; rintro e w8 ⟨rfl, b8⟩))
  go_ret
  exact ⟨rfl, thn (thn H.all b7) b8⟩
set_option maxHeartbeats 4000000 in
theorem opens_six0 (ht : ¬ (1000 : Int) < t.size) (htz : t.size ≤ 1000) (h0 : ¬ a < 0) (h1 : ¬ (t.size : Int) < a) (h2 : (t.size : Int) - a < 6) (ho : openM t a = (zM, 0, 2)) : Calls Try.prog 7 #[.string t, .int .i64 a] w fun e w' => e = .returned (.bool true) ∧ Below w.heap.size w w' := by
  have CO : Hid (∀ wx, Calls Try.prog 17 #[.string t, .int .i64 a] wx fun e w' => (∃ v, e = .returned (.tuple #[v, .int .i64 0, .int .i64 2]) ∧ RecV w' v zM) ∧ Below wx.heap.size wx w') := fun wx => (Open_any (w := wx) t a (by omega)).mono fun e w' h => by rw [ho] at h; exact ⟨⟨h.1.choose, h.1.choose_spec.1, h.1.choose_spec.2.recV⟩, h.2⟩
  clear ho
  have CK : Hid (∀ wx, Calls Try.prog 12 #[] wx fun e w' => e = .returned (.bool true) ∧ Below wx.heap.size wx w') := fun wx => awake_any wx
  have CS : Hid (∀ wx v1 v2, RecV wx v1 zM → RecV wx v2 zM → Calls Try.prog 14 #[v1, v2] wx fun e w' => e = .returned (.bool true) ∧ Below wx.heap.size wx w') := fun wx v1 v2 h1 h2 => Same_any h1 h2 (Nat.zero_le _) (Nat.zero_le _)
  go_enter Try.func7, Try.ntmps7
  go_wp2_with (first
    | (go_at_call 17; refine (CO.out _).mono ?_; clear CO; rintro e w1 ⟨⟨v1, rfl, r1⟩, b1⟩; have r1' := r1; obtain ⟨I1, T1, rfl, hI1, hT1⟩ := r1'.ex; have oI1 := hI1.one; have oT1 := hT1.one; clear r1' hI1 hT1)
    | (have := C1; refine wpList_new_rc _ rfl rfl ?_; intro w5 c2 N2)
    | (refine wpList_new_rc _ rfl rfl ?_; intro w2 c1 N1)
    | (refine wpList_at (Op.store 25 (.tmp 5) (.tmp 21)) rfl ?_; refine wpList_put_rc (s' := zM.s) (I' := I1) (T' := T1) _ rfl (.tmp 5) (.tmp 21) rfl rfl rfl N1.rc oI1 oT1 ?_; intro w3 P1; have C1 := P1.rc)
    | (refine wpList_at (Op.store 25 (.tmp 8) (.tmp 24)) rfl ?_; refine wpList_put_rc (s' := zS) (I' := nilV) (T' := nilV) _ rfl (.tmp 8) (.tmp 24) rfl rfl rfl N2.rc rfl rfl ?_; intro w6 P2; have H := OpS.start b1 r1 N1 P1 N2 P2; clear N1 P1 N2 P2 b1 r1 C1 this; obtain ⟨p0, p1, p2, p3, p4, p5, p6, p7, p8, p9, p10, p11, p12⟩ := H.a1.row)
    | (go_at_call 14; refine (CS.out _ _ _ H.rec1 ⟨nilV, nilV, rfl, SlI.nil _, SlT.nil _⟩).mono ?_; clear CS; rintro e w7 ⟨rfl, b7⟩)
    | (go_at_call 12; refine (CK.out _).mono ?_; clear CK; rintro e w8 ⟨rfl, b8⟩))
  go_ret
  exact ⟨rfl, thn (thn H.all b7) b8⟩
set_option maxHeartbeats 4000000 in
theorem opens_six1 (ht : (1000 : Int) < t.size) (htz : t.size ≤ 140737488351232) (hu : t.extract 0 1000 = u) (huz : u.size ≤ 1000) (h0 : ¬ a < 0) (h1 : ¬ (u.size : Int) < a) (h2 : (u.size : Int) - a < 6) (ho : openM u a = (zM, 0, 2)) : Calls Try.prog 7 #[.string t, .int .i64 a] w fun e w' => e = .returned (.bool true) ∧ Below w.heap.size w w' := by
  have hcu : ∀ W, (Instr.slice 9 (.string t) none (some (.int .i64 1000)) none).run Try.prog W = .ok (.string u) W := by
    intro W
    rw [← hu]
    have := run_slice_string_h (P := Try.prog) W 9 t Try.underlying9 .i64 1000 (by omega) (by omega)
    rw [show ((1000 : Int)).toNat = 1000 from rfl] at this
    exact this
  clear hu
  have CO : Hid (∀ wx, Calls Try.prog 17 #[.string u, .int .i64 a] wx fun e w' => (∃ v, e = .returned (.tuple #[v, .int .i64 0, .int .i64 2]) ∧ RecV w' v zM) ∧ Below wx.heap.size wx w') := fun wx => (Open_any (w := wx) u a (by omega)).mono fun e w' h => by rw [ho] at h; exact ⟨⟨h.1.choose, h.1.choose_spec.1, h.1.choose_spec.2.recV⟩, h.2⟩
  clear ho
  have CK : Hid (∀ wx, Calls Try.prog 12 #[] wx fun e w' => e = .returned (.bool true) ∧ Below wx.heap.size wx w') := fun wx => awake_any wx
  have CS : Hid (∀ wx v1 v2, RecV wx v1 zM → RecV wx v2 zM → Calls Try.prog 14 #[v1, v2] wx fun e w' => e = .returned (.bool true) ∧ Below wx.heap.size wx w') := fun wx v1 v2 h1 h2 => Same_any h1 h2 (Nat.zero_le _) (Nat.zero_le _)
  go_enter Try.func7, Try.ntmps7
  go_wp2_with (first
    | (go_at_call 17; refine (CO.out _).mono ?_; clear CO; rintro e w1 ⟨⟨v1, rfl, r1⟩, b1⟩; have r1' := r1; obtain ⟨I1, T1, rfl, hI1, hT1⟩ := r1'.ex; have oI1 := hI1.one; have oT1 := hT1.one; clear r1' hI1 hT1)
    | (have := C1; refine wpList_new_rc _ rfl rfl ?_; intro w5 c2 N2)
    | (refine wpList_new_rc _ rfl rfl ?_; intro w2 c1 N1)
    | (refine wpList_at (Op.store 25 (.tmp 5) (.tmp 21)) rfl ?_; refine wpList_put_rc (s' := zM.s) (I' := I1) (T' := T1) _ rfl (.tmp 5) (.tmp 21) rfl rfl rfl N1.rc oI1 oT1 ?_; intro w3 P1; have C1 := P1.rc)
    | (refine wpList_at (Op.store 25 (.tmp 8) (.tmp 24)) rfl ?_; refine wpList_put_rc (s' := zS) (I' := nilV) (T' := nilV) _ rfl (.tmp 8) (.tmp 24) rfl rfl rfl N2.rc rfl rfl ?_; intro w6 P2; have H := OpS.start b1 r1 N1 P1 N2 P2; clear N1 P1 N2 P2 b1 r1 C1 this; obtain ⟨p0, p1, p2, p3, p4, p5, p6, p7, p8, p9, p10, p11, p12⟩ := H.a1.row)
    | (go_at_call 14; refine (CS.out _ _ _ H.rec1 ⟨nilV, nilV, rfl, SlI.nil _, SlT.nil _⟩).mono ?_; clear CS; rintro e w7 ⟨rfl, b7⟩)
    | (go_at_call 12; refine (CK.out _).mono ?_; clear CK; rintro e w8 ⟨rfl, b8⟩))
  go_ret
  exact ⟨rfl, thn (thn H.all b7) b8⟩
end
end Go.Proofs.Ytakdfdnndogaiaa
