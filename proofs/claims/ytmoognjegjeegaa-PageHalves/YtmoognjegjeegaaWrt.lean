/- What turns a page in memory: put, openSlot, drop, text, blank. -/
import Derived.Test.YtmoognjegjeegaaAtt
import Derived.Test.YtmoognjegjeegaaTurn
import Derived.Deep.RegionLaw
import Derived.BigRegion
namespace Go.Proofs.Ytmoognjegjeegaa
open Go.RowKit
set_option linter.unusedVariables false
set_option linter.unusedSimpArgs false
set_option maxRecDepth 100000

section
variable {w w' : World} {b : Nat} {s : List UInt8}
theorem wpList_box_cb {k v : ByteArray} {ops : Array Oper} {rest : List Oper} {o : Oper} {a : Act} {Q : Exit → Act → World → Prop} (w : World) (hg : o.guard = none) (x : Operand) (hop : o.op = Op.box 28 x) (hx : a.eval x = .agg #[.string k, .string v])
    (h : ∀ w' b, NewC w w' b k v → wpList Try.prog ops Q rest (a.put o.dst (.pointer (some ⟨b, 0, none⟩))) w') : wpList Try.prog ops Q (o :: rest) a w := by
  refine wpList_plain hg fun K' hK' => ?_
  unfold Oper.wp
  simp [execOp, hop, hx, Instr.box, Result.andThen, Value.cells]
  exact hK' _ _ (h _ _ ⟨⟨(MapKept.heap_alloc w _).1⟩, (Below.refl _ _).alloc (Nat.le_refl _) _, Nat.le_refl _⟩)
theorem Cb.c0 {k v : ByteArray} (h : Cb w b k v) : w.cell? ⟨b, 0, none⟩ = some (.string k) := by rw [cell_of_row w b _ _ 28 (0, 0) h.blk]; rfl
theorem Cb.c1 {k v : ByteArray} (h : Cb w b k v) : w.cell? ⟨b, 1, none⟩ = some (.string v) := by rw [cell_of_row w b _ _ 28 (0, 0) h.blk]; rfl
theorem Cb.off {B : Nat → Prop} {k v : ByteArray} (h : Cb w b k v) (hb : Off B w w') (hn : ¬ B b) : Cb w' b k v := h.of_block (hb.block b h.lt hn)

theorem text_any (w : World) (h : Sh w b s) : Calls Try.prog 49 #[.pointer (some ⟨b, 0, none⟩)] w fun e w' => e = .returned (.string (tx s)) ∧ w' = w := by
  have hcv := fun cap => conv_seg h 0 224 cap (by omega)
  have hs : seg s 0 224 = s := by rw [seg, List.drop_zero, List.take_of_length_le (by rw [h.len]; omega)]
  rw [hs] at hcv
  clear h hs
  go_enter Try.func49, Try.ntmps49
  go_wp2
  go_ret
  exact ⟨rfl, rfl⟩

theorem slice_lh (w : World) (b l h : Nat) (x y : Int) (hx : x = (l : Int)) (hy : y = (h : Int)) (hl : l ≤ h) (hh : h ≤ 224) : (Instr.sliceAt 63 (.pointer (some ⟨b, 0, none⟩)) (some (.int .i64 x)) (some (.int .i64 y)) none).run Try.prog w = .ok (.slice (some ⟨b, if l = 224 then 0 else l, none⟩) (h - l) (224 - l)) w := by
  subst hx hy
  have h := run_sliceAt_array_lh (P := Try.prog) w 63 ⟨b, 0, none⟩ (by kernel_rfl) .i64 .i64 (l : Int) (h : Int) (by omega) (by omega) (by show (h : Int) ≤ ((224 : Nat) : Int); omega)
  have hz : ∀ w, (Go.sizeOf (Try.prog.elem 63)).run Try.prog w = .ok 1 w := fun w => by kernel_rfl
  have ha : Try.prog.arrayLen 63 = 224 := by kernel_rfl
  rw [h, hz, ha]
  simp only [Result.andThen, slicedAt, Int.toNat_natCast, Nat.mul_one]
  by_cases e : l = 224
  · subst e; rfl
  · rw [if_neg (by omega), if_neg e, Addr.add_mid, Nat.zero_add]
theorem slice_l' (w : World) (b l : Nat) (x : Int) (hx : x = (l : Int)) (hl : l ≤ 224) : (Instr.sliceAt 63 (.pointer (some ⟨b, 0, none⟩)) (some (.int .i64 x)) none none).run Try.prog w = .ok (.slice (some ⟨b, if l = 224 then 0 else l, none⟩) (224 - l) (224 - l)) w := by
  by_cases e : l = 224
  · subst e; subst hx
    have h := run_sliceAt_array_l (P := Try.prog) w 63 ⟨b, 0, none⟩ (by kernel_rfl) .i64 ((224 : Nat) : Int) (by omega) (by show ((224 : Nat) : Int) ≤ ((224 : Nat) : Int); omega)
    have hz : ∀ w, (Go.sizeOf (Try.prog.elem 63)).run Try.prog w = .ok 1 w := fun w => by kernel_rfl
    have ha : Try.prog.arrayLen 63 = 224 := by kernel_rfl
    rw [h, hz, ha]
    rfl
  · rw [slice_l w b l x hx (by omega), if_neg e]
theorem pgL_ov (s x : List UInt8) (a : Nat) : (pgL s).take a ++ pgL x ++ (pgL s).drop (a + x.length) = pgL (ov s a x) := by
  simp only [pgL, Lib.byteCells, ov, List.map_append, List.map_take, List.map_drop]
theorem step_copy_str {ops : Array Oper} {o : Oper} {a : Act} {K : Act → World → Prop} {Q : Exit → Act → World → Prop} {E : Prop}
    (hg : o.guard = none) (d x : Operand) (hop : o.op = Op.call { callee := Callee.builtin Builtin.copy, args := #[d, x], argTypes := #[74, 9] })
    {off dLen dCap : Nat} (hd : a.eval d = .slice (some ⟨b, off, none⟩) dLen dCap) {t : ByteArray} (hx : a.eval x = .string t) (hs : Sh w b s) (hle : t.size ≤ dLen) (hfit : off + t.size ≤ 224)
    (hK : ∀ w', Put w w' b (ov s off (bts t)) → K (a.put o.dst (goInt t.size)) w') :
    if Region.wanted o (yielded ops a.tmps) = true then Oper.wp Try.prog o a w K Q else E := by
  have hw : Region.wanted o (yielded ops a.tmps) = true := by simp [Region.wanted, hg]
  rw [if_pos hw]
  have hrun := Lib.run_copy_row_string (P := Try.prog) w 74 9 o.type 5 b off dLen dCap t (pgA s) 63 Try.underlying74 (by kernel_rfl) hs.blk hle (by rw [pgA_size, hs.len]; exact hfit)
  have e : (List.take off (pgA s).toList ++ Lib.byteCells t.data.toList ++ List.drop (off + t.size) (pgA s).toList).toArray = pgA (ov s off (bts t)) := by
    rw [show (pgA s).toList = pgL s by simp [pgA], ← bts_length t, show Lib.byteCells t.data.toList = pgL (bts t) from rfl, pgL_ov]; rfl
  rw [e] at hrun
  unfold Oper.wp
  simp [execOp, hop, resolve, invoke, builtin, hd, hx, hrun, Result.andThen]
  exact hK _ ⟨hs.setRow (by rw [ov_length (by rw [bts_length, hs.len]; exact hfit), hs.len]), (Off.refl (fun k => k = b) w).setRow (B := fun k => k = b) rfl _⟩
theorem step_copy_seg {ops : Array Oper} {o : Oper} {a : Act} {K : Act → World → Prop} {Q : Exit → Act → World → Prop} {E : Prop}
    (hg : o.guard = none) (d x : Operand) (hop : o.op = Op.call { callee := Callee.builtin Builtin.copy, args := #[d, x], argTypes := #[74, 74] })
    {off dLen dCap : Nat} (hd : a.eval d = .slice (some ⟨b, off, none⟩) dLen dCap) {src n sCap : Nat} (hx : a.eval x = .slice (some ⟨b, src, none⟩) n sCap) (hs : Sh w b s) (hle : n ≤ dLen) (hsrc : src + n ≤ 224) (hfit : off + n ≤ 224)
    (hK : ∀ w', Put w w' b (ov s off (seg s src n)) → K (a.put o.dst (goInt n)) w') :
    if Region.wanted o (yielded ops a.tmps) = true then Oper.wp Try.prog o a w K Q else E := by
  have hw : Region.wanted o (yielded ops a.tmps) = true := by simp [Region.wanted, hg]
  rw [if_pos hw]
  have hl : (seg s src n).length = n := seg_length (by rw [hs.len]; exact hsrc)
  have hrun := run_copy_row Try.prog w 74 74 o.type 5 b off dLen dCap ⟨b, src, none⟩ n sCap (pgA s) 63 (pgL (seg s src n)) Try.underlying74 (by kernel_rfl) hs.blk (by rw [pgL_length, hl]; exact (Nat.min_eq_left hle).symm)
    (fun j v hj => by
      rw [Addr.add_mid]
      have hjn : j < n := by
        have := (List.getElem?_eq_some_iff.1 hj).1
        rw [pgL_length, hl] at this; exact this
      rw [hs.cell (by omega)]
      rw [pgL_get _ _ (by rw [hl]; exact hjn)] at hj
      rw [← hj, g, g, seg_get, if_pos hjn]) (by rw [pgL_length, hl, pgA_size, hs.len]; exact hfit) (pgL_one _)
  have e : (List.take off (pgA s).toList ++ pgL (seg s src n) ++ List.drop (off + (pgL (seg s src n)).length) (pgA s).toList).toArray = pgA (ov s off (seg s src n)) := by
    rw [show (pgA s).toList = pgL s by simp [pgA], pgL_length, pgL_ov]; rfl
  rw [e, pgL_length, hl] at hrun
  unfold Oper.wp
  simp [execOp, hop, resolve, invoke, builtin, hd, hx, hrun, Result.andThen]
  exact hK _ ⟨hs.setRow (by rw [ov_length (by rw [hl, hs.len]; exact hfit), hs.len]), (Off.refl (fun k => k = b) w).setRow (B := fun k => k = b) rfl _⟩
theorem Off.drewN {B : Nat → Prop} {a w : World} (h : Off B a w) (n : Nat) : Off B a (w.drewN n) := ⟨h.os, h.tape, h.output, h.size, h.block⟩
theorem run_copy_seg (h : Sh w b s) (ty : TypeId) (off dLen dCap src n sCap : Nat) (hle : n ≤ dLen) (hsrc : src + n ≤ 224) (hfit : off + n ≤ 224) :
    (Builtin.copy_ #[74, 74] ty #[.slice (some ⟨b, off, none⟩) dLen dCap, .slice (some ⟨b, src, none⟩) n sCap]).run Try.prog w = .ok (.int .i64 (n : Int)) (w.setRow b (pgA (ov s off (seg s src n)))) := by
  have hl : (seg s src n).length = n := seg_length (by rw [h.len]; exact hsrc)
  have hrun := run_copy_row Try.prog w 74 74 ty 5 b off dLen dCap ⟨b, src, none⟩ n sCap (pgA s) 63 (pgL (seg s src n)) Try.underlying74 (by kernel_rfl) h.blk (by rw [pgL_length, hl]; exact (Nat.min_eq_left hle).symm)
    (fun j v hj => by
      rw [Addr.add_mid]
      have hjn : j < n := by
        have := (List.getElem?_eq_some_iff.1 hj).1
        rw [pgL_length, hl] at this; exact this
      rw [h.cell (by omega)]
      rw [pgL_get _ _ (by rw [hl]; exact hjn)] at hj
      rw [← hj, g, g, seg_get, if_pos hjn]) (by rw [pgL_length, hl, pgA_size, h.len]; exact hfit) (pgL_one _)
  have e : (List.take off (pgA s).toList ++ pgL (seg s src n) ++ List.drop (off + (pgL (seg s src n)).length) (pgA s).toList).toArray = pgA (ov s off (seg s src n)) := by
    rw [show (pgA s).toList = pgL s by simp [pgA], pgL_length, pgL_ov]; rfl
  rw [e, pgL_length, hl] at hrun
  exact hrun
theorem run_copy_str (h : Sh w b s) (ty : TypeId) (off dLen dCap : Nat) (t : ByteArray) (hle : t.size ≤ dLen) (hfit : off + t.size ≤ 224) :
    (Builtin.copy_ #[74, 9] ty #[.slice (some ⟨b, off, none⟩) dLen dCap, .string t]).run Try.prog w = .ok (.int .i64 (t.size : Int)) (w.setRow b (pgA (ov s off (bts t)))) := by
  have hrun := Lib.run_copy_row_string (P := Try.prog) w 74 9 ty 5 b off dLen dCap t (pgA s) 63 Try.underlying74 (by kernel_rfl) h.blk hle (by rw [pgA_size, h.len]; exact hfit)
  have e : (List.take off (pgA s).toList ++ Lib.byteCells t.data.toList ++ List.drop (off + t.size) (pgA s).toList).toArray = pgA (ov s off (bts t)) := by
    rw [show (pgA s).toList = pgL s by simp [pgA], ← bts_length t, show Lib.byteCells t.data.toList = pgL (bts t) from rfl, pgL_ov]; rfl
  rw [e] at hrun
  exact hrun
/-- A page that was turned, in one more step. -/
theorem Put.copy {w0 : World} {t : List UInt8} (h : Put w0 w b s) (ht : t.length = 224) : Put w0 (w.drew.setRow b (pgA t)) b t := ⟨h.sh.drew.setRow ht, h.off.drew.setRow (B := fun k => k = b) rfl _⟩
theorem Put.store {w0 : World} (h : Put w0 w b s) (j : Nat) (x : UInt8) (n : Int) (hn : n = (x.toNat : Int)) : Put w0 (w.setCell ⟨b, j, none⟩ (.int .u8 n)) b (s.set j x) := ⟨h.sh.set j x n hn, h.off.setCell (B := fun k => k = b) rfl _ _⟩
theorem Put.drew {w0 : World} (h : Put w0 w b s) : Put w0 w.drew b s := ⟨h.sh.drew, h.off.drew⟩
theorem Put.refl (h : Sh w b s) : Put w w b s := ⟨h, Off.refl _ _⟩

set_option maxHeartbeats 1000000 in
theorem openSlot_any (w : World) (h : Sh w b s) (i st : Nat) (hi : i ≤ cnt s) (hn : cnt s ≤ 219) (hst : st < 256) : Calls Try.prog 67 #[.pointer (some ⟨b, 0, none⟩), .int .i64 (i : Int), .int .i64 (st : Int)] w fun e w' => e = .returned (.tuple #[]) ∧ Put w w' b (openS s i st) := by
  have C1 : Hid (∀ w, Sh w b s → Calls Try.prog 39 #[.pointer (some ⟨b, 0, none⟩)] w fun e w' => e = .returned (.int .i64 (cnt s)) ∧ w' = w) := fun w h => count_any w h
  obtain ⟨n, hn'⟩ : ∃ n, n = cnt s := ⟨_, rfl⟩
  rw [← hn'] at hi hn C1
  obtain ⟨T1, hT1⟩ : ∃ T, T = ov s (223 - n) (seg s (224 - n) (n - i)) := ⟨_, rfl⟩
  have hsl : (seg s (224 - n) (n - i)).length = n - i := seg_length (by rw [h.len]; omega)
  have hl1 : T1.length = 224 := by rw [hT1, ov_length (by rw [hsl, h.len]; omega), h.len]
  have hg2 : g T1 2 = n := by rw [hT1, g_ov_out (by rw [hsl, h.len]; omega) (by omega), hn']; rfl
  have hO : Hid (openS s i st = (T1.set (223 - i) (UInt8.ofNat st)).set 2 (UInt8.ofNat (n + 1))) := by
    have : openS s i st = (T1.set (223 - i) (UInt8.ofNat st)).set 2 (UInt8.ofNat (n + 1)) := by rw [hT1, hn']; rfl
    exact this
  obtain ⟨o1, ho1⟩ : ∃ o, o = 223 - n := ⟨_, rfl⟩
  obtain ⟨d1, hd1⟩ : ∃ o, o = 224 - o1 := ⟨_, rfl⟩
  obtain ⟨o2, ho2⟩ : ∃ o, o = if 224 - n = 224 then 0 else 224 - n := ⟨_, rfl⟩
  obtain ⟨m, hm⟩ : ∃ o, o = n - i := ⟨_, rfl⟩
  obtain ⟨c2, hc2⟩ : ∃ o, o = 224 - (224 - n) := ⟨_, rfl⟩
  have s1 := fun w => slice_l w b o1 (224 - (n : Int) - 1) (by omega) (by omega)
  have s2 := fun w => slice_lh w b (224 - n) (224 - i) (224 - (n : Int)) (224 - (i : Int)) (by omega) (by omega) (by omega) (by omega)
  rw [← hd1] at s1
  rw [show 224 - i - (224 - n) = m by omega, ← ho2, ← hc2] at s2
  have hseg : seg s o2 m = seg s (224 - n) (n - i) := by
    rw [ho2, hm]
    split
    · have : n - i = 0 := by omega
      rw [this]; simp [seg]
    · rfl
  have hcp := run_copy_seg h.drew 3 o1 d1 d1 o2 m c2 (by omega) (by rw [ho2]; split <;> omega) (by omega)
  rw [hseg, ho1, ← hT1] at hcp
  rw [ho1] at s1
  have P1 : Put w (w.drew.setRow b (pgA T1)) b T1 := (Put.refl h).copy hl1
  have q1 : IntKind.i64.wrap (224 - (n : Int) - 1) = 224 - (n : Int) - 1 := IntWalk.i64_in _ (by omega)
  have q2 : IntKind.i64.wrap (224 - (i : Int)) = 224 - (i : Int) := IntWalk.i64_in _ (by omega)
  obtain ⟨jj, hjj⟩ : ∃ j, j = 223 - i := ⟨_, rfl⟩
  have hjI : (223 : Int) - (i : Int) = (jj : Int) := by omega
  have hj4 : 4 ≤ jj ∧ jj < 224 := by omega
  rw [← hjj] at hO
  have H : Hid _ := h
  clear h hn' hjj hT1 hsl ho1 hd1 ho2 hm hc2 hseg
  go_enter Try.func67, Try.ntmps67
  go_wp2_with (go_at_call 39; refine (C1.out _ H.out).mono ?_; rintro e w1 ⟨rfl, rfl⟩)
  go_region
  generalize w1.drew.setRow b (pgA T1) = w2 at P1 ⊢
  have c1 := P1.sh.cell (j := jj) (by omega)
  have u1 := P1.sh.unfrozen jj
  go_wp2
  have P2 := P1.store jj (UInt8.ofNat st) (st : Int) (by rw [byte_nat hst])
  generalize w2.setCell ⟨b, jj, none⟩ (.int .u8 (st : Int)) = w3 at P2 ⊢
  have c2 := P2.sh.cell (j := 2) (by omega)
  rw [g_set_ne _ (by omega), hg2] at c2
  have u2 := P2.sh.unfrozen 2
  go_region
  go_end0
  exact ⟨rfl, by rw [hO.out]; exact (P2.store 2 (UInt8.ofNat (n + 1)) ((n : Int) + 1) (by rw [byte_nat (by omega)]; omega)).drew⟩

set_option maxHeartbeats 1000000 in
theorem put_any (w : World) (h : Sh w b s) (i : Nat) (c : Cl) (hi : i ≤ cnt s) (he4 : 4 ≤ en s) (hk : c.k.size ≤ 16) (hv : c.v.size ≤ 32) (hf : en s + cnt s + need c ≤ 224) : Calls Try.prog 64 #[.pointer (some ⟨b, 0, none⟩), .int .i64 (i : Int), .agg #[.string c.k, .string c.v]] w fun e w' => e = .returned (.tuple #[]) ∧ Put w w' b (putS s i c) := by
  have C1 : Hid (∀ w, Sh w b s → Calls Try.prog 63 #[.pointer (some ⟨b, 0, none⟩)] w fun e w' => e = .returned (.int .i64 (en s)) ∧ w' = w) := fun w h => end_any w h
  simp only [need] at hf
  have hP : Hid (putS s i c = openS (bodyS s (en s) c.k c.v) i (en s)) := (rfl : putS s i c = openS (bodyS s (en s) c.k c.v) i (en s))
  obtain ⟨e, he⟩ : ∃ e, e = en s := ⟨_, rfl⟩
  obtain ⟨k, hkk⟩ : ∃ k, k = c.k := ⟨_, rfl⟩
  obtain ⟨v, hvv⟩ : ∃ v, v = c.v := ⟨_, rfl⟩
  rw [← he] at C1 he4 hf hP
  rw [← hkk] at hk hf hP ⊢
  rw [← hvv] at hv hf hP ⊢
  obtain ⟨T1, hT1⟩ : ∃ T, T = (s.set e (UInt8.ofNat k.size)).set (e + 1) (UInt8.ofNat v.size) := ⟨_, rfl⟩
  obtain ⟨T2, hT2⟩ : ∃ T, T = ov T1 (e + 2) (bts k) := ⟨_, rfl⟩
  obtain ⟨T3, hT3⟩ : ∃ T, T = ov T2 (e + 2 + k.size) (bts v) := ⟨_, rfl⟩
  obtain ⟨T4, hT4⟩ : ∃ T, T = T3.set 3 (UInt8.ofNat (e + 2 + k.size + v.size)) := ⟨_, rfl⟩
  have hl1 : T1.length = 224 := by rw [hT1, set_length, set_length, h.len]
  have hl2 : T2.length = 224 := by rw [hT2, ov_length (by rw [bts_length, hl1]; omega), hl1]
  have hl3 : T3.length = 224 := by rw [hT3, ov_length (by rw [bts_length, hl2]; omega), hl2]
  have hl4 : T4.length = 224 := by rw [hT4, set_length, hl3]
  have hc4 : cnt T4 = cnt s := by
    show g T4 2 = g s 2
    rw [hT4, g_set_ne _ (by omega), hT3, g_ov_out (by rw [bts_length, hl2]; omega) (by omega), hT2, g_ov_out (by rw [bts_length, hl1]; omega) (by omega), hT1, g_set_ne _ (by omega), g_set_ne _ (by omega)]
  have hB : bodyS s e k v = T4 := by rw [hT4, hT3, hT2, hT1]; rfl
  rw [hB] at hP
  have C2 : Hid (∀ w, Sh w b T4 → Calls Try.prog 67 #[.pointer (some ⟨b, 0, none⟩), .int .i64 (i : Int), .int .i64 (e : Int)] w fun e' w' => e' = .returned (.tuple #[]) ∧ Put w w' b (openS T4 i e)) := fun w h => openSlot_any w h i e (by omega) (by omega) (by omega)
  have s1 := fun w => slice_l w b (e + 2) ((e : Int) + 2) (by omega) (by omega)
  have s2 := fun w => slice_l w b (e + 2 + k.size) ((e : Int) + 2 + (k.size : Int)) (by omega) (by omega)
  obtain ⟨d1, hd1⟩ : ∃ d, d = 224 - (e + 2) := ⟨_, rfl⟩
  obtain ⟨d2, hd2⟩ : ∃ d, d = 224 - (e + 2 + k.size) := ⟨_, rfl⟩
  rw [← hd1] at s1
  rw [← hd2] at s2
  have cp1 : Hid (∀ W, Sh W b T1 → (Builtin.copy_ #[74, 9] 3 #[.slice (some ⟨b, e + 2, none⟩) d1 d1, .string k]).run Try.prog W = .ok (.int .i64 (k.size : Int)) (W.setRow b (pgA T2))) := fun W hW => by
    have := run_copy_str hW 3 (e + 2) d1 d1 k (by omega) (by omega)
    rw [← hT2] at this; exact this
  have cp2 : Hid (∀ W, Sh W b T2 → (Builtin.copy_ #[74, 9] 3 #[.slice (some ⟨b, e + 2 + k.size, none⟩) d2 d2, .string v]).run Try.prog W = .ok (.int .i64 (v.size : Int)) (W.setRow b (pgA T3))) := fun W hW => by
    have := run_copy_str hW 3 (e + 2 + k.size) d2 d2 v (by omega) (by omega)
    rw [← hT3] at this; exact this
  have q1 : IntKind.i64.wrap ((e : Int) + 2) = (e : Int) + 2 := IntWalk.i64_in _ (by omega)
  have q2 : IntKind.i64.wrap ((e : Int) + 2 + (k.size : Int)) = (e : Int) + 2 + (k.size : Int) := IntWalk.i64_in _ (by omega)
  have HT1 : Hid _ := hT1
  have HT4 : Hid _ := hT4
  have H : Hid _ := h
  have hbl := h.lt
  clear h he hkk hvv hT1 hT2 hT3 hT4 hB hc4 hd1 hd2
  go_enter Try.func64, Try.ntmps64
  go_wp2_with (first | (refine wpList_box_cb _ rfl _ rfl rfl ?_; intro w0 b0 N0) | (go_at_call 63; refine (C1.out _ (H.out.below N0.below)).mono ?_; rintro e w1 ⟨rfl, rfl⟩))
  have h0 := H.out.below N0.below
  have hne : b0 ≠ b := by have := N0.le; omega
  have he1 : e + 1 < 224 := by omega
  have P0 : Put w1 w1 b s := Put.refl h0
  have P1 : Put w1 ((w1.setCell ⟨b, e, none⟩ (.int .u8 (k.size : Int))).setCell ⟨b, e + 1, none⟩ (.int .u8 (v.size : Int))).drew b T1 := by
    rw [HT1.out]
    exact ((P0.store e (UInt8.ofNat k.size) (k.size : Int) (by rw [byte_nat (by omega)])).store (e + 1) (UInt8.ofNat v.size) (v.size : Int) (by rw [byte_nat (by omega)])).drew
  have d0 := N0.cb.c0
  have d1' := N0.cb.c1
  have c0 := h0.cell (j := e) (by omega)
  have c1 := h0.cell (j := e + 1) (by omega)
  have u0 := h0.unfrozen e
  have u1 := h0.unfrozen (e + 1)
  go_region
  generalize ((w1.setCell ⟨b, e, none⟩ (.int .u8 (k.size : Int))).setCell ⟨b, e + 1, none⟩ (.int .u8 (v.size : Int))).drew = w2 at P1 ⊢
  have B2 := N0.cb.off P1.off hne
  have f0 := B2.c0
  have f1 := B2.c1
  have k1 := cp1.out w2.drew P1.sh.drew
  clear c0 c1 u0 u1 d0 d1'
  go_wp2
  go_region
  have P2 : Put w1 (w2.drew.setRow b (pgA T2)) b T2 := P1.copy hl2
  generalize w2.drew.setRow b (pgA T2) = w3 at P2 ⊢
  have B3 := N0.cb.off P2.off hne
  have f0' := B3.c0
  have f1' := B3.c1
  have k2 := cp2.out w3.drew P2.sh.drew
  clear f0 f1 k1
  go_wp2
  go_region
  have P3 : Put w1 (w3.drew.setRow b (pgA T3)) b T3 := P2.copy hl3
  generalize w3.drew.setRow b (pgA T3) = w4 at P3 ⊢
  have B4 := N0.cb.off P3.off hne
  have g0 := B4.c0
  have g1 := B4.c1
  have c3 := P3.sh.cell (j := 3) (by omega)
  have u3 := P3.sh.unfrozen 3
  have q3 : IntKind.i64.wrap ((e : Int) + 2 + (k.size : Int) + (v.size : Int)) = (e : Int) + 2 + (k.size : Int) + (v.size : Int) := IntWalk.i64_in _ (by omega)
  clear f0' f1' k2
  go_wp2
  go_region
  have P4 : Put w1 (w4.setCell ⟨b, 3, none⟩ (.int .u8 ((e : Int) + 2 + (k.size : Int) + (v.size : Int)))).drew b T4 := by
    rw [HT4.out]
    exact (P3.store 3 (UInt8.ofNat (e + 2 + k.size + v.size)) _ (by rw [byte_nat (by omega)]; omega)).drew
  generalize (w4.setCell ⟨b, 3, none⟩ (.int .u8 ((e : Int) + 2 + (k.size : Int) + (v.size : Int)))).drew = w5 at P4 ⊢
  clear c3 u3 q3 g0 g1
  go_wp2_with (go_at_call 67; refine (C2.out _ P4.sh).mono ?_; rintro e w6 ⟨rfl, P6⟩)
  go_end0
  exact ⟨rfl, by rw [hP.out]; exact ⟨P6.sh, (Off.of_below N0.below).trans (P4.off.trans P6.off)⟩⟩

set_option maxHeartbeats 1000000 in
theorem drop_any (w : World) (h : Sh w b s) (i : Nat) (hi : i < cnt s) (hn : cnt s ≤ 220) : Calls Try.prog 52 #[.pointer (some ⟨b, 0, none⟩), .int .i64 (i : Int)] w fun e w' => e = .returned (.tuple #[]) ∧ Put w w' b (dropS s i) := by
  have C1 : Hid (∀ w, Sh w b s → Calls Try.prog 39 #[.pointer (some ⟨b, 0, none⟩)] w fun e w' => e = .returned (.int .i64 (cnt s)) ∧ w' = w) := fun w h => count_any w h
  obtain ⟨n, hn'⟩ : ∃ n, n = cnt s := ⟨_, rfl⟩
  rw [← hn'] at hi hn C1
  obtain ⟨T1, hT1⟩ : ∃ T, T = ov s (225 - n) (seg s (224 - n) (n - 1 - i)) := ⟨_, rfl⟩
  have hsl : (seg s (224 - n) (n - 1 - i)).length = n - 1 - i := seg_length (by rw [h.len]; omega)
  have hl1 : T1.length = 224 := by rw [hT1, ov_length (by rw [hsl, h.len]; omega), h.len]
  have hg2 : g T1 2 = n := by rw [hT1, g_ov_out (by rw [hsl, h.len]; omega) (by omega), hn']; rfl
  have hO : Hid (dropS s i = (T1.set (224 - n) 0).set 2 (UInt8.ofNat (n - 1))) := by
    have : dropS s i = (T1.set (224 - n) 0).set 2 (UInt8.ofNat (n - 1)) := by rw [hT1, hn']; rfl
    exact this
  obtain ⟨jj, hjj⟩ : ∃ j, j = 224 - n := ⟨_, rfl⟩
  rw [← hjj] at hO
  obtain ⟨o1, ho1⟩ : ∃ o, o = if jj + 1 = 224 then 0 else jj + 1 := ⟨_, rfl⟩
  obtain ⟨d1, hd1⟩ : ∃ o, o = 224 - (jj + 1) := ⟨_, rfl⟩
  obtain ⟨m, hm⟩ : ∃ o, o = n - 1 - i := ⟨_, rfl⟩
  obtain ⟨c2, hc2⟩ : ∃ o, o = 224 - jj := ⟨_, rfl⟩
  have s1 := fun w => slice_l' w b (jj + 1) ((jj : Int) + 1) (by omega) (by omega)
  have s2 := fun w => slice_lh w b jj (223 - i) (jj : Int) (223 - (i : Int)) (by omega) (by omega) (by omega) (by omega)
  rw [← hd1, ← ho1] at s1
  rw [show 223 - i - jj = m by omega, if_neg (by omega), ← hc2] at s2
  have hov : ov s o1 (seg s jj m) = T1 := by
    rw [hT1, ho1, hjj, hm]
    split
    · have : n - 1 - i = 0 := by omega
      rw [this]; simp [seg, ov_nil]
    · rw [show 224 - n + 1 = 225 - n by omega]
  have hcp := run_copy_seg h.drew 3 o1 d1 d1 jj m c2 (by omega) (by omega) (by rw [ho1]; split <;> omega)
  rw [hov] at hcp
  have P1 : Put w (w.drew.setRow b (pgA T1)) b T1 := (Put.refl h).copy hl1
  have q1 : IntKind.i64.wrap ((jj : Int) + 1) = (jj : Int) + 1 := IntWalk.i64_in _ (by omega)
  have q2 : IntKind.i64.wrap (223 - (i : Int)) = 223 - (i : Int) := IntWalk.i64_in _ (by omega)
  have hjI : (224 : Int) - (n : Int) = (jj : Int) := by omega
  have hj4 : 4 ≤ jj ∧ jj < 224 := by omega
  have H : Hid _ := h
  clear h hn' hjj hT1 hsl ho1 hd1 hm hc2 hov
  go_enter Try.func52, Try.ntmps52
  go_wp2_with (go_at_call 39; refine (C1.out _ H.out).mono ?_; rintro e w1 ⟨rfl, rfl⟩)
  go_region
  generalize w1.drew.setRow b (pgA T1) = w2 at P1 ⊢
  have c1 := P1.sh.cell (j := jj) (by omega)
  have u1 := P1.sh.unfrozen jj
  go_wp2
  have P2 := P1.store jj 0 0 rfl
  generalize w2.setCell ⟨b, jj, none⟩ (.int .u8 0) = w3 at P2 ⊢
  have c2 := P2.sh.cell (j := 2) (by omega)
  rw [g_set_ne _ (by omega), hg2] at c2
  have u2 := P2.sh.unfrozen 2
  have hn1 : 1 ≤ n := by omega
  go_region
  go_end0
  exact ⟨rfl, by rw [hO.out]; exact (P2.store 2 (UInt8.ofNat (n - 1)) ((n : Int) - 1) (by rw [byte_nat (by omega)]; omega)).drew⟩

theorem blank_put (h : Sh w b zs) {k l : Nat} (hk : k < 256) (hl : l < 256) : Put w (((w.setCell ⟨b, 0, none⟩ (.int .u8 (k : Int))).setCell ⟨b, 1, none⟩ (.int .u8 (l : Int))).setCell ⟨b, 3, none⟩ (.int .u8 4)) b (blankS k l) :=
  (((Put.refl h).store 0 (UInt8.ofNat k) _ (by rw [byte_nat hk])).store 1 (UInt8.ofNat l) _ (by rw [byte_nat hl])).store 3 4 _ rfl
theorem blank_any (w : World) (k l : Nat) (hk : k < 256) (hl : l < 256) : Calls Try.prog 46 #[.int .i64 (k : Int), .int .i64 (l : Int)] w fun e w' => e = .returned (pgV (blankS k l)) ∧ Below w.heap.size w w' := by
  go_enter Try.func46, Try.ntmps46
  go_wp2_with (first | (refine wpList_new_sh _ rfl rfl ?_; first | (have := N1; intro w2 b2 N2; have c0 := N2.sh.cell (j := 0) (by omega); have c1 := N2.sh.cell (j := 1) (by omega); have c3 := N2.sh.cell (j := 3) (by omega); have u0 := N2.sh.unfrozen 0; have u1 := N2.sh.unfrozen 1; have u3 := N2.sh.unfrozen 3) | (intro w1 b1 N1)) | (refine wpList_load_sh _ rfl _ rfl _ rfl (blankS k l) (blank_put N2.sh hk hl).sh ?_; have P3 := blank_put N2.sh hk hl; generalize World.setCell _ ⟨b2, 3, none⟩ _ = w3 at P3 ⊢) | (refine wpList_put_sh _ rfl _ _ rfl rfl (t := blankS k l) rfl ((N1.sh.below N2.below).off P3.off ?_) (blankS_length k l) ?_; intro e; have z1 := N1.sh.lt; have z2 := N2.le; omega; intro w4 P4))
  refine bodyPost_ret (results_cell_row rfl _ _ b1 63 (pgA (blankS k l)) (0, 0) _ rfl P4.sh.blk row_sheet rfl (info_pg (blankS_length k l))) rfl ?_
  have z1 := N1.below.size
  have z2 := N2.below.size
  have z3 := P3.off.size
  have z4 := N2.le
  exact ⟨rfl, N1.below.trans ((N2.below.mono z1).trans ((P3.below (by omega) (by omega)).trans (P4.below N1.le (by omega))))⟩
end
end Go.Proofs.Ytmoognjegjeegaa
