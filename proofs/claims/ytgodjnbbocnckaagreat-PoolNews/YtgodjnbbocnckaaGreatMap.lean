/- Flush, Need, Bound, drop, Cut. Bound, drop, Cut. Cut, Need. Read, Records. Records: a slice of records of the call's own. Records. A log and what stands on its disk: ONE predicate, and what each call makes of it. The law's few: a record of at most 2 images, and of at most 3 transactions. The law's awake: chapter 8's example. A store on a disk that a call owns: pages written and synced; rules for structs in blocks of their own. A pool in memory, as ONE predicate; its small calls: isMade, isDirty, find, pick. DERIVED: THE SHELF's CONTRACTS AT THIS DUMP, IN PLAIN WORDS (tools/lay-plain.mjs out of 'TryzShelfF.lean', which tools/lay-shelf.mjs wrote): THE SAME DECLARATIONS UNDER THE SAME NAMES: 'import', 'namespace', 'open', 'def', 'theorem' AND NOTHING ELSE: no command of the shelf's: FOR A HAND-IN. Each laying: the table of numbers ('.._ren') and one theorem, a field a fact of the dump's own or the kernel's comparison; each contract: ONE APPLICATION. The dirty frames, gathered and sorted by their pages: dirtyOf. The dirty frames: dirtyOf. -/
import Derived.Test.YtgodjnbbocnckaaGreatMao
import Derived.Test.YtgodjnbbocnckaaGreatMaa
import Derived.Test.YtgodjnbbocnckaaGreatMak
import Derived.Test.YtgodjnbbocnckaaGreatMaf
import Derived.Shelf.SlGeneric
import Derived.Shelf.SlSortCmp.NoneTotal
import Derived.Ground.SlsfProg
import Derived.Test.YtgodjnbbocnckaaGreatProg
namespace Go.Proofs.YtgodjnbbocnckaaGreat
open Go.RowKit Go.Maps Go.ChangeMaps
set_option linter.unusedVariables false
set_option linter.unusedSimpArgs false
set_option maxRecDepth 100000

section
variable {B l k db bs sc run dur : Nat} {w w' w0 : World} {S S' : Dk} {fs gs : List ByteArray} {dead : Bool}
set_option maxHeartbeats 1000000 in
theorem flush_same (h : Lx B w l k S (lgR db bs sc run fs dur false)) (hf : Fit sc fs) (hd : dur = (cat fs).size) : Calls Tryz.prog 101 #[.pointer (some ⟨l, 0, none⟩)] w fun e w' => e = .returned (.int .i64 0) ∧ Below w.heap.size w w' := by
  have h1 := hf.sz
  have h2 := hf.s1
  have CI : Hid (Calls Tryz.prog 54 #[.pointer (some ⟨l, 0, none⟩)] w fun e w' => e = .returned (.bool true) ∧ w' = w) := isOpen_any h.g
  have CE : Hid (∀ wx, Lx B wx l k S (lgR db bs sc run fs dur false) → Calls Tryz.prog 42 #[.pointer (some ⟨l, 0, none⟩)] wx fun e w' => e = .returned (.int .i64 ((dur : Int) + 1)) ∧ w' = wx) := fun wx hx => by
    rw [hd]; rw [hd] at hx
    exact End_any hx.g (by show (cat fs).size ≤ 1000000; omega)
  have c9 : w.cell? ⟨l, 9, none⟩ = some (.bool false) := h.g.c9
  have c8 : w.cell? ⟨l, 8, none⟩ = some (.int .i64 ((dur : Int) + 1)) := h.g.c8
  have H : Hid (Lx B w l k S (lgR db bs sc run fs dur false)) := h
  clear h hf hd h1 h2
  generalize (dur : Int) + 1 = D at *
  go_enter Tryz.func101, Tryz.ntmps101
  go_wp2_with (go_at_call 54; refine CI.out.mono ?_; rintro e w0 ⟨rfl, rfl⟩)
  go_quiet ((go_at_call 42; exact Calls.quiet_of_same (CE.out _ (H.out.drewN _))))
  go_wp2
  go_ret
  exact ⟨rfl, Sm.below_dr (Below.refl _ _) nq⟩
/-- What Flush comes to. -/
structure FlS (B : Nat) (w w' : World) (l k : Nat) (S S' : Dk) (db bs sc run : Nat) (fs : List ByteArray) (dur : Nat) (x : Int) : Prop where
  lx : Lx B w' l (k + sc + 1) S' (lgR db bs sc run fs (if x = 0 then (cat fs).size else dur) (x != 0))
  kp : Kp isA B w w'
  ld : Laid S S' (nw bs (cat fs) run (dur / 58) (((cat fs).size - 1) / 58 + 1)) x
set_option maxHeartbeats 4000000 in
theorem flush_any (h : Lx B w l k S (lgR db bs sc run fs dur false)) (hk : k ≤ 30000) (hf : Fit sc fs) (hd : dur < (cat fs).size) (hr : run < 4294967296) (hfit : bs + sc ≤ S.n) (hu : S.up = true) : Calls Tryz.prog 101 #[.pointer (some ⟨l, 0, none⟩)] w fun e w' => ∃ S' x, e = .returned (.int .i64 x) ∧ FlS B w w' l k S S' db bs sc run fs dur x := by
  have h1 := hf.sz
  have h2 := hf.s1
  have CI : Hid (Calls Tryz.prog 54 #[.pointer (some ⟨l, 0, none⟩)] w fun e w' => e = .returned (.bool true) ∧ w' = w) := isOpen_any h.g
  have CE : Hid (∀ wx k' S1 b, Lx B wx l k' S1 (lgR db bs sc run fs dur b) → Calls Tryz.prog 42 #[.pointer (some ⟨l, 0, none⟩)] wx fun e w' => e = .returned (.int .i64 (((cat fs).size : Int) + 1)) ∧ w' = wx) := fun wx k' S1 b hx => End_any hx.g (by show (cat fs).size ≤ 1000000; omega)
  have CS : Hid (∀ wx, Lx B wx l k S (lgR db bs sc run fs dur false) → Calls Tryz.prog 56 #[.pointer (some ⟨l, 5, none⟩)] wx fun v w' => v = .returned (.string (cat fs)) ∧ Lx B w' l k S (lgR db bs sc run fs dur false) ∧ Kp isL B wx w') := fun wx hx => by
    refine (String_log hx.g).mono ?_
    rintro v w' ⟨hv, g1, k1⟩
    exact ⟨hv, hx.kept rfl g1 k1, k1⟩
  have C1 : Hid (∀ wx, Calls Tryz.prog 73 #[.int .i64 ((dur : Int) + 1)] wx fun v w' => v = .returned (.int .i64 ((dur / 58 : Nat) : Int)) ∧ w' = wx) := fun wx => by
    have := sectorOf_any ((dur : Int) + 1) (by omega) (by omega) wx
    rw [show ((dur : Int) + 1 - 1) / 58 = ((dur / 58 : Nat) : Int) by omega] at this
    exact this
  have C2 : Hid (∀ wx, Calls Tryz.prog 73 #[.int .i64 (((cat fs).size : Int) + 1 - 1)] wx fun v w' => v = .returned (.int .i64 ((((cat fs).size - 1) / 58 : Nat) : Int)) ∧ w' = wx) := fun wx => by
    have := sectorOf_any (((cat fs).size : Int) + 1 - 1) (by omega) (by omega) wx
    rw [show (((cat fs).size : Int) + 1 - 1 - 1) / 58 = ((((cat fs).size - 1) / 58 : Nat) : Int) by omega] at this
    exact this
  have CL : Hid (∀ wx, Lx B wx l k S (lgR db bs sc run fs dur false) → Calls Tryz.prog 74 #[.pointer (some ⟨l, 0, none⟩), .string (cat fs), .int .i64 (run : Int), .int .i64 ((dur / 58 : Nat) : Int), .int .i64 (((((cat fs).size - 1) / 58 : Nat) : Int) + 1)] wx fun v w' =>
      ∃ S' x, v = .returned (.int .i64 x) ∧ Lx B w' l (k + sc + 1) S' (lgR db bs sc run fs dur (x != 0)) ∧ Kp isA B wx w' ∧ Laid S S' (nw bs (cat fs) run (dur / 58) (((cat fs).size - 1) / 58 + 1)) x) := fun wx hx => by
    rw [show ((((cat fs).size - 1) / 58 : Nat) : Int) + 1 = ((((cat fs).size - 1) / 58 + 1 : Nat) : Int) by omega]
    refine (lay_any hx (by omega) (bs := bs) rfl (cat fs) (by omega) run _ _ hr (by omega) (by omega) (by omega) (fun i a b => by omega) hu).mono ?_
    rintro v w' ⟨S', x, hv, hl, hk', hL⟩
    exact ⟨S', x, hv, hl.mono (by omega), hk', hL⟩
  have HD : Hid (∀ wx k' S1, Lx B wx l k' S1 (lgR db bs sc run fs dur false) → Lx B (wx.setCell ⟨l, 8, none⟩ (.int .i64 (((cat fs).size : Int) + 1))) l k' S1 (lgR db bs sc run fs (cat fs).size false) ∧ Kp isL B wx (wx.setCell ⟨l, 8, none⟩ (.int .i64 (((cat fs).size : Int) + 1)))) := fun wx k' S1 hx => hx.set rfl rfl rfl (fun p v pv => rfl)
  have H8 : Hid (∀ wx k' S1 b, Lx B wx l k' S1 (lgR db bs sc run fs dur b) → wx.cell? ⟨l, 4, none⟩ = some (.int .i64 (run : Int)) ∧ wx.cell? ⟨l, 8, none⟩ = some (.int .i64 ((dur : Int) + 1))) := fun wx k' S1 b hx => ⟨hx.g.c4, hx.g.c8⟩
  have c9 : w.cell? ⟨l, 9, none⟩ = some (.bool false) := h.g.c9
  have c8 : w.cell? ⟨l, 8, none⟩ = some (.int .i64 ((dur : Int) + 1)) := h.g.c8
  have H : Hid (Lx B w l k S (lgR db bs sc run fs dur false)) := h
  have hle := h.le
  have t1 : ((dur : Int) + 1 == ((cat fs).size : Int) + 1) = false := by simp; omega
  have hE0 : (1 : Int) ≤ ((cat fs).size : Int) := by omega
  have hE1 : ((cat fs).size : Int) ≤ 1000000 := by omega
  have hb0 : (0 : Int) ≤ ((((cat fs).size - 1) / 58 : Nat) : Int) := by omega
  have hb1 : ((((cat fs).size - 1) / 58 : Nat) : Int) ≤ 10000 := by omega
  clear h hf hd h1 h2 hk hr hfit hu
  have HF : Hid (∀ (wz : World) (S2 : Dk) (x : Int), Lx B wz l (k + sc + 1) S2 (lgR db bs sc run fs (if x = 0 then (cat fs).size else dur) (x != 0)) → Kp isA B w wz → Laid S S2 (nw bs (cat fs) run (dur / 58) (((cat fs).size - 1) / 58 + 1)) x → FlS B w wz l k S S2 db bs sc run fs dur x) := fun wz S2 x q1 q2 q3 => ⟨q1, q2, q3⟩
  generalize hX : ((((cat fs).size - 1) / 58 : Nat) : Int) = b0 at *
  generalize hY : ((dur / 58 : Nat) : Int) = a0 at *
  clear hX hY
  generalize hD : (dur : Int) + 1 = D at *
  clear hD
  generalize hEE : ((cat fs).size : Int) + 1 = E at *
  have hE2 : 2 ≤ E := by omega
  have hE3 : E ≤ 1000001 := by omega
  clear hE0 hE1 hEE
  have hw1 : IntKind.i64.wrap (E - 1) = E - 1 := by rw [IntKind.wrap_i64]; omega
  have hw2 : IntKind.i64.wrap (b0 + 1) = b0 + 1 := by rw [IntKind.wrap_i64]; omega
  go_enter Tryz.func101, Tryz.ntmps101
  go_wp2_with (go_at_call 54; refine CI.out.mono ?_; rintro e w0 ⟨rfl, rfl⟩)
  go_quiet ((go_at_call 42; exact Calls.quiet_of_same (CE.out _ _ _ _ (H.out.drewN _))))
  go_wp2
  have hd := (H.out.drewN nq).drew
  have bd : Below w0.heap.size w0 (w0.drewN nq).drew := (Sm.below_dr (Below.refl _ _) nq).drew
  have HK : Hid (Kp isA B w0 (w0.drewN nq).drew) := Kp.of_below bd hle
  obtain ⟨d4, d8⟩ := H8.out _ _ _ _ hd
  clear bd
  go_region_held3 (fun W => W.cell? ⟨l, 4, none⟩ = some (.int .i64 (run : Int)) ∧ W.cell? ⟨l, 8, none⟩ = some (.int .i64 D)) (first | exact ⟨keep1, keep2⟩ | exact ⟨d4, d8⟩ | go_keep) (first
    | (go_at_call 56; refine (CS.out _ hd).mono ?_; rintro e wA ⟨rfl, hn, kA⟩; have HKn : Hid (Kp isA B w0 wA) := HK.out.trans kA.l; clear hd HK; have hd := hn; have HK := HKn; clear hn HKn; obtain ⟨keep1, keep2⟩ := H8.out _ _ _ _ hd)
    | (go_at_call 73; refine (C1.out _).mono ?_; clear C1; rintro e wB ⟨rfl, rfl⟩)
    | (go_at_call 42; refine (CE.out _ _ _ _ hd).mono ?_; rintro e wC ⟨rfl, rfl⟩)
    | (go_at_call 73; refine (C2.out _).mono ?_; clear C2; rintro e wD ⟨rfl, rfl⟩)
    | (go_at_call 74; refine (CL.out _ hd).mono ?_; rintro e wE ⟨S2, x, rfl, hn, kE, hL⟩; have HKn : Hid (Kp isA B w0 wE) := HK.out.trans kE; clear hd HK; have hd := hn; have HK := HKn; clear hn HKn; obtain ⟨keep1, keep2⟩ := H8.out _ _ _ _ hd))
  clear keep1 keep2 d4 d8
  have e9 := hd.g.f 8
  by_cases hx : x = 0
  · subst hx
    have e8 := (H8.out _ _ _ _ hd).2
    have HX : Hid _ := hd
    clear hd
    go_wp2_with (go_at_call 42; refine (CE.out _ _ _ _ HX.out).mono ?_; rintro e wF ⟨rfl, rfl⟩)
    go_ret
    obtain ⟨q1, q2⟩ := HD.out _ _ _ HX.out
    exact ⟨S2, 0, rfl, HF.out _ _ _ q1 (HK.out.trans q2.l) hL⟩
  · have hx' : (x != 0) = true := by simpa using hx
    have HX : Hid _ := hd
    clear hd
    go_wp2
    go_ret
    exact ⟨S2, x, rfl, HF.out _ _ _ (by rw [if_neg hx]; exact HX.out) HK.out hL⟩
end
end Go.Proofs.YtgodjnbbocnckaaGreat

namespace Go.Proofs.YtgodjnbbocnckaaGreat
open Go.RowKit Go.Maps Go.ChangeMaps
set_option linter.unusedVariables false
set_option linter.unusedSimpArgs false
set_option maxRecDepth 100000

section
variable {B l k db bs sc run dur : Nat} {w w' w0 : World} {S S' : Dk} {fs gs : List ByteArray} {dead : Bool}
def bnd (fs : List ByteArray) (x : Int) : Bool := (plc 1 fs).contains x || decide (x = ((cat fs).size : Int) + 1)
theorem bnd_iff {fs : List ByteArray} {x : Int} : bnd fs x = true ↔ ∃ i, i ≤ fs.length ∧ x = ((1 + off fs i : Nat) : Int) := by
  unfold bnd
  rw [Bool.or_eq_true, plc_has, decide_eq_true_eq]
  constructor
  · rintro (⟨i, hi, e⟩ | e)
    · exact ⟨i, by omega, e⟩
    · exact ⟨fs.length, Nat.le_refl _, by rw [off_all]; omega⟩
  · rintro ⟨i, hi, e⟩
    rcases Nat.lt_or_ge i fs.length with h | h
    · exact Or.inl ⟨i, h, e⟩
    · have : i = fs.length := by omega
      subst this
      rw [off_all] at e
      exact Or.inr (by omega)
theorem Lx.row {R : Lr} (h : Lx B w l k S R) : ∃ a c, w.cell? ⟨l, 7, none⟩ = some (.slice a R.ps.length c) ∧ OwnI B w (.slice a R.ps.length c) R.ps := h.g.c7
theorem fit_len {fs : List ByteArray} (hf : Fit sc fs) : (plc 1 fs).length ≤ 70000 := by
  have := cat_len hf.frm
  have := hf.sz
  have := hf.s1
  rw [plc_length]; omega
theorem sliceN_to {a : Option Addr} {n c : Nat} (i : Nat) (hi : i ≤ c) (hsp : ∀ ad, a = some ad → ad.spot = none) (W : World) : (Instr.slice 97 (.slice a n c) none (some (.int .i64 (i : Int))) none).run Tryz.prog W = .ok (.slice a i c) W := by
  have hr := run_slice_h (P := Tryz.prog) W 97 a n c (by kernel_rfl) .i64 (i : Int) (by omega) (by omega)
  have hz : ∀ w, (Go.sizeOf (Tryz.prog.elem 97)).run Tryz.prog w = .ok 1 w := fun w => by kernel_rfl
  rw [hr, hz]
  simp only [Result.andThen, sliced, Int.toNat_natCast, Nat.sub_zero, Nat.zero_mul]
  cases a with
  | none => split <;> rfl
  | some ad =>
    obtain ⟨b, off, sp⟩ := ad
    have := hsp _ rfl
    dsimp only at this
    subst this
    split
    · rfl
    · simp [Addr.add_mid]
theorem OwnI.take {a : Option Addr} {c : Nat} {ps : List Int} (h : OwnI B w (.slice a ps.length c) ps) {i : Nat} (hi : i ≤ ps.length) : OwnI B w (.slice a i c) (ps.take i) ∧ i ≤ c ∧ (∀ ad, a = some ad → ad.spot = none) := by
  have hl : (ps.take i).length = i := by rw [List.length_take]; omega
  rcases h.row.2 with ⟨e, hn⟩ | ⟨g, cap, cur, e, hbg, hgg, hnc, hcm, hcs, htake⟩
  · injection e with e1 e2 e3
    subst e1 e3
    have : i = 0 := by omega
    subst this
    refine ⟨⟨?_⟩, by omega, (fun ad e => by cases e)⟩
    rw [List.take_zero]
    exact ⟨rfl, Or.inl ⟨rfl, rfl⟩⟩
  · injection e with e1 e2 e3
    subst e1 e3
    refine ⟨⟨?_⟩, by omega, (fun ad e => by cases e; rfl)⟩
    rw [hl]
    refine ⟨by simp [iv]; omega, Or.inr ⟨g, c, cur, rfl, hbg, hgg, by omega, hcm, hcs, ?_⟩⟩
    have : iv (ps.take i) = (iv ps).take i := by simp [iv, List.map_take]
    rw [this, ← htake, List.take_take]
    congr 1
    omega
theorem cat_take (fs : List ByteArray) (i : Nat) : (cat fs).extract 0 (off fs i) = cat (fs.take i) := by
  have : cat fs = cat (fs.take i) ++ cat (fs.drop i) := by rw [← cat_append, List.take_append_drop]
  rw [this]
  unfold off
  exact ext_left _ _
end
end Go.Proofs.YtgodjnbbocnckaaGreat

namespace Go.Proofs.YtgodjnbbocnckaaGreat
open Go.RowKit Go.Maps Go.ChangeMaps
set_option linter.unusedVariables false
set_option linter.unusedSimpArgs false
set_option maxRecDepth 100000

section
variable {B l k db bs sc run dur : Nat} {w w' w0 : World} {S S' : Dk} {fs gs : List ByteArray} {dead : Bool}
/-- What Cut comes to. -/
def CutD (S S' : Dk) (bs sc r' : Nat) (t : ByteArray) (dur : Nat) (x : Int) : Prop := (sc ≤ min dur t.size / 58 ∧ x = 0 ∧ S' = S) ∨ (min dur t.size / 58 < min (t.size / 58 + 1) sc ∧ Laid S S' (nw bs t r' (min dur t.size / 58) (min (t.size / 58 + 1) sc)) x)
theorem need_near (h : Lx B w l k S (lgR db bs sc run fs dur dead)) (x : Int) (hx : x < (dur : Int) + 1) : Calls Tryz.prog 80 #[.pointer (some ⟨l, 0, none⟩), .int .i64 x] w fun e w' => e = .returned (.int .i64 0) ∧ w' = w := by
  have CI : Hid (Calls Tryz.prog 54 #[.pointer (some ⟨l, 0, none⟩)] w fun e w' => e = .returned (.bool true) ∧ w' = w) := isOpen_any h.g
  have c8 : w.cell? ⟨l, 8, none⟩ = some (.int .i64 ((dur : Int) + 1)) := h.g.c8
  clear h
  generalize (dur : Int) + 1 = D at *
  go_enter Tryz.func80, Tryz.ntmps80
  go_wp2_with (go_at_call 54; refine CI.out.mono ?_; rintro e w0 ⟨rfl, rfl⟩)
  go_ret
  exact ⟨rfl, rfl⟩
theorem need_far (h : Lx B w l k S (lgR db bs sc run fs dur dead)) (x : Int) (hx : ¬ x < (dur : Int) + 1) {P : Int → World → Prop} (hC : Calls Tryz.prog 101 #[.pointer (some ⟨l, 0, none⟩)] w fun e w' => ∃ y, e = .returned (.int .i64 y) ∧ P y w') : Calls Tryz.prog 80 #[.pointer (some ⟨l, 0, none⟩), .int .i64 x] w fun e w' => ∃ y, e = .returned (.int .i64 y) ∧ P y w' := by
  have CI : Hid (Calls Tryz.prog 54 #[.pointer (some ⟨l, 0, none⟩)] w fun e w' => e = .returned (.bool true) ∧ w' = w) := isOpen_any h.g
  have c8 : w.cell? ⟨l, 8, none⟩ = some (.int .i64 ((dur : Int) + 1)) := h.g.c8
  have HC : Hid (Calls Tryz.prog 101 #[.pointer (some ⟨l, 0, none⟩)] w fun e w' => ∃ y, e = .returned (.int .i64 y) ∧ P y w') := hC
  clear h hC
  generalize (dur : Int) + 1 = D at *
  go_enter Tryz.func80, Tryz.ntmps80
  go_wp2_with (first
    | (go_at_call 54; refine CI.out.mono ?_; rintro e w0 ⟨rfl, rfl⟩)
    | (go_at_call 101; refine HC.out.mono ?_; rintro e w1 ⟨y, rfl, hP⟩))
  go_ret
  exact ⟨y, rfl, hP⟩
/-! ### Read -/
set_option maxHeartbeats 1000000 in
theorem read_out (h : Lx B w l k S (lgR db bs sc run fs dur dead)) (hf : Fit sc fs) (x : Int) (hx : x < 1 ∨ ((cat fs).size : Int) + 1 ≤ x) : Calls Tryz.prog 22 #[.pointer (some ⟨l, 0, none⟩), .int .i64 x] w fun e w' => e = .returned (.tuple #[.agg (zS.A nilV nilV), .int .i64 0, .int .i64 8]) ∧ Below w.heap.size w w' := by
  have h1 := hf.sz
  have h2 := hf.s1
  have CI : Hid (∀ wx, Below w.heap.size w wx → Calls Tryz.prog 54 #[.pointer (some ⟨l, 0, none⟩)] wx fun e w' => e = .returned (.bool true) ∧ w' = wx) := fun wx hx => isOpen_any (h.below hx).g
  have CE : Hid (∀ wx, Below w.heap.size w wx → Calls Tryz.prog 42 #[.pointer (some ⟨l, 0, none⟩)] wx fun e w' => e = .returned (.int .i64 (((cat fs).size : Int) + 1)) ∧ w' = wx) := fun wx hx => End_any (h.below hx).g (by show (cat fs).size ≤ 1000000; omega)
  clear h hf h1 h2
  generalize ((cat fs).size : Int) + 1 = E at *
  by_cases h3 : x < 1
  · clear hx
    go_enter Tryz.func22, Tryz.ntmps22
    go_wp2_with (first
      | (refine wpList_new_rc _ rfl rfl ?_; intro w1 b4 N1)
      | (go_at_call 54; refine (CI.out _ N1.below).mono ?_; rintro e w2 ⟨rfl, rfl⟩)
      | (refine wpList_put_rc (s' := zS) (I' := nilV) (T' := nilV) _ rfl (.tmp 4) (.tmp 22) rfl rfl rfl N1.rc rfl rfl ?_; intro w6 P6))
    refine bodyPost_ret (results_rc3 rfl _ _ rfl P6.rc) rfl ?_
    exact ⟨rfl, N1.below.trans (P6.below (by have := N1.eq; omega) N1.below.size)⟩
  · have h4 : E ≤ x := by omega
    clear hx
    go_enter Tryz.func22, Tryz.ntmps22
    go_wp2_with (first
      | (refine wpList_new_rc _ rfl rfl ?_; intro w1 b4 N1)
      | (go_at_call 54; refine (CI.out _ N1.below).mono ?_; rintro e w2 ⟨rfl, rfl⟩)
      | (go_at_call 42; refine (CE.out _ N1.below).mono ?_; rintro e w3 ⟨rfl, rfl⟩)
      | (refine wpList_put_rc (s' := zS) (I' := nilV) (T' := nilV) _ rfl (.tmp 4) (.tmp 22) rfl rfl rfl N1.rc rfl rfl ?_; intro w6 P6))
    refine bodyPost_ret (results_rc3 rfl _ _ rfl P6.rc) rfl ?_
    exact ⟨rfl, N1.below.trans (P6.below (by have := N1.eq; omega) N1.below.size)⟩
end
end Go.Proofs.YtgodjnbbocnckaaGreat

namespace Go.Proofs.YtgodjnbbocnckaaGreat
open Go.RowKit Go.Maps Go.ChangeMaps
set_option linter.unusedVariables false
set_option linter.unusedSimpArgs false
set_option maxRecDepth 100000

/-- Blocks of records. -/
def isR : Obj → Prop
  | .cells _ t _ => t = 51
  | _ => False
section
variable {B l k db bs sc run dur : Nat} {w w' w0 w1 w2 w5 w6 : World} {S S' : Dk} {fs gs : List ByteArray} {dead : Bool} {R : Lr} {A : Obj → Prop}
theorem Lx.keptR (h : Lx B w l k S R) {B' : Nat} (hb : Kp isR B' w w') : Lx B w' l k S R := by
  obtain ⟨lb, mb, m, d1, d2, d3, d4⟩ := h.d.dsk
  obtain ⟨p, v, pv, h1, h2, h3, h4⟩ := h.g.ex
  have e1 : w'.heap[lb]? = w.heap[lb]? := by
    obtain ⟨cur, fz, e2⟩ := d1.row.ty
    rw [e2]; exact hb.block _ _ e2 (by simp [isR])
  have e3 : w'.heap[mb]? = w.heap[mb]? := by
    obtain ⟨es, c, e2⟩ := d1.map.is
    rw [e2]; exact hb.block _ _ e2 (by simp [isR])
  refine ⟨⟨⟨lb, mb, m, ⟨hb.block _ _ d1.blk (by simp [isR]), d1.row.of_block e1 hb.size, d1.map.of_block e3, d1.ne⟩, d2, d3, d4⟩, h.d.q, h.d.hd, Nat.le_trans h.d.lt hb.size⟩, ?_⟩
  exact ⟨⟨p, v, pv, hb.block l _ h1 (by simp [isR]), h2, ownF_of h3 (fun k cur fz e => hb.block k _ e (by simp [isR])), h4.of_block (fun k cur fz e => hb.block k _ e (by simp [isR]))⟩, h.g.ge, Nat.le_trans h.g.le hb.size⟩
theorem put_kp {b : Nat} {s0 s : Sc} {I0 T0 I T : Value} (hr : RcAt w b s0 I0 T0) (P : PutR w w' b s I T) (hB : B ≤ b) (hw : B ≤ w.heap.size) : Kp isR B w w' := by
  refine ⟨P.below hB hw, fun j o e hn => ?_⟩
  refine (P.off.block j (lt_of_some e) (fun e2 => ?_)).trans e
  subst e2
  rw [hr.blk] at e
  cases e
  exact hn rfl
theorem Kp.putR {b : Nat} {s : Sc} {I T : Value} (h : Kp A B w w5) (P : PutR w5 w6 b s I T) (hb : w.heap.size ≤ b) (hB : B ≤ w.heap.size) : Kp A B w w6 :=
  ⟨h.bel.trans (P.below (Nat.le_trans hB hb) (Nat.le_trans hB h.size)), fun j o e hn => (P.off.block j (lt_of_some (h.block j o e hn)) (fun e2 => by have := lt_of_some e; omega)).trans (h.block j o e hn)⟩
set_option maxHeartbeats 2000000 in
theorem read_ok (h : Lx B w l k S (lgR db bs sc run fs dur dead)) (hf : Fit sc fs) (x : Int) (hx1 : 1 ≤ x) (hx2 : x < ((cat fs).size : Int) + 1) {m : Rm} {n : Int} (ho : openM (cat fs) (x - 1) = (m, n, 0)) (hn0 : 0 ≤ n) (hn1 : n ≤ 1000000) :
    Calls Tryz.prog 22 #[.pointer (some ⟨l, 0, none⟩), .int .i64 x] w fun e w' => (∃ v, e = .returned (.tuple #[v, .int .i64 (x + n), .int .i64 0]) ∧ RecF w' v m w.heap.size) ∧ Lx B w' l k S (lgR db bs sc run fs dur dead) ∧ Kp isL B w w' ∧ Ce w w' := by
  have h1 := hf.sz
  have h2 := hf.s1
  have CI : Hid (∀ wx, Below w.heap.size w wx → Calls Tryz.prog 54 #[.pointer (some ⟨l, 0, none⟩)] wx fun e w' => e = .returned (.bool true) ∧ w' = wx) := fun wx hx => isOpen_any (h.below hx).g
  have CE : Hid (∀ wx, Below w.heap.size w wx → Calls Tryz.prog 42 #[.pointer (some ⟨l, 0, none⟩)] wx fun e w' => e = .returned (.int .i64 (((cat fs).size : Int) + 1)) ∧ w' = wx) := fun wx hx => End_any (h.below hx).g (by show (cat fs).size ≤ 1000000; omega)
  have CS : Hid (∀ wx, Below w.heap.size w wx → Calls Tryz.prog 56 #[.pointer (some ⟨l, 5, none⟩)] wx fun v w' => v = .returned (.string (cat fs)) ∧ Lx B w' l k S (lgR db bs sc run fs dur dead) ∧ Kp isL B wx w' ∧ Ce wx w') := fun wx hx => by
    refine (String_log2 (h.below hx).g).mono ?_
    rintro v w' ⟨hv, g1, k1, q1⟩
    exact ⟨hv, (h.below hx).kept rfl g1 k1, k1, q1⟩
  have CO : Hid (∀ wx, Calls Tryz.prog 55 #[.string (cat fs), .int .i64 (x - 1)] wx fun e w' => (∃ v, e = .returned (.tuple #[v, .int .i64 n, .int .i64 0]) ∧ RecF w' v m wx.heap.size) ∧ Below wx.heap.size wx w') := fun wx => by
    have := Open_any (w := wx) (cat fs) (x - 1) (by omega)
    rw [ho] at this
    exact this
  have hle := h.le
  have t1 : ¬ x < 1 := by omega
  have t2 : ¬ ((cat fs).size : Int) + 1 ≤ x := by omega
  have hxb : x ≤ 1000000 := by omega
  clear h hf h1 h2 ho
  generalize ((cat fs).size : Int) + 1 = E at *
  generalize hT : cat fs = t at CS CO
  clear hT
  obtain ⟨s9, l9, g9⟩ := m
  have hw1 : IntKind.i64.wrap (x - 1) = x - 1 := by rw [IntKind.wrap_i64]; omega
  have hw2 : IntKind.i64.wrap (x + n) = x + n := by rw [IntKind.wrap_i64]; omega
  go_enter Tryz.func22, Tryz.ntmps22
  go_wp2_with (first
    | (have := N1; refine wpList_new_rc _ rfl rfl ?_; intro w4 b7 N7)
    | (refine wpList_new_rc _ rfl rfl ?_; intro w1 b4 N1)
    | (go_at_call 54; refine (CI.out _ N1.below).mono ?_; rintro e w9 ⟨rfl, rfl⟩)
    | (go_at_call 42; refine (CE.out _ N1.below).mono ?_; rintro e w8 ⟨rfl, rfl⟩)
    | (go_at_call 56; refine (CS.out _ N1.below).mono ?_; rintro e w2 ⟨rfl, H2, k2, ce2⟩; have rc2 : RcAt w2 b4 zS nilV nilV := ⟨k2.block _ _ N1.rc.blk (by simp [isL])⟩)
    | (go_at_call 55; refine (CO.out _).mono ?_; rintro e w3 ⟨⟨v, rfl, hv⟩, b3⟩; have rc3 := rc2.below b3; obtain ⟨I, T, rfl, hI, hT⟩ := hv.ex; dsimp only at hI hT)
    | (refine wpList_at (Op.store 51 (.tmp 7) (.tmp 31)) rfl ?_; refine wpList_put_rc (s' := s9) (I' := I) (T' := T) _ rfl (.tmp 7) (.tmp 31) rfl rfl rfl N7.rc hI.slI.one hT.slT.one ?_; intro w5 P7; have b35 : Below w3.heap.size w3 w5 := N7.below.trans (P7.below (by have := N7.eq; omega) N7.below.size); have rc5 := rc3.below b35; have I5 := hI.below b35; have T5 := hT.below b35)
    | (refine wpList_load_rc _ rfl (.tmp 7) rfl rfl P7.rc ?_)
    | (refine wpList_at (Op.store 51 (.tmp 4) (.tmp 38)) rfl ?_; refine wpList_put_rc (s' := s9) (I' := I) (T' := T) _ rfl (.tmp 4) (.tmp 38) rfl rfl rfl rc5 hI.slI.one hT.slT.one ?_; intro w6 P6))
  refine bodyPost_ret (results_rc3 rfl _ _ rfl P6.rc) rfl ?_
  have e4 := N1.eq
  have z4 := N1.rc.lt
  have b25 : Below w2.heap.size w2 w5 := thn b3 b35
  have K5 : Kp isL B w w5 := ((Kp.of_below N1.below hle).trans k2).below b25 hle
  have H5 := H2.below b25
  have hk2 := k2.size
  refine ⟨⟨_, rfl, I, T, rfl, (I5.off P6.off (by omega)).mono (by omega), (T5.off P6.off (by omega)).mono (by omega)⟩, ?_, K5.putR P6 (by omega) hle, ?_⟩
  · exact H5.keptR (put_kp (B := B) rc5 P6 (by omega) H5.le)
  · have c5 : Ce w w5 := ((Ce.of_below N1.below).trans ce2).trans (Ce.of_below b25)
    exact ⟨Nat.le_trans c5.size P6.off.size, fun p hp => (World.cell?_of_block (P6.off.block _ (Nat.lt_of_lt_of_le hp c5.size) (by omega))).trans (c5.cell p hp)⟩
end
end Go.Proofs.YtgodjnbbocnckaaGreat

namespace Go.Proofs.YtgodjnbbocnckaaGreat
open Go.RowKit Go.Maps Go.ChangeMaps
set_option linter.unusedVariables false
set_option linter.unusedSimpArgs false
set_option maxRecDepth 100000

abbrev E3 := Sc × Value × Value
def E3.A (e : E3) : List Value := (e.1.A e.2.1 e.2.2).toList
theorem E3.len (e : E3) : e.A.length = 13 := rfl
def flat : List E3 → List Value
  | [] => []
  | e :: l => e.A ++ flat l
theorem flat_append (l m : List E3) : flat (l ++ m) = flat l ++ flat m := by
  induction l with
  | nil => rfl
  | cons e l ih => simp only [List.cons_append, flat, ih, List.append_assoc]
theorem flat_length (l : List E3) : (flat l).length = l.length * 13 := by
  induction l with
  | nil => rfl
  | cons e l ih => simp only [flat, List.length_append, E3.len, ih, List.length_cons]; omega
theorem flat_get (l : List E3) : ∀ (i : Nat) (hi : i < l.length) (j : Nat), j < 13 → (flat l)[i * 13 + j]? = (l[i].A)[j]? := by
  induction l with
  | nil => intro i hi; exact absurd hi (Nat.not_lt_zero _)
  | cons e l ih =>
    intro i hi j hj
    cases i with
    | zero => rw [flat, Nat.zero_mul, Nat.zero_add, List.getElem?_append_left (by rw [E3.len]; exact hj)]; rfl
    | succ i =>
      have := ih i (by simpa using hi) j hj
      rw [flat, List.getElem?_append_right (by rw [E3.len]; omega), E3.len, show (i + 1) * 13 + j - 13 = i * 13 + j by omega, this]
      rfl
/-- A slice whose block is another than a row's. -/
def Apart (v u : Value) (L : List P2) : Prop := L ≠ [] → ∀ b off n c, u = .slice (some ⟨b, off, none⟩) n c → v.ownBlock ≠ some b
/-- A slice of records of the call's own; their slices are new, too. -/
structure Rcs (B : Nat) (w : World) (v : Value) (ms : List Rm) : Prop where
  ex : ∃ es : List E3, es.length = ms.length ∧ w.ownsRow B 51 13 v ms.length (flat es) ∧ ∀ i, (h1 : i < es.length) → (h2 : i < ms.length) → es[i].1 = ms[i].s ∧ (Fr w es[i].2.1 (encI ms[i].im) B ∧ Fr w es[i].2.2 (encT ms[i].tb) B) ∧ Apart v es[i].2.1 (encI ms[i].im) ∧ Apart v es[i].2.2 (encT ms[i].tb)
section
variable {B C l k db bs sc run dur : Nat} {w w' w0 w1 w2 w5 w6 : World} {S S' : Dk} {fs gs : List ByteArray} {dead : Bool} {R : Lr} {A : Obj → Prop} {v : Value} {ms : List Rm}
theorem Rcs.nil (B : Nat) (w : World) : Rcs B w (.slice none 0 0) [] := ⟨[], rfl, ⟨rfl, Or.inl ⟨rfl, rfl⟩⟩, fun i h => absurd h (Nat.not_lt_zero _)⟩
theorem Cs.ce {a : Option Addr} {L : List P2} (h : Cs w a L) (hc : Ce w w') : Cs w' a L := ⟨fun i hi => by
  obtain ⟨b, off, e, hb, h1, h2⟩ := h.at_ i hi
  exact ⟨b, off, e, Nat.lt_of_lt_of_le hb hc.size, (hc.cell _ hb).trans h1, (hc.cell _ hb).trans h2⟩⟩
theorem Fr.ce {L : List P2} (h : Fr w v L B) (hc : Ce w w') : Fr w' v L B := by
  obtain ⟨a, c, h0, h1, h2⟩ := h.ex
  exact ⟨a, c, h0, h1.ce hc, h2⟩
theorem rcs_ones (es : List E3) (h : ∀ i, (h1 : i < es.length) → es[i].2.1.oneCell' = true ∧ es[i].2.2.oneCell' = true) : True := trivial
/-- Behind a call that leaves old cells and blocks of records alone. -/
theorem Rcs.kept (h : Rcs B w v ms) (hc : Ce w w') (hk : ∀ (j : Nat) (cur : Array Value) (fz : Nat × Nat), w.heap[j]? = some (Obj.cells cur 51 fz) → w'.heap[j]? = some (Obj.cells cur 51 fz)) : Rcs B w' v ms := by
  obtain ⟨es, h1, ⟨h2, h3⟩, h4⟩ := h.ex
  refine ⟨es, h1, ⟨h2, ?_⟩, fun i a b => ?_⟩
  · rcases h3 with h3 | ⟨g, cap, cur, e, hB, hg, h5⟩
    · exact Or.inl h3
    · exact Or.inr ⟨g, cap, cur, e, hB, hk _ _ _ hg, h5⟩
  · obtain ⟨q1, ⟨q2, q3⟩, q4⟩ := h4 i a b
    exact ⟨q1, ⟨q2.ce hc, q3.ce hc⟩, q4⟩
theorem Rcs.below (h : Rcs B w v ms) (hb : Below w.heap.size w w') : Rcs B w' v ms := h.kept (Ce.of_below hb) (fun j cur fz e => (hb.block j (lt_of_some e)).trans e)
theorem Rcs.slice (h : Rcs B w v ms) : ∃ a c, v = .slice a ms.length c := by
  obtain ⟨es, h1, ⟨h2, h3⟩, h4⟩ := h.ex
  rcases h3 with ⟨rfl, h3⟩ | ⟨g, cap, cur, e, hB, hg, h5⟩
  · exact ⟨none, 0, by rw [h3]⟩
  · exact ⟨_, _, e⟩
/-- A record of the slice: its cells, and what it is. -/
theorem Rcs.at_ {a : Option Addr} {n c : Nat} (h : Rcs B w (.slice a n c) ms) {i : Nat} (hi : i < ms.length) : ∃ g I T, a = some ⟨g, 0, none⟩ ∧ w.rangeAt g (i * 13) ((ms[i].s.A I T).toList) ∧ RecF w (.agg (ms[i].s.A I T)) ms[i] B := by
  obtain ⟨es, h1, ⟨h2, h3⟩, h4⟩ := h.ex
  rcases h3 with ⟨_, h3⟩ | ⟨g, cap, cur, e, hB, hg, h5, h6, h7, h8⟩
  · omega
  · cases e
    have hi1 : i < es.length := by omega
    obtain ⟨q1, ⟨q2, q3⟩, q4⟩ := h4 i hi1 hi
    refine ⟨g, es[i].2.1, es[i].2.2, rfl, ?_, ⟨_, _, rfl, q2, q3⟩⟩
    intro j u hu
    have hj : j < 13 := by
      have := (List.getElem?_eq_some_iff.1 hu).1
      exact this
    rw [Lib.cell_of_heap hg]
    have := flat_get es i hi1 j hj
    rw [← h8, List.getElem?_take, if_pos (by have := flat_length es; have := h2; omega)] at this
    rw [← Array.getElem?_toList, this, ← hu, ← q1]
    rfl
theorem infoRec : ∃ i, Tryz.prog.info? 51 = some i ∧ i.zero = some (.agg (zS.A nilV nilV)) ∧ i.size = 13 ∧ i.bytes = 160 :=
  info_parts (show (Tryz.prog.info? 51).map (fun i => (i.zero, i.size, i.bytes)) = some (some (.agg (zS.A nilV nilV)), 13, 160) by kernel_rfl)
theorem rec_one {m : Rm} {I T : Value} (hI : I.oneCell' = true) (hT : T.oneCell' = true) : ∀ u ∈ (m.s.A I T).toList, u.oneCell' = true := by
  intro u hu
  simp [Sc.A] at hu
  rcases hu with rfl | rfl | rfl | rfl | rfl | rfl | rfl | rfl | rfl | rfl | rfl | rfl | rfl
  all_goals first | rfl | exact hI | exact hT
theorem Fr.grown {u : Value} {L : List P2} (h : Fr w u L B) (ha : Apart v u L) (hg : w.grownBy w' v.ownBlock) : Fr w' u L B := by
  obtain ⟨a, c, h0, h1, h2⟩ := h.ex
  refine ⟨a, c, h0, ⟨fun i hi => ?_⟩, h2⟩
  obtain ⟨b, off, e, hb, q1, q2⟩ := h1.at_ i hi
  have hne : L ≠ [] := fun e => by rw [e] at hi; exact absurd hi (Nat.not_lt_zero _)
  have hbk : w'.heap[b]? = w.heap[b]? := hg.block b hb (fun e2 => ha hne b off _ _ (by rw [h0, e]) e2.symm)
  exact ⟨b, off, e, Nat.lt_of_lt_of_le hb hg.size, (World.cell?_of_block (by exact hbk)).trans q1, (World.cell?_of_block (by exact hbk)).trans q2⟩
theorem Fr.lt {u : Value} {L : List P2} (h : Fr w u L B) (hL : L ≠ []) {b off n c : Nat} (e : u = .slice (some ⟨b, off, none⟩) n c) : b < w.heap.size := by
  obtain ⟨a, c', h0, h1, h2⟩ := h.ex
  have hi : 0 < L.length := List.length_pos_iff.2 hL
  obtain ⟨b', off', e', hb, _⟩ := h1.at_ 0 hi
  rw [h0] at e
  injection e with e1 _ _
  rw [e'] at e1
  injection e1 with e1
  injection e1 with e1
  omega
theorem Fr.apart {u : Value} {L : List P2} (h : Fr w u L C) (hs : ∀ j, v.ownBlock = some j → j < C) : Apart v u L := fun _ b off n c e e2 => by
  obtain ⟨a, c', h0, h1, h2, h3, h4, h5⟩ := h.ex
  rw [h0] at e
  injection e with e1 _ _
  have := h5 b off e1
  have := hs b e2
  omega
theorem open_at {fs : List ByteArray} (hF : ∀ f ∈ fs, Frm f) {i : Nat} (hi : i < fs.length) : openM (cat fs) (off fs i : Int) = (recF fs[i], (fs[i].size : Int), 0) := by
  have e : cat fs = cat (fs.take i) ++ fs[i] ++ cat (fs.drop (i + 1)) := by
    have : fs = fs.take i ++ ([fs[i]] ++ fs.drop (i + 1)) := by
      rw [List.singleton_append, List.getElem_cons_drop, List.take_append_drop]
    conv => lhs; rw [this]
    rw [cat_append, cat_append, cat, cat, app_nil, ByteArray.append_assoc]
  rw [e]
  exact (hF fs[i] (List.getElem_mem _)).open_ _ _
end
end Go.Proofs.YtgodjnbbocnckaaGreat

namespace Go.Proofs.YtgodjnbbocnckaaGreat
open Go.RowKit Go.Maps Go.ChangeMaps
set_option linter.unusedVariables false
set_option linter.unusedSimpArgs false
set_option maxRecDepth 100000

section
variable {B C l k db bs sc run dur : Nat} {w w' w0 w1 w2 w5 w6 : World} {S S' : Dk} {fs gs : List ByteArray} {dead : Bool} {R : Lr} {A : Obj → Prop} {v : Value} {ms : List Rm}
end
end Go.Proofs.YtgodjnbbocnckaaGreat

namespace Go.Proofs.YtgodjnbbocnckaaGreat
open Go.RowKit Go.Maps Go.ChangeMaps
set_option linter.unusedVariables false
set_option linter.unusedSimpArgs false
set_option maxRecDepth 100000

/-- The sectors of a disk. -/
structure Qs (S : Dk) (bs sc r : Nat) (Q : Nat → Sec) : Prop where
  now : ∀ i, i < sc → S.now (bs + i) = encQ (Q i)
  run : ∀ i, i < sc → (Q i).1 ≤ r
  sz : ∀ i, i < sc → (Q i).2.size ≤ 58
  wait : ∀ i, S.wait i = none
/-- A log that is open, and what stands of it: so many of its frames last. -/
structure Lv (B : Nat) (w : World) (l k : Nat) (S : Dk) (db bs sc run : Nat) (fs : List ByteArray) (sure : Nat) : Prop where
  lx : Lx B w l k S (lgR db bs sc run fs (off fs sure) false)
  up : S.up = true
  fit : Fit sc fs
  hs : sure ≤ fs.length
  n : bs + sc ≤ S.n
  r2 : run ≤ 4294967295
  q : ∃ Q, Qs S bs sc run Q ∧ Std Q sc run (cat (fs.take sure))
/-- What stands is a beginning of frames, so many of them at least. -/
structure Wt (S : Dk) (bs sc r : Nat) (fs : List ByteArray) (lo : Nat) : Prop where
  q : ∃ Q, Qs S bs sc r Q ∧ ∀ run, r ≤ run → ∃ x, cat fs = stand Q run sc ++ x ∧ off fs lo ≤ (stand Q run sc).size
section
variable {B l k db bs sc run r r' sure lo : Nat} {w w' w0 : World} {S S' : Dk} {fs gs : List ByteArray} {Q : Nat → Sec}
theorem Qs.lasts (h : Qs S bs sc r Q) {i : Nat} (hi : i < sc) : S.sure (bs + i) = encQ (Q i) := by
  have := h.now i hi
  unfold Dk.now at this
  rw [h.wait] at this
  exact this
theorem fs_split (fs : List ByteArray) (i : Nat) : cat fs = cat (fs.take i) ++ cat (fs.drop i) := by rw [← cat_append, List.take_append_drop]
theorem Lv.pos (h : Lv B w l k S db bs sc run fs sure) : 1 ≤ run := by obtain ⟨Q, _, hs⟩ := h.q; exact hs.pos
theorem Lv.below (h : Lv B w l k S db bs sc run fs sure) (hb : Below w.heap.size w w') : Lv B w' l k S db bs sc run fs sure := ⟨h.lx.below hb, h.up, h.fit, h.hs, h.n, h.r2, h.q⟩
theorem Lv.mono {k' : Nat} (h : Lv B w l k S db bs sc run fs sure) (hk : k ≤ k') : Lv B w l k' S db bs sc run fs sure := ⟨h.lx.mono hk, h.up, h.fit, h.hs, h.n, h.r2, h.q⟩
theorem Lv.wt (h : Lv B w l k S db bs sc run fs sure) : Wt S bs sc run fs sure := by
  obtain ⟨Q, hQ, hs⟩ := h.q
  refine ⟨Q, hQ, fun rn hr => ⟨cat (fs.drop sure), ?_, ?_⟩⟩
  · rw [hs.stands hr]; exact fs_split fs sure
  · rw [hs.stands hr]; exact Nat.le_refl _
theorem Wt.eq (h : Wt S bs sc r fs lo) (h1 : S'.sure = S.sure) (h2 : S'.wait = S.wait) : Wt S' bs sc r fs lo := by
  obtain ⟨Q, hQ, hs⟩ := h.q
  exact ⟨Q, ⟨fun i hi => by have := hQ.now i hi; unfold Dk.now at this ⊢; rw [h1, h2]; exact this, hQ.run, hQ.sz, fun i => by rw [h2]; exact hQ.wait i⟩, hs⟩
theorem Wt.crash (h : Wt S bs sc r fs lo) (x : Int) : Wt (crDk S x) bs sc r fs lo := by
  obtain ⟨Q, hQ, hs⟩ := h.q
  unfold crDk
  split
  · refine ⟨Q, ⟨fun i hi => ?_, hQ.run, hQ.sz, fun i => rfl⟩, hs⟩
    show lossF S.sure S.wait x (bs + i) = _
    unfold lossF
    rw [hQ.wait]
    exact hQ.lasts hi
  · exact ⟨Q, hQ, hs⟩
/-- What is laid comes to the disk. -/
theorem Qs.laid (h : Qs S bs sc r Q) {t : ByteArray} {rr a b : Nat} (hr : r ≤ rr) (hL : Laid S S' (nw bs t rr a b) 0) : Qs S' bs sc rr (putQ Q t rr a b) := by
  obtain ⟨hu, hw, hsu⟩ := hL.ok rfl
  refine ⟨fun i hi => ?_, fun i hi => ?_, fun i hi => ?_, hw⟩
  · unfold Dk.now
    rw [hw, hsu]
    show (nw bs t rr a b (bs + i)).getD (S.now (bs + i)) = _
    unfold nw putQ
    by_cases hc : a ≤ i ∧ i < b
    · rw [if_pos (by omega), if_pos hc, show bs + i - bs = i by omega]; rfl
    · rw [if_neg (by omega), if_neg hc]
      exact h.now i hi
  · unfold putQ
    split
    · exact Nat.le_refl _
    · exact Nat.le_trans (h.run i hi) hr
  · unfold putQ
    split
    · exact part_le t i
    · exact h.sz i hi
/-- Of what is laid some came to the disk, and some did not. -/
theorem Qs.lost (h : Qs S bs sc r Q) {t : ByteArray} {rr a b : Nat} {y : Int} (hr : r ≤ rr) (hL : Laid S S' (nw bs t rr a b) y) (hy : y ≠ 0) : ∃ Q', Qs S' bs sc rr Q' ∧ ∀ i, i < sc → Q' i = Q i ∨ (a ≤ i ∧ i < b ∧ Q' i = (rr, part t i)) := by
  obtain ⟨_, hu, hw⟩ := hL.bad hy
  have hA : AllR (fun j c => ∀ i, i < sc → j = bs + i → c = encQ (Q i) ∨ (a ≤ i ∧ i < b ∧ c = encQ (rr, part t i))) S := by
    refine ⟨fun j i hi e => ?_, fun j c hc => by rw [h.wait] at hc; cases hc⟩
    subst e
    exact Or.inl (h.lasts hi)
  have hB := hL.all _ hA (fun j c hc i hi e => by
    subst e
    unfold nw at hc
    split at hc
    · rename_i hc2
      rw [show bs + i - bs = i by omega] at hc
      injection hc with hc
      exact Or.inr ⟨by omega, by omega, hc.symm⟩
    · cases hc)
  refine ⟨fun i => if S'.sure (bs + i) = encQ (Q i) then Q i else (rr, part t i), ⟨fun i hi => ?_, fun i hi => ?_, fun i hi => ?_, hw⟩, fun i hi => ?_⟩
  · unfold Dk.now
    rw [hw]
    show S'.sure (bs + i) = _
    split
    · rename_i e; exact e
    · rename_i e
      rcases hB.sure (bs + i) i hi rfl with e2 | ⟨_, _, e2⟩
      · exact absurd e2 e
      · exact e2
  · split
    · exact Nat.le_trans (h.run i hi) hr
    · exact Nat.le_refl _
  · split
    · exact h.sz i hi
    · exact part_le t i
  · dsimp only
    split
    · exact Or.inl rfl
    · rename_i e
      rcases hB.sure (bs + i) i hi rfl with e2 | ⟨e3, e4, e2⟩
      · exact absurd e2 e
      · exact Or.inr ⟨e3, e4, rfl⟩
theorem off_take {fs : List ByteArray} {i : Nat} : off (fs.take i) (fs.take i).length = off fs i := by rw [off_all]; rfl
/-- Flush. -/
theorem Lv.flush (h : Lv B w l k S db bs sc run fs sure) (hk : k ≤ 30000) : Calls Tryz.prog 101 #[.pointer (some ⟨l, 0, none⟩)] w fun e w' => ∃ y, e = .returned (.int .i64 y) ∧ ∃ S', (Kp isA B w w' ∧ S'.n = S.n ∧ (S.set = false → y = 0 ∧ S'.set = false)) ∧ ((y = 0 ∧ Lv B w' l (k + sc + 1) S' db bs sc run fs fs.length) ∨ (y = 9 ∧ S'.up = false ∧ Ds B w' db (k + sc + 1) S' ∧ Wt S' bs sc run fs sure)) := by
  obtain ⟨Q, hQ, hstd⟩ := h.q
  have hle := h.lx.le
  have hm := off_mono (l := fs) h.hs
  rw [off_all] at hm
  rcases Nat.lt_or_ge (off fs sure) (cat fs).size with hd | hd
  · refine (flush_any h.lx hk h.fit hd (by have := h.r2; omega) h.n h.up).mono ?_
    rintro e w' ⟨S', x, rfl, hF⟩
    refine ⟨x, rfl, S', ⟨hF.kp, hF.ld.n, hF.ld.calm⟩, ?_⟩
    have hlx := hF.lx
    have hL := hF.ld
    have hT := fs_split fs sure
    by_cases hx : x = 0
    · subst hx
      obtain ⟨hu, hw, _⟩ := hL.ok rfl
      left
      refine ⟨rfl, ?_, hu, h.fit, Nat.le_refl _, by rw [hL.n]; exact h.n, h.r2, ?_⟩
      · rw [off_all]; exact hlx
      · refine ⟨_, hQ.laid (Nat.le_refl _) hL, ?_⟩
        rw [List.take_length]
        exact hstd.flush hT hd h.fit.sz
    · obtain ⟨h9, hu, hw⟩ := hL.bad hx
      right
      refine ⟨h9, hu, hlx.d, ?_⟩
      obtain ⟨Q', hQ', hor⟩ := hQ.lost (Nat.le_refl _) hL hx
      refine ⟨Q', hQ', fun rn hr => ?_⟩
      have hsz : (cat (fs.take sure)).size = off fs sure := rfl
      obtain ⟨y, z, e1, e2⟩ := hstd.grow (T := cat fs) (Q' := Q') (r' := run) hT h.fit.sz hr (Nat.le_refl _) (fun i hi => by
        rcases hor i hi with e | ⟨e3, e4, e⟩
        · exact Or.inl e
        · exact Or.inr ⟨by rw [hsz]; omega, e⟩) (Or.inl rfl)
      exact ⟨z, by rw [e1]; exact e2, by rw [e1, bsz, hsz]; omega⟩
  · have hd2 : off fs sure = (cat fs).size := by omega
    refine (flush_same h.lx h.fit hd2).mono ?_
    rintro e w' ⟨rfl, hb⟩
    have he : sure = fs.length := off_inj h.fit.frm h.hs (Nat.le_refl _) (by rw [hd2, off_all])
    refine ⟨0, rfl, S, ⟨Kp.of_below hb hle, rfl, fun hs => ⟨rfl, hs⟩⟩, Or.inl ⟨rfl, ?_⟩⟩
    have := (h.below hb).mono (k' := k + sc + 1) (by omega)
    rw [he] at this
    exact this
theorem Fit.take (h : Fit sc fs) (i : Nat) : Fit sc (fs.take i) := by
  refine ⟨fun f hf => h.frm f (List.mem_of_mem_take hf), ?_, h.s0, h.s1⟩
  have e := fs_split fs i
  have := h.sz
  rw [e, bsz] at this
  omega
theorem Fit.snoc (h : Fit sc fs) {gs : List ByteArray} (hg : ∀ g ∈ gs, Frm g) (hz : (cat fs).size + (cat gs).size ≤ 58 * sc) : Fit sc (fs ++ gs) := ⟨fun f hf => by
  rcases List.mem_append.1 hf with q | q
  · exact h.frm f q
  · exact hg f q, by rw [cat_append, bsz]; exact hz, h.s0, h.s1⟩
theorem take_pre {i j : Nat} (hij : i ≤ j) : cat (fs.take j) = cat (fs.take i) ++ cat ((fs.take j).drop i) := by
  have := List.take_append_drop i (fs.take j)
  rw [List.take_take, Nat.min_eq_left hij] at this
  conv => lhs; rw [← this]
  rw [cat_append]
/-- Frames come behind all others. -/
theorem Lv.grown (h : Lv B w l k S db bs sc run fs sure) {gs : List ByteArray} (hg : ∀ g ∈ gs, Frm g) (hz : (cat fs).size + (cat gs).size ≤ 58 * sc) (hl : Lx B w' l k S (lgR db bs sc run (fs ++ gs) (off fs sure) false)) : Lv B w' l k S db bs sc run (fs ++ gs) sure := by
  have e : (fs ++ gs).take sure = fs.take sure := List.take_append_of_le_length h.hs
  have e2 : off (fs ++ gs) sure = off fs sure := by unfold off; rw [e]
  refine ⟨by rw [e2]; exact hl, h.up, h.fit.snoc hg hz, by rw [List.length_append]; have := h.hs; omega, h.n, h.r2, ?_⟩
  rw [e]
  exact h.q
/-- A log is opened in a run that nobody had. -/
theorem Wt.open2 (h : Wt S bs sc r fs lo) (hF : Fit sc fs) (hlo : lo ≤ fs.length) (hd : Ds B w db k S) (hk : k ≤ 30000) (hrun : r < run) (hr2 : run ≤ 4294967295) (hfit : bs + sc ≤ S.n) (hu : S.up = true) (hc : S.set = false) :
    Calls Tryz.prog 20 #[.pointer (some ⟨db, 0, none⟩), .int .i64 (bs : Int), .int .i64 (sc : Int), .int .i64 (run : Int)] w fun e w' =>
      ∃ j S' l, e = .returned (.tuple #[.pointer (some ⟨l, 0, none⟩), .int .i64 0]) ∧ (lo ≤ j ∧ j ≤ fs.length ∧ S'.set = false ∧ S'.n = S.n) ∧ Lv B w' l (k + sc + 1) S' db bs sc run (fs.take j) j ∧ Kp isA B w w' ∧ Opn S S' bs sc run (cat (fs.take j)) := by
  obtain ⟨Q, hQ, hst⟩ := h.q
  refine (Open_calm hd hk bs sc run hF.s0 hF.s1 (by omega) hr2 hfit hu hc Q (fun i hi => ⟨hQ.now i hi, by have := hQ.run i hi; omega, hQ.sz i hi⟩)).mono ?_
  rintro e w' ⟨gs, S', l, rfl, hsp, hop, hlx, hK⟩
  obtain ⟨x, hx, hlow⟩ := hst run (Nat.le_of_lt hrun)
  obtain ⟨j, hj, rfl, hmax⟩ := Spl.take fs gs _ x hF.frm hx hsp
  have hlj : lo ≤ j := hmax lo hlo hlow
  have hjl : (fs.take j).length = j := by rw [List.length_take]; omega
  obtain ⟨y, hy⟩ := hsp.pre
  have hstd := std_new (Q := Q) (secs := sc) (r := run) (T := cat (fs.take j)) (x := y) (fun i hi => by have := hQ.run i hi; omega) hQ.sz hy (hF.take j).sz (by omega)
  have mk : S'.up = true → S'.n = S.n → (∃ Q', Qs S' bs sc run Q' ∧ Std Q' sc run (cat (fs.take j))) → Lv B w' l (k + sc + 1) S' db bs sc run (fs.take j) j := fun hu' hn' hq => by
    refine ⟨?_, hu', hF.take j, by omega, by rw [hn']; exact hfit, hr2, by rw [List.take_take, Nat.min_self]; exact hq⟩
    have : off (fs.take j) j = (cat (fs.take j)).size := by unfold off; rw [List.take_take, Nat.min_self]
    rw [this]
    exact hlx
  have hop2 := hop
  rcases hop with ⟨h1, rfl⟩ | ⟨h1, hLd⟩
  · refine ⟨j, _, l, rfl, ⟨hlj, hj, hc, rfl⟩, mk hu rfl ⟨Q, ⟨hQ.now, fun i hi => by have := hQ.run i hi; omega, hQ.sz, hQ.wait⟩, ?_⟩, hK, hop2⟩
    have e : putQ Q (cat (fs.take j)) run ((cat (fs.take j)).size / 58) (min ((cat (fs.take j)).size / 58 + 1) sc) = Q := by
      funext i
      exact putQ_out (by omega)
    rw [e] at hstd
    exact hstd
  · obtain ⟨hu', _, _⟩ := hLd.ok rfl
    exact ⟨j, S', l, rfl, ⟨hlj, hj, (hLd.calm hc).2, hLd.n⟩, mk hu' hLd.n ⟨_, hQ.laid (Nat.le_of_lt hrun) hLd, hstd⟩, hK, hop2⟩
theorem Wt.open_ (h : Wt S bs sc r fs lo) (hF : Fit sc fs) (hlo : lo ≤ fs.length) (hd : Ds B w db k S) (hk : k ≤ 30000) (hrun : r < run) (hr2 : run ≤ 4294967295) (hfit : bs + sc ≤ S.n) (hu : S.up = true) (hc : S.set = false) :
    Calls Tryz.prog 20 #[.pointer (some ⟨db, 0, none⟩), .int .i64 (bs : Int), .int .i64 (sc : Int), .int .i64 (run : Int)] w fun e w' =>
      ∃ j S' l, e = .returned (.tuple #[.pointer (some ⟨l, 0, none⟩), .int .i64 0]) ∧ (lo ≤ j ∧ j ≤ fs.length ∧ S'.set = false ∧ S'.n = S.n) ∧ Lv B w' l (k + sc + 1) S' db bs sc run (fs.take j) j ∧ Kp isA B w w' := by
  refine (h.open2 hF hlo hd hk hrun hr2 hfit hu hc).mono ?_
  rintro e w' ⟨j, S', l, h1, h2, h3, h4, _⟩
  exact ⟨j, S', l, h1, h2, h3, h4⟩
end
end Go.Proofs.YtgodjnbbocnckaaGreat

namespace Go.Proofs.YtgodjnbbocnckaaGreat
open Go.RowKit
set_option linter.unusedVariables false
set_option linter.unusedSimpArgs false
set_option maxRecDepth 100000

def few8M (m : Rm) : Rm := ⟨m.s, m.im.take 2, m.tb.take 3⟩
section
variable {w : World} {s : Sc} {a a' : Option Addr} {n n' c c' : Nat}
end
theorem Held.few8 {m : Rm} (h : Held m) : Small (few8M m) := by
  refine ⟨?_, ?_, ?_, h.ky, h.ol, h.nw⟩
  · show (m.im.take 2).length ≤ 1000
    rw [List.length_take]; omega
  · show (m.tb.take 3).length ≤ 1000
    rw [List.length_take]; omega
  · intro p hp
    exact h.t p (List.mem_of_mem_take hp)
end Go.Proofs.YtgodjnbbocnckaaGreat

namespace Go.Proofs.YtgodjnbbocnckaaGreat
open Go.RowKit Go.Maps Go.ChangeMaps
set_option linter.unusedVariables false
set_option linter.unusedSimpArgs false
set_option maxRecDepth 100000

section
variable {B l k db bs sc run r r' sure lo : Nat} {w w' w0 wx : World} {S S' : Dk} {fs gs : List ByteArray} {Q : Nat → Sec}
theorem Lv.wt0 (h : Lv B w l k S db bs sc run fs sure) : Wt S bs sc run (fs.take sure) sure := by
  obtain ⟨Q, hQ, hs⟩ := h.q
  refine ⟨Q, hQ, fun rn hr => ⟨⟨#[]⟩, ?_, ?_⟩⟩
  · rw [hs.stands hr, app_nil]
  · rw [hs.stands hr]; unfold off; rw [List.take_take, Nat.min_self]; exact Nat.le_refl _
theorem new_wt (n bs sc : Nat) (h : 1 ≤ sc) : Wt (newDk n) bs sc 0 [] 0 := by
  refine ⟨fun _ => (0, ⟨#[]⟩), ⟨fun i hi => ?_, fun i hi => Nat.le_refl _, fun i hi => Nat.zero_le _, fun i => rfl⟩, fun rn hr => ⟨⟨#[]⟩, ?_, Nat.zero_le _⟩⟩
  · rw [enc_zero]; rfl
  · obtain ⟨m, rfl⟩ : ∃ m, sc = m + 1 := ⟨sc - 1, by omega⟩
    show cat [] = stK _ rn (m + 1) 0 1 ++ _
    rw [stK, if_pos (Or.inl (by show 0 < 1; omega))]
    rfl
theorem fit_nil (h0 : 1 ≤ sc) (h1 : sc ≤ 8000) : Fit sc [] := ⟨(fun f hf => by cases hf), Nat.zero_le _, h0, h1⟩
/-- Append of a record that has a frame, and room. -/
theorem Lv.append {v : Value} {m : Rm} (h : Lv B w l k S db bs sc run fs sure) (hv : RecV w v m) (hm : Small m) (he : (frameM m).2 = 0) (hn : (cat fs).size + (frameM m).1.size ≤ 58 * sc) :
    Calls Tryz.prog 57 #[.pointer (some ⟨l, 0, none⟩), v] w fun e w' => e = .returned (.tuple #[.int .i64 (((cat fs).size : Int) + 1), .int .i64 0]) ∧ Lv B w' l k S db bs sc run (fs ++ [(frameM m).1]) sure ∧ Kp isL B w w' := by
  refine (append_ok h.lx h.fit hv hm he hn).mono ?_
  rintro e w' ⟨he', h1, k1⟩
  refine ⟨he', h.grown (fun g hg => by rw [List.mem_singleton] at hg; subst hg; exact frm_good he) ?_ h1, k1⟩
  rw [cat, cat, app_nil]; exact hn
/-- A small record. -/
def cmS (n : Int) : Sc := {kS 7 with tx := n, pv := 1}
def cmM (n : Int) : Rm := ⟨cmS n, [], []⟩
theorem cm_body (n : Int) (h0 : 0 ≤ n) (h1 : n < 1000) : bodyM (cleanM (cmM n)) = (⟨#[]⟩ ++ Pk.beS 7 1 ++ Pk.beS n.toNat 6 ++ Pk.beS 1 6, 0) ∧ cleanM (cmM n) = cmM n := by
  have e : cleanM (cmM n) = cmM n := by simp [cleanM, cleanS, cmM, cmS, kS, zS]
  have hl : laidM (cmM n) = (⟨#[]⟩ ++ Pk.beS 7 1 ++ Pk.beS n.toNat 6 ++ Pk.beS 1 6, 0) := by
    show stepW (stepW (stepW (⟨#[]⟩, 0) 7 1) n 6) 1 6 = _
    rw [stepW_good (by omega) (by omega) (by omega) (by rw [Pk.limI_1]; omega), stepW_good (by omega) (by omega) (by omega) (by rw [Pk.limI_6]; omega), stepW_good (by omega) (by omega) (by omega) (by rw [Pk.limI_6]; omega)]
    rfl
  rw [e]
  refine ⟨?_, rfl⟩
  rw [bodyM_good (by simp [refM, formed, cmM, cmS, kS, zS, Pk.size_nil]) (by rw [hl]) (by rw [hl]; simp [ByteArray.size_append, Pk.beS_size, Pk.size_nil]), hl]
theorem cm_frame (n : Int) (h0 : 0 ≤ n) (h1 : n < 1000) : (frameM (cmM n)).2 = 0 ∧ (frameM (cmM n)).1.size = 19 ∧ recF (frameM (cmM n)).1 = cmM n := by
  obtain ⟨hb, hc⟩ := cm_body n h0 h1
  have e : frameM (cmM n) = (frameB (⟨#[]⟩ ++ Pk.beS 7 1 ++ Pk.beS n.toNat 6 ++ Pk.beS 1 6), 0) := by
    unfold frameM
    rw [hb]
    simp
  rw [e]
  refine ⟨rfl, ?_, ?_⟩
  · show (frameB _).size = 19
    rw [frameB_size]
    simp [ByteArray.size_append, Pk.beS_size, Pk.size_nil]
  · have h0 := open_frame hb ⟨#[]⟩ ⟨#[]⟩
    rw [nil_app, app_nil, hc] at h0
    have h1 : openM (frameB (⟨#[]⟩ ++ Pk.beS 7 1 ++ Pk.beS n.toNat 6 ++ Pk.beS 1 6)) 0 = _ := h0
    unfold recF
    rw [h1]
theorem small_cm (n : Int) : Small (cmM n) := ⟨Nat.zero_le _, Nat.zero_le _, (fun p hp => by cases hp), Nat.zero_le _, Nat.zero_le _, Nat.zero_le _⟩
theorem recV_cm (w : World) (n : Int) : RecV w (.agg ((cmS n).A nilV nilV)) (cmM n) := ⟨nilV, nilV, rfl, SlI.nil w, SlT.nil w⟩
/-- The example's log. -/
structure AwS (w0 wx : World) (l k : Nat) (S : Dk) (db run : Nat) (fs : List ByteArray) (sure : Nat) : Prop where
  lv : Lv w0.heap.size wx l k S db 1 10 run fs sure
  set : S.set = false
  n : S.n = 20
  bel : Below w0.heap.size w0 wx
  sz : (cat fs).size = 19 * fs.length
/-- Its disk. -/
structure AwD (w0 wx : World) (k : Nat) (S : Dk) (db : Nat) (r : Nat) (fs : List ByteArray) (lo : Nat) : Prop where
  d : Ds w0.heap.size wx db k S
  wt : Wt S 1 10 r fs lo
  fit : Fit 10 fs
  hlo : lo = fs.length
  set : S.set = false
  n : S.n = 20
  bel : Below w0.heap.size w0 wx
  sz : (cat fs).size = 19 * fs.length
theorem AwD.below (h : AwD w0 wx k S db r fs lo) (hb : Below wx.heap.size wx w') : AwD w0 w' k S db r fs lo := ⟨h.d.below hb, h.wt, h.fit, h.hlo, h.set, h.n, thn h.bel hb, h.sz⟩
theorem AwS.below (h : AwS w0 wx l k S db run fs sure) (hb : Below wx.heap.size wx w') : AwS w0 w' l k S db run fs sure := ⟨h.lv.below hb, h.set, h.n, thn h.bel hb, h.sz⟩
theorem AwD.open_ (h : AwD w0 wx k S db r fs lo) (hk : k ≤ 1000) (hu : S.up = true) (hr : r < run) (hr2 : run ≤ 4294967295) : Calls Tryz.prog 20 #[.pointer (some ⟨db, 0, none⟩), .int .i64 1, .int .i64 10, .int .i64 (run : Int)] wx fun e w' => ∃ S' l, e = .returned (.tuple #[.pointer (some ⟨l, 0, none⟩), .int .i64 0]) ∧ AwS w0 w' l (k + 11) S' db run fs fs.length := by
  refine (h.wt.open_ (bs := 1) (sc := 10) h.fit (by rw [h.hlo]; exact Nat.le_refl _) h.d (by omega) hr hr2 (by rw [h.n]; omega) hu h.set).mono ?_
  rintro e w' ⟨j, S', l, he, ⟨h1, h2, h3, h4⟩, hlv, hk'⟩
  have hj : j = fs.length := by have := h.hlo; omega
  subst hj
  rw [List.take_length] at hlv
  exact ⟨S', l, he, hlv, h3, by rw [h4, h.n], h.bel.trans hk'.bel, h.sz⟩
theorem AwS.append (h : AwS w0 wx l k S db run fs sure) (n : Int) (h0 : 0 ≤ n) (h1 : n < 1000) (hl : fs.length ≤ 5) : Calls Tryz.prog 57 #[.pointer (some ⟨l, 0, none⟩), .agg ((cmS n).A nilV nilV)] wx fun e w' => (∃ x, e = .returned (.tuple #[.int .i64 x, .int .i64 0])) ∧ AwS w0 w' l k S db run (fs ++ [(frameM (cmM n)).1]) sure := by
  obtain ⟨e1, e2, _⟩ := cm_frame n h0 h1
  have hz := h.sz
  refine (h.lv.append (recV_cm _ n) (small_cm n) e1 (by rw [e2, hz]; omega)).mono ?_
  rintro e w' ⟨he, h2, k2⟩
  refine ⟨⟨_, he⟩, h2, h.set, h.n, h.bel.trans k2.bel, ?_⟩
  rw [cat_snoc, bsz, e2, hz, List.length_append, List.length_singleton]; omega
theorem AwS.flush (h : AwS w0 wx l k S db run fs sure) (hk : k ≤ 1000) : Calls Tryz.prog 101 #[.pointer (some ⟨l, 0, none⟩)] wx fun e w' => ∃ S', e = .returned (.int .i64 0) ∧ AwS w0 w' l (k + 11) S' db run fs fs.length := by
  refine (h.lv.flush (by omega)).mono ?_
  rintro e w' ⟨y, he, S', ⟨h1, h2, h3⟩, h4⟩
  obtain ⟨rfl, hs⟩ := h3 h.set
  rcases h4 with ⟨_, h4⟩ | ⟨h4, _⟩
  · exact ⟨S', he, h4, hs, by rw [h2, h.n], h.bel.trans h1.bel, h.sz⟩
  · cases h4
theorem sz_take {fs : List ByteArray} (h : ∀ f ∈ fs, f.size = 19) : (cat fs).size = 19 * fs.length := by
  induction fs with
  | nil => rfl
  | cons f l ih =>
    have h1 := h f (List.mem_cons_self ..)
    have h2 := ih (fun g hg => h g (List.mem_cons_of_mem _ hg))
    rw [cat, bsz, h1, h2, List.length_cons]; omega
theorem AwS.crash (h : AwS w0 wx l k S db run fs sure) (hk : k ≤ 1000) (hsz : (cat (fs.take sure)).size = 19 * (fs.take sure).length) (x : Int) (x0 : 0 ≤ x) (x1 : x ≤ 18446744073709551615) : Calls Tryz.prog 17 #[.pointer (some ⟨db, 0, none⟩), .int .u64 x] wx fun e w' => (∃ y, e = .returned (.int .i64 y)) ∧ AwD w0 w' (k + 1) (crDk S x) db run (fs.take sure) sure := by
  refine (h.lv.lx.d.crash (by omega) x x0 x1).mono ?_
  rintro e w' ⟨he, h1, k1⟩
  have hs : (crDk S x).set = false := by unfold crDk; split; rfl; exact h.set
  have hn : (crDk S x).n = S.n := by unfold crDk; split; rfl; rfl
  exact ⟨⟨_, he⟩, h1, h.lv.wt0.crash x, h.lv.fit.take sure, by rw [List.length_take]; have := h.lv.hs; omega, hs, by rw [hn, h.n], h.bel.trans k1.bel, hsz⟩
theorem AwD.start (h : AwD w0 wx k S db r fs lo) : Calls Tryz.prog 19 #[.pointer (some ⟨db, 0, none⟩)] wx fun e w' => (∃ y, e = .returned (.int .i64 y)) ∧ AwD w0 w' k { S with up := true } db r fs lo := by
  refine h.d.start.mono ?_
  rintro e w' ⟨he, h1, k1⟩
  exact ⟨⟨_, he⟩, h1, h.wt.eq rfl rfl, h.fit, h.hlo, h.set, h.n, h.bel.trans k1.bel, h.sz⟩
end
end Go.Proofs.YtgodjnbbocnckaaGreat

namespace Go.Proofs.YtgodjnbbocnckaaGreat
open Go.RowKit Go.Maps Go.ChangeMaps
set_option linter.unusedVariables false
set_option linter.unusedSimpArgs false
set_option maxRecDepth 100000

/-- Blocks that a pool's calls turn besides: its own, its frames. -/
def isF : Obj → Prop
  | .cells _ t _ => t = 67 ∨ t = 85
  | _ => False
def isQ (o : Obj) : Prop := isA o ∨ isF o
/-- Four sectors of a text. -/
def nwK (b : Nat) (t : Nat → ByteArray) (k i : Nat) : Option ByteArray := if b ≤ i ∧ i < b + k then some (pad (t (i - b))) else none
section
variable {B k db sb base pages gen : Nat} {w w' : World} {S S' : Dk}
theorem isF_not : ∀ o, isA o → ¬ isF o := by
  intro o ha hs
  cases o with
  | cells cs t fz =>
    rcases hs with hs | hs
    · subst hs
      rcases ha with ha | ha
      · rcases ha with ha | ha <;> exact absurd ha (by decide)
      · rcases ha with ha | ha | ha <;> exact absurd ha (by decide)
    · subst hs
      rcases ha with ha | ha
      · rcases ha with ha | ha <;> exact absurd ha (by decide)
      · rcases ha with ha | ha | ha <;> exact absurd ha (by decide)
  | _ => exact hs
section
variable {l : Nat} {R : Lr} {A : Obj → Prop}
theorem Lx.keptA (h : Lx B w l k S R) {B' : Nat} (hA : ∀ o, isA o → ¬ A o) (hb : Kp A B' w w') : Lx B w' l k S R := by
  obtain ⟨lb, mb, m, d1, d2, d3, d4⟩ := h.d.dsk
  obtain ⟨p, v, pv, h1, h2, h3, h4⟩ := h.g.ex
  have e1 : w'.heap[lb]? = w.heap[lb]? := by
    obtain ⟨cur, fz, e2⟩ := d1.row.ty
    rw [e2]; exact hb.block _ _ e2 (hA _ (Or.inl (Or.inr rfl)))
  have e3 : w'.heap[mb]? = w.heap[mb]? := by
    obtain ⟨es, c, e2⟩ := d1.map.is
    rw [e2]; exact hb.block _ _ e2 (hA _ (Or.inl trivial))
  refine ⟨⟨⟨lb, mb, m, ⟨hb.block _ _ d1.blk (hA _ (Or.inl (Or.inl rfl))), d1.row.of_block e1 hb.size, d1.map.of_block e3, d1.ne⟩, d2, d3, d4⟩, h.d.q, h.d.hd, Nat.le_trans h.d.lt hb.size⟩, ?_⟩
  exact ⟨⟨p, v, pv, hb.block l _ h1 (hA _ (Or.inr (Or.inr (Or.inr rfl)))), h2, ownF_of h3 (fun k cur fz e => hb.block k _ e (hA _ (Or.inr (Or.inr (Or.inl rfl))))), h4.of_block (fun k cur fz e => hb.block k _ e (hA _ (Or.inr (Or.inl rfl))))⟩, h.g.ge, Nat.le_trans h.g.le hb.size⟩
end
theorem Kp.q {w1 : World} (h : Kp isA B w w1) : Kp isQ B w w1 := h.mono (fun _ => Or.inl)
theorem Kp.f {w1 : World} (h : Kp isF B w w1) : Kp isQ B w w1 := h.mono (fun _ => Or.inr)
theorem StIs.kept {B' : Nat} (h : StIs w sb db base pages gen) (hb : Kp isQ B' w w') : StIs w' sb db base pages gen := ⟨hb.block _ _ h.blk (by simp [isQ, isA, isD, isL, isF])⟩
theorem disk_ne {lb mb m : Nat} (h : DkIs w db lb mb m S) (hs : StIs w sb db base pages gen) : ¬ disk3 db lb mb sb := by
  rintro (rfl | rfl | rfl)
  · have := hs.blk; rw [h.blk] at this; simp at this
  · obtain ⟨cur, fz, e⟩ := h.row.ty; rw [hs.blk] at e; simp at e
  · obtain ⟨es, c, e⟩ := h.map.is; rw [hs.blk] at e; simp at e
theorem nwK_zero (b : Nat) (t : Nat → ByteArray) : nwK b t 0 = fun _ => none := by
  funext i; unfold nwK; rw [if_neg (by omega)]
theorem nwK_succ (b : Nat) (t : Nat → ByteArray) (k i : Nat) : nwK b t (k + 1) i = if i = b + k then some (pad (t k)) else nwK b t k i := by
  unfold nwK
  by_cases e : i = b + k
  · subst e; rw [if_pos (by omega), if_pos rfl, show b + k - b = k by omega]
  · rw [if_neg e]
    by_cases h : b ≤ i ∧ i < b + k
    · rw [if_pos h, if_pos (by omega)]
    · rw [if_neg h, if_neg (by omega)]
theorem wrK_wrt (hu : S.up = true) {b : Nat} {t : Nat → ByteArray} (hb : b + 4 ≤ S.n) (hz : ∀ i, i < 4 → (t i).size ≤ 64) (k : Nat) (hk : k ≤ 4) : Wrt S (wrK b t S k).1 (nwK b t k) (wrK b t S k).2 := by
  induction k with
  | zero => rw [nwK_zero]; exact Wrt.refl S hu
  | succ k ih =>
    have ih := ih (by omega)
    rw [wrK]
    split
    · rename_i h0
      rw [h0] at ih
      exact ih.step (i := b + k) (by omega) (hz k (by omega)) (by unfold nwK; rw [if_neg (by omega)]) (nwK_succ b t k)
    · rename_i h0
      refine ⟨ih.n, fun e => absurd e h0, ih.bad, fun R hR hc => ih.all R hR (fun i c hi => hc i c ?_), fun hs => absurd (ih.calm hs).1 h0⟩
      rw [nwK_succ]
      by_cases e : i = b + k
      · subst e; unfold nwK at hi; rw [if_neg (by omega)] at hi; cases hi
      · rw [if_neg e]; exact hi
/-- A page is written. -/
theorem Ds.stw (h : Ds B w db k S) (hs : StIs w sb db 40 8 1) (hk : k ≤ 80000) (hu : S.up = true) (hn : S.n = 80) (id : Nat) (hid : id < 8) (t : ByteArray) (ht : t.size = 224) (l : Nat) (hl : l < 281474976710656) :
    Calls Tryz.prog 102 #[.pointer (some ⟨sb, 0, none⟩), .int .i64 (id : Int), .string t, .int .i64 (l : Int)] w fun e w' => ∃ S' y, e = .returned (.int .i64 y) ∧ Ds B w' db (k + 4) S' ∧ Kp isD B w w' ∧ Wrt S S' (nwK (40 + 4 * id) (sec 1 l t) 4) y := by
  obtain ⟨lb, mb, m, h1, h2, h3, h4⟩ := h.dsk
  refine (StWrite_good w hs h1 h.q (by omega) (by omega) (disk_ne h1 hs) (by omega) id hid (by omega) t ht l hl).mono ?_
  rintro e w' ⟨he, hd, ho⟩
  obtain ⟨q1, q2⟩ := h.turn h1 h3 h4 ho hd (show m + 4 ≤ k + 4 by omega) (wrK_dq h.q (by omega) 4 (Nat.le_refl _))
  exact ⟨_, _, he, q1, q2, wrK_wrt hu (by omega) (fun i hi => by rw [sec_size ht hi]; exact Nat.le_refl _) 4 (Nat.le_refl _)⟩
theorem Ds.sts (h : Ds B w db k S') (hs : StIs w sb db 40 8 1) (hk : k ≤ 80000) {N : Nat → Option ByteArray} (hw : Wrt S S' N 0) :
    Calls Tryz.prog 103 #[.pointer (some ⟨sb, 0, none⟩)] w fun e w' => ∃ S2 y, e = .returned (.int .i64 y) ∧ Ds B w' db (k + 1) S2 ∧ Kp isD B w w' ∧ Laid S S2 N y := by
  obtain ⟨lb, mb, m, h1, h2, h3, h4⟩ := h.dsk
  refine (StSync_any w hs h1 h.q.ok (by omega)).mono ?_
  rintro e w' ⟨he, hd, ho⟩
  obtain ⟨q1, q2⟩ := h.turn h1 h3 h4 ho hd (show m ≤ k + 1 by omega) (h.q.sync (by omega))
  exact ⟨_, _, he, q1, q2, hw.sync⟩
theorem Ds.strd (h : Ds B w db k S) (hs : StIs w sb db 40 8 1) (hu : S.up = true) (hn : S.n = 80) (id : Int) : Calls Tryz.prog 21 #[.pointer (some ⟨sb, 0, none⟩), .int .i64 id] w fun e w' =>
    e = .returned (.tuple #[.string (rdOut 40 8 1 S id).1, .int .i64 (rdOut 40 8 1 S id).2.1, .int .i64 (rdOut 40 8 1 S id).2.2]) ∧ Below w.heap.size w w' := by
  obtain ⟨lb, mb, m, h1, h2, h3, h4⟩ := h.dsk
  exact StRead_any w hs h1 h.q.ok hu (by rw [hn]; omega) id
theorem Ds.stis (h : Ds B w db k S) (hs : StIs w sb db 40 8 1) (hu : S.up = true) (hn : S.n = 80) (id l : Int) : Calls Tryz.prog 28 #[.pointer (some ⟨sb, 0, none⟩), .int .i64 id, .int .i64 l] w fun e w' =>
    e = .returned (.bool ((rdOut 40 8 1 S id).2.2 == 0 && (rdOut 40 8 1 S id).2.1 == l)) ∧ Below w.heap.size w w' := by
  obtain ⟨lb, mb, m, h1, h2, h3, h4⟩ := h.dsk
  exact StIs_any w hs h1 h.q.ok hu (by rw [hn]; omega) id l
end
/-! ### Structs in blocks of their own -/
structure NewO (w w' : World) (b : Nat) (A : Array Value) (t : TypeId) : Prop where
  blk : w'.heap[b]? = some (.cells A t)
  below : Below w.heap.size w w'
  eq : b = w.heap.size
structure PutO (w w' : World) (b : Nat) (A : Array Value) (t : TypeId) : Prop where
  blk : w'.heap[b]? = some (.cells A t)
  off : Off (fun k => k = b) w w'
section
variable {ops : Array Oper} {rest : List Oper} {o : Oper} {a : Act} {Q : Exit → Act → World → Prop} {A A' : Array Value} {t : TypeId} {b : Nat}
theorem wpList_box_o (w : World) (hg : o.guard = none) (x : Operand) (hop : o.op = Op.box t x) (hx : a.eval x = .agg A)
    (h : ∀ w' b, NewO w w' b A t → wpList Tryz.prog ops Q rest (a.put o.dst (.pointer (some ⟨b, 0, none⟩))) w') : wpList Tryz.prog ops Q (o :: rest) a w := by
  refine wpList_plain hg fun K' hK' => ?_
  unfold Oper.wp
  simp [execOp, hop, hx, Instr.box, Result.andThen, Value.cells]
  exact hK' _ _ (h _ _ ⟨(MapKept.heap_alloc w _).1, (Below.refl _ _).alloc (Nat.le_refl _) _, rfl⟩)
theorem wpList_new_o (w : World) (hg : o.guard = none) (hop : o.op = Op.alloc t) (hz : (zeroValue t).run Tryz.prog w = .ok (.agg A) w)
    (h : ∀ w' b, NewO w w' b A t → wpList Tryz.prog ops Q rest (a.put o.dst (.pointer (some ⟨b, 0, none⟩))) w') : wpList Tryz.prog ops Q (o :: rest) a w := by
  refine wpList_plain hg fun K' hK' => ?_
  unfold Oper.wp
  simp [execOp, hop, Instr.alloc, hz, Result.andThen, Value.cells]
  exact hK' _ _ (h _ _ ⟨(MapKept.heap_alloc w _).1, (Below.refl _ _).alloc (Nat.le_refl _) _, rfl⟩)
theorem setCells_o {w : World} (h : w.heap[b]? = some (.cells A t)) (hz : A.size = A'.size) (h1 : ∀ v ∈ A'.toList, v.oneCell' = true) : w.setCells b 0 A'.toList = w.setRow b A' := by
  have hth : ∀ j, j < A'.size → ((w.cell? ⟨b, 0 + j, none⟩).isSome = true) := fun j hj => by
    rw [cell_of_row w b _ _ t (0, 0) h]
    simp [hz, hj]
  have e1 := run_storeCells_at Tryz.prog b 0 t A'.toList 0 A w h (by simp [hz]) h1
  have e2 := run_storeCells_cells (P := Tryz.prog) b 0 A'.toList 0 w (fun j hj => by have := hth j (by simpa using hj); simpa using this) (fun j hj => by have := Joins.unfrozen_of_block h (0 + 0 + j); simpa using this) h1
  have e : (List.take (0 + 0) A.toList ++ A'.toList ++ List.drop (0 + 0 + A'.toList.length) A.toList).toArray = A' := by
    have e0 : List.drop (0 + 0 + A'.toList.length) A.toList = [] := List.drop_eq_nil_of_le (by simp [hz])
    rw [e0]
    simp
  rw [e, e2] at e1
  simpa using e1
theorem wpList_put_o (w : World) (hg : o.guard = none) (x y : Operand) (hop : o.op = Op.store t x y)
    (hx : a.eval x = .pointer (some ⟨b, 0, none⟩)) (hy : a.eval y = .agg A') (hs : w.heap[b]? = some (.cells A t)) (hi : (Tryz.prog.info? t).map (·.size) = some A'.size) (hz : A.size = A'.size) (h1 : ∀ v ∈ A'.toList, v.oneCell' = true)
    (h : ∀ w', PutO w w' b A' t → wpList Tryz.prog ops Q rest (a.put o.dst undef) w') : wpList Tryz.prog ops Q (o :: rest) a w := by
  refine wpList_store_mid hg t x y hop b 0 A' hx hy ?_ hi (Array.all_eq_true_iff_forall_mem.2 (fun v hv => h1 v (by simpa using hv))) ?_
  · intro j hj
    refine ⟨?_, Joins.unfrozen_of_block hs _⟩
    rw [cell_of_row w b _ _ t (0, 0) hs]
    simp [hz, hj]
  · rw [setCells_o hs hz h1]
    refine h _ ⟨setRow_heap w b _ _ t _ hs, ⟨rfl, rfl, rfl, by simp, fun k _ hk => setRow_other w b k _ hk⟩⟩
end
end Go.Proofs.YtgodjnbbocnckaaGreat

namespace Go.Proofs.YtgodjnbbocnckaaGreat
open Go.RowKit Go.Maps Go.ChangeMaps
set_option linter.unusedVariables false
set_option linter.unusedSimpArgs false
set_option maxRecDepth 100000

/-- A frame. -/
structure Fm where
  id : Int
  tx : ByteArray
  ln : Int
  us : Bool
  si : Int
  pn : Int
def Fm.A (f : Fm) : Array Value := #[.int .i64 f.id, .string f.tx, .int .i64 f.ln, .bool f.us, .int .i64 f.si, .int .i64 f.pn]
def zF : Fm := ⟨0, ⟨#[]⟩, 0, false, 0, 0⟩
/-- Where a pool lies: its disk, store, log, its own block, its row, its frames. -/
structure Ad where
  db : Nat
  sb : Nat
  l : Nat
  pb : Nat
  ra : Nat
  cp : Nat
  n : Nat
  fb : Nat → Nat
/-- A pool's own fields. -/
structure Gp where
  hd : Int
  sv : Int
  tk : Int
  F : Nat → Fm
def Gp.A (G : Gp) (X : Ad) : Array Value := #[.pointer (some ⟨X.sb, 0, none⟩), .pointer (some ⟨X.l, 0, none⟩), .slice (some ⟨X.ra, 0, none⟩) X.n X.cp, .int .i64 G.hd, .int .i64 G.sv, .int .i64 G.tk]
structure PoIs (B : Nat) (w : World) (X : Ad) (G : Gp) : Prop where
  blk : w.heap[X.pb]? = some (.cells (G.A X) 67)
  row : ∃ cur fz, w.heap[X.ra]? = some (.cells cur 79 fz) ∧ ∀ j, j < X.n → cur[j]? = some (.pointer (some ⟨X.fb j, 0, none⟩))
  fr : ∀ j, j < X.n → w.heap[X.fb j]? = some (.cells (G.F j).A 85)
  inj : ∀ i j, i < X.n → j < X.n → X.fb i = X.fb j → i = j
  n1 : 2 ≤ X.n
  n2 : X.n ≤ 64
  gp : B ≤ X.pb
  gf : ∀ j, j < X.n → B ≤ X.fb j
  h0 : 0 ≤ G.hd
  h1 : G.hd ≤ (X.n : Int)
section
variable {B : Nat} {w w' : World} {X : Ad} {G : Gp}
theorem PoIs.c0 (h : PoIs B w X G) : w.cell? ⟨X.pb, 0, none⟩ = some (.pointer (some ⟨X.sb, 0, none⟩)) := Joins.cell_of_block h.blk 0
theorem PoIs.c1 (h : PoIs B w X G) : w.cell? ⟨X.pb, 1, none⟩ = some (.pointer (some ⟨X.l, 0, none⟩)) := Joins.cell_of_block h.blk 1
theorem PoIs.c2 (h : PoIs B w X G) : w.cell? ⟨X.pb, 2, none⟩ = some (.slice (some ⟨X.ra, 0, none⟩) X.n X.cp) := Joins.cell_of_block h.blk 2
theorem PoIs.c3 (h : PoIs B w X G) : w.cell? ⟨X.pb, 3, none⟩ = some (.int .i64 G.hd) := Joins.cell_of_block h.blk 3
theorem PoIs.c4 (h : PoIs B w X G) : w.cell? ⟨X.pb, 4, none⟩ = some (.int .i64 G.sv) := Joins.cell_of_block h.blk 4
theorem PoIs.c5 (h : PoIs B w X G) : w.cell? ⟨X.pb, 5, none⟩ = some (.int .i64 G.tk) := Joins.cell_of_block h.blk 5
theorem PoIs.z (h : PoIs B w X G) (i : Nat) : w.frozen? ⟨X.pb, i, none⟩ = false := Joins.unfrozen_of_block h.blk i
theorem PoIs.lt (h : PoIs B w X G) : X.pb < w.heap.size := lt_of_some h.blk
theorem PoIs.ra (h : PoIs B w X G) {j : Nat} (hj : j < X.n) : w.cell? ⟨X.ra, j, none⟩ = some (.pointer (some ⟨X.fb j, 0, none⟩)) := by
  obtain ⟨cur, fz, e, hc⟩ := h.row
  rw [cell_of_row w X.ra j cur _ fz e]
  exact hc j hj
theorem PoIs.ralt (h : PoIs B w X G) : X.ra < w.heap.size := by obtain ⟨cur, fz, e, hc⟩ := h.row; exact lt_of_some e
theorem PoIs.f0 (h : PoIs B w X G) {j : Nat} (hj : j < X.n) : w.cell? ⟨X.fb j, 0, none⟩ = some (.int .i64 (G.F j).id) := Joins.cell_of_block (h.fr j hj) 0
theorem PoIs.f1 (h : PoIs B w X G) {j : Nat} (hj : j < X.n) : w.cell? ⟨X.fb j, 1, none⟩ = some (.string (G.F j).tx) := Joins.cell_of_block (h.fr j hj) 1
theorem PoIs.f2 (h : PoIs B w X G) {j : Nat} (hj : j < X.n) : w.cell? ⟨X.fb j, 2, none⟩ = some (.int .i64 (G.F j).ln) := Joins.cell_of_block (h.fr j hj) 2
theorem PoIs.f3 (h : PoIs B w X G) {j : Nat} (hj : j < X.n) : w.cell? ⟨X.fb j, 3, none⟩ = some (.bool (G.F j).us) := Joins.cell_of_block (h.fr j hj) 3
theorem PoIs.f4 (h : PoIs B w X G) {j : Nat} (hj : j < X.n) : w.cell? ⟨X.fb j, 4, none⟩ = some (.int .i64 (G.F j).si) := Joins.cell_of_block (h.fr j hj) 4
theorem PoIs.f5 (h : PoIs B w X G) {j : Nat} (hj : j < X.n) : w.cell? ⟨X.fb j, 5, none⟩ = some (.int .i64 (G.F j).pn) := Joins.cell_of_block (h.fr j hj) 5
theorem PoIs.fz (h : PoIs B w X G) {j : Nat} (hj : j < X.n) (i : Nat) : w.frozen? ⟨X.fb j, i, none⟩ = false := Joins.unfrozen_of_block (h.fr j hj) i
theorem PoIs.flt (h : PoIs B w X G) {j : Nat} (hj : j < X.n) : X.fb j < w.heap.size := lt_of_some (h.fr j hj)
theorem PoIs.below (h : PoIs B w X G) (hb : Below w.heap.size w w') : PoIs B w' X G := by
  refine ⟨(hb.block _ h.lt).trans h.blk, ?_, fun j hj => (hb.block _ (h.flt hj)).trans (h.fr j hj), h.inj, h.n1, h.n2, h.gp, h.gf, h.h0, h.h1⟩
  obtain ⟨cur, fz, e, hc⟩ := h.row
  exact ⟨cur, fz, (hb.block _ (lt_of_some e)).trans e, hc⟩
theorem PoIs.kept {B' : Nat} (h : PoIs B w X G) (hb : Kp isA B' w w') : PoIs B w' X G := by
  refine ⟨hb.block _ _ h.blk (by simp [isA, isD, isL]), ?_, fun j hj => hb.block _ _ (h.fr j hj) (by simp [isA, isD, isL]), h.inj, h.n1, h.n2, h.gp, h.gf, h.h0, h.h1⟩
  obtain ⟨cur, fz, e, hc⟩ := h.row
  exact ⟨cur, fz, hb.block _ _ e (by simp [isA, isD, isL]), hc⟩
theorem PoIs.drew (h : PoIs B w X G) : PoIs B w.drew X G := h.below ((Below.refl _ _).drew)
theorem PoIs.drewN (h : PoIs B w X G) (n : Nat) : PoIs B (w.drewN n) X G := h.below (Sm.below_dr (Below.refl _ _) n)
/-- A frame is another one. -/
def Gp.set (G : Gp) (j : Nat) (f : Fm) : Gp := { G with F := upd G.F j f }
theorem PoIs.pf (h : PoIs B w X G) {j : Nat} (hj : j < X.n) : X.pb ≠ X.fb j := fun e => by
  have := h.fr j hj
  rw [← e, h.blk] at this
  simp at this
theorem PoIs.rf (h : PoIs B w X G) {j : Nat} (hj : j < X.n) : X.ra ≠ X.fb j := fun e => by
  obtain ⟨cur, fz, e2, hc⟩ := h.row
  rw [e, h.fr j hj] at e2
  simp at e2
theorem PoIs.rp (h : PoIs B w X G) : X.ra ≠ X.pb := fun e => by
  obtain ⟨cur, fz, e2, hc⟩ := h.row
  rw [e, h.blk] at e2
  simp at e2
theorem PoIs.putF (h : PoIs B w X G) {j : Nat} (hj : j < X.n) {f : Fm} (ho : Off (fun k => k = X.fb j) w w') (hb : w'.heap[X.fb j]? = some (.cells f.A 85)) (hB : B ≤ w.heap.size) : PoIs B w' X (G.set j f) ∧ Kp isF B w w' := by
  refine ⟨⟨(ho.block _ h.lt (h.pf hj)).trans h.blk, ?_, fun i hi => ?_, h.inj, h.n1, h.n2, h.gp, h.gf, h.h0, h.h1⟩, ho.below (fun k hk => by subst hk; exact h.gf j hj) hB, fun i o e hn => (ho.block i (lt_of_some e) (fun e2 => ?_)).trans e⟩
  · obtain ⟨cur, fz, e, hc⟩ := h.row
    exact ⟨cur, fz, (ho.block _ (lt_of_some e) (h.rf hj)).trans e, hc⟩
  · by_cases e : i = j
    · subst e
      show w'.heap[X.fb i]? = some (.cells (upd G.F i f i).A _)
      rw [upd_same]; exact hb
    · show w'.heap[X.fb i]? = some (.cells (upd G.F j f i).A _)
      rw [upd_other _ _ e]
      exact (ho.block _ (h.flt hi) (fun e2 => e (h.inj i j hi hj e2))).trans (h.fr i hi)
  · subst e2
    rw [h.fr j hj] at e; cases e
    exact hn (Or.inr rfl)
theorem PoIs.setF (h : PoIs B w X G) {j : Nat} (hj : j < X.n) {f : Fm} {i : Nat} {u : Value} (e : (G.F j).A.setIfInBounds i u = f.A) (hB : B ≤ w.heap.size) : PoIs B (w.setCell ⟨X.fb j, i, none⟩ u) X (G.set j f) ∧ Kp isF B w (w.setCell ⟨X.fb j, i, none⟩ u) :=
  h.putF hj (Off.setCell (B := fun k => k = X.fb j) (Off.refl _ _) rfl _ _) (by rw [← e]; exact Joins.block_setCell (h.fr j hj) _) hB
theorem PoIs.setP (h : PoIs B w X G) {G' : Gp} {i : Nat} {u : Value} (e : (G.A X).setIfInBounds i u = G'.A X) (eF : G'.F = G.F) (h0 : 0 ≤ G'.hd) (h1 : G'.hd ≤ (X.n : Int)) (hB : B ≤ w.heap.size) : PoIs B (w.setCell ⟨X.pb, i, none⟩ u) X G' ∧ Kp isF B w (w.setCell ⟨X.pb, i, none⟩ u) := by
  have ho : Off (fun k => k = X.pb) w (w.setCell ⟨X.pb, i, none⟩ u) := Off.setCell (B := fun k => k = X.pb) (Off.refl _ _) rfl _ _
  refine ⟨⟨by rw [← e]; exact Joins.block_setCell h.blk _, ?_, fun j hj => by rw [eF]; exact (ho.block _ (h.flt hj) (fun e2 => h.pf hj e2.symm)).trans (h.fr j hj), h.inj, h.n1, h.n2, h.gp, h.gf, h0, h1⟩, ho.below (fun k hk => by subst hk; exact h.gp) hB, fun j o e hn => (ho.block j (lt_of_some e) (fun e2 => ?_)).trans e⟩
  · obtain ⟨cur, fz, e, hc⟩ := h.row
    exact ⟨cur, fz, (ho.block _ (lt_of_some e) h.rp).trans e, hc⟩
  · subst e2
    rw [h.blk] at e; cases e
    exact hn (Or.inl rfl)
theorem isMade_po (h : PoIs B w X G) : Calls Tryz.prog 60 #[.pointer (some ⟨X.pb, 0, none⟩)] w fun e w' => e = .returned (.bool true) ∧ w' = w := by
  have c2 := h.c2
  have hn : 0 < X.n := by have := h.n1; omega
  clear h
  generalize X.n = n at *
  go_enter Tryz.func60, Tryz.ntmps60
  go_wp2
  go_ret
  exact ⟨by simp [hn], rfl⟩
theorem isMade_nil (w : World) : Calls Tryz.prog 60 #[.pointer none] w fun e w' => e = .returned (.bool false) ∧ w' = w := by
  go_enter Tryz.func60, Tryz.ntmps60
  go_wp2
  go_ret
  exact ⟨rfl, rfl⟩
theorem isMade_none {b : Nat} (hc : w.cell? ⟨b, 2, none⟩ = some (.slice none 0 0)) : Calls Tryz.prog 60 #[.pointer (some ⟨b, 0, none⟩)] w fun e w' => e = .returned (.bool false) ∧ w' = w := by
  go_enter Tryz.func60, Tryz.ntmps60
  go_wp2
  go_ret
  exact ⟨rfl, rfl⟩
theorem isDirty_at {b : Nat} {x : Int} (hc : w.cell? ⟨b, 4, none⟩ = some (.int .i64 x)) : Calls Tryz.prog 59 #[.pointer (some ⟨b, 0, none⟩)] w fun e w' => e = .returned (.bool (decide (0 < x))) ∧ w' = w := by
  by_cases hx : 0 < x
  · go_enter Tryz.func59, Tryz.ntmps59
    go_wp2
    go_ret
    exact ⟨by simp [hx], rfl⟩
  · go_enter Tryz.func59, Tryz.ntmps59
    go_wp2
    go_ret
    exact ⟨by simp [hx], rfl⟩
/-- A frame has this page. -/
def Fm.has (f : Fm) (id : Int) : Prop := f.us = true ∧ f.id = id
set_option maxHeartbeats 1000000 in
theorem find_hit (h : PoIs B w X G) (id : Int) (j : Nat) (hj : j < X.n) (hh : (G.F j).has id) (hlt : ∀ i, i < j → ¬ (G.F i).has id) : Calls Tryz.prog 58 #[.pointer (some ⟨X.pb, 0, none⟩), .int .i64 id] w fun e w' => e = .returned (.pointer (some ⟨X.fb j, 0, none⟩)) ∧ w' = w := by
  have CM : Hid (Calls Tryz.prog 60 #[.pointer (some ⟨X.pb, 0, none⟩)] w fun e w' => e = .returned (.bool true) ∧ w' = w) := isMade_po h
  have c2 := h.c2
  have H : Hid (PoIs B w X G) := h
  have HJ : Hid ((G.F j).has id) := hh
  have HL : Hid (∀ i, i < j → ¬ (G.F i).has id) := hlt
  clear h hh hlt
  go_enter Tryz.func58, Tryz.ntmps58
  go_wp2_with (go_at_call 60; refine CM.out.mono ?_; rintro e w' ⟨rfl, rfl⟩)
  go_loopw [15] (fun iv wr => ∃ i : Nat, i ≤ j ∧ iv = .int .i64 (i : Int) ∧ wr = w') (fun iv _ => j - (intOf iv).toNat)
  case atStart => exact ⟨0, Nat.zero_le _, rfl, rfl⟩
  case round =>
    obtain ⟨i, hi, rfl, rfl⟩ := hrel
    have hin : i < X.n := by omega
    have i1 : (i : Int) < (X.n : Int) := by omega
    have ra := H.out.ra hin
    have f3 := H.out.f3 hin
    have f0 := H.out.f0 hin
    have hi64 : (i : Int) ≤ 64 := by have := H.out.n2; omega
    by_cases hij : i = j
    · subst hij
      have e1 := HJ.out.1
      have e2 := HJ.out.2
      rw [e1] at f3
      rw [e2] at f0
      clear e1 e2
      go_wp2
      go_ret
      exact ⟨rfl, rfl⟩
    · have hn := HL.out i (by omega)
      cases hu : (G.F i).us with
      | false =>
        rw [hu] at f3
        clear hu
        go_wp2
        go_roundw
        case rel => exact ⟨i + 1, by omega, by go_num, by first | rfl | trivial⟩
        case measure => simp [intOf]; omega
      | true =>
        have hne : ((G.F i).id == id) = false := by
          have : (G.F i).id ≠ id := fun e => hn ⟨hu, e⟩
          simpa using this
        rw [hu] at f3
        clear hn hu
        generalize (G.F i).id = y at *
        go_wp2
        go_roundw
        case rel => exact ⟨i + 1, by omega, by go_num, by first | rfl | trivial⟩
        case measure => simp [intOf]; omega
set_option maxHeartbeats 1000000 in
theorem find_miss (h : PoIs B w X G) (id : Int) (hlt : ∀ i, i < X.n → ¬ (G.F i).has id) : Calls Tryz.prog 58 #[.pointer (some ⟨X.pb, 0, none⟩), .int .i64 id] w fun e w' => e = .returned (.pointer none) ∧ w' = w := by
  have CM : Hid (Calls Tryz.prog 60 #[.pointer (some ⟨X.pb, 0, none⟩)] w fun e w' => e = .returned (.bool true) ∧ w' = w) := isMade_po h
  have c2 := h.c2
  have H : Hid (PoIs B w X G) := h
  have HL : Hid (∀ i, i < X.n → ¬ (G.F i).has id) := hlt
  clear h hlt
  go_enter Tryz.func58, Tryz.ntmps58
  go_wp2_with (go_at_call 60; refine CM.out.mono ?_; rintro e w' ⟨rfl, rfl⟩)
  go_loopw [15] (fun iv wr => ∃ i : Nat, i ≤ X.n ∧ iv = .int .i64 (i : Int) ∧ wr = w') (fun iv _ => X.n - (intOf iv).toNat)
  case atStart => exact ⟨0, Nat.zero_le _, rfl, rfl⟩
  case round =>
    obtain ⟨i, hi, rfl, rfl⟩ := hrel
    by_cases hin : i < X.n
    · have i1 : (i : Int) < (X.n : Int) := by omega
      have ra := H.out.ra hin
      have f3 := H.out.f3 hin
      have f0 := H.out.f0 hin
      have hi64 : (i : Int) ≤ 64 := by have := H.out.n2; omega
      have hn := HL.out i (by omega)
      cases hu : (G.F i).us with
      | false =>
        rw [hu] at f3
        clear hu
        go_wp2
        go_roundw
        case rel => exact ⟨i + 1, by omega, by go_num, by first | rfl | trivial⟩
        case measure => simp [intOf]; omega
      | true =>
        have hne : ((G.F i).id == id) = false := by
          have : (G.F i).id ≠ id := fun e => hn ⟨hu, e⟩
          simpa using this
        rw [hu] at f3
        clear hn hu
        generalize (G.F i).id = y at *
        go_wp2
        go_roundw
        case rel => exact ⟨i + 1, by omega, by go_num, by first | rfl | trivial⟩
        case measure => simp [intOf]; omega
    · have i1 : ¬ (i : Int) < (X.n : Int) := by omega
      clear hin
      go_wp2
      go_ret
      exact ⟨rfl, rfl⟩
theorem rem_lt {a n : Nat} (h : a < 2 * n) : ((a : Int).tmod (n : Int)) = ((if a < n then a else a - n : Nat) : Int) := by
  rw [← Int.ofNat_tmod]
  congr 1
  split
  · rename_i h1; exact Nat.mod_eq_of_lt h1
  · rename_i h1
    rw [Nat.mod_eq_sub_mod (by omega), Nat.mod_eq_of_lt (by omega)]
end
end Go.Proofs.YtgodjnbbocnckaaGreat

namespace Go.Proofs
open Go.Shelf
def Tryz.sortF_ren : Go.Shelf.Ren := ⟨fun | 6 => 82 | 15 => 105 | 14 => 104 | 28 => 131 | 29 => 132 | 20 => 123 | 21 => 124 | 22 => 125 | 23 => 126 | 24 => 127 | 25 => 128 | 26 => 129 | 27 => 130 | 46 => 154 | 47 => 155 | 48 => 156 | 49 => 157 | 50 => 158 | 57 => 166 | n => n, fun | 22 => 65 | 24 => 79 | 25 => 146 | 3 => 3 | 39 => 152 | 0 => 0 | 53 => 182 | 55 => 42 | 4 => 4 | 46 => 175 | 45 => 174 | 50 => 179 | 5 => 5 | 9 => 9 | 66 => 210 | 70 => 166 | 76 => 225 | 77 => 68 | n => n, fun | n => n⟩
theorem Tryz.sortF : Go.Proofs.SlLaysF.n6 Tryz.prog Tryz.sortF_ren := {
  mixed := by kernel_rfl
  f6 := ⟨Tryz.f82.name, by decide, Tryz.func82.trans (congrArg some (by kernel_rfl))⟩
  f14 := ⟨Tryz.f104.name, by decide, Tryz.func104.trans (congrArg some (by kernel_rfl))⟩
  f15 := Tryz.func105.trans (congrArg some (by kernel_rfl))
  f20 := ⟨Tryz.f123.name, by decide, Tryz.func123.trans (congrArg some (by kernel_rfl))⟩
  f21 := ⟨Tryz.f124.name, by decide, Tryz.func124.trans (congrArg some (by kernel_rfl))⟩
  f22 := ⟨Tryz.f125.name, by decide, Tryz.func125.trans (congrArg some (by kernel_rfl))⟩
  f23 := ⟨Tryz.f126.name, by decide, Tryz.func126.trans (congrArg some (by kernel_rfl))⟩
  f24 := ⟨Tryz.f127.name, by decide, Tryz.func127.trans (congrArg some (by kernel_rfl))⟩
  f25 := ⟨Tryz.f128.name, by decide, Tryz.func128.trans (congrArg some (by kernel_rfl))⟩
  f26 := ⟨Tryz.f129.name, by decide, Tryz.func129.trans (congrArg some (by kernel_rfl))⟩
  f27 := ⟨Tryz.f130.name, by decide, Tryz.func130.trans (congrArg some (by kernel_rfl))⟩
  f28 := Tryz.func131.trans (congrArg some (by kernel_rfl))
  f29 := Tryz.func132.trans (congrArg some (by kernel_rfl))
  f46 := ⟨Tryz.f154.name, by decide, Tryz.func154.trans (congrArg some (by kernel_rfl))⟩
  f47 := Tryz.func155.trans (congrArg some (by kernel_rfl))
  f48 := Tryz.func156.trans (congrArg some (by kernel_rfl))
  f49 := ⟨Tryz.f157.name, by decide, Tryz.func157.trans (congrArg some (by kernel_rfl))⟩
  f50 := ⟨Tryz.f158.name, by decide, Tryz.func158.trans (congrArg some (by kernel_rfl))⟩
  f57 := ⟨Tryz.f166.name, by decide, Tryz.func166.trans (congrArg some (by kernel_rfl))⟩
  t0 := Tryz.underlying0
  a0 := Tryz.isAgg0
  z0 := Tryz.sizeOf0
  v0 := Tryz.zeroValue0
  t3 := Tryz.underlying3
  a3 := Tryz.isAgg3
  z3 := Tryz.sizeOf3
  v3 := Tryz.zeroValue3
  t4 := Tryz.underlying4
  a4 := Tryz.isAgg4
  z4 := Tryz.sizeOf4
  v4 := Tryz.zeroValue4
  t5 := Tryz.underlying5
  a5 := Tryz.isAgg5
  z5 := Tryz.sizeOf5
  v5 := Tryz.zeroValue5
  t9 := Tryz.underlying9
  a9 := Tryz.isAgg9
  z9 := Tryz.sizeOf9
  v9 := Tryz.zeroValue9
  t22 := Tryz.underlying65
  a22 := Tryz.isAgg65
  z22 := Tryz.sizeOf65
  v22 := Tryz.zeroValue65
  a24 := Tryz.isAgg79
  z24 := Tryz.sizeOf79
  t25 := Tryz.underlying146
  a25 := Tryz.isAgg146
  z25 := Tryz.sizeOf146
  v25 := Tryz.zeroValue146
  t39 := Tryz.underlying152
  a39 := Tryz.isAgg152
  z39 := Tryz.sizeOf152
  v39 := Tryz.zeroValue152
  t45 := Tryz.underlying174
  a45 := Tryz.isAgg174
  z45 := Tryz.sizeOf174
  v45 := Tryz.zeroValue174
  t46 := Tryz.underlying175
  a46 := Tryz.isAgg175
  z46 := Tryz.sizeOf175
  v46 := Tryz.zeroValue175
  t50 := Tryz.underlying179
  a50 := Tryz.isAgg179
  z50 := Tryz.sizeOf179
  v50 := Tryz.zeroValue179
  t53 := Tryz.underlying182
  a53 := Tryz.isAgg182
  z53 := Tryz.sizeOf182
  v53 := Tryz.zeroValue182
  t55 := Tryz.underlying42
  a55 := Tryz.isAgg42
  z55 := Tryz.sizeOf42
  v55 := Tryz.zeroValue42
  t66 := Tryz.underlying210
  a66 := Tryz.isAgg210
  z66 := Tryz.sizeOf210
  v66 := Tryz.zeroValue210
  t70 := Tryz.underlying166
  a70 := Tryz.isAgg166
  z70 := Tryz.sizeOf166
  v70 := Tryz.zeroValue166
  t76 := Tryz.underlying225
  a76 := Tryz.isAgg225
  z76 := Tryz.sizeOf225
  v76 := Tryz.zeroValue225
  t77 := Tryz.underlying68
  a77 := Tryz.isAgg68
  z77 := Tryz.sizeOf68
  v77 := Tryz.zeroValue68 }
end Go.Proofs

namespace Go.Proofs.YtgodjnbbocnckaaGreat
open Go.RowKit Go.Maps Go.ChangeMaps
set_option linter.unusedVariables false
set_option linter.unusedSimpArgs false
set_option maxRecDepth 100000

/-- What cmp.Compare tells. -/
def cmpI (a b : Int) : Int := if a < b then -1 else if b < a then 1 else 0
theorem isNaN_int (x : Int) (w : World) : Calls Tryz.prog 106 #[.int .i64 x] w fun e w' => e = .returned (.bool false) ∧ w' = w := by
  go_enter Tryz.func106, Tryz.ntmps106
  go_wp2
  go_ret
  exact ⟨by simp, rfl⟩
theorem Compare_int (x y : Int) (w : World) : Calls Tryz.prog 84 #[.int .i64 x, .int .i64 y] w fun e w' => e = .returned (.int .i64 (cmpI x y)) ∧ w' = w := by
  have CN : Hid (∀ z wx, Calls Tryz.prog 106 #[.int .i64 z] wx fun e w' => e = .returned (.bool false) ∧ w' = wx) := fun z wx => isNaN_int z wx
  by_cases h1 : x < y
  · have e : cmpI x y = -1 := by unfold cmpI; rw [if_pos h1]
    rw [e]
    go_enter Tryz.func84, Tryz.ntmps84
    go_wp2_with (go_at_call 106; refine (CN.out _ _).mono ?_; rintro e w' ⟨rfl, rfl⟩)
    go_ret
    exact ⟨rfl, rfl⟩
  · by_cases h2 : y < x
    · have e : cmpI x y = 1 := by unfold cmpI; rw [if_neg h1, if_pos h2]
      rw [e]
      go_enter Tryz.func84, Tryz.ntmps84
      go_wp2_with (go_at_call 106; refine (CN.out _ _).mono ?_; rintro e w' ⟨rfl, rfl⟩)
      go_ret
      exact ⟨rfl, rfl⟩
    · have e : cmpI x y = 0 := by unfold cmpI; rw [if_neg h1, if_neg h2]
      rw [e]
      go_enter Tryz.func84, Tryz.ntmps84
      go_wp2_with (go_at_call 106; refine (CN.out _ _).mono ?_; rintro e w' ⟨rfl, rfl⟩)
      go_ret
      exact ⟨rfl, rfl⟩
theorem closure_po {W : World} {a b : Nat} {x y : Int} (ha : W.cell? ⟨a, 0, none⟩ = some (.int .i64 x)) (hb : W.cell? ⟨b, 0, none⟩ = some (.int .i64 y)) :
    Calls Tryz.prog 83 #[.pointer (some ⟨a, 0, none⟩), .pointer (some ⟨b, 0, none⟩)] W fun e w' => e = .returned (.int .i64 (cmpI x y)) ∧ ∃ q, w' = W.drewN q := by
  have CC : Hid (∀ wx, Calls Tryz.prog 84 #[.int .i64 x, .int .i64 y] wx fun e w' => e = .returned (.int .i64 (cmpI x y)) ∧ w' = wx) := fun wx => Compare_int x y wx
  generalize cmpI x y = r at *
  go_enter Tryz.func83, Tryz.ntmps83
  go_wp2
  go_quiet ((go_at_call 84; exact Calls.quiet_of_same (CC.out _)))
  go_wp2
  go_ret
  exact ⟨rfl, nq, rfl⟩
/-! ### Rows of frames -/
def ptF (X : Ad) (j : Nat) : Value := .pointer (some ⟨X.fb j, 0, none⟩)
/-- A slice of frames that is only read. -/
structure Ps (w : World) (X : Ad) (a : Option Addr) (js : List Nat) : Prop where
  at_ : ∀ i, (h : i < js.length) → js[i] < X.n ∧ ∃ g, a = some ⟨g, 0, none⟩ ∧ g < w.heap.size ∧ (∃ cur fz, w.heap[g]? = some (.cells cur 79 fz)) ∧ w.cell? ⟨g, i, none⟩ = some (ptF X js[i])
structure OwnP (B : Nat) (w : World) (v : Value) (X : Ad) (js : List Nat) : Prop where
  row : w.ownsRow B 79 1 v js.length (js.map (ptF X))
section
variable {B b0 : Nat} {w w' : World} {X : Ad} {G : Gp} {a : Option Addr} {js : List Nat} {v : Value}
theorem Ps.below (h : Ps w X a js) (hb : Below w.heap.size w w') : Ps w' X a js := ⟨fun i hi => by
  obtain ⟨h1, g, h2, h3, ⟨cur, fz, h5⟩, h4⟩ := h.at_ i hi
  exact ⟨h1, g, h2, Nat.lt_of_lt_of_le h3 hb.size, ⟨cur, fz, (hb.block _ h3).trans h5⟩, (World.cell?_of_block (hb.block g h3)).trans h4⟩⟩
theorem Ps.kept {B' : Nat} (h : Ps w X a js) (hb : Kp isQ B' w w') : Ps w' X a js := ⟨fun i hi => by
  obtain ⟨h1, g, h2, h3, ⟨cur, fz, h5⟩, h4⟩ := h.at_ i hi
  have e := hb.block _ _ h5 (by simp [isQ, isA, isD, isL, isF])
  exact ⟨h1, g, h2, Nat.lt_of_lt_of_le h3 hb.size, ⟨cur, fz, e⟩, (World.cell?_of_block (w := w) (e.trans h5.symm)).trans h4⟩⟩
theorem Ps.all (h : PoIs B w X G) : Ps w X (some ⟨X.ra, 0, none⟩) (List.range X.n) := ⟨fun i hi => by
  have hi' : i < X.n := by simpa using hi
  obtain ⟨cur, fz, e, _⟩ := h.row
  refine ⟨by simpa using hi', X.ra, rfl, h.ralt, ⟨cur, fz, e⟩, ?_⟩
  rw [List.getElem_range]
  exact h.ra hi'⟩
theorem Ps.one (w : World) {j : Nat} (hj : j < X.n) : Ps (w.alloc (.cells #[ptF X j] 79)) X (some ⟨w.heap.size, 0, none⟩) [j] := ⟨fun i hi => by
  obtain rfl : i = 0 := by simpa using hi
  have e := (MapKept.heap_alloc w (.cells #[ptF X j] 79)).1
  exact ⟨hj, w.heap.size, rfl, lt_of_some e, ⟨_, _, e⟩, Joins.cell_of_block e 0⟩⟩
theorem cell_new0 (w : World) (x : Value) (t : TypeId) : (w.alloc (.cells #[x] t)).cell? ⟨w.heap.size, 0, none⟩ = some x := Joins.cell_of_block (MapKept.heap_alloc w (.cells #[x] t)).1 0
theorem OwnP.nil (B : Nat) (w : World) : OwnP B w (.slice none 0 0) X [] := ⟨rfl, Or.inl ⟨rfl, rfl⟩⟩
theorem OwnP.below (h : OwnP b0 w v X js) (hb : Below w.heap.size w w') : OwnP b0 w' v X js := by
  obtain ⟨h1, h2⟩ := h.row
  refine ⟨h1, ?_⟩
  rcases h2 with h2 | ⟨g, cap, cur, e, hB, hg, h3⟩
  · exact Or.inl h2
  · exact Or.inr ⟨g, cap, cur, e, hB, (hb.block _ (lt_of_some hg)).trans hg, h3⟩
theorem OwnP.ex (h : OwnP b0 w v X js) : ∃ a c, v = .slice a js.length c := by
  obtain ⟨h1, h2⟩ := h.row
  rcases h2 with ⟨rfl, h2⟩ | ⟨g, cap, cur, e, hB, hg, h3⟩
  · exact ⟨none, 0, by rw [h2]⟩
  · exact ⟨_, _, e⟩
theorem info_ptr : ∃ i, Tryz.prog.info? 79 = some i ∧ i.zero = some (.pointer none) ∧ i.size = 1 ∧ i.bytes = 8 :=
  info_parts (show (Tryz.prog.info? 79).map (fun i => (i.zero, i.size, i.bytes)) = some (some (.pointer none), 1, 8) by kernel_rfl)
theorem wpList_append_ptr {ops : Array Oper} {rest : List Oper} {o : Oper} {act : Act} {Q : Exit → Act → World → Prop} (hgd : o.guard = none) (s x : Operand)
    (ho : o.op = .call { callee := .builtin .append, args := #[s, x], argTypes := #[65, 65] }) (hs : act.eval s = v) (h : OwnP b0 w v X js)
    {g : Nat} {j : Nat} (hx : act.eval x = .slice (some ⟨g, 0, none⟩) 1 1) (hg : w.cell? ⟨g, 0, none⟩ = some (ptF X j)) (hB : b0 ≤ w.heap.size) (hl : js.length ≤ 100000)
    (K : ∀ v' w', OwnP b0 w' v' X (js ++ [j]) → Below b0 w w' → (∀ (k : Nat) (t : TypeId) (cur : Array Value) (fz : Nat × Nat), w.heap[k]? = some (Obj.cells cur t fz) → t ≠ 79 → w'.heap[k]? = some (Obj.cells cur t fz)) → wpList Tryz.prog ops Q rest (act.put o.dst v') w') : wpList Tryz.prog ops Q (o :: rest) act w := by
  obtain ⟨i, hi, hz0, hz1, hz2⟩ := info_ptr
  refine Go.wpList_append_own (P := Tryz.prog) (w := w) hgd s x 65 ho b0 79 i (.pointer none) 1 8 Tryz.underlying65 hi hz0 hz1 hz2 rfl (by omega) v js.length (js.map (ptF X)) hs h.row ⟨g, 0, none⟩ 1 1 [ptF X j] hx rfl ?_ ?_ (by unfold maxLen; omega) (by omega) hB ?_
  · intro j u hu
    have : j = 0 := by
      have := (List.getElem?_eq_some_iff.1 hu).1
      simpa using this
    subst this
    simp at hu
    subst hu
    have hadd : (⟨g, 0, none⟩ : Addr).add 0 = ⟨g, 0, none⟩ := by unfold Addr.add; split <;> simp_all
    rw [hadd]
    exact hg
  · intro u hu
    simp at hu
    subst hu
    rfl
  · intro v' w' hr hgr hn
    have hC : ∀ j, v.ownBlock = some j → b0 ≤ j ∧ ∃ cur, w.heap[j]? = some (.cells cur 79 (0, 0)) := by
      intro j e
      rcases h.row.2 with ⟨rfl, _⟩ | ⟨b, cap, cur, rfl, hbg, hgg, _⟩
      · simp [Value.ownBlock] at e
      · simp [Value.ownBlock] at e
        subst e
        exact ⟨hbg, cur, hgg⟩
    refine K v' w' ⟨?_⟩ ((Below.refl b0 w).grown hgr hB (fun j e => (hC j e).1)) (fun j t cur fz e hnr => (hgr.block j (lt_of_some e) (fun e2 => ?_)).trans e)
    · have e1 : (js ++ [j]).length = js.length + 1 := by simp
      have e2 : (js ++ [j]).map (ptF X) = js.map (ptF X) ++ [ptF X j] := by simp
      rw [e1, e2]
      exact hr
    · obtain ⟨_, cur, e3⟩ := hC j e2.symm
      rw [e] at e3; cases e3; exact hnr rfl
/-! ### Sorted -/
section
open Go.Sort Go.Shelf
variable {α : Type} [Inhabited α] {enc : α → Value}
theorem heap_sortedE {w : World} {g n : Nat} {os : Array Obj} {cur : Array Value} {e : TypeId} {fr : Nat × Nat} (d : Array α) (hb : w.heap[g]? = some (.cells cur e fr)) :
    (sortWorld enc w g 0 n d os).heap[g]? = some (.cells (putCells enc 0 d cur) e fr) := by
  have hlt := lt_of_some hb
  unfold sortWorld
  rw [heap_grow_old _ _ (by simpa [putRow, mapBlock, Sort.ahead] using hlt)]
  simp [putRow, mapBlock, Sort.ahead, Array.getElem?_modify, hb]
  rfl
theorem grownBy_sortedE {w : World} {g n : Nat} {os : Array Obj} (d : Array α) : w.grownBy (sortWorld enc w g 0 n d os) (some g) := by
  refine ⟨rfl, rfl, rfl, by simp [sortWorld, grow, putRow, mapBlock, Sort.ahead], fun k hk hne => ?_⟩
  unfold sortWorld
  rw [heap_grow_old _ _ (by simpa [putRow, mapBlock, Sort.ahead] using hk)]
  have : g ≠ k := fun e => hne (by rw [e])
  simp [putRow, mapBlock, Sort.ahead, Array.getElem?_modify, this]
theorem cell_sortedE {w : World} {g n : Nat} {os : Array Obj} (d : Array α) {p : Addr} (hp : p.block < w.heap.size) (hn : p.block ≠ g) : (sortWorld enc w g 0 n d os).cell? p = w.cell? p :=
  World.cell?_of_block ((grownBy_sortedE (os := os) (n := n) d).block _ hp (fun e => hn (by cases e; rfl)))
end
def toF {n : Nat} (hn : 0 < n) (j : Nat) : Fin n := if h : j < n then ⟨j, h⟩ else ⟨0, hn⟩
theorem toF_val {n : Nat} (hn : 0 < n) {j : Nat} (h : j < n) : (toF hn j).val = j := by unfold toF; rw [dif_pos h]
open Go.Sort Go.Shelf in
set_option maxHeartbeats 1000000 in
theorem sort_po (h : PoIs B w X G) (hne : js ≠ []) (hjs : ∀ j ∈ js, j < X.n) (hl : js.length ≤ 1000) (ho : OwnP b0 w v X js) :
    Calls Tryz.prog 82 #[v, .func (.func 83) #[] #[]] w fun e w' => e = .returned (.tuple #[]) ∧ ∃ ds, ds.Perm js ∧ ds.Pairwise (fun i j => (G.F i).id ≤ (G.F j).id) ∧ OwnP b0 w' v X ds ∧ ∃ g, v.ownBlock = some g ∧ b0 ≤ g ∧ w.grownBy w' (some g) := by
  have hn : 0 < X.n := by have := h.n1; omega
  haveI : Inhabited (Fin X.n) := ⟨⟨0, hn⟩⟩
  rcases ho.row.2 with ⟨rfl, hz⟩ | ⟨g, cap, cur, rfl, hbg, hgg, hnc, hcm, hcs, htake⟩
  · exact absurd (List.eq_nil_of_length_eq_zero hz) hne
  have hd : (js.map (toF hn)).length = js.length := by simp
  have henc : ∀ j ∈ js, (fun i : Fin X.n => ptF X i.val) (toF hn j) = ptF X j := fun j hj => by dsimp only; rw [toF_val hn (hjs j hj)]
  have hmap : (js.map (toF hn)).map (fun i : Fin X.n => ptF X i.val) = js.map (ptF X) := by
    rw [List.map_map]; exact List.map_congr_left henc
  have hgf : ∀ i : Fin X.n, X.fb i.val ≠ g := fun i e => by
    have := h.fr i.val i.isLt
    rw [e, hgg] at this
    simp at this
  have hH : Holds (fun i : Fin X.n => ptF X i.val) w g 0 (js.map (toF hn)).toArray := by
    intro j hj
    have hj' : j < js.length := by simpa using hj
    refine ⟨?_, Joins.unfrozen_of_block hgg _⟩
    rw [Nat.zero_add, cell_of_row w g j cur _ (0, 0) hgg]
    have e1 : (cur.toList.take (js.length * 1))[j]? = (js.map (ptF X))[j]? := by rw [htake]
    rw [List.getElem?_take_of_lt (by omega)] at e1
    rw [← Array.getElem?_toList, e1, ← hmap]
    simp [hj']
  have hcf : ∀ x y : Fin X.n, ltOf (fun x y : Fin X.n => cmpI (G.F x.val).id (G.F y.val).id) x y = decide ((G.F x.val).id < (G.F y.val).id) := fun x y => by
    unfold ltOf cmpI
    by_cases h1 : (G.F x.val).id < (G.F y.val).id
    · simp [h1]
    · by_cases h2 : (G.F y.val).id < (G.F x.val).id <;> simp [h1, h2]
  have hO : SWO (ltOf (fun x y : Fin X.n => cmpI (G.F x.val).id (G.F y.val).id)) := by
    refine ⟨fun x => ?_, fun x y z h1 h2 => ?_, fun x y z h1 h2 => ?_⟩
    · rw [hcf]; simp
    · rw [hcf] at *; simp at *; omega
    · rw [hcf] at *; simp at *; omega
  have hC : CmpReads Tryz.prog 83 #[] (fun i : Fin X.n => ptF X i.val) (fun x y : Fin X.n => cmpI (G.F x.val).id (G.F y.val).id) g 0 (js.map (toF hn)).toArray.size w := by
    intro m os dk hdk x y
    have cx : (sortWorld (fun i : Fin X.n => ptF X i.val) w g 0 m dk os).cell? ⟨X.fb x.val, 0, none⟩ = some (.int .i64 (G.F x.val).id) := (cell_sortedE dk (h.flt x.isLt) (hgf x)).trans (h.f0 x.isLt)
    have cy : (sortWorld (fun i : Fin X.n => ptF X i.val) w g 0 m dk os).cell? ⟨X.fb y.val, 0, none⟩ = some (.int .i64 (G.F y.val).id) := (cell_sortedE dk (h.flt y.isLt) (hgf y)).trans (h.f0 y.isLt)
    exact closure_po cx cy
  have eg : ∀ args w, (callFunc 83 args).run Tryz.prog w = .ok (.enter 83 args) w := enters_of Tryz.func83 (by kernel_rfl) rfl
  have hcon := Any.slices_SortFunc Tryz.sortF (fun i : Fin X.n => ptF X i.val) (fun _ => rfl) (fun x y : Fin X.n => cmpI (G.F x.val).id (G.F y.val).id) hO 83 #[] g 0 cap (js.map (toF hn)).toArray w eg hC.lays hH (lt_of_some hgg) (by simp; omega)
  change Calls Tryz.prog 82 _ _ _ at hcon
  rw [show (js.map (toF hn)).toArray.size = js.length by simp] at hcon
  refine hcon.mono ?_
  rintro e w' ⟨he, d', m, os, hp, hs, rfl⟩
  refine ⟨he, d'.toList.map Fin.val, ?_, ?_, ⟨?_⟩, g, rfl, hbg, grownBy_sortedE d'⟩
  · have h3 := hp.2.2
    have hsz : d'.size = js.length := by rw [hp.1]; simp
    have e1 : (d'.extract 0 js.length).toList = d'.toList := by rw [← hsz]; simp
    have e2 : ((js.map (toF hn)).toArray.extract 0 js.length).toList = js.map (toF hn) := by
      simp
      exact List.take_of_length_le (by simp)
    rw [e1, e2] at h3
    have h4 := h3.map Fin.val
    rw [List.map_map] at h4
    have e3 : js.map (Fin.val ∘ toF hn) = js := by
      conv => rhs; rw [← List.map_id js]
      exact List.map_congr_left (fun j hj => toF_val hn (hjs j hj))
    rw [e3] at h4
    exact h4
  · have hsz : d'.size = js.length := by rw [hp.1]; simp
    rw [List.pairwise_map, List.pairwise_iff_getElem]
    intro i j hi hj hij
    have hi' : i < d'.size := by simpa using hi
    have hj' : j < d'.size := by simpa using hj
    have := hs i j (Nat.zero_le _) hij (by omega)
    rw [hcf] at this
    simp [hi', hj'] at this
    simp
    omega
  · have hsz : d'.size = js.length := by rw [hp.1]; simp
    refine ⟨by simp, Or.inr ⟨g, cap, _, by simp [hsz], hbg, heap_sortedE d' hgg, by simp [hsz]; exact hnc, hcm, by simp [putCells]; omega, ?_⟩⟩
    apply List.ext_getElem?
    intro j
    by_cases hj : j < js.length
    · have hjd : j < d'.size := by omega
      have hjc : j < cur.size := by omega
      rw [List.getElem?_take_of_lt (by simp [hsz]; omega), Array.getElem?_toList]
      simp [putCells, hjd, hjc]
    · rw [List.getElem?_take_eq_none (by simp [hsz]; omega), List.getElem?_eq_none (by simp [hsz]; omega)]
end
end Go.Proofs.YtgodjnbbocnckaaGreat

namespace Go.Proofs.YtgodjnbbocnckaaGreat
open Go.RowKit Go.Maps Go.ChangeMaps
set_option linter.unusedVariables false
set_option linter.unusedSimpArgs false
set_option maxRecDepth 100000

def dty (G : Gp) (j : Nat) : Bool := decide (0 < (G.F j).si)
/-- The dirty frames of some, by their pages. -/
structure Dl (w w' : World) (X : Ad) (G : Gp) (js : List Nat) (e : Ending) (a : Option Addr) (c : Nat) (ds : List Nat) : Prop where
  e : e = .returned (.slice a ds.length c)
  ps : Ps w' X a ds
  perm : ds.Perm (js.filter (dty G))
  sort : ds.Pairwise (fun i j => (G.F i).id ≤ (G.F j).id)
  below : Below w.heap.size w w'
section
variable {B b0 : Nat} {w w' : World} {X : Ad} {G : Gp} {a : Option Addr} {js : List Nat} {v : Value}
theorem OwnP.ps (h : OwnP b0 w v X js) (hj : ∀ j ∈ js, j < X.n) {a : Option Addr} {n c : Nat} (hv : v = .slice a n c) : Ps w X a js := by
  refine ⟨fun i hi => ⟨hj _ (List.getElem_mem hi), ?_⟩⟩
  obtain ⟨h1, h2⟩ := h.row
  rcases h2 with ⟨rfl, h2⟩ | ⟨g, cap, cur, e, hB, hg, h3, h4, h5, h6⟩
  · omega
  · rw [hv] at e
    cases e
    refine ⟨g, rfl, lt_of_some hg, ⟨_, _, hg⟩, ?_⟩
    rw [cell_of_row w g i cur _ (0, 0) hg]
    have : (js.map (ptF X))[i]? = some (ptF X js[i]) := by simp [hi]
    rw [← h6, List.getElem?_take, if_pos (by omega)] at this
    simpa using this
set_option maxHeartbeats 4000000 in
theorem dirtyOf_po (h : PoIs B w X G) (hp : Ps w X a js) (hl : js.length ≤ 64) (c : Nat) : Calls Tryz.prog 63 #[.slice a js.length c] w fun e w' => ∃ a' c' ds, Dl w w' X G js e a' c' ds := by
  have hjs : ∀ j ∈ js, j < X.n := fun j hj => by
    obtain ⟨i, hi, rfl⟩ := List.getElem_of_mem hj
    exact (hp.at_ i hi).1
  have HD : Hid (∀ wx i (hi : i < js.length), Below w.heap.size w wx → Calls Tryz.prog 59 #[ptF X js[i]] wx fun e w' => e = .returned (.bool (dty G js[i])) ∧ w' = wx) := fun wx i hi hx => isDirty_at ((h.below hx).f4 (hp.at_ i hi).1)
  have HA : Hid (∀ wx i (hi : i < js.length), Below w.heap.size w wx → ∃ g, a = some ⟨g, 0, none⟩ ∧ wx.cell? ⟨g, i, none⟩ = some (ptF X js[i])) := fun wx i hi hx => by
    obtain ⟨_, g, e, _, _, hc⟩ := (hp.below hx).at_ i hi
    exact ⟨g, e, hc⟩
  have HT : Hid (∀ i (hi : i < js.length), (js.take (i + 1)).filter (dty G) = (js.take i).filter (dty G) ++ (if dty G js[i] = true then [js[i]] else [])) := fun i hi => by
    rw [List.take_succ_eq_append_getElem hi, List.filter_append]
    by_cases hd : dty G js[i] = true
    · rw [if_pos hd]; simp [hd]
    · rw [if_neg hd]; simp [hd]
  have HL : Hid (∀ i, ((js.take i).filter (dty G)).length ≤ 100000) := fun i => by
    have h1 := List.length_filter_le (dty G) (js.take i)
    have h2 := List.length_take_le' i js
    omega
  have HS : Hid (∀ wx v, Below w.heap.size w wx → OwnP w.heap.size wx v X (js.filter (dty G)) → js.filter (dty G) ≠ [] → Calls Tryz.prog 82 #[v, .func (.func 83) #[] #[]] wx fun e w' => e = .returned (.tuple #[]) ∧ ∃ ds, ds.Perm (js.filter (dty G)) ∧ ds.Pairwise (fun i j => (G.F i).id ≤ (G.F j).id) ∧ OwnP w.heap.size w' v X ds ∧ Below w.heap.size w w') := fun wx v hx ho hne => by
    refine (sort_po (h.below hx) hne (fun j hj => hjs j ((List.mem_filter.1 hj).1)) (by have := HL.out js.length; rw [List.take_length] at this; have h1 := List.length_filter_le (dty G) js; omega) ho).mono ?_
    rintro e w' ⟨he, ds, h1, h2, h3, g, hg, hbg, hgr⟩
    exact ⟨he, ds, h1, h2, h3, hx.grown hgr hx.size (fun j e => by cases e; exact hbg)⟩
  have HN : Hid (∀ wx p cap fv, Calls Tryz.prog 82 #[.slice p 0 cap, fv] wx fun e w' => e = .returned (.tuple #[]) ∧ w' = wx) := fun wx p cap fv => AnyF.slices_SortFunc_none { Tryz.sortF with } p cap fv wx
  have HW : Hid (Below w.heap.size w w) := Below.refl _ _
  have HO : Hid (∀ wx v, OwnP w.heap.size wx v X (js.filter (dty G)) → OwnP w.heap.size wx v X (js.filter (dty G))) := fun _ _ h => h
  have HJ : Hid (∀ j ∈ js, j < X.n) := hjs
  clear h hp hjs
  go_enter Tryz.func63, Tryz.ntmps63
  go_wp2
  go_loopw [3, 8] (fun dv iv wr => ∃ (i : Nat) (ad : Option Addr) (cc : Nat), i ≤ js.length ∧ iv = .int .i64 (i : Int) ∧ dv = .slice ad ((js.take i).filter (dty G)).length cc ∧ OwnP w.heap.size wr (.slice ad ((js.take i).filter (dty G)).length cc) X ((js.take i).filter (dty G)) ∧ Below w.heap.size w wr) (fun _ iv _ => js.length - (intOf iv).toNat)
  case atStart => exact ⟨0, none, 0, Nat.zero_le _, rfl, rfl, OwnP.nil _ _, HW.out⟩
  case round =>
    obtain ⟨i, ad, cc, hi, rfl, rfl, ho, hb⟩ := hrel
    have HB : Hid (Below w.heap.size w wr) := hb
    by_cases hlt : i < js.length
    · have i1 : (i : Int) < (js.length : Int) := by omega
      have i64 : (i : Int) ≤ 64 := by omega
      obtain ⟨g, ha, hc⟩ := HA.out wr i hlt hb
      subst ha
      have hT := HT.out i hlt
      have CD := fun wx hx => HD.out wx i hlt hx
      have hlen := HL.out i
      obtain ⟨j, hj⟩ : ∃ j, j = js[i] := ⟨_, rfl⟩
      rw [← hj] at hT hc CD
      have HCD : Hid (∀ wx, Below w.heap.size w wx → Calls Tryz.prog 59 #[ptF X j] wx fun e w' => e = .returned (.bool (dty G j)) ∧ w' = wx) := CD
      have HOw : Hid (OwnP w.heap.size wr (.slice ad ((js.take i).filter (dty G)).length cc) X ((js.take i).filter (dty G))) := ho
      clear CD ho hj
      simp only [ptF] at hc HCD
      by_cases hd : dty G j = true
      · rw [if_pos hd] at hT
        rw [hd] at HCD
        have hTH : Hid ((js.take (i + 1)).filter (dty G) = (js.take i).filter (dty G) ++ [j]) := hT
        clear hT hd hb
        generalize (js.take i).filter (dty G) = L at *
        go_wp2_with (first
          | (go_at_call 59; refine (HCD.out _ HB.out).mono ?_; rintro e w1 ⟨rfl, rfl⟩)
          | (at_builtin; refine wpList_append_ptr (b0 := w.heap.size) (X := X) (j := j) rfl _ _ rfl rfl (HOw.out.below ((Below.refl _ _).alloc (Nat.le_refl _) _)) rfl (cell_new0 _ _ _) ?_ hlen ?_; exact Nat.le_trans HB.out.size (by simp); intro v2 w2 o2 b2 _; obtain ⟨a2, c2, rfl⟩ := o2.ex))
        go_roundw
        case rel =>
          refine ⟨i + 1, a2, c2, hlt, by go_num, ?_, ?_, ?_⟩
          · rw [hTH.out]; simp
          · rw [hTH.out]; exact o2
          · exact (HB.out.alloc (by exact HB.out.size) _).trans b2
        case measure => simp [intOf]; omega
      · rw [if_neg hd, List.append_nil] at hT
        have hd' : dty G j = false := by simpa using hd
        rw [hd'] at HCD
        have hTH : Hid ((js.take (i + 1)).filter (dty G) = (js.take i).filter (dty G)) := hT
        clear hT hd hb hd'
        generalize (js.take i).filter (dty G) = L at *
        go_wp2_with (go_at_call 59; refine (HCD.out _ HB.out).mono ?_; rintro e w1 ⟨rfl, rfl⟩)
        go_roundw
        case rel =>
          refine ⟨i + 1, ad, cc, hlt, by go_num, ?_, ?_, HB.out⟩
          · rw [hTH.out]
          · rw [hTH.out]; exact HOw.out
        case measure => simp [intOf]; omega
    · obtain rfl : i = js.length := by omega
      have i1 : ¬ (js.length : Int) < (js.length : Int) := by omega
      rw [List.take_length] at ho
      rw [List.take_length]
      clear hlt
      by_cases hne : js.filter (dty G) = []
      · have HP : Hid (js.filter (dty G) = []) := hne
        rw [hne]
        clear ho hne
        go_wp2_with (go_at_call 82; refine (HN.out _ _ _ _).mono ?_; rintro e w1 ⟨rfl, rfl⟩)
        go_ret
        exact ⟨ad, cc, [], rfl, ⟨fun i hi => absurd hi (Nat.not_lt_zero _)⟩, by rw [HP.out], List.Pairwise.nil, HB.out⟩
      · have CS : Hid (Calls Tryz.prog 82 #[.slice ad (js.filter (dty G)).length cc, .func (.func 83) #[] #[]] wr fun e w' => e = .returned (.tuple #[]) ∧ ∃ ds, ds.Perm (js.filter (dty G)) ∧ ds.Pairwise (fun i j => (G.F i).id ≤ (G.F j).id) ∧ OwnP w.heap.size w' (.slice ad (js.filter (dty G)).length cc) X ds ∧ Below w.heap.size w w') := HS.out _ _ hb ho hne
        clear ho hb hne
        have HL2 : Hid (∀ ds : List Nat, ds.Perm (js.filter (dty G)) → ds.length = (js.filter (dty G)).length) := fun ds h => h.length_eq
        go_wp2_with (go_at_call 82; refine CS.out.mono ?_; rintro e w1 ⟨rfl, ds, h1, h2, h3, h4⟩)
        go_ret
        refine ⟨ad, cc, ds, ?_, ?_, h1, h2, h4⟩
        · rw [h1.length_eq]; rfl
        · exact h3.ps (fun j hj => HJ.out j (List.mem_filter.1 (h1.subset hj)).1) rfl
end
end Go.Proofs.YtgodjnbbocnckaaGreat
