/- Open. add, Append, Put. Flush, Need, Bound, drop, Cut. Bound, drop, Cut. Cut, Need. Read, Records. Records: a slice of records of the call's own. Records. A log and what stands on its disk: ONE predicate, and what each call makes of it. -/
import Derived.Test.YtgcfbjecmmnlhaaGreatMaj
import Derived.Test.YtgcfbjecmmnlhaaGreatMaa
namespace Go.Proofs.YtgcfbjecmmnlhaaGreat
open Go.RowKit Go.Maps Go.ChangeMaps
set_option linter.unusedVariables false
set_option linter.unusedSimpArgs false
set_option maxRecDepth 100000

section
variable {B l k : Nat} {w w' : World} {S S' : Dk} {R R' : Lr}
/-- The log that Open gives. -/
def opR (db bs sc run : Nat) (fs : List ByteArray) : Lr := ⟨db, (bs : Int), (sc : Int), (run : Int), cat fs, plc 1 fs, ((cat fs).size : Int) + 1, false⟩
theorem moved_plc (fs : List ByteArray) : ∀ a : Nat, moved 1 (plc a fs) = plc (a + 1) fs := by
  induction fs with
  | nil => intro a; rfl
  | cons f l ih =>
    intro a
    have := ih (a + f.size)
    simp only [moved, plc, List.map_cons] at this ⊢
    rw [this, show a + f.size + 1 = a + 1 + f.size by omega, show (1 : Int) + (a : Int) = ((a + 1 : Nat) : Int) by omega]
theorem plc_bd (fs : List ByteArray) (a n : Nat) (h : a + (cat fs).size ≤ n) : ∀ x ∈ plc a fs, 0 ≤ x ∧ x ≤ (n : Int) := by
  induction fs generalizing a with
  | nil => intro x hx; cases hx
  | cons f l ih =>
    rw [cat, bsz] at h
    intro x hx
    simp only [plc, List.mem_cons] at hx
    rcases hx with rfl | hx
    · omega
    · exact ih (a + f.size) (by omega) x hx
/-- What Open's last step comes to on a disk whose power does not go. -/
def Opn (S S' : Dk) (bs sc run : Nat) (t : ByteArray) : Prop := (sc ≤ t.size / 58 ∧ S' = S) ∨ (t.size / 58 < sc ∧ Laid S S' (nw bs t run (t.size / 58) (min (t.size / 58 + 1) sc)) 0)
set_option maxHeartbeats 4000000 in
theorem Open_calm {db : Nat} (h : Ds B w db k S) (hk : k ≤ 30000) (bs sc run : Nat) (hs1 : 1 ≤ sc) (hsc2 : sc ≤ 8000) (hr1 : 1 ≤ run) (hr2 : run ≤ 4294967295) (hfit : bs + sc ≤ S.n) (hu : S.up = true) (hc : S.set = false)
    (Q : Nat → Sec) (hQ : ∀ i, i < sc → S.now (bs + i) = encQ (Q i) ∧ (Q i).1 < 4294967296 ∧ (Q i).2.size ≤ 58) :
    Calls Tryz.prog 10 #[.pointer (some ⟨db, 0, none⟩), .int .i64 (bs : Int), .int .i64 (sc : Int), .int .i64 (run : Int)] w fun e w' =>
      ∃ fs S' l, e = .returned (.tuple #[.pointer (some ⟨l, 0, none⟩), .int .i64 0]) ∧ Spl (stand Q run sc) fs ∧ Opn S S' bs sc run (cat fs) ∧ Lx B w' l (k + sc + 1) S' (opR db bs sc run fs) ∧ Kp isA B w w' := by
  have hn2 := h.q.ok.n2
  obtain ⟨R1, hR1⟩ : ∃ R1 : Lr, R1 = ⟨db, (bs : Int), (sc : Int), (run : Int), ⟨#[]⟩, [], 0, false⟩ := ⟨_, rfl⟩
  have HSZ : Hid ((stand Q run sc).size ≤ 58 * sc) := stK_size Q run sc 0 1 (fun j h1 h2 => (hQ j (by omega)).2.2)
  have CZ : Hid (Calls Tryz.prog 37 #[.pointer (some ⟨db, 0, none⟩)] w fun e w' => e = .returned (.int .i64 (S.n : Int)) ∧ w' = w) := h.size
  have CS : Hid (∀ wx, Lx B wx w.heap.size k S R1 → Calls Tryz.prog 38 #[.pointer (some ⟨w.heap.size, 0, none⟩)] wx fun e w' => e = .returned (.tuple #[.string (stand Q run sc), .int .i64 0]) ∧ Below wx.heap.size wx w') := fun wx hx => standing_any hx (by rw [hR1]) (by rw [hR1]) run (by rw [hR1]) hsc2 hfit hu Q hQ
  have CF : Hid (∀ wx, Calls Tryz.prog 39 #[.string (stand Q run sc)] wx fun e w' => ∃ v fs, e = .returned (.tuple #[v, .int .i64 ((cat fs).size : Int)]) ∧ OwnI wx.heap.size w' v (plc 0 fs) ∧ Spl (stand Q run sc) fs ∧ Below wx.heap.size wx w') := fun wx => frames_any _ (by have := HSZ.out; omega)
  have HC : Hid (∀ fs, Spl (stand Q run sc) fs → (cat fs).size ≤ 464000 ∧ fs.length ≤ 100000) := fun fs hf => by
    obtain ⟨x, hx⟩ := hf.pre
    have h1 := HSZ.out
    rw [hx, bsz] at h1
    have := cat_len hf.frm
    omega
  have HSL : Hid (∀ fs, Spl (stand Q run sc) fs → ∀ W, (Instr.slice 9 (.string (stand Q run sc)) none (some (.int .i64 ((cat fs).size : Int))) none).run Tryz.prog W = .ok (.string (cat fs)) W) := fun fs hf W => by
    obtain ⟨x, hx⟩ := hf.pre
    have hl : (cat fs).size ≤ (stand Q run sc).size := by rw [hx, bsz]; omega
    rw [run_slice_string_to_if W 9 _ .i64 _ Tryz.underlying9, if_pos (by omega), Int.toNat_natCast, hx, ext_left]
  have CG : Hid (∀ w0 wx v fs, Spl (stand Q run sc) fs → Lx B w0 w.heap.size k S R1 → Below w0.heap.size w0 wx → OwnI w0.heap.size wx v (plc 0 fs) → Calls Tryz.prog 40 #[.pointer (some ⟨w.heap.size, 0, none⟩), .string (cat fs), v] wx fun e w' => e = .returned (.tuple #[]) ∧ Lx B w' w.heap.size k S { R1 with T := cat fs, ps := plc 1 fs } ∧ Kp isL B wx w') := fun w0 wx v fs hf hx hb ho => by
    have hz := HC.out fs hf
    have := gather_any hx.g hb ho (cat fs) (by rw [hR1]; dsimp only; rw [nilz]; omega) (plc_bd fs 0 1000000 (by omega)) (by rw [hR1, plc_length]; dsimp only; simp; omega)
    refine this.mono ?_
    rintro e w' ⟨he, hL, hK⟩
    refine ⟨he, ⟨?_, ?_⟩, hK⟩
    · exact (hx.below hb).d.kept hK
    · have e1 : R1.T ++ cat fs = cat fs := by rw [hR1]; exact nil_app _
      have e2 : R1.ps ++ moved ((R1.T.size : Int) + 1) (plc 0 fs) = plc 1 fs := by rw [hR1]; exact moved_plc fs 0
      rw [e1, e2] at hL
      exact hL
  have CE : Hid (∀ wx fs, Spl (stand Q run sc) fs → Lx B wx w.heap.size k S { R1 with T := cat fs, ps := plc 1 fs } → Calls Tryz.prog 24 #[.pointer (some ⟨w.heap.size, 0, none⟩)] wx fun e w' => e = .returned (.int .i64 (((cat fs).size : Int) + 1)) ∧ w' = wx) := fun wx fs hf hx => End_any hx.g (by have := HC.out fs hf; dsimp only; omega)
  have HD : Hid (∀ wx fs, Lx B wx w.heap.size k S { R1 with T := cat fs, ps := plc 1 fs } → Lx B (wx.setCell ⟨w.heap.size, 8, none⟩ (.int .i64 (((cat fs).size : Int) + 1))) w.heap.size k S (opR db bs sc run fs) ∧ Kp isL B wx (wx.setCell ⟨w.heap.size, 8, none⟩ (.int .i64 (((cat fs).size : Int) + 1)))) := fun wx fs hx => hx.set (by rw [hR1]; rfl) rfl rfl (fun p v pv => by rw [hR1]; rfl)
  have CT : Hid (∀ wx fs, Spl (stand Q run sc) fs → Lx B wx w.heap.size k S (opR db bs sc run fs) → Calls Tryz.prog 41 #[.pointer (some ⟨w.heap.size, 0, none⟩), .int .i64 (((cat fs).size : Int) + 1), .int .i64 (run : Int)] wx fun v w' =>
      ∃ S', v = .returned (.int .i64 0) ∧ Opn S S' bs sc run (cat fs) ∧ Lx B w' w.heap.size (k + sc + 1) S' (opR db bs sc run fs) ∧ Kp isA B wx w') := fun wx fs hf hx => by
    have hz := HC.out fs hf
    have := settle_any hx (by omega) (bs := bs) (sc := sc) (d := (cat fs).size) rfl rfl rfl (by show (cat fs).size ≤ 500000; omega) (by omega) (by omega) (((cat fs).size : Int) + 1) (cat fs).size rfl (Nat.le_refl _) run (by omega) hfit hu
    refine this.mono ?_
    rintro v w' ⟨S', x, R', hv, hl, hK, hz2⟩
    have e1 : (opR db bs sc run fs).T.extract 0 (cat fs).size = cat fs := ext_whole (cat fs)
    rw [e1, Nat.min_self] at hz2
    rcases hz2 with ⟨h1, rfl, rfl, rfl⟩ | ⟨h1, rfl, h2⟩
    · exact ⟨_, hv, Or.inl ⟨by omega, rfl⟩, hl, hK⟩
    · obtain ⟨rfl, _⟩ := h2.calm hc
      exact ⟨S', hv, Or.inr ⟨by omega, h2⟩, hl, hK⟩
  have H0 : Hid (∀ o : Obj, Ds B (w.alloc o) db k S) := fun o => h.below ((Below.refl _ _).alloc (Nat.le_refl _) _)
  have hle := h.lt
  have HN : Hid (Lx B (w.alloc (.cells #[.pointer (some ⟨w.heap.size, 0, none⟩), .pointer (some ⟨db, 0, none⟩), .int .i64 (bs : Int), .int .i64 (sc : Int), .int .i64 (run : Int), .pointer none, .slice none 0 0, .slice none 0 0, .int .i64 0, .bool false] 87)) w.heap.size k S R1) := by
    subst hR1
    exact ⟨H0.out _, ⟨⟨_, _, _, (MapKept.heap_alloc w _).1, Or.inl rfl, World.ownsRowF_nil _ _ _ _, OwnI.nil _ _⟩, hle, by simp; omega⟩⟩
  have t1 : ¬ (bs : Int) < 0 := by omega
  have t2 : ¬ (sc : Int) < 1 := by omega
  have t3 : ¬ (run : Int) < 1 := by omega
  have t4 : ¬ (4294967295 : Int) < (run : Int) := by omega
  have t5 : ¬ (S.n : Int) - (bs : Int) < (sc : Int) := by omega
  have hw1 : IntKind.i64.wrap ((S.n : Int) - (bs : Int)) = (S.n : Int) - (bs : Int) := by rw [IntKind.wrap_i64]; omega
  clear h hQ hu hc hfit hR1 HSZ hsc2 hr1 hr2 hs1 hn2 hk
  generalize stand Q run sc = ST at *
  generalize (S.n : Int) = sn at *
  go_enter Tryz.func10, Tryz.ntmps10
  go_wp2_with (first
    | (go_at_call 37; refine CZ.out.mono ?_; rintro e w0 ⟨rfl, rfl⟩)
    | (go_at_call 38; refine (CS.out _ HN.out).mono ?_; rintro e w1 ⟨rfl, b1⟩; have H1 := HN.out.below b1; have bb1 : Below w0.heap.size w0 w1 := thn ((Below.refl _ _).alloc (Nat.le_refl _) _) b1; clear HN b1)
    | (go_at_call 39; refine (CF.out _).mono ?_; rintro e w2 ⟨v, fs, rfl, ho, hsp, b2⟩; have hsl := HSL.out fs hsp; obtain ⟨av, cv, rfl⟩ := ho.ex)
    | (go_at_call 40; refine (CG.out w1 _ _ fs hsp H1 b2 ho).mono ?_; rintro e w3 ⟨rfl, H3, k3⟩; have c8 := H3.g.c8; have f8 := H3.g.f 8)
    | (go_at_call 24; refine (CE.out _ fs hsp H3).mono ?_; rintro e w4 ⟨rfl, rfl⟩)
    | (go_at_call 41; refine (CT.out _ fs hsp (HD.out _ fs H3).1).mono ?_; rintro e w5 ⟨S', rfl, hop, H5, k5⟩))
  go_ret2
  have k4 := (HD.out _ fs H3).2
  exact ⟨fs, S', _, rfl, hsp, hop, H5, (((Kp.of_below (thn bb1 b2) hle).trans k3.l).trans k4.l).trans k5⟩
end
end Go.Proofs.YtgcfbjecmmnlhaaGreat

namespace Go.Proofs.YtgcfbjecmmnlhaaGreat
open Go.RowKit Go.Maps Go.ChangeMaps
set_option linter.unusedVariables false
set_option linter.unusedSimpArgs false
set_option maxRecDepth 100000

/-- A log of frames, so many bytes of which last. -/
def lgR (db bs sc run : Nat) (fs : List ByteArray) (dur : Nat) (dead : Bool) : Lr := ⟨db, (bs : Int), (sc : Int), (run : Int), cat fs, plc 1 fs, (dur : Int) + 1, dead⟩
theorem opR_lgR (db bs sc run : Nat) (fs : List ByteArray) : opR db bs sc run fs = lgR db bs sc run fs (cat fs).size false := rfl
/-- What holds of a log's frames. -/
structure Fit (sc : Nat) (fs : List ByteArray) : Prop where
  frm : ∀ f ∈ fs, Frm f
  sz : (cat fs).size ≤ 58 * sc
  s0 : 1 ≤ sc
  s1 : sc ≤ 8000
section
variable {B l k db bs sc run dur : Nat} {w w' w0 : World} {S S' : Dk} {fs gs : List ByteArray} {dead : Bool}
theorem Lx.kept {R R' : Lr} (h : Lx B w l k S R) (hd : R'.db = R.db) (g : LrIs B w' l R') (hk : Kp isL B w w') : Lx B w' l k S R' := ⟨by rw [hd]; exact h.d.kept hk, g⟩
theorem cat_moved (fs gs : List ByteArray) : plc 1 fs ++ moved (((cat fs).size : Int) + 1) (plc 0 gs) = plc 1 (fs ++ gs) := by
  rw [plc_append]
  congr 1
  have : ∀ (gs : List ByteArray) (a n : Nat), moved ((n : Int) + 1) (plc a gs) = plc (1 + n + a) gs := by
    intro gs
    induction gs with
    | nil => intro a n; rfl
    | cons f l ih =>
      intro a n
      have := ih (a + f.size) n
      simp only [moved, plc, List.map_cons] at this ⊢
      rw [this, show 1 + n + (a + f.size) = 1 + n + a + f.size by omega, show (n : Int) + 1 + (a : Int) = ((1 + n + a : Nat) : Int) by omega]
  have e := this gs 0 (cat fs).size
  rw [Nat.add_zero] at e
  exact e
set_option maxHeartbeats 1000000 in
theorem add_full (h : Lx B w l k S (lgR db bs sc run fs dur dead)) (hf : Fit sc fs) (s : ByteArray) (hs : s.size ≤ 1000000) (v : Value) (hn : ¬ (cat fs).size + s.size ≤ 58 * sc) : Calls Tryz.prog 55 #[.pointer (some ⟨l, 0, none⟩), .string s, v] w fun e w' => e = .returned (.tuple #[.int .i64 0, .int .i64 7]) ∧ Below w.heap.size w w' := by
  have h1 := hf.sz
  have h2 := hf.s1
  have CL : Hid (Calls Tryz.prog 26 #[.pointer (some ⟨l, 0, none⟩)] w fun e w' => e = .returned (.int .i64 ((sc : Int) * 58 - ((cat fs).size : Int))) ∧ Below w.heap.size w w') := Left_any h.g (by show (cat fs).size ≤ 1000000; omega) (by show (0 : Int) ≤ (sc : Int); omega) (by show (sc : Int) ≤ 10000; omega)
  have t1 : (sc : Int) * 58 - ((cat fs).size : Int) < (s.size : Int) := by omega
  clear h hf hn h1 h2
  generalize (sc : Int) * 58 - ((cat fs).size : Int) = L at *
  have hs' : (s.size : Int) ≤ 1000000 := by omega
  go_enter Tryz.func55, Tryz.ntmps55
  go_wp2_with (go_at_call 26; refine CL.out.mono ?_; rintro e w1 ⟨rfl, b1⟩)
  go_ret2
  exact ⟨rfl, b1⟩
set_option maxHeartbeats 1000000 in
theorem add_ok {v : Value} (h : Lx B w0 l k S (lgR db bs sc run fs dur false)) (hb : Below w0.heap.size w0 w) (hf : Fit sc fs) (hg : ∀ g ∈ gs, Frm g) (ho : OwnI w0.heap.size w v (plc 0 gs)) (hn : (cat fs).size + (cat gs).size ≤ 58 * sc) :
    Calls Tryz.prog 55 #[.pointer (some ⟨l, 0, none⟩), .string (cat gs), v] w fun e w' => e = .returned (.tuple #[.int .i64 (((cat fs).size : Int) + 1), .int .i64 0]) ∧ Lx B w' l k S (lgR db bs sc run (fs ++ gs) dur false) ∧ Kp isL B w w' := by
  have h1 := hf.sz
  have h2 := hf.s1
  have CL : Hid (Calls Tryz.prog 26 #[.pointer (some ⟨l, 0, none⟩)] w fun e w' => e = .returned (.int .i64 ((sc : Int) * 58 - ((cat fs).size : Int))) ∧ Below w.heap.size w w') := Left_any (h.below hb).g (by show (cat fs).size ≤ 1000000; omega) (by show (0 : Int) ≤ (sc : Int); omega) (by show (sc : Int) ≤ 10000; omega)
  have CE : Hid (∀ wx, Below w0.heap.size w0 wx → Calls Tryz.prog 24 #[.pointer (some ⟨l, 0, none⟩)] wx fun e w' => e = .returned (.int .i64 (((cat fs).size : Int) + 1)) ∧ w' = wx) := fun wx hx => End_any (h.below hx).g (by show (cat fs).size ≤ 1000000; omega)
  have CG : Hid (∀ wx, Below w0.heap.size w0 wx → OwnI w0.heap.size wx v (plc 0 gs) → Calls Tryz.prog 40 #[.pointer (some ⟨l, 0, none⟩), .string (cat gs), v] wx fun e w' => e = .returned (.tuple #[]) ∧ Lx B w' l k S (lgR db bs sc run (fs ++ gs) dur false) ∧ Kp isL B wx w') := fun wx hx hox => by
    have l1 := cat_len hf.frm
    have l2 := cat_len hg
    have := gather_any h.g hx hox (cat gs) (by show (cat fs).size + (cat gs).size ≤ 1000000; omega) (plc_bd gs 0 1000000 (by omega)) (by show (plc 1 fs).length + (plc 0 gs).length ≤ 100000; rw [plc_length, plc_length]; omega)
    refine this.mono ?_
    rintro e w' ⟨he, hL, hK⟩
    refine ⟨he, (h.below hx).kept rfl ?_ hK, hK⟩
    have e1 : cat fs ++ cat gs = cat (fs ++ gs) := (cat_append fs gs).symm
    have e2 := cat_moved fs gs
    show LrIs B w' l ⟨db, (bs : Int), (sc : Int), (run : Int), cat (fs ++ gs), plc 1 (fs ++ gs), (dur : Int) + 1, false⟩
    rw [← e1, ← e2]
    exact hL
  have HO : Hid (OwnI w0.heap.size w v (plc 0 gs)) := ho
  have HB : Hid (Below w0.heap.size w0 w) := hb
  have H9 : Hid (∀ wx, Below w0.heap.size w0 wx → wx.cell? ⟨l, 9, none⟩ = some (.bool false)) := fun wx hx => (h.below hx).g.c9
  have hle := h.le
  have t1 : ¬ (sc : Int) * 58 - ((cat fs).size : Int) < ((cat gs).size : Int) := by omega
  have hs' : ((cat gs).size : Int) ≤ 1000000 := by omega
  clear h hf hn h1 h2 ho hb hg
  generalize (sc : Int) * 58 - ((cat fs).size : Int) = L at *
  generalize ((cat fs).size : Int) + 1 = E at *
  generalize cat gs = s at *
  go_enter Tryz.func55, Tryz.ntmps55
  go_wp2_with (first
    | (go_at_call 26; refine CL.out.mono ?_; rintro e w1 ⟨rfl, b1⟩; have bb : Below w0.heap.size w0 w1 := thn HB.out b1; have c9 := H9.out _ bb)
    | (go_at_call 24; refine (CE.out _ bb).mono ?_; rintro e w2 ⟨rfl, rfl⟩)
    | (go_at_call 40; refine (CG.out _ bb (HO.out.below b1)).mono ?_; rintro e w3 ⟨rfl, H3, k3⟩))
  go_ret2
  exact ⟨rfl, H3, (Kp.of_below b1 (Nat.le_trans hle HB.out.size)).trans k3⟩
set_option maxHeartbeats 1000000 in
theorem append_err {v : Value} {m : Rm} (h : Lx B w l k S (lgR db bs sc run fs dur false)) (hf : Fit sc fs) (hv : RecV w v m) (hm : Small m) (he : (frameM m).2 ≠ 0) :
    Calls Tryz.prog 20 #[.pointer (some ⟨l, 0, none⟩), v] w fun e w' => e = .returned (.tuple #[.int .i64 0, .int .i64 (frameM m).2]) ∧ Below w.heap.size w w' := by
  have CI : Hid (∀ wx, Below w.heap.size w wx → Calls Tryz.prog 54 #[.pointer (some ⟨l, 0, none⟩)] wx fun e w' => e = .returned (.bool true) ∧ w' = wx) := fun wx hx => isOpen_any (h.below hx).g
  have CF : Hid (∀ wx, Below w.heap.size w wx → Calls Tryz.prog 18 #[v] wx fun r w' => r = .returned (.tuple #[.string (frameM m).1, .int .i64 (frameM m).2]) ∧ Below wx.heap.size wx w') := fun wx hx => Frame_any (hv.below hx) hm
  have he' : ((frameM m).2 != 0) = true := by simpa using he
  clear he
  generalize (frameM m).1 = F at *
  generalize (frameM m).2 = E at *
  obtain ⟨sm, im, tb⟩ := m
  obtain ⟨I, T, rfl, hI, hT⟩ := hv.ex
  dsimp only at *
  clear hf hv hI hT
  have H : Hid (Lx B w l k S (lgR db bs sc run fs dur false)) := h
  have hle := h.le
  clear h
  go_enter Tryz.func20, Tryz.ntmps20
  go_wp2_with (first
    | (refine wpList_box_rc (s := sm) (I := _) (T := _) _ rfl _ rfl rfl ?_; intro w1 b1 N1)
    | (go_at_call 54; refine (CI.out _ N1.below).mono ?_; rintro e w2 ⟨rfl, rfl⟩)
    | (refine wpList_load_rc _ rfl (.tmp 3) rfl rfl N1.rc ?_)
    | (go_at_call 18; refine (CF.out _ N1.below).mono ?_; rintro e w3 ⟨rfl, b3⟩; have bb := thn N1.below b3; clear N1 b3))
  go_ret2
  exact ⟨rfl, bb⟩
set_option maxHeartbeats 1000000 in
theorem append_full {v : Value} {m : Rm} (h : Lx B w l k S (lgR db bs sc run fs dur false)) (hf : Fit sc fs) (hv : RecV w v m) (hm : Small m) (he : (frameM m).2 = 0) (hn : ¬ (cat fs).size + (frameM m).1.size ≤ 58 * sc) :
    Calls Tryz.prog 20 #[.pointer (some ⟨l, 0, none⟩), v] w fun e w' => e = .returned (.tuple #[.int .i64 0, .int .i64 7]) ∧ Below w.heap.size w w' := by
  have CI : Hid (∀ wx, Below w.heap.size w wx → Calls Tryz.prog 54 #[.pointer (some ⟨l, 0, none⟩)] wx fun e w' => e = .returned (.bool true) ∧ w' = wx) := fun wx hx => isOpen_any (h.below hx).g
  have CF : Hid (∀ wx, Below w.heap.size w wx → Calls Tryz.prog 18 #[v] wx fun r w' => r = .returned (.tuple #[.string (frameM m).1, .int .i64 (frameM m).2]) ∧ Below wx.heap.size wx w') := fun wx hx => Frame_any (hv.below hx) hm
  have hz := (frm_good he).le
  have CA : Hid (∀ wx v', Below w.heap.size w wx → Calls Tryz.prog 55 #[.pointer (some ⟨l, 0, none⟩), .string (frameM m).1, v'] wx fun e w' => e = .returned (.tuple #[.int .i64 0, .int .i64 7]) ∧ Below wx.heap.size wx w') := fun wx v' hx => add_full (h.below hx) hf _ (by omega) v' hn
  rw [he] at CF
  clear he hn hz
  generalize (frameM m).1 = F at *
  obtain ⟨sm, im, tb⟩ := m
  obtain ⟨I, T, rfl, hI, hT⟩ := hv.ex
  dsimp only at *
  clear hf hv hI hT
  have H : Hid (Lx B w l k S (lgR db bs sc run fs dur false)) := h
  have hle := h.le
  clear h
  go_enter Tryz.func20, Tryz.ntmps20
  go_wp2_with (first
    | (refine wpList_box_rc (s := sm) (I := _) (T := _) _ rfl _ rfl rfl ?_; intro w1 b1 N1)
    | (go_at_call 54; refine (CI.out _ N1.below).mono ?_; rintro e w2 ⟨rfl, rfl⟩)
    | (refine wpList_load_rc _ rfl (.tmp 3) rfl rfl N1.rc ?_)
    | (go_at_call 18; refine (CF.out _ N1.below).mono ?_; rintro e w3 ⟨rfl, b3⟩; have bb := thn N1.below b3; clear N1 b3)
    | (go_at_call 55; refine (CA.out _ _ ?_).mono ?_; exact thn bb ((Below.refl _ _).alloc (Nat.le_refl _) _); rintro e w5 ⟨rfl, b5⟩))
  go_ret2
  exact ⟨rfl, thn (thn bb ((Below.refl _ _).alloc (Nat.le_refl _) _)) b5⟩
set_option maxHeartbeats 1000000 in
theorem append_ok {v : Value} {m : Rm} (h : Lx B w l k S (lgR db bs sc run fs dur false)) (hf : Fit sc fs) (hv : RecV w v m) (hm : Small m) (he : (frameM m).2 = 0) (hn : (cat fs).size + (frameM m).1.size ≤ 58 * sc) :
    Calls Tryz.prog 20 #[.pointer (some ⟨l, 0, none⟩), v] w fun e w' => e = .returned (.tuple #[.int .i64 (((cat fs).size : Int) + 1), .int .i64 0]) ∧ Lx B w' l k S (lgR db bs sc run (fs ++ [(frameM m).1]) dur false) ∧ Kp isL B w w' := by
  have CI : Hid (∀ wx, Below w.heap.size w wx → Calls Tryz.prog 54 #[.pointer (some ⟨l, 0, none⟩)] wx fun e w' => e = .returned (.bool true) ∧ w' = wx) := fun wx hx => isOpen_any (h.below hx).g
  have CF : Hid (∀ wx, Below w.heap.size w wx → Calls Tryz.prog 18 #[v] wx fun r w' => r = .returned (.tuple #[.string (frameM m).1, .int .i64 (frameM m).2]) ∧ Below wx.heap.size wx w') := fun wx hx => Frame_any (hv.below hx) hm
  have hfr := frm_good he
  have hcat : cat [(frameM m).1] = (frameM m).1 := by rw [cat, cat, app_nil]
  have CA : Hid (∀ w0 wx v', Below w.heap.size w w0 → Below w0.heap.size w0 wx → OwnI w0.heap.size wx v' [0] → Calls Tryz.prog 55 #[.pointer (some ⟨l, 0, none⟩), .string (frameM m).1, v'] wx fun e w' => e = .returned (.tuple #[.int .i64 (((cat fs).size : Int) + 1), .int .i64 0]) ∧ Lx B w' l k S (lgR db bs sc run (fs ++ [(frameM m).1]) dur false) ∧ Kp isL B wx w') := fun w0 wx v' h0 hx ho => by
    have := add_ok (gs := [(frameM m).1]) (h.below h0) hx hf (fun g hg => by rw [List.mem_singleton] at hg; subst hg; exact hfr) ho (by rw [hcat]; exact hn)
    rw [hcat] at this
    exact this
  rw [he] at CF
  clear he hn hfr hcat
  generalize (frameM m).1 = F at *
  generalize ((cat fs).size : Int) + 1 = E at *
  obtain ⟨sm, im, tb⟩ := m
  obtain ⟨I, T, rfl, hI, hT⟩ := hv.ex
  dsimp only at *
  clear hf hv hI hT
  have H : Hid (Lx B w l k S (lgR db bs sc run fs dur false)) := h
  have hle := h.le
  clear h
  go_enter Tryz.func20, Tryz.ntmps20
  go_wp2_with (first
    | (refine wpList_box_rc (s := sm) (I := _) (T := _) _ rfl _ rfl rfl ?_; intro w1 b1 N1)
    | (go_at_call 54; refine (CI.out _ N1.below).mono ?_; rintro e w2 ⟨rfl, rfl⟩)
    | (refine wpList_load_rc _ rfl (.tmp 3) rfl rfl N1.rc ?_)
    | (go_at_call 18; refine (CF.out _ N1.below).mono ?_; rintro e w3 ⟨rfl, b3⟩; have bb := thn N1.below b3; clear N1 b3)
    | (go_at_call 55; refine (CA.out w3 _ _ bb ?_ ?_).mono ?_; exact (Below.refl _ _).alloc (Nat.le_refl _) _; exact OwnI.one 0 (Nat.le_refl _); rintro e w5 ⟨rfl, H5, k5⟩))
  go_ret2
  exact ⟨rfl, H5, (Kp.of_below (thn bb ((Below.refl _ _).alloc (Nat.le_refl _) _)) hle).trans k5⟩
set_option maxHeartbeats 1000000 in
theorem put_full (h : Lx B w l k S (lgR db bs sc run fs dur false)) (hf : Fit sc fs) (hg : ∀ g ∈ gs, Frm g) (hz : (cat gs).size ≤ 400000) (hn : ¬ (cat fs).size + (cat gs).size ≤ 58 * sc) :
    Calls Tryz.prog 42 #[.pointer (some ⟨l, 0, none⟩), .string (cat gs)] w fun e w' => e = .returned (.tuple #[.int .i64 0, .int .i64 7]) ∧ Below w.heap.size w w' := by
  have CI : Hid (Calls Tryz.prog 54 #[.pointer (some ⟨l, 0, none⟩)] w fun e w' => e = .returned (.bool true) ∧ w' = w) := isOpen_any h.g
  have CF : Hid (∀ wx, Calls Tryz.prog 39 #[.string (cat gs)] wx fun e w' => ∃ v, e = .returned (.tuple #[v, .int .i64 ((cat gs).size : Int)]) ∧ OwnI wx.heap.size w' v (plc 0 gs) ∧ Below wx.heap.size wx w') := fun wx => by
    refine (frames_any (cat gs) (by omega)).mono ?_
    rintro e w' ⟨v, fs', he, ho, hsp, hb⟩
    obtain rfl := Spl.all hg hsp
    exact ⟨v, he, ho, hb⟩
  have CA : Hid (∀ wx v', Below w.heap.size w wx → Calls Tryz.prog 55 #[.pointer (some ⟨l, 0, none⟩), .string (cat gs), v'] wx fun e w' => e = .returned (.tuple #[.int .i64 0, .int .i64 7]) ∧ Below wx.heap.size wx w') := fun wx v' hx => add_full (h.below hx) hf _ (by omega) v' hn
  clear hn
  have hle := h.le
  have t1 : ¬ ((cat gs).size : Int) < ((cat gs).size : Int) := by omega
  clear hf hg h
  generalize hs : cat gs = s at *
  clear hs
  go_enter Tryz.func42, Tryz.ntmps42
  go_wp2_with (first
    | (go_at_call 54; refine CI.out.mono ?_; rintro e w0 ⟨rfl, rfl⟩)
    | (go_at_call 39; refine (CF.out _).mono ?_; rintro e w1 ⟨v, rfl, ho, b1⟩; obtain ⟨av, cv, rfl⟩ := ho.ex)
    | (go_at_call 55; refine (CA.out _ _ b1).mono ?_; rintro e w2 ⟨rfl, b2⟩))
  go_ret2
  exact ⟨rfl, thn b1 b2⟩
set_option maxHeartbeats 1000000 in
theorem put_ok (h : Lx B w l k S (lgR db bs sc run fs dur false)) (hf : Fit sc fs) (hg : ∀ g ∈ gs, Frm g) (hz : (cat gs).size ≤ 400000) (hn : (cat fs).size + (cat gs).size ≤ 58 * sc) :
    Calls Tryz.prog 42 #[.pointer (some ⟨l, 0, none⟩), .string (cat gs)] w fun e w' => e = .returned (.tuple #[.int .i64 (((cat fs).size : Int) + 1), .int .i64 0]) ∧ Lx B w' l k S (lgR db bs sc run (fs ++ gs) dur false) ∧ Kp isL B w w' := by
  have CI : Hid (Calls Tryz.prog 54 #[.pointer (some ⟨l, 0, none⟩)] w fun e w' => e = .returned (.bool true) ∧ w' = w) := isOpen_any h.g
  have CF : Hid (∀ wx, Calls Tryz.prog 39 #[.string (cat gs)] wx fun e w' => ∃ v, e = .returned (.tuple #[v, .int .i64 ((cat gs).size : Int)]) ∧ OwnI wx.heap.size w' v (plc 0 gs) ∧ Below wx.heap.size wx w') := fun wx => by
    refine (frames_any (cat gs) (by omega)).mono ?_
    rintro e w' ⟨v, fs', he, ho, hsp, hb⟩
    obtain rfl := Spl.all hg hsp
    exact ⟨v, he, ho, hb⟩
  have CA : Hid (∀ wx v', Below w.heap.size w wx → OwnI w.heap.size wx v' (plc 0 gs) → Calls Tryz.prog 55 #[.pointer (some ⟨l, 0, none⟩), .string (cat gs), v'] wx fun e w' => e = .returned (.tuple #[.int .i64 (((cat fs).size : Int) + 1), .int .i64 0]) ∧ Lx B w' l k S (lgR db bs sc run (fs ++ gs) dur false) ∧ Kp isL B wx w') := fun wx v' hx ho => add_ok h hx hf hg ho hn
  clear hn
  generalize ((cat fs).size : Int) + 1 = E at *
  have hle := h.le
  have t1 : ¬ ((cat gs).size : Int) < ((cat gs).size : Int) := by omega
  clear hf hg h
  generalize hs : cat gs = s at *
  clear hs
  go_enter Tryz.func42, Tryz.ntmps42
  go_wp2_with (first
    | (go_at_call 54; refine CI.out.mono ?_; rintro e w0 ⟨rfl, rfl⟩)
    | (go_at_call 39; refine (CF.out _).mono ?_; rintro e w1 ⟨v, rfl, ho, b1⟩; obtain ⟨av, cv, rfl⟩ := ho.ex)
    | (go_at_call 55; refine (CA.out _ _ b1 ho).mono ?_; rintro e w2 ⟨rfl, H2, k2⟩))
  go_ret2
  exact ⟨rfl, H2, (Kp.of_below b1 hle).trans k2⟩
end
end Go.Proofs.YtgcfbjecmmnlhaaGreat

namespace Go.Proofs.YtgcfbjecmmnlhaaGreat
open Go.RowKit Go.Maps Go.ChangeMaps
set_option linter.unusedVariables false
set_option linter.unusedSimpArgs false
set_option maxRecDepth 100000

section
variable {B l k db bs sc run dur : Nat} {w w' w0 : World} {S S' : Dk} {fs gs : List ByteArray} {dead : Bool}
set_option maxHeartbeats 1000000 in
theorem flush_same (h : Lx B w l k S (lgR db bs sc run fs dur false)) (hf : Fit sc fs) (hd : dur = (cat fs).size) : Calls Tryz.prog 21 #[.pointer (some ⟨l, 0, none⟩)] w fun e w' => e = .returned (.int .i64 0) ∧ Below w.heap.size w w' := by
  have h1 := hf.sz
  have h2 := hf.s1
  have CI : Hid (Calls Tryz.prog 54 #[.pointer (some ⟨l, 0, none⟩)] w fun e w' => e = .returned (.bool true) ∧ w' = w) := isOpen_any h.g
  have CE : Hid (∀ wx, Lx B wx l k S (lgR db bs sc run fs dur false) → Calls Tryz.prog 24 #[.pointer (some ⟨l, 0, none⟩)] wx fun e w' => e = .returned (.int .i64 ((dur : Int) + 1)) ∧ w' = wx) := fun wx hx => by
    rw [hd]; rw [hd] at hx
    exact End_any hx.g (by show (cat fs).size ≤ 1000000; omega)
  have c9 : w.cell? ⟨l, 9, none⟩ = some (.bool false) := h.g.c9
  have c8 : w.cell? ⟨l, 8, none⟩ = some (.int .i64 ((dur : Int) + 1)) := h.g.c8
  have H : Hid (Lx B w l k S (lgR db bs sc run fs dur false)) := h
  clear h hf hd h1 h2
  generalize (dur : Int) + 1 = D at *
  go_enter Tryz.func21, Tryz.ntmps21
  go_wp2_with (go_at_call 54; refine CI.out.mono ?_; rintro e w0 ⟨rfl, rfl⟩)
  go_quiet ((go_at_call 24; exact Calls.quiet_of_same (CE.out _ (H.out.drewN _))))
  go_wp2
  go_ret
  exact ⟨rfl, Sm.below_dr (Below.refl _ _) nq⟩
/-- What Flush comes to. -/
structure FlS (B : Nat) (w w' : World) (l k : Nat) (S S' : Dk) (db bs sc run : Nat) (fs : List ByteArray) (dur : Nat) (x : Int) : Prop where
  lx : Lx B w' l (k + sc + 1) S' (lgR db bs sc run fs (if x = 0 then (cat fs).size else dur) (x != 0))
  kp : Kp isA B w w'
  ld : Laid S S' (nw bs (cat fs) run (dur / 58) (((cat fs).size - 1) / 58 + 1)) x
set_option maxHeartbeats 4000000 in
theorem flush_any (h : Lx B w l k S (lgR db bs sc run fs dur false)) (hk : k ≤ 30000) (hf : Fit sc fs) (hd : dur < (cat fs).size) (hr : run < 4294967296) (hfit : bs + sc ≤ S.n) (hu : S.up = true) : Calls Tryz.prog 21 #[.pointer (some ⟨l, 0, none⟩)] w fun e w' => ∃ S' x, e = .returned (.int .i64 x) ∧ FlS B w w' l k S S' db bs sc run fs dur x := by
  have h1 := hf.sz
  have h2 := hf.s1
  have CI : Hid (Calls Tryz.prog 54 #[.pointer (some ⟨l, 0, none⟩)] w fun e w' => e = .returned (.bool true) ∧ w' = w) := isOpen_any h.g
  have CE : Hid (∀ wx k' S1 b, Lx B wx l k' S1 (lgR db bs sc run fs dur b) → Calls Tryz.prog 24 #[.pointer (some ⟨l, 0, none⟩)] wx fun e w' => e = .returned (.int .i64 (((cat fs).size : Int) + 1)) ∧ w' = wx) := fun wx k' S1 b hx => End_any hx.g (by show (cat fs).size ≤ 1000000; omega)
  have CS : Hid (∀ wx, Lx B wx l k S (lgR db bs sc run fs dur false) → Calls Tryz.prog 57 #[.pointer (some ⟨l, 5, none⟩)] wx fun v w' => v = .returned (.string (cat fs)) ∧ Lx B w' l k S (lgR db bs sc run fs dur false) ∧ Kp isL B wx w') := fun wx hx => by
    refine (String_log hx.g).mono ?_
    rintro v w' ⟨hv, g1, k1⟩
    exact ⟨hv, hx.kept rfl g1 k1, k1⟩
  have C1 : Hid (∀ wx, Calls Tryz.prog 58 #[.int .i64 ((dur : Int) + 1)] wx fun v w' => v = .returned (.int .i64 ((dur / 58 : Nat) : Int)) ∧ w' = wx) := fun wx => by
    have := sectorOf_any ((dur : Int) + 1) (by omega) (by omega) wx
    rw [show ((dur : Int) + 1 - 1) / 58 = ((dur / 58 : Nat) : Int) by omega] at this
    exact this
  have C2 : Hid (∀ wx, Calls Tryz.prog 58 #[.int .i64 (((cat fs).size : Int) + 1 - 1)] wx fun v w' => v = .returned (.int .i64 ((((cat fs).size - 1) / 58 : Nat) : Int)) ∧ w' = wx) := fun wx => by
    have := sectorOf_any (((cat fs).size : Int) + 1 - 1) (by omega) (by omega) wx
    rw [show (((cat fs).size : Int) + 1 - 1 - 1) / 58 = ((((cat fs).size - 1) / 58 : Nat) : Int) by omega] at this
    exact this
  have CL : Hid (∀ wx, Lx B wx l k S (lgR db bs sc run fs dur false) → Calls Tryz.prog 56 #[.pointer (some ⟨l, 0, none⟩), .string (cat fs), .int .i64 (run : Int), .int .i64 ((dur / 58 : Nat) : Int), .int .i64 (((((cat fs).size - 1) / 58 : Nat) : Int) + 1)] wx fun v w' =>
      ∃ S' x, v = .returned (.int .i64 x) ∧ Lx B w' l (k + sc + 1) S' (lgR db bs sc run fs dur (x != 0)) ∧ Kp isA B wx w' ∧ Laid S S' (nw bs (cat fs) run (dur / 58) (((cat fs).size - 1) / 58 + 1)) x) := fun wx hx => by
    rw [show ((((cat fs).size - 1) / 58 : Nat) : Int) + 1 = ((((cat fs).size - 1) / 58 + 1 : Nat) : Int) by omega]
    refine (lay_any hx (by omega) (bs := bs) rfl (cat fs) (by omega) run _ _ hr (by omega) (by omega) (by omega) (fun i a b => by omega) hu).mono ?_
    rintro v w' ⟨S', x, hv, hl, hk', hL⟩
    exact ⟨S', x, hv, hl.mono (by omega), hk', hL⟩
  have HD : Hid (∀ wx k' S1, Lx B wx l k' S1 (lgR db bs sc run fs dur false) → Lx B (wx.setCell ⟨l, 8, none⟩ (.int .i64 (((cat fs).size : Int) + 1))) l k' S1 (lgR db bs sc run fs (cat fs).size false) ∧ Kp isL B wx (wx.setCell ⟨l, 8, none⟩ (.int .i64 (((cat fs).size : Int) + 1)))) := fun wx k' S1 hx => hx.set rfl rfl rfl (fun p v pv => rfl)
  have H8 : Hid (∀ wx k' S1 b, Lx B wx l k' S1 (lgR db bs sc run fs dur b) → wx.cell? ⟨l, 4, none⟩ = some (.int .i64 (run : Int)) ∧ wx.cell? ⟨l, 8, none⟩ = some (.int .i64 ((dur : Int) + 1))) := fun wx k' S1 b hx => ⟨hx.g.c4, hx.g.c8⟩
  have c9 : w.cell? ⟨l, 9, none⟩ = some (.bool false) := h.g.c9
  have c8 : w.cell? ⟨l, 8, none⟩ = some (.int .i64 ((dur : Int) + 1)) := h.g.c8
  have H : Hid (Lx B w l k S (lgR db bs sc run fs dur false)) := h
  have hle := h.le
  have t1 : ((dur : Int) + 1 == ((cat fs).size : Int) + 1) = false := by simp; omega
  have hE0 : (1 : Int) ≤ ((cat fs).size : Int) := by omega
  have hE1 : ((cat fs).size : Int) ≤ 1000000 := by omega
  have hb0 : (0 : Int) ≤ ((((cat fs).size - 1) / 58 : Nat) : Int) := by omega
  have hb1 : ((((cat fs).size - 1) / 58 : Nat) : Int) ≤ 10000 := by omega
  clear h hf hd h1 h2 hk hr hfit hu
  have HF : Hid (∀ (wz : World) (S2 : Dk) (x : Int), Lx B wz l (k + sc + 1) S2 (lgR db bs sc run fs (if x = 0 then (cat fs).size else dur) (x != 0)) → Kp isA B w wz → Laid S S2 (nw bs (cat fs) run (dur / 58) (((cat fs).size - 1) / 58 + 1)) x → FlS B w wz l k S S2 db bs sc run fs dur x) := fun wz S2 x q1 q2 q3 => ⟨q1, q2, q3⟩
  generalize hX : ((((cat fs).size - 1) / 58 : Nat) : Int) = b0 at *
  generalize hY : ((dur / 58 : Nat) : Int) = a0 at *
  clear hX hY
  generalize hD : (dur : Int) + 1 = D at *
  clear hD
  generalize hEE : ((cat fs).size : Int) + 1 = E at *
  have hE2 : 2 ≤ E := by omega
  have hE3 : E ≤ 1000001 := by omega
  clear hE0 hE1 hEE
  have hw1 : IntKind.i64.wrap (E - 1) = E - 1 := by rw [IntKind.wrap_i64]; omega
  have hw2 : IntKind.i64.wrap (b0 + 1) = b0 + 1 := by rw [IntKind.wrap_i64]; omega
  go_enter Tryz.func21, Tryz.ntmps21
  go_wp2_with (go_at_call 54; refine CI.out.mono ?_; rintro e w0 ⟨rfl, rfl⟩)
  go_quiet ((go_at_call 24; exact Calls.quiet_of_same (CE.out _ _ _ _ (H.out.drewN _))))
  go_wp2
  have hd := (H.out.drewN nq).drew
  have bd : Below w0.heap.size w0 (w0.drewN nq).drew := (Sm.below_dr (Below.refl _ _) nq).drew
  have HK : Hid (Kp isA B w0 (w0.drewN nq).drew) := Kp.of_below bd hle
  obtain ⟨d4, d8⟩ := H8.out _ _ _ _ hd
  clear bd
  go_region_held3 (fun W => W.cell? ⟨l, 4, none⟩ = some (.int .i64 (run : Int)) ∧ W.cell? ⟨l, 8, none⟩ = some (.int .i64 D)) (first | exact ⟨keep1, keep2⟩ | exact ⟨d4, d8⟩ | go_keep) (first
    | (go_at_call 57; refine (CS.out _ hd).mono ?_; rintro e wA ⟨rfl, hn, kA⟩; have HKn : Hid (Kp isA B w0 wA) := HK.out.trans kA.l; clear hd HK; have hd := hn; have HK := HKn; clear hn HKn; obtain ⟨keep1, keep2⟩ := H8.out _ _ _ _ hd)
    | (go_at_call 58; refine (C1.out _).mono ?_; clear C1; rintro e wB ⟨rfl, rfl⟩)
    | (go_at_call 24; refine (CE.out _ _ _ _ hd).mono ?_; rintro e wC ⟨rfl, rfl⟩)
    | (go_at_call 58; refine (C2.out _).mono ?_; clear C2; rintro e wD ⟨rfl, rfl⟩)
    | (go_at_call 56; refine (CL.out _ hd).mono ?_; rintro e wE ⟨S2, x, rfl, hn, kE, hL⟩; have HKn : Hid (Kp isA B w0 wE) := HK.out.trans kE; clear hd HK; have hd := hn; have HK := HKn; clear hn HKn; obtain ⟨keep1, keep2⟩ := H8.out _ _ _ _ hd))
  clear keep1 keep2 d4 d8
  have e9 := hd.g.f 8
  by_cases hx : x = 0
  · subst hx
    have e8 := (H8.out _ _ _ _ hd).2
    have HX : Hid _ := hd
    clear hd
    go_wp2_with (go_at_call 24; refine (CE.out _ _ _ _ HX.out).mono ?_; rintro e wF ⟨rfl, rfl⟩)
    go_ret
    obtain ⟨q1, q2⟩ := HD.out _ _ _ HX.out
    exact ⟨S2, 0, rfl, HF.out _ _ _ q1 (HK.out.trans q2.l) hL⟩
  · have hx' : (x != 0) = true := by simpa using hx
    have HX : Hid _ := hd
    clear hd
    go_wp2
    go_ret
    exact ⟨S2, x, rfl, HF.out _ _ _ (by rw [if_neg hx]; exact HX.out) HK.out hL⟩
end
end Go.Proofs.YtgcfbjecmmnlhaaGreat

namespace Go.Proofs.YtgcfbjecmmnlhaaGreat
open Go.RowKit Go.Maps Go.ChangeMaps
set_option linter.unusedVariables false
set_option linter.unusedSimpArgs false
set_option maxRecDepth 100000

section
variable {B l k db bs sc run dur : Nat} {w w' w0 : World} {S S' : Dk} {fs gs : List ByteArray} {dead : Bool}
theorem search_any {v : Value} {ps : List Int} (h : OwnI B w v ps) (hs : ps.Pairwise (· ≤ ·)) (hl : ps.length ≤ 1000000) (x : Int) : Calls Tryz.prog 61 #[v, .int .i64 x] w fun e w' => e = .returned (.tuple #[.int .i64 (ps.countP (· < x) : Nat), .bool (ps.contains x)]) ∧ ∃ q, w' = w.drewN q := by
  rcases h.row.2 with ⟨rfl, hn⟩ | ⟨g, cap, cur, rfl, hbg, hgg, hnc, hcm, hcs, htake⟩
  · have : ps = [] := List.eq_nil_of_length_eq_zero hn
    subst this
    refine (Tryz.slices_BinarySearch_int_empty none 0 x w).mono ?_
    rintro e w' ⟨he, hw⟩
    subst hw
    exact ⟨he, 0, rfl⟩
  · have := Tryz.slices_BinarySearch_int g 0 ps.length cap ps x w (Nat.le_refl _) (by omega) (fun j hj => by
      rw [Nat.zero_add, Lib.cell_of_heap hgg]
      have : (iv ps)[j]? = some (.int .i64 ps[j]) := by simp [iv, hj]
      rw [← htake, List.getElem?_take, if_pos (by omega)] at this
      rw [List.getD_eq_getElem?_getD, List.getElem?_eq_getElem hj]
      simpa using this) (by rw [List.take_length]; exact hs)
    rw [List.take_length] at this
    exact this
def bnd (fs : List ByteArray) (x : Int) : Bool := (plc 1 fs).contains x || decide (x = ((cat fs).size : Int) + 1)
theorem bnd_iff {fs : List ByteArray} {x : Int} : bnd fs x = true ↔ ∃ i, i ≤ fs.length ∧ x = ((1 + off fs i : Nat) : Int) := by
  unfold bnd
  rw [Bool.or_eq_true, plc_has, decide_eq_true_eq]
  constructor
  · rintro (⟨i, hi, e⟩ | e)
    · exact ⟨i, by omega, e⟩
    · exact ⟨fs.length, Nat.le_refl _, by rw [off_all]; omega⟩
  · rintro ⟨i, hi, e⟩
    rcases Nat.lt_or_ge i fs.length with h | h
    · exact Or.inl ⟨i, h, e⟩
    · have : i = fs.length := by omega
      subst this
      rw [off_all] at e
      exact Or.inr (by omega)
theorem Lx.row {R : Lr} (h : Lx B w l k S R) : ∃ a c, w.cell? ⟨l, 7, none⟩ = some (.slice a R.ps.length c) ∧ OwnI B w (.slice a R.ps.length c) R.ps := h.g.c7
theorem fit_len {fs : List ByteArray} (hf : Fit sc fs) : (plc 1 fs).length ≤ 70000 := by
  have := cat_len hf.frm
  have := hf.sz
  have := hf.s1
  rw [plc_length]; omega
set_option maxHeartbeats 1000000 in
theorem Bound_any (h : Lx B w l k S (lgR db bs sc run fs dur dead)) (hf : Fit sc fs) (x : Int) : Calls Tryz.prog 28 #[.pointer (some ⟨l, 0, none⟩), .int .i64 x] w fun e w' => e = .returned (.bool (bnd fs x)) ∧ Below w.heap.size w w' := by
  have h1 := hf.sz
  have h2 := hf.s1
  have hl := fit_len hf
  have CI : Hid (Calls Tryz.prog 54 #[.pointer (some ⟨l, 0, none⟩)] w fun e w' => e = .returned (.bool true) ∧ w' = w) := isOpen_any h.g
  have CE : Hid (∀ wx, Lx B wx l k S (lgR db bs sc run fs dur dead) → Calls Tryz.prog 24 #[.pointer (some ⟨l, 0, none⟩)] wx fun e w' => e = .returned (.int .i64 (((cat fs).size : Int) + 1)) ∧ w' = wx) := fun wx hx => End_any hx.g (by show (cat fs).size ≤ 1000000; omega)
  obtain ⟨a, c, c7, ho⟩ := h.row
  have CB : Hid (Calls Tryz.prog 61 #[.slice a (plc 1 fs).length c, .int .i64 x] w fun e w' => e = .returned (.tuple #[.int .i64 ((plc 1 fs).countP (· < x) : Nat), .bool ((plc 1 fs).contains x)]) ∧ ∃ q, w' = w.drewN q) := search_any ho (plc_sorted 1 fs) (by show (plc 1 fs).length ≤ 1000000; omega) x
  have c7' : w.cell? ⟨l, 7, none⟩ = some (.slice a (plc 1 fs).length c) := c7
  have H : Hid (Lx B w l k S (lgR db bs sc run fs dur dead)) := h
  have HB : Hid (bnd fs x = ((plc 1 fs).contains x || decide (x = ((cat fs).size : Int) + 1))) := rfl
  clear h hf h1 h2 c7 ho
  generalize (plc 1 fs).contains x = b at *
  generalize ((plc 1 fs).countP (· < x) : Nat) = ct at *
  generalize (plc 1 fs).length = n at *
  generalize ((cat fs).size : Int) + 1 = E at *
  generalize bnd fs x = r at *
  have hbel : ∀ q, Below w.heap.size w (w.drewN q) := fun q => Sm.below_dr (Below.refl _ _) q
  cases b with
  | true =>
    go_enter Tryz.func28, Tryz.ntmps28
    go_wp2_with (first
      | (go_at_call 54; refine CI.out.mono ?_; rintro e w0 ⟨rfl, rfl⟩)
      | (go_at_call 61; refine CB.out.mono ?_; rintro e w1 ⟨rfl, q, rfl⟩))
    go_ret
    rw [HB.out]
    exact ⟨rfl, hbel q⟩
  | false =>
    go_enter Tryz.func28, Tryz.ntmps28
    go_wp2_with (first
      | (go_at_call 54; refine CI.out.mono ?_; rintro e w0 ⟨rfl, rfl⟩)
      | (go_at_call 61; refine CB.out.mono ?_; rintro e w1 ⟨rfl, q, rfl⟩)
      | (go_at_call 24; refine (CE.out _ (H.out.drewN q)).mono ?_; rintro e w2 ⟨rfl, rfl⟩))
    go_ret
    rw [HB.out, Bool.false_or]
    exact ⟨rfl, hbel q⟩
theorem sliceN_to {a : Option Addr} {n c : Nat} (i : Nat) (hi : i ≤ c) (hsp : ∀ ad, a = some ad → ad.spot = none) (W : World) : (Instr.slice 62 (.slice a n c) none (some (.int .i64 (i : Int))) none).run Tryz.prog W = .ok (.slice a i c) W := by
  have hr := run_slice_h (P := Tryz.prog) W 62 a n c (by kernel_rfl) .i64 (i : Int) (by omega) (by omega)
  have hz : ∀ w, (Go.sizeOf (Tryz.prog.elem 62)).run Tryz.prog w = .ok 1 w := fun w => by kernel_rfl
  rw [hr, hz]
  simp only [Result.andThen, sliced, Int.toNat_natCast, Nat.sub_zero, Nat.zero_mul]
  cases a with
  | none => split <;> rfl
  | some ad =>
    obtain ⟨b, off, sp⟩ := ad
    have := hsp _ rfl
    dsimp only at this
    subst this
    split
    · rfl
    · simp [Addr.add_mid]
theorem OwnI.take {a : Option Addr} {c : Nat} {ps : List Int} (h : OwnI B w (.slice a ps.length c) ps) {i : Nat} (hi : i ≤ ps.length) : OwnI B w (.slice a i c) (ps.take i) ∧ i ≤ c ∧ (∀ ad, a = some ad → ad.spot = none) := by
  have hl : (ps.take i).length = i := by rw [List.length_take]; omega
  rcases h.row.2 with ⟨e, hn⟩ | ⟨g, cap, cur, e, hbg, hgg, hnc, hcm, hcs, htake⟩
  · injection e with e1 e2 e3
    subst e1 e3
    have : i = 0 := by omega
    subst this
    refine ⟨⟨?_⟩, by omega, (fun ad e => by cases e)⟩
    rw [List.take_zero]
    exact ⟨rfl, Or.inl ⟨rfl, rfl⟩⟩
  · injection e with e1 e2 e3
    subst e1 e3
    refine ⟨⟨?_⟩, by omega, (fun ad e => by cases e; rfl)⟩
    rw [hl]
    refine ⟨by simp [iv]; omega, Or.inr ⟨g, c, cur, rfl, hbg, hgg, by omega, hcm, hcs, ?_⟩⟩
    have : iv (ps.take i) = (iv ps).take i := by simp [iv, List.map_take]
    rw [this, ← htake, List.take_take]
    congr 1
    omega
theorem Reset_log {R : Lr} (h : LrIs B w l R) : Calls Tryz.prog 88 #[.pointer (some ⟨l, 5, none⟩)] w fun e w' => e = .returned (.tuple #[]) ∧ LrIs B w' l { R with T := ⟨#[]⟩ } ∧ Kp isL B w w' := by
  obtain ⟨p, v, pv, h1, h2, h3, h4⟩ := h.ex
  have c5 : w.cell? ⟨l, 5, none⟩ = some p := by rw [Lib.cell_of_heap h1]; rfl
  have c6 : w.cell? ⟨l, 6, none⟩ = some v := by rw [Lib.cell_of_heap h1]; rfl
  have f5 : w.frozen? ⟨l, 5, none⟩ = false := Lib.frozen_of_heap h1 5
  have f6 : w.frozen? ⟨l, 6, none⟩ = false := Lib.frozen_of_heap h1 6
  have b1 := Joins.block_setCell (i := 5) h1 (.pointer none)
  have b2 := Joins.block_setCell (i := 6) b1 (.slice none 0 0)
  have hkeep : ∀ (j : Nat) (o : Obj), w.heap[j]? = some o → j ≠ l → ((w.setCell ⟨l, 5, none⟩ (.pointer none)).setCell ⟨l, 6, none⟩ (.slice none 0 0)).heap[j]? = some o := fun j o e n => by
    rw [Below.heap_setCell _ _ _ _ n, Below.heap_setCell _ _ _ _ n]; exact e
  have HR : Hid (LrIs B ((w.setCell ⟨l, 5, none⟩ (.pointer none)).setCell ⟨l, 6, none⟩ (.slice none 0 0)) l { R with T := ⟨#[]⟩ }) :=
    ⟨⟨.pointer none, .slice none 0 0, pv, b2, Or.inl rfl, World.ownsRowF_nil _ _ _ _, h4.of_block (fun j cur fz e => hkeep j _ e (fun e2 => by subst e2; rw [h1] at e; cases e))⟩, h.ge, by have := h.le; simp [World.setCell]; omega⟩
  have HK : Hid (Kp isL B w ((w.setCell ⟨l, 5, none⟩ (.pointer none)).setCell ⟨l, 6, none⟩ (.slice none 0 0))) := ⟨((Below.refl B w).setCell (p := ⟨l, 5, none⟩) h.ge _).setCell (p := ⟨l, 6, none⟩) h.ge _, fun j o e hn => hkeep j o e (fun e2 => by subst e2; rw [h1] at e; cases e; exact hn (Or.inr (Or.inr rfl)))⟩
  clear h h1 h2 h3 h4 b1 b2 hkeep
  go_enter Tryz.func88, Tryz.ntmps88
  go_wp2
  go_end0
  exact ⟨rfl, HR.out, HK.out⟩
theorem cat_take (fs : List ByteArray) (i : Nat) : (cat fs).extract 0 (off fs i) = cat (fs.take i) := by
  have : cat fs = cat (fs.take i) ++ cat (fs.drop i) := by rw [← cat_append, List.take_append_drop]
  rw [this]
  unfold off
  exact ext_left _ _
set_option maxHeartbeats 1000000 in
theorem drop_any (h : Lx B w l k S (lgR db bs sc run fs dur dead)) (hf : Fit sc fs) (i : Nat) (hi : i ≤ fs.length) (x : Int) (hx : x = ((off fs i : Nat) : Int) + 1) : Calls Tryz.prog 67 #[.pointer (some ⟨l, 0, none⟩), .int .i64 x] w fun e w' => e = .returned (.tuple #[]) ∧ Lx B w' l k S (lgR db bs sc run (fs.take i) dur dead) ∧ Kp isL B w w' := by
  have h1 := hf.sz
  have h2 := hf.s1
  have hl := fit_len hf
  have hoff := off_mono (l := fs) hi
  rw [off_all] at hoff
  obtain ⟨pv, hE⟩ := h.g.e
  obtain ⟨a, c, rfl⟩ := hE.pl.ex
  have c7 : w.cell? ⟨l, 7, none⟩ = some (.slice a (plc 1 fs).length c) := hE.cell
  have hcount : (plc 1 fs).countP (· < x) = i := by
    have := plc_count hf.frm (i := i) (a := 1) hi
    rw [show ((1 + off fs i : Nat) : Int) = x by omega] at this
    exact this
  have CB : Hid (Calls Tryz.prog 61 #[.slice a (plc 1 fs).length c, .int .i64 x] w fun e w' => e = .returned (.tuple #[.int .i64 (i : Int), .bool ((plc 1 fs).contains x)]) ∧ ∃ q, w' = w.drewN q) := by
    have := search_any hE.pl (plc_sorted 1 fs) (by show (plc 1 fs).length ≤ 1000000; omega) x
    have e : (lgR db bs sc run fs dur dead).ps = plc 1 fs := rfl
    rw [e, hcount] at this
    exact this
  obtain ⟨ho2, hic, hsp⟩ := hE.pl.take (i := i) (by show i ≤ (plc 1 fs).length; rw [plc_length]; exact hi)
  have hsl := fun W => sliceN_to (n := (plc 1 fs).length) i hic hsp W
  have hps : (plc 1 fs).take i = plc 1 (fs.take i) := plc_take 1 fs i
  have hst := slc_to (cat fs) x (off fs i) hx hoff
  rw [cat_take] at hst
  have HP : Hid (∀ q, Lx B ((w.drewN q).setCell ⟨l, 7, none⟩ (.slice a i c)) l k S ⟨db, (bs : Int), (sc : Int), (run : Int), cat fs, plc 1 (fs.take i), (dur : Int) + 1, dead⟩ ∧ Kp isL B w ((w.drewN q).setCell ⟨l, 7, none⟩ (.slice a i c))) := fun q => by
    have bq : Below w.heap.size w (w.drewN q) := Sm.below_dr (Below.refl _ _) q
    have hE2 := hE.below bq
    obtain ⟨q1, q2, _⟩ := hE2.put (ho2.below bq) (w2 := w.drewN q) ⟨rfl, rfl, rfl, Nat.le_refl _, fun _ _ _ => rfl⟩
    have hK := (Kp.of_below bq h.le).trans q2
    refine ⟨⟨h.d.kept hK, ?_⟩, hK⟩
    have := q1.is
    rw [show (lgR db bs sc run fs dur dead).ps = plc 1 fs from rfl, hps] at this
    exact this
  have hcf : ∀ q, (w.drewN q).frozen? ⟨l, 7, none⟩ = false := fun q => (h.drewN q).g.f 7
  have CS : Hid (∀ wx, Lx B wx l k S ⟨db, (bs : Int), (sc : Int), (run : Int), cat fs, plc 1 (fs.take i), (dur : Int) + 1, dead⟩ → Calls Tryz.prog 57 #[.pointer (some ⟨l, 5, none⟩)] wx fun v w' => v = .returned (.string (cat fs)) ∧ Lx B w' l k S ⟨db, (bs : Int), (sc : Int), (run : Int), cat fs, plc 1 (fs.take i), (dur : Int) + 1, dead⟩ ∧ Kp isL B wx w') := fun wx hx => by
    refine (String_log hx.g).mono ?_
    rintro v w' ⟨hv, g1, k1⟩
    exact ⟨hv, hx.kept rfl g1 k1, k1⟩
  have CR : Hid (∀ wx, Lx B wx l k S ⟨db, (bs : Int), (sc : Int), (run : Int), cat fs, plc 1 (fs.take i), (dur : Int) + 1, dead⟩ → Calls Tryz.prog 88 #[.pointer (some ⟨l, 5, none⟩)] wx fun v w' => v = .returned (.tuple #[]) ∧ Lx B w' l k S ⟨db, (bs : Int), (sc : Int), (run : Int), ⟨#[]⟩, plc 1 (fs.take i), (dur : Int) + 1, dead⟩ ∧ Kp isL B wx w') := fun wx hx => by
    refine (Reset_log hx.g).mono ?_
    rintro v w' ⟨hv, g1, k1⟩
    exact ⟨hv, hx.kept rfl g1 k1, k1⟩
  have hzt : (cat (fs.take i)).size ≤ 1000000 := by
    have : (cat (fs.take i)).size = off fs i := rfl
    omega
  have CW : Hid (∀ wx, Lx B wx l k S ⟨db, (bs : Int), (sc : Int), (run : Int), ⟨#[]⟩, plc 1 (fs.take i), (dur : Int) + 1, dead⟩ → Calls Tryz.prog 71 #[.pointer (some ⟨l, 5, none⟩), .string (cat (fs.take i))] wx fun v w' => v = .returned (.tuple #[.int .i64 (cat (fs.take i)).size, .nilIface]) ∧ Lx B w' l k S (lgR db bs sc run (fs.take i) dur dead) ∧ Kp isL B wx w') := fun wx hx => by
    refine (WriteString_log hx.g (cat (fs.take i)) (by show (⟨#[]⟩ : ByteArray).size + _ ≤ _; rw [nilz]; omega)).mono ?_
    rintro v w' ⟨hv, g1, k1⟩
    refine ⟨hv, hx.kept rfl ?_ k1, k1⟩
    have e : (⟨#[]⟩ : ByteArray) ++ cat (fs.take i) = cat (fs.take i) := nil_app _
    show LrIs B w' l ⟨db, (bs : Int), (sc : Int), (run : Int), cat (fs.take i), plc 1 (fs.take i), (dur : Int) + 1, dead⟩
    rw [← e]
    exact g1
  have hx1 : 1 ≤ x := by omega
  have hx2 : x ≤ 1000000 := by omega
  clear h hf h1 h2 hE ho2 hic hsp hps hcount hx hoff hzt
  generalize (plc 1 fs).contains x = b at *
  generalize (plc 1 fs).length = n at *
  generalize cat (fs.take i) = t at *
  generalize cat fs = t0 at *
  go_enter Tryz.func67, Tryz.ntmps67
  go_wp2_with (first
    | (go_at_call 61; refine CB.out.mono ?_; rintro e w1 ⟨rfl, q, rfl⟩; have f7 := hcf q)
    | (go_at_call 57; refine (CS.out _ (HP.out q).1).mono ?_; rintro e w2 ⟨rfl, H2, k2⟩)
    | (go_at_call 88; refine (CR.out _ H2).mono ?_; rintro e w3 ⟨rfl, H3, k3⟩)
    | (go_at_call 71; refine (CW.out _ H3).mono ?_; rintro e w4 ⟨rfl, H4, k4⟩))
  go_end0
  exact ⟨rfl, H4, (((HP.out q).2.trans k2).trans k3).trans k4⟩
end
end Go.Proofs.YtgcfbjecmmnlhaaGreat

namespace Go.Proofs.YtgcfbjecmmnlhaaGreat
open Go.RowKit Go.Maps Go.ChangeMaps
set_option linter.unusedVariables false
set_option linter.unusedSimpArgs false
set_option maxRecDepth 100000

section
variable {B l k db bs sc run dur : Nat} {w w' w0 : World} {S S' : Dk} {fs gs : List ByteArray} {dead : Bool}
/-- What Cut comes to. -/
def CutD (S S' : Dk) (bs sc r' : Nat) (t : ByteArray) (dur : Nat) (x : Int) : Prop := (sc ≤ min dur t.size / 58 ∧ x = 0 ∧ S' = S) ∨ (min dur t.size / 58 < min (t.size / 58 + 1) sc ∧ Laid S S' (nw bs t r' (min dur t.size / 58) (min (t.size / 58 + 1) sc)) x)
set_option maxHeartbeats 2000000 in
theorem cut_any (h : Lx B w l k S (lgR db bs sc run fs dur false)) (hk : k ≤ 30000) (hf : Fit sc fs) (hd : dur ≤ (cat fs).size) (i : Nat) (hi : i ≤ fs.length) (x : Int) (hx : x = ((off fs i : Nat) : Int) + 1) (r' : Nat) (hr1 : run < r') (hr2 : r' ≤ 4294967295) (hfit : bs + sc ≤ S.n) (hu : S.up = true) :
    Calls Tryz.prog 36 #[.pointer (some ⟨l, 0, none⟩), .int .i64 x, .int .i64 (r' : Int)] w fun e w' => ∃ S' y, e = .returned (.int .i64 y) ∧ Kp isA B w w' ∧ CutD S S' bs sc r' (cat (fs.take i)) dur y ∧ Ds B w' db (k + sc + 1) S' ∧ (y = 0 → Lx B w' l (k + sc + 1) S' (lgR db bs sc r' (fs.take i) (off fs i) false)) := by
  have h1 := hf.sz
  have h2 := hf.s1
  have hoff := off_mono (l := fs) hi
  rw [off_all] at hoff
  have hbnd : bnd fs x = true := bnd_iff.2 ⟨i, hi, by omega⟩
  have CI : Hid (Calls Tryz.prog 54 #[.pointer (some ⟨l, 0, none⟩)] w fun e w' => e = .returned (.bool true) ∧ w' = w) := isOpen_any h.g
  have CE : Hid (Calls Tryz.prog 24 #[.pointer (some ⟨l, 0, none⟩)] w fun e w' => e = .returned (.int .i64 (((cat fs).size : Int) + 1)) ∧ w' = w) := End_any h.g (by show (cat fs).size ≤ 1000000; omega)
  have CB : Hid (Calls Tryz.prog 28 #[.pointer (some ⟨l, 0, none⟩), .int .i64 x] w fun e w' => e = .returned (.bool true) ∧ Below w.heap.size w w') := by
    have := Bound_any h hf x
    rw [hbnd] at this
    exact this
  have ht : (cat fs).extract 0 (off fs i) = cat (fs.take i) := cat_take fs i
  have hts : (cat (fs.take i)).size = off fs i := rfl
  have CT : Hid (∀ wx, Lx B wx l k S (lgR db bs sc run fs dur false) → Calls Tryz.prog 41 #[.pointer (some ⟨l, 0, none⟩), .int .i64 x, .int .i64 (r' : Int)] wx fun v w' =>
      ∃ S' y, v = .returned (.int .i64 y) ∧ Lx B w' l (k + sc + 1) S' (lgR db bs sc run fs dur (y != 0)) ∧ Kp isA B wx w' ∧ CutD S S' bs sc r' (cat (fs.take i)) dur y) := fun wx hwx => by
    have := settle_any hwx (by omega) (bs := bs) (sc := sc) (d := dur) rfl rfl rfl (by show (cat fs).size ≤ 500000; omega) (by omega) (by omega) x (off fs i) hx (by show off fs i ≤ (cat fs).size; omega) r' (by omega) hfit hu
    refine this.mono ?_
    rintro v w' ⟨S', y, R', hv, hl, hK, hz⟩
    rw [show (lgR db bs sc run fs dur false).T = cat fs from rfl, ht] at hz
    rcases hz with ⟨z1, rfl, rfl, rfl⟩ | ⟨z1, rfl, z2⟩
    · exact ⟨_, 0, hv, hl, hK, Or.inl ⟨by rw [hts]; omega, rfl, rfl⟩⟩
    · exact ⟨S', y, hv, hl, hK, Or.inr ⟨by rw [hts]; exact z1, by rw [hts]; exact z2⟩⟩
  have CD : Hid (∀ wx S1 (y : Int), (y != 0) = false → Lx B wx l (k + sc + 1) S1 (lgR db bs sc run fs dur (y != 0)) → Calls Tryz.prog 67 #[.pointer (some ⟨l, 0, none⟩), .int .i64 x] wx fun e w' => e = .returned (.tuple #[]) ∧ Lx B w' l (k + sc + 1) S1 (lgR db bs sc run (fs.take i) dur false) ∧ Kp isL B wx w') := fun wx S1 y hy hwx => by
    rw [hy] at hwx
    exact drop_any hwx hf i hi x hx
  have H2 : Hid (∀ wx S1, Lx B wx l (k + sc + 1) S1 (lgR db bs sc run (fs.take i) dur false) → Lx B ((wx.setCell ⟨l, 8, none⟩ (.int .i64 x)).setCell ⟨l, 4, none⟩ (.int .i64 (r' : Int))) l (k + sc + 1) S1 (lgR db bs sc r' (fs.take i) (off fs i) false) ∧ Kp isL B wx ((wx.setCell ⟨l, 8, none⟩ (.int .i64 x)).setCell ⟨l, 4, none⟩ (.int .i64 (r' : Int)))) := fun wx S1 hwx => by
    obtain ⟨q1, q2⟩ := hwx.set (j := 8) (u := .int .i64 x) (R' := lgR db bs sc run (fs.take i) (off fs i) false) rfl rfl rfl (fun p v pv => by rw [hx]; rfl)
    obtain ⟨q3, q4⟩ := q1.set (j := 4) (u := .int .i64 (r' : Int)) (R' := lgR db bs sc r' (fs.take i) (off fs i) false) rfl rfl rfl (fun p v pv => rfl)
    exact ⟨q3, q2.trans q4⟩
  have c4 : w.cell? ⟨l, 4, none⟩ = some (.int .i64 (run : Int)) := h.g.c4
  have H9 : Hid (∀ wx, Lx B wx l k S (lgR db bs sc run fs dur false) → wx.cell? ⟨l, 9, none⟩ = some (.bool false)) := fun wx hwx => hwx.g.c9
  have H : Hid (Lx B w l k S (lgR db bs sc run fs dur false)) := h
  have hle := h.le
  have t1 : ¬ (r' : Int) ≤ (run : Int) := by omega
  have t2 : ¬ (4294967295 : Int) < (r' : Int) := by omega
  have t3 : ¬ x < 1 := by omega
  have t4 : ¬ ((cat fs).size : Int) + 1 < x := by omega
  clear h hk hf hd hi hx hr1 hr2 hfit hu h1 h2 hoff hbnd ht hts
  generalize ((cat fs).size : Int) + 1 = E at *
  go_enter Tryz.func36, Tryz.ntmps36
  go_wp2_with (first
    | (go_at_call 54; refine CI.out.mono ?_; rintro e w0 ⟨rfl, rfl⟩)
    | (go_at_call 24; refine CE.out.mono ?_; rintro e w1 ⟨rfl, rfl⟩)
    | (go_at_call 28; refine CB.out.mono ?_; rintro e w2 ⟨rfl, b2⟩; have HX := H.out.below b2; have c9 := H9.out _ HX)
    | (go_at_call 41; refine (CT.out _ HX).mono ?_; rintro e w3 ⟨S1, y, rfl, H3, k3, hC⟩)
    | (go_at_call 67; refine (CD.out _ S1 y ?_ H3).mono ?_; assumption; rintro e w4 ⟨rfl, H4, k4⟩; have c8 := H4.g.c8; have f8 := H4.g.f 8; have c4' := H4.g.c4; have f4 := H4.g.f 4))
  · have hy : y ≠ 0 := by simpa using ‹(y != 0) = true›
    go_ret
    exact ⟨S1, y, rfl, (Kp.of_below b2 hle).trans k3, hC, H3.d, fun e => absurd e hy⟩
  · have hy : y = 0 := by simpa using ‹(y != 0) = false›
    go_ret
    obtain ⟨q1, q2⟩ := H2.out _ _ H4
    subst hy
    exact ⟨S1, 0, rfl, (((Kp.of_below b2 hle).trans k3).trans k4.l).trans q2.l, hC, q1.d, fun _ => q1⟩
theorem cut_arg (h : Lx B w l k S (lgR db bs sc run fs dur dead)) (x r' : Int) (hr : r' ≤ (run : Int)) : Calls Tryz.prog 36 #[.pointer (some ⟨l, 0, none⟩), .int .i64 x, .int .i64 r'] w fun e w' => e = .returned (.int .i64 1) ∧ w' = w := by
  have CI : Hid (Calls Tryz.prog 54 #[.pointer (some ⟨l, 0, none⟩)] w fun e w' => e = .returned (.bool true) ∧ w' = w) := isOpen_any h.g
  have c4 : w.cell? ⟨l, 4, none⟩ = some (.int .i64 (run : Int)) := h.g.c4
  clear h
  generalize (run : Int) = rn at *
  go_enter Tryz.func36, Tryz.ntmps36
  go_wp2_with (go_at_call 54; refine CI.out.mono ?_; rintro e w0 ⟨rfl, rfl⟩)
  go_ret
  exact ⟨rfl, rfl⟩
theorem cut_range (h : Lx B w l k S (lgR db bs sc run fs dur dead)) (hf : Fit sc fs) (x r' : Int) (hr : ¬ r' ≤ (run : Int)) (hr2 : ¬ 4294967295 < r') (hx0 : ¬ x < 1) (hx : ((cat fs).size : Int) + 1 < x) : Calls Tryz.prog 36 #[.pointer (some ⟨l, 0, none⟩), .int .i64 x, .int .i64 r'] w fun e w' => e = .returned (.int .i64 6) ∧ w' = w := by
  have h1 := hf.sz
  have h2 := hf.s1
  have CI : Hid (Calls Tryz.prog 54 #[.pointer (some ⟨l, 0, none⟩)] w fun e w' => e = .returned (.bool true) ∧ w' = w) := isOpen_any h.g
  have CE : Hid (Calls Tryz.prog 24 #[.pointer (some ⟨l, 0, none⟩)] w fun e w' => e = .returned (.int .i64 (((cat fs).size : Int) + 1)) ∧ w' = w) := End_any h.g (by show (cat fs).size ≤ 1000000; omega)
  have c4 : w.cell? ⟨l, 4, none⟩ = some (.int .i64 (run : Int)) := h.g.c4
  clear h hf h1 h2
  generalize (run : Int) = rn at *
  generalize ((cat fs).size : Int) + 1 = E at *
  go_enter Tryz.func36, Tryz.ntmps36
  go_wp2_with (first
    | (go_at_call 54; refine CI.out.mono ?_; rintro e w0 ⟨rfl, rfl⟩)
    | (go_at_call 24; refine CE.out.mono ?_; rintro e w1 ⟨rfl, rfl⟩))
  go_ret
  exact ⟨rfl, rfl⟩
theorem need_near (h : Lx B w l k S (lgR db bs sc run fs dur dead)) (x : Int) (hx : x < (dur : Int) + 1) : Calls Tryz.prog 43 #[.pointer (some ⟨l, 0, none⟩), .int .i64 x] w fun e w' => e = .returned (.int .i64 0) ∧ w' = w := by
  have CI : Hid (Calls Tryz.prog 54 #[.pointer (some ⟨l, 0, none⟩)] w fun e w' => e = .returned (.bool true) ∧ w' = w) := isOpen_any h.g
  have c8 : w.cell? ⟨l, 8, none⟩ = some (.int .i64 ((dur : Int) + 1)) := h.g.c8
  clear h
  generalize (dur : Int) + 1 = D at *
  go_enter Tryz.func43, Tryz.ntmps43
  go_wp2_with (go_at_call 54; refine CI.out.mono ?_; rintro e w0 ⟨rfl, rfl⟩)
  go_ret
  exact ⟨rfl, rfl⟩
theorem need_far (h : Lx B w l k S (lgR db bs sc run fs dur dead)) (x : Int) (hx : ¬ x < (dur : Int) + 1) {P : Int → World → Prop} (hC : Calls Tryz.prog 21 #[.pointer (some ⟨l, 0, none⟩)] w fun e w' => ∃ y, e = .returned (.int .i64 y) ∧ P y w') : Calls Tryz.prog 43 #[.pointer (some ⟨l, 0, none⟩), .int .i64 x] w fun e w' => ∃ y, e = .returned (.int .i64 y) ∧ P y w' := by
  have CI : Hid (Calls Tryz.prog 54 #[.pointer (some ⟨l, 0, none⟩)] w fun e w' => e = .returned (.bool true) ∧ w' = w) := isOpen_any h.g
  have c8 : w.cell? ⟨l, 8, none⟩ = some (.int .i64 ((dur : Int) + 1)) := h.g.c8
  have HC : Hid (Calls Tryz.prog 21 #[.pointer (some ⟨l, 0, none⟩)] w fun e w' => ∃ y, e = .returned (.int .i64 y) ∧ P y w') := hC
  clear h hC
  generalize (dur : Int) + 1 = D at *
  go_enter Tryz.func43, Tryz.ntmps43
  go_wp2_with (first
    | (go_at_call 54; refine CI.out.mono ?_; rintro e w0 ⟨rfl, rfl⟩)
    | (go_at_call 21; refine HC.out.mono ?_; rintro e w1 ⟨y, rfl, hP⟩))
  go_ret
  exact ⟨y, rfl, hP⟩
/-! ### Read -/
set_option maxHeartbeats 1000000 in
theorem read_out (h : Lx B w l k S (lgR db bs sc run fs dur dead)) (hf : Fit sc fs) (x : Int) (hx : x < 1 ∨ ((cat fs).size : Int) + 1 ≤ x) : Calls Tryz.prog 34 #[.pointer (some ⟨l, 0, none⟩), .int .i64 x] w fun e w' => e = .returned (.tuple #[.agg (zS.A nilV nilV), .int .i64 0, .int .i64 8]) ∧ Below w.heap.size w w' := by
  have h1 := hf.sz
  have h2 := hf.s1
  have CI : Hid (∀ wx, Below w.heap.size w wx → Calls Tryz.prog 54 #[.pointer (some ⟨l, 0, none⟩)] wx fun e w' => e = .returned (.bool true) ∧ w' = wx) := fun wx hx => isOpen_any (h.below hx).g
  have CE : Hid (∀ wx, Below w.heap.size w wx → Calls Tryz.prog 24 #[.pointer (some ⟨l, 0, none⟩)] wx fun e w' => e = .returned (.int .i64 (((cat fs).size : Int) + 1)) ∧ w' = wx) := fun wx hx => End_any (h.below hx).g (by show (cat fs).size ≤ 1000000; omega)
  clear h hf h1 h2
  generalize ((cat fs).size : Int) + 1 = E at *
  by_cases h3 : x < 1
  · clear hx
    go_enter Tryz.func34, Tryz.ntmps34
    go_wp2_with (first
      | (refine wpList_new_rc _ rfl rfl ?_; intro w1 b4 N1)
      | (go_at_call 54; refine (CI.out _ N1.below).mono ?_; rintro e w2 ⟨rfl, rfl⟩)
      | (refine wpList_put_rc (s' := zS) (I' := nilV) (T' := nilV) _ rfl (.tmp 4) (.tmp 22) rfl rfl rfl N1.rc rfl rfl ?_; intro w6 P6))
    refine bodyPost_ret (results_rc3 rfl _ _ rfl P6.rc) rfl ?_
    exact ⟨rfl, N1.below.trans (P6.below (by have := N1.eq; omega) N1.below.size)⟩
  · have h4 : E ≤ x := by omega
    clear hx
    go_enter Tryz.func34, Tryz.ntmps34
    go_wp2_with (first
      | (refine wpList_new_rc _ rfl rfl ?_; intro w1 b4 N1)
      | (go_at_call 54; refine (CI.out _ N1.below).mono ?_; rintro e w2 ⟨rfl, rfl⟩)
      | (go_at_call 24; refine (CE.out _ N1.below).mono ?_; rintro e w3 ⟨rfl, rfl⟩)
      | (refine wpList_put_rc (s' := zS) (I' := nilV) (T' := nilV) _ rfl (.tmp 4) (.tmp 22) rfl rfl rfl N1.rc rfl rfl ?_; intro w6 P6))
    refine bodyPost_ret (results_rc3 rfl _ _ rfl P6.rc) rfl ?_
    exact ⟨rfl, N1.below.trans (P6.below (by have := N1.eq; omega) N1.below.size)⟩
end
end Go.Proofs.YtgcfbjecmmnlhaaGreat

namespace Go.Proofs.YtgcfbjecmmnlhaaGreat
open Go.RowKit Go.Maps Go.ChangeMaps
set_option linter.unusedVariables false
set_option linter.unusedSimpArgs false
set_option maxRecDepth 100000

/-- Blocks of records. -/
def isR : Obj → Prop
  | .cells _ t _ => t = 37
  | _ => False
section
variable {B l k db bs sc run dur : Nat} {w w' w0 w1 w2 w5 w6 : World} {S S' : Dk} {fs gs : List ByteArray} {dead : Bool} {R : Lr} {A : Obj → Prop}
theorem Lx.keptR (h : Lx B w l k S R) {B' : Nat} (hb : Kp isR B' w w') : Lx B w' l k S R := by
  obtain ⟨lb, mb, m, d1, d2, d3, d4⟩ := h.d.dsk
  obtain ⟨p, v, pv, h1, h2, h3, h4⟩ := h.g.ex
  have e1 : w'.heap[lb]? = w.heap[lb]? := by
    obtain ⟨cur, fz, e2⟩ := d1.row.ty
    rw [e2]; exact hb.block _ _ e2 (by simp [isR])
  have e3 : w'.heap[mb]? = w.heap[mb]? := by
    obtain ⟨es, c, e2⟩ := d1.map.is
    rw [e2]; exact hb.block _ _ e2 (by simp [isR])
  refine ⟨⟨⟨lb, mb, m, ⟨hb.block _ _ d1.blk (by simp [isR]), d1.row.of_block e1 hb.size, d1.map.of_block e3, d1.ne⟩, d2, d3, d4⟩, h.d.q, h.d.hd, Nat.le_trans h.d.lt hb.size⟩, ?_⟩
  exact ⟨⟨p, v, pv, hb.block l _ h1 (by simp [isR]), h2, ownF_of h3 (fun k cur fz e => hb.block k _ e (by simp [isR])), h4.of_block (fun k cur fz e => hb.block k _ e (by simp [isR]))⟩, h.g.ge, Nat.le_trans h.g.le hb.size⟩
theorem put_kp {b : Nat} {s0 s : Sc} {I0 T0 I T : Value} (hr : RcAt w b s0 I0 T0) (P : PutR w w' b s I T) (hB : B ≤ b) (hw : B ≤ w.heap.size) : Kp isR B w w' := by
  refine ⟨P.below hB hw, fun j o e hn => ?_⟩
  refine (P.off.block j (lt_of_some e) (fun e2 => ?_)).trans e
  subst e2
  rw [hr.blk] at e
  cases e
  exact hn rfl
theorem Kp.putR {b : Nat} {s : Sc} {I T : Value} (h : Kp A B w w5) (P : PutR w5 w6 b s I T) (hb : w.heap.size ≤ b) (hB : B ≤ w.heap.size) : Kp A B w w6 :=
  ⟨h.bel.trans (P.below (Nat.le_trans hB hb) (Nat.le_trans hB h.size)), fun j o e hn => (P.off.block j (lt_of_some (h.block j o e hn)) (fun e2 => by have := lt_of_some e; omega)).trans (h.block j o e hn)⟩
set_option maxHeartbeats 2000000 in
theorem read_ok (h : Lx B w l k S (lgR db bs sc run fs dur dead)) (hf : Fit sc fs) (x : Int) (hx1 : 1 ≤ x) (hx2 : x < ((cat fs).size : Int) + 1) {m : Rm} {n : Int} (ho : openM (cat fs) (x - 1) = (m, n, 0)) (hn0 : 0 ≤ n) (hn1 : n ≤ 1000000) :
    Calls Tryz.prog 34 #[.pointer (some ⟨l, 0, none⟩), .int .i64 x] w fun e w' => (∃ v, e = .returned (.tuple #[v, .int .i64 (x + n), .int .i64 0]) ∧ RecF w' v m w.heap.size) ∧ Lx B w' l k S (lgR db bs sc run fs dur dead) ∧ Kp isL B w w' ∧ Ce w w' := by
  have h1 := hf.sz
  have h2 := hf.s1
  have CI : Hid (∀ wx, Below w.heap.size w wx → Calls Tryz.prog 54 #[.pointer (some ⟨l, 0, none⟩)] wx fun e w' => e = .returned (.bool true) ∧ w' = wx) := fun wx hx => isOpen_any (h.below hx).g
  have CE : Hid (∀ wx, Below w.heap.size w wx → Calls Tryz.prog 24 #[.pointer (some ⟨l, 0, none⟩)] wx fun e w' => e = .returned (.int .i64 (((cat fs).size : Int) + 1)) ∧ w' = wx) := fun wx hx => End_any (h.below hx).g (by show (cat fs).size ≤ 1000000; omega)
  have CS : Hid (∀ wx, Below w.heap.size w wx → Calls Tryz.prog 57 #[.pointer (some ⟨l, 5, none⟩)] wx fun v w' => v = .returned (.string (cat fs)) ∧ Lx B w' l k S (lgR db bs sc run fs dur dead) ∧ Kp isL B wx w' ∧ Ce wx w') := fun wx hx => by
    refine (String_log2 (h.below hx).g).mono ?_
    rintro v w' ⟨hv, g1, k1, q1⟩
    exact ⟨hv, (h.below hx).kept rfl g1 k1, k1, q1⟩
  have CO : Hid (∀ wx, Calls Tryz.prog 31 #[.string (cat fs), .int .i64 (x - 1)] wx fun e w' => (∃ v, e = .returned (.tuple #[v, .int .i64 n, .int .i64 0]) ∧ RecF w' v m wx.heap.size) ∧ Below wx.heap.size wx w') := fun wx => by
    have := Open_any (w := wx) (cat fs) (x - 1) (by omega)
    rw [ho] at this
    exact this
  have hle := h.le
  have t1 : ¬ x < 1 := by omega
  have t2 : ¬ ((cat fs).size : Int) + 1 ≤ x := by omega
  have hxb : x ≤ 1000000 := by omega
  clear h hf h1 h2 ho
  generalize ((cat fs).size : Int) + 1 = E at *
  generalize hT : cat fs = t at CS CO
  clear hT
  obtain ⟨s9, l9, g9⟩ := m
  have hw1 : IntKind.i64.wrap (x - 1) = x - 1 := by rw [IntKind.wrap_i64]; omega
  have hw2 : IntKind.i64.wrap (x + n) = x + n := by rw [IntKind.wrap_i64]; omega
  go_enter Tryz.func34, Tryz.ntmps34
  go_wp2_with (first
    | (have := N1; refine wpList_new_rc _ rfl rfl ?_; intro w4 b7 N7)
    | (refine wpList_new_rc _ rfl rfl ?_; intro w1 b4 N1)
    | (go_at_call 54; refine (CI.out _ N1.below).mono ?_; rintro e w9 ⟨rfl, rfl⟩)
    | (go_at_call 24; refine (CE.out _ N1.below).mono ?_; rintro e w8 ⟨rfl, rfl⟩)
    | (go_at_call 57; refine (CS.out _ N1.below).mono ?_; rintro e w2 ⟨rfl, H2, k2, ce2⟩; have rc2 : RcAt w2 b4 zS nilV nilV := ⟨k2.block _ _ N1.rc.blk (by simp [isL])⟩)
    | (go_at_call 31; refine (CO.out _).mono ?_; rintro e w3 ⟨⟨v, rfl, hv⟩, b3⟩; have rc3 := rc2.below b3; obtain ⟨I, T, rfl, hI, hT⟩ := hv.ex; dsimp only at hI hT)
    | (refine wpList_at (Op.store 37 (.tmp 7) (.tmp 31)) rfl ?_; refine wpList_put_rc (s' := s9) (I' := I) (T' := T) _ rfl (.tmp 7) (.tmp 31) rfl rfl rfl N7.rc hI.slI.one hT.slT.one ?_; intro w5 P7; have b35 : Below w3.heap.size w3 w5 := N7.below.trans (P7.below (by have := N7.eq; omega) N7.below.size); have rc5 := rc3.below b35; have I5 := hI.below b35; have T5 := hT.below b35)
    | (refine wpList_load_rc _ rfl (.tmp 7) rfl rfl P7.rc ?_)
    | (refine wpList_at (Op.store 37 (.tmp 4) (.tmp 38)) rfl ?_; refine wpList_put_rc (s' := s9) (I' := I) (T' := T) _ rfl (.tmp 4) (.tmp 38) rfl rfl rfl rc5 hI.slI.one hT.slT.one ?_; intro w6 P6))
  refine bodyPost_ret (results_rc3 rfl _ _ rfl P6.rc) rfl ?_
  have e4 := N1.eq
  have z4 := N1.rc.lt
  have b25 : Below w2.heap.size w2 w5 := thn b3 b35
  have K5 : Kp isL B w w5 := ((Kp.of_below N1.below hle).trans k2).below b25 hle
  have H5 := H2.below b25
  have hk2 := k2.size
  refine ⟨⟨_, rfl, I, T, rfl, (I5.off P6.off (by omega)).mono (by omega), (T5.off P6.off (by omega)).mono (by omega)⟩, ?_, K5.putR P6 (by omega) hle, ?_⟩
  · exact H5.keptR (put_kp (B := B) rc5 P6 (by omega) H5.le)
  · have c5 : Ce w w5 := ((Ce.of_below N1.below).trans ce2).trans (Ce.of_below b25)
    exact ⟨Nat.le_trans c5.size P6.off.size, fun p hp => (World.cell?_of_block (P6.off.block _ (Nat.lt_of_lt_of_le hp c5.size) (by omega))).trans (c5.cell p hp)⟩
end
end Go.Proofs.YtgcfbjecmmnlhaaGreat

namespace Go.Proofs.YtgcfbjecmmnlhaaGreat
open Go.RowKit Go.Maps Go.ChangeMaps
set_option linter.unusedVariables false
set_option linter.unusedSimpArgs false
set_option maxRecDepth 100000

abbrev E3 := Sc × Value × Value
def E3.A (e : E3) : List Value := (e.1.A e.2.1 e.2.2).toList
theorem E3.len (e : E3) : e.A.length = 13 := rfl
def flat : List E3 → List Value
  | [] => []
  | e :: l => e.A ++ flat l
theorem flat_append (l m : List E3) : flat (l ++ m) = flat l ++ flat m := by
  induction l with
  | nil => rfl
  | cons e l ih => simp only [List.cons_append, flat, ih, List.append_assoc]
theorem flat_length (l : List E3) : (flat l).length = l.length * 13 := by
  induction l with
  | nil => rfl
  | cons e l ih => simp only [flat, List.length_append, E3.len, ih, List.length_cons]; omega
theorem flat_get (l : List E3) : ∀ (i : Nat) (hi : i < l.length) (j : Nat), j < 13 → (flat l)[i * 13 + j]? = (l[i].A)[j]? := by
  induction l with
  | nil => intro i hi; exact absurd hi (Nat.not_lt_zero _)
  | cons e l ih =>
    intro i hi j hj
    cases i with
    | zero => rw [flat, Nat.zero_mul, Nat.zero_add, List.getElem?_append_left (by rw [E3.len]; exact hj)]; rfl
    | succ i =>
      have := ih i (by simpa using hi) j hj
      rw [flat, List.getElem?_append_right (by rw [E3.len]; omega), E3.len, show (i + 1) * 13 + j - 13 = i * 13 + j by omega, this]
      rfl
/-- A slice whose block is another than a row's. -/
def Apart (v u : Value) (L : List P2) : Prop := L ≠ [] → ∀ b off n c, u = .slice (some ⟨b, off, none⟩) n c → v.ownBlock ≠ some b
/-- A slice of records of the call's own; their slices are new, too. -/
structure Rcs (B : Nat) (w : World) (v : Value) (ms : List Rm) : Prop where
  ex : ∃ es : List E3, es.length = ms.length ∧ w.ownsRow B 37 13 v ms.length (flat es) ∧ ∀ i, (h1 : i < es.length) → (h2 : i < ms.length) → es[i].1 = ms[i].s ∧ (Fr w es[i].2.1 (encI ms[i].im) B ∧ Fr w es[i].2.2 (encT ms[i].tb) B) ∧ Apart v es[i].2.1 (encI ms[i].im) ∧ Apart v es[i].2.2 (encT ms[i].tb)
section
variable {B C l k db bs sc run dur : Nat} {w w' w0 w1 w2 w5 w6 : World} {S S' : Dk} {fs gs : List ByteArray} {dead : Bool} {R : Lr} {A : Obj → Prop} {v : Value} {ms : List Rm}
theorem Rcs.nil (B : Nat) (w : World) : Rcs B w (.slice none 0 0) [] := ⟨[], rfl, ⟨rfl, Or.inl ⟨rfl, rfl⟩⟩, fun i h => absurd h (Nat.not_lt_zero _)⟩
theorem Cs.ce {a : Option Addr} {L : List P2} (h : Cs w a L) (hc : Ce w w') : Cs w' a L := ⟨fun i hi => by
  obtain ⟨b, off, e, hb, h1, h2⟩ := h.at_ i hi
  exact ⟨b, off, e, Nat.lt_of_lt_of_le hb hc.size, (hc.cell _ hb).trans h1, (hc.cell _ hb).trans h2⟩⟩
theorem Fr.ce {L : List P2} (h : Fr w v L B) (hc : Ce w w') : Fr w' v L B := by
  obtain ⟨a, c, h0, h1, h2⟩ := h.ex
  exact ⟨a, c, h0, h1.ce hc, h2⟩
theorem rcs_ones (es : List E3) (h : ∀ i, (h1 : i < es.length) → es[i].2.1.oneCell' = true ∧ es[i].2.2.oneCell' = true) : True := trivial
/-- Behind a call that leaves old cells and blocks of records alone. -/
theorem Rcs.kept (h : Rcs B w v ms) (hc : Ce w w') (hk : ∀ (j : Nat) (cur : Array Value) (fz : Nat × Nat), w.heap[j]? = some (Obj.cells cur 37 fz) → w'.heap[j]? = some (Obj.cells cur 37 fz)) : Rcs B w' v ms := by
  obtain ⟨es, h1, ⟨h2, h3⟩, h4⟩ := h.ex
  refine ⟨es, h1, ⟨h2, ?_⟩, fun i a b => ?_⟩
  · rcases h3 with h3 | ⟨g, cap, cur, e, hB, hg, h5⟩
    · exact Or.inl h3
    · exact Or.inr ⟨g, cap, cur, e, hB, hk _ _ _ hg, h5⟩
  · obtain ⟨q1, ⟨q2, q3⟩, q4⟩ := h4 i a b
    exact ⟨q1, ⟨q2.ce hc, q3.ce hc⟩, q4⟩
theorem Rcs.below (h : Rcs B w v ms) (hb : Below w.heap.size w w') : Rcs B w' v ms := h.kept (Ce.of_below hb) (fun j cur fz e => (hb.block j (lt_of_some e)).trans e)
theorem Rcs.slice (h : Rcs B w v ms) : ∃ a c, v = .slice a ms.length c := by
  obtain ⟨es, h1, ⟨h2, h3⟩, h4⟩ := h.ex
  rcases h3 with ⟨rfl, h3⟩ | ⟨g, cap, cur, e, hB, hg, h5⟩
  · exact ⟨none, 0, by rw [h3]⟩
  · exact ⟨_, _, e⟩
/-- A record of the slice: its cells, and what it is. -/
theorem Rcs.at_ {a : Option Addr} {n c : Nat} (h : Rcs B w (.slice a n c) ms) {i : Nat} (hi : i < ms.length) : ∃ g I T, a = some ⟨g, 0, none⟩ ∧ w.rangeAt g (i * 13) ((ms[i].s.A I T).toList) ∧ RecF w (.agg (ms[i].s.A I T)) ms[i] B := by
  obtain ⟨es, h1, ⟨h2, h3⟩, h4⟩ := h.ex
  rcases h3 with ⟨_, h3⟩ | ⟨g, cap, cur, e, hB, hg, h5, h6, h7, h8⟩
  · omega
  · cases e
    have hi1 : i < es.length := by omega
    obtain ⟨q1, ⟨q2, q3⟩, q4⟩ := h4 i hi1 hi
    refine ⟨g, es[i].2.1, es[i].2.2, rfl, ?_, ⟨_, _, rfl, q2, q3⟩⟩
    intro j u hu
    have hj : j < 13 := by
      have := (List.getElem?_eq_some_iff.1 hu).1
      exact this
    rw [Lib.cell_of_heap hg]
    have := flat_get es i hi1 j hj
    rw [← h8, List.getElem?_take, if_pos (by have := flat_length es; have := h2; omega)] at this
    rw [← Array.getElem?_toList, this, ← hu, ← q1]
    rfl
theorem infoRec : ∃ i, Tryz.prog.info? 37 = some i ∧ i.zero = some (.agg (zS.A nilV nilV)) ∧ i.size = 13 ∧ i.bytes = 160 :=
  info_parts (show (Tryz.prog.info? 37).map (fun i => (i.zero, i.size, i.bytes)) = some (some (.agg (zS.A nilV nilV)), 13, 160) by kernel_rfl)
theorem rec_one {m : Rm} {I T : Value} (hI : I.oneCell' = true) (hT : T.oneCell' = true) : ∀ u ∈ (m.s.A I T).toList, u.oneCell' = true := by
  intro u hu
  simp [Sc.A] at hu
  rcases hu with rfl | rfl | rfl | rfl | rfl | rfl | rfl | rfl | rfl | rfl | rfl | rfl | rfl
  all_goals first | rfl | exact hI | exact hT
theorem append_rcs (h : Rcs B w v ms) {g : Nat} {m : Rm} {I T : Value} (hg : RcAt w g m.s I T) (hI : I.oneCell' = true) (hT : T.oneCell' = true) (hB : B ≤ w.heap.size) (hl : ms.length ≤ 100000) (ty : TypeId) (es : List E3) (hrow : w.ownsRow B 37 13 v ms.length (flat es)) :
    ∃ v' w', (Builtin.append_ #[49, 49] ty #[v, .slice (some ⟨g, 0, none⟩) 1 1]).run Tryz.prog w = .ok v' w' ∧ w'.ownsRow B 37 13 v' (ms.length + 1) (flat es ++ E3.A (m.s, I, T)) ∧ w.grownBy w' v.ownBlock ∧ (v'.ownBlock = v.ownBlock ∨ v'.ownBlock = some w.heap.size) := by
  obtain ⟨i, hi, hz0, hz1, hz2⟩ := infoRec
  have hnews : ∀ j u, (E3.A (m.s, I, T))[j]? = some u → w.cell? ((⟨g, 0, none⟩ : Addr).add j) = some u := by
    intro j u hu
    have hadd : (⟨g, 0, none⟩ : Addr).add j = ⟨g, j, none⟩ := by unfold Addr.add; split <;> simp_all
    rw [hadd, Joins.cell_of_block hg.blk, ← Array.getElem?_toList]
    exact hu
  have h1 : ∀ u ∈ E3.A (m.s, I, T), u.oneCell' = true := rec_one (m := m) hI hT
  obtain ⟨v', w', hr, ho, hgr, _⟩ := run_append_own (P := Tryz.prog) w B 49 ty 37 i (.agg (zS.A nilV nilV)) 13 160 Tryz.underlying49 hi hz0 hz1 hz2 rfl (by omega) v ms.length (flat es) hrow ⟨g, 0, none⟩ 1 1 (E3.A (m.s, I, T)) rfl hnews h1 (by unfold maxLen; omega) (by omega) hB
  refine ⟨v', w', hr, ho, hgr, ?_⟩
  have hl1 : (E3.A (m.s, I, T)).length = 1 * i.size := by rw [hz1]; rfl
  rcases hrow.2 with ⟨rfl, hn⟩ | ⟨b, cap, cur, rfl, hbg, hgg, hnc, hcm, hcs, htake⟩
  · have hr2 := run_append_nil (P := Tryz.prog) w 49 ty 37 i (.agg (zS.A nilV nilV)) Tryz.underlying49 hi hz0 ⟨g, 0, none⟩ 1 1 (E3.A (m.s, I, T)) hl1 hnews (by omega) (by omega) (by rw [hz2]; omega)
    rw [hr2] at hr
    injection hr with e1 e2
    subst e1
    exact Or.inr rfl
  · by_cases hroom : ms.length + 1 ≤ cap
    · have hr2 := run_append_room (P := Tryz.prog) w 49 ty 37 i Tryz.underlying49 hi b ms.length cap cur hgg ⟨g, 0, none⟩ 1 1 (E3.A (m.s, I, T)) hl1 hnews h1 hroom (by rw [hz1, hcs, E3.len]; omega)
      rw [hr2] at hr
      injection hr with e1 e2
      subst e1
      exact Or.inl rfl
    · have holds : ∀ j u, (flat es)[j]? = some u → w.cell? ((⟨b, 0, none⟩ : Addr).add j) = some u := by
        intro j u hu
        have hadd : (⟨b, 0, none⟩ : Addr).add j = ⟨b, j, none⟩ := by unfold Addr.add; split <;> simp_all
        rw [hadd, cell_of_row w b j cur 37 (0, 0) hgg]
        rw [← htake, List.getElem?_take] at hu
        split at hu
        · simpa using hu
        · cases hu
      have hr2 := run_append_grow (P := Tryz.prog) w 49 ty 37 i (.agg (zS.A nilV nilV)) Tryz.underlying49 hi hz0 ⟨b, 0, none⟩ ms.length cap (flat es) (by rw [hz1, hrow.1]) holds ⟨g, 0, none⟩ 1 1 (E3.A (m.s, I, T)) hl1 hnews (by omega) (by omega) (by rw [hz2]; exact growslice_fits (by omega) (by omega))
      rw [hr2] at hr
      injection hr with e1 e2
      subst e1
      exact Or.inr rfl
theorem Fr.grown {u : Value} {L : List P2} (h : Fr w u L B) (ha : Apart v u L) (hg : w.grownBy w' v.ownBlock) : Fr w' u L B := by
  obtain ⟨a, c, h0, h1, h2⟩ := h.ex
  refine ⟨a, c, h0, ⟨fun i hi => ?_⟩, h2⟩
  obtain ⟨b, off, e, hb, q1, q2⟩ := h1.at_ i hi
  have hne : L ≠ [] := fun e => by rw [e] at hi; exact absurd hi (Nat.not_lt_zero _)
  have hbk : w'.heap[b]? = w.heap[b]? := hg.block b hb (fun e2 => ha hne b off _ _ (by rw [h0, e]) e2.symm)
  exact ⟨b, off, e, Nat.lt_of_lt_of_le hb hg.size, (World.cell?_of_block (by exact hbk)).trans q1, (World.cell?_of_block (by exact hbk)).trans q2⟩
theorem Fr.lt {u : Value} {L : List P2} (h : Fr w u L B) (hL : L ≠ []) {b off n c : Nat} (e : u = .slice (some ⟨b, off, none⟩) n c) : b < w.heap.size := by
  obtain ⟨a, c', h0, h1, h2⟩ := h.ex
  have hi : 0 < L.length := List.length_pos_iff.2 hL
  obtain ⟨b', off', e', hb, _⟩ := h1.at_ 0 hi
  rw [h0] at e
  injection e with e1 _ _
  rw [e'] at e1
  injection e1 with e1
  injection e1 with e1
  omega
theorem wpList_append_rcs {ops : Array Oper} {rest : List Oper} {o : Oper} {act : Act} {Q : Exit → Act → World → Prop} (hgd : o.guard = none) (s x : Operand)
    (ho : o.op = .call { callee := .builtin .append, args := #[s, x], argTypes := #[49, 49] }) (hs : act.eval s = v) (h : Rcs B w v ms)
    {g : Nat} {m : Rm} {I T : Value} (hx : act.eval x = .slice (some ⟨g, 0, none⟩) 1 1) (hg : RcAt w g m.s I T) (hI : Fr w I (encI m.im) B) (hT : Fr w T (encT m.tb) B) (hA1 : Apart v I (encI m.im)) (hA2 : Apart v T (encT m.tb)) (hB : B ≤ w.heap.size) (hl : ms.length ≤ 100000)
    (K : ∀ v' w', Rcs B w' v' (ms ++ [m]) → Kp isR B w w' → wpList Tryz.prog ops Q rest (act.put o.dst v') w') : wpList Tryz.prog ops Q (o :: rest) act w := by
  refine wpList_plain hgd fun K' hK => ?_
  obtain ⟨es, h1, hrow, h4⟩ := h.ex
  obtain ⟨v', w', hr, h2, hgr, hown⟩ := append_rcs h hg hI.slI.one hT.slT.one hB hl o.type es hrow
  have hC : ∀ j, v.ownBlock = some j → B ≤ j ∧ ∃ cur, w.heap[j]? = some (.cells cur 37 (0, 0)) := by
    intro j e
    rcases hrow.2 with ⟨rfl, _⟩ | ⟨b, cap, cur, rfl, hbg, hgg, _⟩
    · simp [Value.ownBlock] at e
    · simp [Value.ownBlock] at e
      subst e
      exact ⟨hbg, cur, hgg⟩
  have hk : Kp isR B w w' := by
    refine ⟨(Below.refl B w).grown hgr hB (fun j e => (hC j e).1), fun j ob e hnr => (hgr.block j (lt_of_some e) (fun e2 => ?_)).trans e⟩
    obtain ⟨_, cur, e3⟩ := hC j e2.symm
    rw [e] at e3; cases e3; exact hnr rfl
  have hap : ∀ {u : Value} {L : List P2}, Fr w u L B → Apart v u L → Apart v' u L := fun hF hA hne b off n c e => by
    rcases hown with e2 | e2
    · rw [e2]; exact hA hne b off n c e
    · rw [e2]
      intro e3
      injection e3 with e3
      have := hF.lt hne e
      omega
  have hR : Rcs B w' v' (ms ++ [m]) := by
    refine ⟨es ++ [(m.s, I, T)], by simp [h1], ?_, fun i a b => ?_⟩
    · rw [List.length_append, List.length_singleton, flat_append, show flat [(m.s, I, T)] = E3.A (m.s, I, T) from by simp [flat]]
      exact h2
    · rcases Nat.lt_or_ge i ms.length with hi | hi
      · rw [List.getElem_append_left (by omega), List.getElem_append_left hi]
        obtain ⟨q1, ⟨q2, q3⟩, q4, q5⟩ := h4 i (by omega) hi
        exact ⟨q1, ⟨q2.grown q4 hgr, q3.grown q5 hgr⟩, hap q2 q4, hap q3 q5⟩
      · have hi2 : i = ms.length := by rw [List.length_append, List.length_singleton] at b; omega
        subst hi2
        rw [List.getElem_append_right (by omega), List.getElem_append_right (Nat.le_refl _)]
        simp only [h1, Nat.sub_self, List.getElem_singleton]
        exact ⟨trivial, ⟨hI.grown hA1 hgr, hT.grown hA2 hgr⟩, hap hI hA1, hap hT hA2⟩
  unfold Oper.wp execOp
  simp only [ho, resolve, invoke, builtin, Sem.run_bind, Sem.run_pure, Result.andThen_ok, List.map_toArray, List.map_cons, List.map_nil, hs, hx, hr]
  exact hK _ _ (K v' w' hR hk)
theorem run_build_rc (s : Sc) (I T : Value) (w : World) : (Instr.buildSlice 49 1 #[(0, .agg (s.A I T))]).run Tryz.prog w = .ok (.slice (some ⟨w.heap.size, 0, none⟩) 1 1) (w.alloc (.cells (s.A I T) 37)) := by kernel_rfl
theorem wpList_build_rc {ops : Array Oper} {rest : List Oper} {o : Oper} {act : Act} {Q : Exit → Act → World → Prop} {s : Sc} {I T : Value} (w : World) (hg : o.guard = none) (x : Operand) (hop : o.op = Op.buildSlice 49 1 #[(0, x)]) (hx : act.eval x = .agg (s.A I T))
    (h : ∀ w' b, NewR w w' b s I T → wpList Tryz.prog ops Q rest (act.put o.dst (.slice (some ⟨b, 0, none⟩) 1 1)) w') : wpList Tryz.prog ops Q (o :: rest) act w := by
  refine wpList_plain hg fun K' hK' => ?_
  have hr := run_build_rc s I T w
  unfold Oper.wp execOp
  simp only [hop, List.map_toArray, List.map_cons, List.map_nil, hx, Sem.run_bind, Sem.run_pure, Result.andThen_ok, hr]
  exact hK' _ _ (h _ _ ⟨⟨(MapKept.heap_alloc w _).1⟩, (Below.refl _ _).alloc (Nat.le_refl _) _, rfl⟩)
theorem Fr.apart {u : Value} {L : List P2} (h : Fr w u L C) (hs : ∀ j, v.ownBlock = some j → j < C) : Apart v u L := fun _ b off n c e e2 => by
  obtain ⟨a, c', h0, h1, h2, h3, h4, h5⟩ := h.ex
  rw [h0] at e
  injection e with e1 _ _
  have := h5 b off e1
  have := hs b e2
  omega
theorem open_at {fs : List ByteArray} (hF : ∀ f ∈ fs, Frm f) {i : Nat} (hi : i < fs.length) : openM (cat fs) (off fs i : Int) = (recF fs[i], (fs[i].size : Int), 0) := by
  have e : cat fs = cat (fs.take i) ++ fs[i] ++ cat (fs.drop (i + 1)) := by
    have : fs = fs.take i ++ ([fs[i]] ++ fs.drop (i + 1)) := by
      rw [List.singleton_append, List.getElem_cons_drop, List.take_append_drop]
    conv => lhs; rw [this]
    rw [cat_append, cat_append, cat, cat, app_nil, ByteArray.append_assoc]
  rw [e]
  exact (hF fs[i] (List.getElem_mem _)).open_ _ _
theorem clone_any {ps : List Int} (h : OwnI B w v ps) (hl : ps.length ≤ 1000000) : Calls Tryz.prog 63 #[v] w fun e w' => (∃ v', e = .returned v' ∧ OwnI w.heap.size w' v' ps) ∧ Below w.heap.size w w' := by
  rcases h.row.2 with ⟨rfl, hn⟩ | ⟨g, cap, cur, rfl, hbg, hgg, hnc, hcm, hcs, htake⟩
  · have : ps = [] := List.eq_nil_of_length_eq_zero hn
    subst this
    refine (Tryz.slices_Clone_int_nil 0 0 w).mono ?_
    rintro e w' ⟨he, rfl⟩
    exact ⟨⟨_, he, OwnI.nil _ _⟩, Below.refl _ _⟩
  · refine (Tryz.slices_Clone_int g 0 ps.length cap ps w (Nat.le_refl _) (by omega) (fun j hj => by
      rw [Nat.zero_add, Lib.cell_of_heap hgg]
      have : (iv ps)[j]? = some (.int .i64 ps[j]) := by simp [iv, hj]
      rw [← htake, List.getElem?_take, if_pos (by omega)] at this
      rw [List.getD_eq_getElem?_getD, List.getElem?_eq_getElem hj]
      simpa using this)).mono ?_
    rintro e w' ⟨v', he, hr, _, hb⟩
    rw [List.take_length] at hr
    exact ⟨⟨v', he, ⟨hr⟩⟩, hb⟩
end
end Go.Proofs.YtgcfbjecmmnlhaaGreat

namespace Go.Proofs.YtgcfbjecmmnlhaaGreat
open Go.RowKit Go.Maps Go.ChangeMaps
set_option linter.unusedVariables false
set_option linter.unusedSimpArgs false
set_option maxRecDepth 100000

section
variable {B C l k db bs sc run dur : Nat} {w w' w0 w1 w2 w5 w6 : World} {S S' : Dk} {fs gs : List ByteArray} {dead : Bool} {R : Lr} {A : Obj → Prop} {v : Value} {ms : List Rm}
set_option maxHeartbeats 4000000 in
theorem Records_any (h : Lx B w l k S (lgR db bs sc run fs dur dead)) (hf : Fit sc fs) : Calls Tryz.prog 30 #[.pointer (some ⟨l, 0, none⟩)] w fun e w' => (∃ v v2, e = .returned (.tuple #[v, v2]) ∧ Rcs w.heap.size w' v (fs.map recF) ∧ OwnI w.heap.size w' v2 (plc 1 fs)) ∧ Lx B w' l k S (lgR db bs sc run fs dur dead) ∧ Kp isL B w w' := by
  have h1 := hf.sz
  have h2 := hf.s1
  have hl := fit_len hf
  have hlen := plc_length 1 fs
  obtain ⟨a, c, c7, ho⟩ := h.row
  have c7' : w.cell? ⟨l, 7, none⟩ = some (.slice a (plc 1 fs).length c) := c7
  have ho' : OwnI B w (.slice a (plc 1 fs).length c) (plc 1 fs) := ho
  have CI : Hid (Calls Tryz.prog 54 #[.pointer (some ⟨l, 0, none⟩)] w fun e w' => e = .returned (.bool true) ∧ w' = w) := isOpen_any h.g
  have CR : Hid (∀ wx i, (hi : i < fs.length) → Lx B wx l k S (lgR db bs sc run fs dur dead) → Calls Tryz.prog 34 #[.pointer (some ⟨l, 0, none⟩), .int .i64 ((1 + off fs i : Nat) : Int)] wx fun e w' => (∃ v n, e = .returned (.tuple #[v, .int .i64 n, .int .i64 0]) ∧ RecF w' v (recF fs[i]) wx.heap.size) ∧ Lx B w' l k S (lgR db bs sc run fs dur dead) ∧ Kp isL B wx w' ∧ Ce wx w') := fun wx i hi hx => by
    have hoff := off_lt hf.frm hi (Nat.le_refl _)
    rw [off_all] at hoff
    have hz := (hf.frm fs[i] (List.getElem_mem _)).le
    have := read_ok hx hf ((1 + off fs i : Nat) : Int) (by omega) (by omega) (m := recF fs[i]) (n := (fs[i].size : Int)) (by rw [show ((1 + off fs i : Nat) : Int) - 1 = (off fs i : Int) by omega]; exact open_at hf.frm hi) (by omega) (by omega)
    refine this.mono ?_
    rintro e w' ⟨⟨v, he, hr⟩, q⟩
    exact ⟨⟨v, _, he, hr⟩, q⟩
  have HP : Hid (∀ wx i, (hi : i < fs.length) → Ce w wx → ∃ g, a = some ⟨g, 0, none⟩ ∧ wx.cell? ⟨g, i, none⟩ = some (.int .i64 ((1 + off fs i : Nat) : Int))) := fun wx i hi hc => by
    obtain ⟨g, e, hg⟩ := ho'.at_ (i := i) (by rw [hlen]; exact hi)
    have hgc := hg w (Below.refl _ _)
    have hlt : g < w.heap.size := by
      rcases Nat.lt_or_ge g w.heap.size with hh | hh
      · exact hh
      · simp [World.cell?, Array.getElem?_eq_none hh] at hgc
    refine ⟨g, e, (hc.cell ⟨g, i, none⟩ hlt).trans ?_⟩
    rw [hgc]
    have := plc_get 1 fs i hi
    rw [List.getElem?_eq_getElem (by rw [hlen]; exact hi)] at this
    injection this with this
    rw [this]
  have CC : Hid (∀ wx, Ce w wx → Kp isL B w wx → Lx B wx l k S (lgR db bs sc run fs dur dead) → ∃ a2 c2, wx.cell? ⟨l, 7, none⟩ = some (.slice a2 (plc 1 fs).length c2) ∧ Calls Tryz.prog 63 #[.slice a2 (plc 1 fs).length c2] wx fun e w' => (∃ v', e = .returned v' ∧ OwnI wx.heap.size w' v' (plc 1 fs)) ∧ Below wx.heap.size wx w') := fun wx _ _ hx => by
    obtain ⟨a2, c2, q1, q2⟩ := hx.row
    exact ⟨a2, c2, q1, clone_any q2 (by show (plc 1 fs).length ≤ 1000000; omega)⟩
  have hle := h.le
  have H : Hid (Lx B w l k S (lgR db bs sc run fs dur dead)) := h
  have hfl : fs.length ≤ 70000 := by omega
  clear h h1 h2 c7 ho ho' hf hl
  rw [hlen] at CC c7'
  clear hlen
  go_enter Tryz.func30, Tryz.ntmps30
  go_wp2_with (go_at_call 54; refine CI.out.mono ?_; rintro e w0 ⟨rfl, rfl⟩)
  go_loopw [4, 18] (fun sv ix wr => ∃ i : Nat, i ≤ fs.length ∧ ix = .int .i64 (i : Int) ∧ Rcs w0.heap.size wr sv ((fs.take i).map recF) ∧ Lx B wr l k S (lgR db bs sc run fs dur dead) ∧ Kp isL B w0 wr ∧ Ce w0 wr) (fun _ ix _ => fs.length - (intOf ix).toNat)
  case atStart => exact ⟨0, Nat.zero_le _, rfl, Rcs.nil _ _, H.out, Kp.refl _ _ _, Ce.of_below (Below.refl _ _)⟩
  case round =>
    obtain ⟨i, hi, rfl, hR, hL, hK, hC⟩ := hrel
    by_cases hlt : i < fs.length
    · obtain ⟨g, rfl, cg⟩ := HP.out wr i hlt hC
      obtain ⟨a3, c3, rfl⟩ := hR.slice
      have CR1 : Hid (Calls Tryz.prog 34 #[.pointer (some ⟨l, 0, none⟩), .int .i64 ((1 + off fs i : Nat) : Int)] wr fun e w' => (∃ v n, e = .returned (.tuple #[v, .int .i64 n, .int .i64 0]) ∧ RecF w' v (recF fs[i]) wr.heap.size) ∧ Lx B w' l k S (lgR db bs sc run fs dur dead) ∧ Kp isL B wr w' ∧ Ce wr w') := CR.out wr i hlt hL
      have hm : Hid ((fs.take (i + 1)).map recF = (fs.take i).map recF ++ [recF fs[i]]) := (by rw [List.take_succ_eq_append_getElem hlt, List.map_append]; rfl : (fs.take (i + 1)).map recF = (fs.take i).map recF ++ [recF fs[i]])
      obtain ⟨M1, HM1⟩ : ∃ M1, Hid (M1 = (fs.take (i + 1)).map recF) := ⟨_, rfl⟩
      rw [← HM1.out] at hm
      have hll : ((fs.take i).map recF).length ≤ 100000 := by simp; omega
      have hsep : Hid (∀ j, (Value.slice a3 ((fs.take i).map recF).length c3).ownBlock = some j → j < wr.heap.size) := (fun j e => by
        obtain ⟨es, _, hrow, _⟩ := hR.ex
        rcases hrow.2 with ⟨e2, _⟩ | ⟨b, cap, cur, e2, _, hgg, _⟩
        · rw [e2] at e; simp [Value.ownBlock] at e
        · rw [e2] at e
          simp [Value.ownBlock] at e
          subst e
          exact lt_of_some hgg : ∀ j, (Value.slice a3 ((fs.take i).map recF).length c3).ownBlock = some j → j < wr.heap.size)
      have HR : Hid _ := hR
      have HK : Hid _ := hK
      have HC : Hid _ := hC
      have hi2 : (i : Int) < (fs.length : Int) := by omega
      have hz0 := hC.size
      clear hR hK hC hL CR HP CC
      generalize ((1 + off fs i : Nat) : Int) = X at *
      generalize recF fs[i] = m at *
      obtain ⟨s9, l9, g9⟩ := m
      generalize (fs.take i).map recF = ms at *
      go_wp2_with (first
        | (go_at_call 34; refine CR1.out.mono ?_; rintro e w1 ⟨⟨v, n, rfl, hv⟩, L1, k1, q1⟩; have R1 := HR.out.kept q1 (fun j cur fz e => k1.block j _ e (by simp [isL])); have K1 : Hid (Kp isL B w0 w1) := HK.out.trans k1; have C1 : Hid (Ce w0 w1) := HC.out.trans q1; obtain ⟨I, T, rfl, hI, hT⟩ := hv.ex; dsimp only at hI hT; clear HR HK HC)
        | (refine wpList_new_rc _ rfl rfl ?_; intro w2 b7 N2)
        | (refine wpList_at (Op.store 37 (.tmp 7) (.tmp 26)) rfl ?_; refine wpList_put_rc (s' := s9) (I' := I) (T' := T) _ rfl (.tmp 7) (.tmp 26) rfl rfl rfl N2.rc hI.slI.one hT.slT.one ?_; intro w3 P3; have b13 : Below w1.heap.size w1 w3 := N2.below.trans (P3.below (by have := N2.eq; omega) N2.below.size))
        | (refine wpList_load_rc _ rfl (.tmp 7) rfl rfl P3.rc ?_)
        | (refine wpList_build_rc (s := s9) (I := I) (T := T) _ rfl (.tmp 30) rfl rfl ?_; intro w4 b8 N4; have bA : Below w1.heap.size w1 w4 := thn b13 N4.below; have R4 := R1.below bA; have I4 := hI.below bA; have T4 := hT.below bA; have rcA := N4.rc; have L4 := L1.below bA; have K4 : Hid (Kp isL B w0 w4) := K1.out.below bA hle; have C4 : Hid (Ce w0 w4) := C1.out.trans (Ce.of_below bA); have hz4 := C4.out.size)
        | (at_builtin; refine wpList_append_rcs (B := w0.heap.size) (m := ⟨s9, l9, g9⟩) rfl (.tmp 29) (.tmp 31) rfl rfl R4 rfl rcA (I4.mono hz0) (T4.mono hz0) (I4.apart hsep.out) (T4.apart hsep.out) hz4 hll ?_; intro v' w5 R5 k5; rw [← hm.out] at R5; obtain ⟨a5, c5, rfl⟩ := R5.slice; have L5 := L4.keptR k5; have K5 : Hid (Kp isL B w0 w5) := ⟨K4.out.bel.trans (k5.bel.mono hle), fun j o e hn => by
            have e4 := K4.out.block j o e hn
            exact (k5.bel.block j (lt_of_some e)).trans e4⟩; have C5 : Hid (Ce w0 w5) := ⟨Nat.le_trans C4.out.size k5.size, fun p hp => (World.cell?_of_block (k5.bel.block _ hp)).trans (C4.out.cell p hp)⟩))
      go_roundw
      case rel => exact ⟨i + 1, by omega, by go_num, by rw [← HM1.out]; exact R5, L5, K5.out, C5.out⟩
      case measure => simp [intOf]; omega
    · obtain rfl : i = fs.length := by omega
      have hi2 : ¬ (fs.length : Int) < (fs.length : Int) := by omega
      rw [List.take_length] at hR
      obtain ⟨a2, c2, q7, CC1⟩ := CC.out wr hC hK hL
      have HC1 : Hid (Calls Tryz.prog 63 #[.slice a2 fs.length c2] wr fun e w' => (∃ v', e = .returned v' ∧ OwnI wr.heap.size w' v' (plc 1 fs)) ∧ Below wr.heap.size wr w') := CC1
      have HR : Hid _ := hR
      have HK : Hid _ := hK
      have HL : Hid _ := hL
      have hz := hC.size
      obtain ⟨a3, c3, e3⟩ := hR.slice
      subst e3
      clear CC1 CC CR HP hR hK hL hC
      generalize (fs.map recF).length = n3 at *
      go_wp2_with (go_at_call 63; refine HC1.out.mono ?_; rintro e w2 ⟨⟨v', rfl, hO⟩, b2⟩)
      go_ret2
      refine ⟨⟨_, _, rfl, HR.out.below b2, ?_⟩, HL.out.below b2, HK.out.below b2 hle⟩
      obtain ⟨q1, q2⟩ := hO.row
      refine ⟨q1, ?_⟩
      rcases q2 with q2 | ⟨g, cap, cur, e, hB, hg, q3⟩
      · exact Or.inl q2
      · exact Or.inr ⟨g, cap, cur, e, by omega, hg, q3⟩
end
end Go.Proofs.YtgcfbjecmmnlhaaGreat

namespace Go.Proofs.YtgcfbjecmmnlhaaGreat
open Go.RowKit Go.Maps Go.ChangeMaps
set_option linter.unusedVariables false
set_option linter.unusedSimpArgs false
set_option maxRecDepth 100000

/-- The sectors of a disk. -/
structure Qs (S : Dk) (bs sc r : Nat) (Q : Nat → Sec) : Prop where
  now : ∀ i, i < sc → S.now (bs + i) = encQ (Q i)
  run : ∀ i, i < sc → (Q i).1 ≤ r
  sz : ∀ i, i < sc → (Q i).2.size ≤ 58
  wait : ∀ i, S.wait i = none
/-- A log that is open, and what stands of it: so many of its frames last. -/
structure Lv (B : Nat) (w : World) (l k : Nat) (S : Dk) (db bs sc run : Nat) (fs : List ByteArray) (sure : Nat) : Prop where
  lx : Lx B w l k S (lgR db bs sc run fs (off fs sure) false)
  up : S.up = true
  fit : Fit sc fs
  hs : sure ≤ fs.length
  n : bs + sc ≤ S.n
  r2 : run ≤ 4294967295
  q : ∃ Q, Qs S bs sc run Q ∧ Std Q sc run (cat (fs.take sure))
/-- What stands is a beginning of frames, so many of them at least. -/
structure Wt (S : Dk) (bs sc r : Nat) (fs : List ByteArray) (lo : Nat) : Prop where
  q : ∃ Q, Qs S bs sc r Q ∧ ∀ run, r ≤ run → ∃ x, cat fs = stand Q run sc ++ x ∧ off fs lo ≤ (stand Q run sc).size
section
variable {B l k db bs sc run r r' sure lo : Nat} {w w' w0 : World} {S S' : Dk} {fs gs : List ByteArray} {Q : Nat → Sec}
theorem Qs.lasts (h : Qs S bs sc r Q) {i : Nat} (hi : i < sc) : S.sure (bs + i) = encQ (Q i) := by
  have := h.now i hi
  unfold Dk.now at this
  rw [h.wait] at this
  exact this
theorem fs_split (fs : List ByteArray) (i : Nat) : cat fs = cat (fs.take i) ++ cat (fs.drop i) := by rw [← cat_append, List.take_append_drop]
theorem Lv.pos (h : Lv B w l k S db bs sc run fs sure) : 1 ≤ run := by obtain ⟨Q, _, hs⟩ := h.q; exact hs.pos
theorem Lv.below (h : Lv B w l k S db bs sc run fs sure) (hb : Below w.heap.size w w') : Lv B w' l k S db bs sc run fs sure := ⟨h.lx.below hb, h.up, h.fit, h.hs, h.n, h.r2, h.q⟩
theorem Lv.mono {k' : Nat} (h : Lv B w l k S db bs sc run fs sure) (hk : k ≤ k') : Lv B w l k' S db bs sc run fs sure := ⟨h.lx.mono hk, h.up, h.fit, h.hs, h.n, h.r2, h.q⟩
theorem Lv.wt (h : Lv B w l k S db bs sc run fs sure) : Wt S bs sc run fs sure := by
  obtain ⟨Q, hQ, hs⟩ := h.q
  refine ⟨Q, hQ, fun rn hr => ⟨cat (fs.drop sure), ?_, ?_⟩⟩
  · rw [hs.stands hr]; exact fs_split fs sure
  · rw [hs.stands hr]; exact Nat.le_refl _
theorem Wt.eq (h : Wt S bs sc r fs lo) (h1 : S'.sure = S.sure) (h2 : S'.wait = S.wait) : Wt S' bs sc r fs lo := by
  obtain ⟨Q, hQ, hs⟩ := h.q
  exact ⟨Q, ⟨fun i hi => by have := hQ.now i hi; unfold Dk.now at this ⊢; rw [h1, h2]; exact this, hQ.run, hQ.sz, fun i => by rw [h2]; exact hQ.wait i⟩, hs⟩
theorem Wt.crash (h : Wt S bs sc r fs lo) (x : Int) : Wt (crDk S x) bs sc r fs lo := by
  obtain ⟨Q, hQ, hs⟩ := h.q
  unfold crDk
  split
  · refine ⟨Q, ⟨fun i hi => ?_, hQ.run, hQ.sz, fun i => rfl⟩, hs⟩
    show lossF S.sure S.wait x (bs + i) = _
    unfold lossF
    rw [hQ.wait]
    exact hQ.lasts hi
  · exact ⟨Q, hQ, hs⟩
/-- What is laid comes to the disk. -/
theorem Qs.laid (h : Qs S bs sc r Q) {t : ByteArray} {rr a b : Nat} (hr : r ≤ rr) (hL : Laid S S' (nw bs t rr a b) 0) : Qs S' bs sc rr (putQ Q t rr a b) := by
  obtain ⟨hu, hw, hsu⟩ := hL.ok rfl
  refine ⟨fun i hi => ?_, fun i hi => ?_, fun i hi => ?_, hw⟩
  · unfold Dk.now
    rw [hw, hsu]
    show (nw bs t rr a b (bs + i)).getD (S.now (bs + i)) = _
    unfold nw putQ
    by_cases hc : a ≤ i ∧ i < b
    · rw [if_pos (by omega), if_pos hc, show bs + i - bs = i by omega]; rfl
    · rw [if_neg (by omega), if_neg hc]
      exact h.now i hi
  · unfold putQ
    split
    · exact Nat.le_refl _
    · exact Nat.le_trans (h.run i hi) hr
  · unfold putQ
    split
    · exact part_le t i
    · exact h.sz i hi
/-- Of what is laid some came to the disk, and some did not. -/
theorem Qs.lost (h : Qs S bs sc r Q) {t : ByteArray} {rr a b : Nat} {y : Int} (hr : r ≤ rr) (hL : Laid S S' (nw bs t rr a b) y) (hy : y ≠ 0) : ∃ Q', Qs S' bs sc rr Q' ∧ ∀ i, i < sc → Q' i = Q i ∨ (a ≤ i ∧ i < b ∧ Q' i = (rr, part t i)) := by
  obtain ⟨_, hu, hw⟩ := hL.bad hy
  have hA : AllR (fun j c => ∀ i, i < sc → j = bs + i → c = encQ (Q i) ∨ (a ≤ i ∧ i < b ∧ c = encQ (rr, part t i))) S := by
    refine ⟨fun j i hi e => ?_, fun j c hc => by rw [h.wait] at hc; cases hc⟩
    subst e
    exact Or.inl (h.lasts hi)
  have hB := hL.all _ hA (fun j c hc i hi e => by
    subst e
    unfold nw at hc
    split at hc
    · rename_i hc2
      rw [show bs + i - bs = i by omega] at hc
      injection hc with hc
      exact Or.inr ⟨by omega, by omega, hc.symm⟩
    · cases hc)
  refine ⟨fun i => if S'.sure (bs + i) = encQ (Q i) then Q i else (rr, part t i), ⟨fun i hi => ?_, fun i hi => ?_, fun i hi => ?_, hw⟩, fun i hi => ?_⟩
  · unfold Dk.now
    rw [hw]
    show S'.sure (bs + i) = _
    split
    · rename_i e; exact e
    · rename_i e
      rcases hB.sure (bs + i) i hi rfl with e2 | ⟨_, _, e2⟩
      · exact absurd e2 e
      · exact e2
  · split
    · exact Nat.le_trans (h.run i hi) hr
    · exact Nat.le_refl _
  · split
    · exact h.sz i hi
    · exact part_le t i
  · dsimp only
    split
    · exact Or.inl rfl
    · rename_i e
      rcases hB.sure (bs + i) i hi rfl with e2 | ⟨e3, e4, e2⟩
      · exact absurd e2 e
      · exact Or.inr ⟨e3, e4, rfl⟩
theorem off_take {fs : List ByteArray} {i : Nat} : off (fs.take i) (fs.take i).length = off fs i := by rw [off_all]; rfl
/-- Flush. -/
theorem Lv.flush (h : Lv B w l k S db bs sc run fs sure) (hk : k ≤ 30000) : Calls Tryz.prog 21 #[.pointer (some ⟨l, 0, none⟩)] w fun e w' => ∃ y, e = .returned (.int .i64 y) ∧ ∃ S', (Kp isA B w w' ∧ S'.n = S.n ∧ (S.set = false → y = 0 ∧ S'.set = false)) ∧ ((y = 0 ∧ Lv B w' l (k + sc + 1) S' db bs sc run fs fs.length) ∨ (y = 9 ∧ S'.up = false ∧ Ds B w' db (k + sc + 1) S' ∧ Wt S' bs sc run fs sure)) := by
  obtain ⟨Q, hQ, hstd⟩ := h.q
  have hle := h.lx.le
  have hm := off_mono (l := fs) h.hs
  rw [off_all] at hm
  rcases Nat.lt_or_ge (off fs sure) (cat fs).size with hd | hd
  · refine (flush_any h.lx hk h.fit hd (by have := h.r2; omega) h.n h.up).mono ?_
    rintro e w' ⟨S', x, rfl, hF⟩
    refine ⟨x, rfl, S', ⟨hF.kp, hF.ld.n, hF.ld.calm⟩, ?_⟩
    have hlx := hF.lx
    have hL := hF.ld
    have hT := fs_split fs sure
    by_cases hx : x = 0
    · subst hx
      obtain ⟨hu, hw, _⟩ := hL.ok rfl
      left
      refine ⟨rfl, ?_, hu, h.fit, Nat.le_refl _, by rw [hL.n]; exact h.n, h.r2, ?_⟩
      · rw [off_all]; exact hlx
      · refine ⟨_, hQ.laid (Nat.le_refl _) hL, ?_⟩
        rw [List.take_length]
        exact hstd.flush hT hd h.fit.sz
    · obtain ⟨h9, hu, hw⟩ := hL.bad hx
      right
      refine ⟨h9, hu, hlx.d, ?_⟩
      obtain ⟨Q', hQ', hor⟩ := hQ.lost (Nat.le_refl _) hL hx
      refine ⟨Q', hQ', fun rn hr => ?_⟩
      have hsz : (cat (fs.take sure)).size = off fs sure := rfl
      obtain ⟨y, z, e1, e2⟩ := hstd.grow (T := cat fs) (Q' := Q') (r' := run) hT h.fit.sz hr (Nat.le_refl _) (fun i hi => by
        rcases hor i hi with e | ⟨e3, e4, e⟩
        · exact Or.inl e
        · exact Or.inr ⟨by rw [hsz]; omega, e⟩) (Or.inl rfl)
      exact ⟨z, by rw [e1]; exact e2, by rw [e1, bsz, hsz]; omega⟩
  · have hd2 : off fs sure = (cat fs).size := by omega
    refine (flush_same h.lx h.fit hd2).mono ?_
    rintro e w' ⟨rfl, hb⟩
    have he : sure = fs.length := off_inj h.fit.frm h.hs (Nat.le_refl _) (by rw [hd2, off_all])
    refine ⟨0, rfl, S, ⟨Kp.of_below hb hle, rfl, fun hs => ⟨rfl, hs⟩⟩, Or.inl ⟨rfl, ?_⟩⟩
    have := (h.below hb).mono (k' := k + sc + 1) (by omega)
    rw [he] at this
    exact this
theorem Fit.take (h : Fit sc fs) (i : Nat) : Fit sc (fs.take i) := by
  refine ⟨fun f hf => h.frm f (List.mem_of_mem_take hf), ?_, h.s0, h.s1⟩
  have e := fs_split fs i
  have := h.sz
  rw [e, bsz] at this
  omega
theorem Fit.snoc (h : Fit sc fs) {gs : List ByteArray} (hg : ∀ g ∈ gs, Frm g) (hz : (cat fs).size + (cat gs).size ≤ 58 * sc) : Fit sc (fs ++ gs) := ⟨fun f hf => by
  rcases List.mem_append.1 hf with q | q
  · exact h.frm f q
  · exact hg f q, by rw [cat_append, bsz]; exact hz, h.s0, h.s1⟩
theorem take_pre {i j : Nat} (hij : i ≤ j) : cat (fs.take j) = cat (fs.take i) ++ cat ((fs.take j).drop i) := by
  have := List.take_append_drop i (fs.take j)
  rw [List.take_take, Nat.min_eq_left hij] at this
  conv => lhs; rw [← this]
  rw [cat_append]
/-- Frames come behind all others. -/
theorem Lv.grown (h : Lv B w l k S db bs sc run fs sure) {gs : List ByteArray} (hg : ∀ g ∈ gs, Frm g) (hz : (cat fs).size + (cat gs).size ≤ 58 * sc) (hl : Lx B w' l k S (lgR db bs sc run (fs ++ gs) (off fs sure) false)) : Lv B w' l k S db bs sc run (fs ++ gs) sure := by
  have e : (fs ++ gs).take sure = fs.take sure := List.take_append_of_le_length h.hs
  have e2 : off (fs ++ gs) sure = off fs sure := by unfold off; rw [e]
  refine ⟨by rw [e2]; exact hl, h.up, h.fit.snoc hg hz, by rw [List.length_append]; have := h.hs; omega, h.n, h.r2, ?_⟩
  rw [e]
  exact h.q
set_option maxHeartbeats 1000000 in
theorem Lv.cut (h : Lv B w l k S db bs sc run fs sure) (hk : k ≤ 30000) (i : Nat) (hi : i ≤ fs.length) (x : Int) (hx : x = ((off fs i : Nat) : Int) + 1) (hr1 : run < r') (hr2 : r' ≤ 4294967295) : Calls Tryz.prog 36 #[.pointer (some ⟨l, 0, none⟩), .int .i64 x, .int .i64 (r' : Int)] w fun e w' => ∃ y, e = .returned (.int .i64 y) ∧ ∃ S', (Kp isA B w w' ∧ S'.n = S.n ∧ (S.set = false → y = 0 ∧ S'.set = false)) ∧ ((y = 0 ∧ Lv B w' l (k + sc + 1) S' db bs sc r' (fs.take i) i) ∨ (y = 9 ∧ S'.up = false ∧ Ds B w' db (k + sc + 1) S' ∧ Wt S' bs sc r' fs (min sure i))) := by
  obtain ⟨Q, hQ, hstd⟩ := h.q
  have hm := off_mono (l := fs) h.hs
  rw [off_all] at hm
  have hmi := off_mono (l := fs) hi
  rw [off_all] at hmi
  have hz := h.fit.sz
  have hti : (fs.take i).length = i := by rw [List.length_take]; omega
  refine (cut_any h.lx hk h.fit hm i hi x hx r' hr1 hr2 h.n h.up).mono ?_
  rintro e w' ⟨S', y, rfl, hK, hC, hD, hL⟩
  have hts : (cat (fs.take i)).size = off fs i := rfl
  have hbs : (cat (fs.take sure)).size = off fs sure := rfl
  have hLv : y = 0 → S'.up = true → S'.n = S.n → (∃ Q', Qs S' bs sc r' Q' ∧ Std Q' sc r' (cat (fs.take i))) → Lv B w' l (k + sc + 1) S' db bs sc r' (fs.take i) i := fun hy hu hn hq => by
    refine ⟨?_, hu, h.fit.take i, by omega, by rw [hn]; exact h.n, hr2, by rw [List.take_take, Nat.min_self]; exact hq⟩
    have : off (fs.take i) i = off fs i := by unfold off; rw [List.take_take, Nat.min_self]
    rw [this]
    exact hL hy
  rcases hC with ⟨h1, rfl, rfl⟩ | ⟨h1, hLd⟩
  · refine ⟨0, rfl, _, ⟨hK, rfl, fun hs => ⟨rfl, hs⟩⟩, Or.inl ⟨rfl, hLv rfl h.up rfl ⟨Q, ⟨hQ.now, fun j hj => by have := hQ.run j hj; omega, hQ.sz, hQ.wait⟩, ?_⟩⟩⟩
    rw [hts] at h1
    have hei : i = sure := off_inj h.fit.frm hi h.hs (by omega)
    subst hei
    refine ⟨hstd.fit, by omega, fun j hj => by have := hstd.all j hj; omega, hstd.full, hstd.mono, fun kk a b c => ?_, fun j a b => ?_⟩
    · rw [hts] at a b; omega
    · rw [hts] at a; omega
  · have hmin : min (off fs sure) (cat (fs.take i)).size = min (off fs sure) (off fs i) := rfl
    rw [hmin, hts] at h1 hLd
    refine ⟨y, rfl, S', ⟨hK, hLd.n, hLd.calm⟩, ?_⟩
    rcases Nat.le_total sure i with hsi | hsi
    · -- behind what lasts
      have ho := off_mono (l := fs) hsi
      have hT : cat (fs.take i) = cat (fs.take sure) ++ cat ((fs.take i).drop sure) := take_pre hsi
      rw [Nat.min_eq_left ho] at h1 hLd
      by_cases hy : y = 0
      · subst hy
        obtain ⟨hu, _, _⟩ := hLd.ok rfl
        refine Or.inl ⟨rfl, hLv rfl hu hLd.n ⟨_, hQ.laid (Nat.le_of_lt hr1) hLd, ?_⟩⟩
        have := hstd.cutUp (T := cat (fs.take i)) hT (by rw [hts]; omega) hr1
        rw [hbs, hts] at this
        exact this
      · obtain ⟨h9, hu, _⟩ := hLd.bad hy
        obtain ⟨Q', hQ', hor⟩ := hQ.lost (Nat.le_of_lt hr1) hLd hy
        refine Or.inr ⟨h9, hu, hD, Q', hQ', fun rn hr => ?_⟩
        obtain ⟨yy, z, e1, e2⟩ := hstd.grow (T := cat (fs.take i)) (Q' := Q') (r' := r') hT (by rw [hts]; omega) hr (Nat.le_of_lt hr1) (fun j hj => by
          rcases hor j hj with e | ⟨e3, e4, e⟩
          · exact Or.inl e
          · exact Or.inr ⟨by rw [hbs]; omega, e⟩) (Or.inr hr1)
        refine ⟨z ++ cat (fs.drop i), ?_, ?_⟩
        · rw [fs_split fs i, e2, e1, ByteArray.append_assoc]
        · rw [Nat.min_eq_left hsi, e1, bsz, hbs]; omega
    · have ho := off_mono (l := fs) hsi
      have hB : cat (fs.take sure) = cat (fs.take i) ++ cat ((fs.take sure).drop i) := take_pre hsi
      rw [Nat.min_eq_right ho] at h1 hLd
      by_cases hy : y = 0
      · subst hy
        obtain ⟨hu, _, _⟩ := hLd.ok rfl
        refine Or.inl ⟨rfl, hLv rfl hu hLd.n ⟨_, hQ.laid (Nat.le_of_lt hr1) hLd, ?_⟩⟩
        have := hstd.cutDown (T := cat (fs.take i)) hB hr1 hQ.sz
        rw [hts] at this
        exact this
      · obtain ⟨h9, hu, _⟩ := hLd.bad hy
        obtain ⟨Q', hQ', hor⟩ := hQ.lost (Nat.le_of_lt hr1) hLd hy
        refine Or.inr ⟨h9, hu, hD, Q', hQ', fun rn hr => ?_⟩
        have hst := hstd.shrink (T := cat (fs.take i)) (Q' := Q') (r' := r') (run := rn) hB hr hr1 (fun j hj => by
          rcases hor j hj with e | ⟨e3, e4, e⟩
          · exact Or.inl e
          · exact Or.inr ⟨by rw [hts]; omega, by rw [hts]; omega, e⟩)
        rw [Nat.min_eq_right hsi]
        rcases hst with e | e
        · exact ⟨cat (fs.drop i), by rw [e]; exact fs_split fs i, by rw [e, hts]; omega⟩
        · exact ⟨cat (fs.drop sure), by rw [e]; exact fs_split fs sure, by rw [e, hbs]; exact ho⟩
/-- A log is opened in a run that nobody had. -/
theorem Wt.open2 (h : Wt S bs sc r fs lo) (hF : Fit sc fs) (hlo : lo ≤ fs.length) (hd : Ds B w db k S) (hk : k ≤ 30000) (hrun : r < run) (hr2 : run ≤ 4294967295) (hfit : bs + sc ≤ S.n) (hu : S.up = true) (hc : S.set = false) :
    Calls Tryz.prog 10 #[.pointer (some ⟨db, 0, none⟩), .int .i64 (bs : Int), .int .i64 (sc : Int), .int .i64 (run : Int)] w fun e w' =>
      ∃ j S' l, e = .returned (.tuple #[.pointer (some ⟨l, 0, none⟩), .int .i64 0]) ∧ (lo ≤ j ∧ j ≤ fs.length ∧ S'.set = false ∧ S'.n = S.n) ∧ Lv B w' l (k + sc + 1) S' db bs sc run (fs.take j) j ∧ Kp isA B w w' ∧ Opn S S' bs sc run (cat (fs.take j)) := by
  obtain ⟨Q, hQ, hst⟩ := h.q
  refine (Open_calm hd hk bs sc run hF.s0 hF.s1 (by omega) hr2 hfit hu hc Q (fun i hi => ⟨hQ.now i hi, by have := hQ.run i hi; omega, hQ.sz i hi⟩)).mono ?_
  rintro e w' ⟨gs, S', l, rfl, hsp, hop, hlx, hK⟩
  obtain ⟨x, hx, hlow⟩ := hst run (Nat.le_of_lt hrun)
  obtain ⟨j, hj, rfl, hmax⟩ := Spl.take fs gs _ x hF.frm hx hsp
  have hlj : lo ≤ j := hmax lo hlo hlow
  have hjl : (fs.take j).length = j := by rw [List.length_take]; omega
  obtain ⟨y, hy⟩ := hsp.pre
  have hstd := std_new (Q := Q) (secs := sc) (r := run) (T := cat (fs.take j)) (x := y) (fun i hi => by have := hQ.run i hi; omega) hQ.sz hy (hF.take j).sz (by omega)
  have mk : S'.up = true → S'.n = S.n → (∃ Q', Qs S' bs sc run Q' ∧ Std Q' sc run (cat (fs.take j))) → Lv B w' l (k + sc + 1) S' db bs sc run (fs.take j) j := fun hu' hn' hq => by
    refine ⟨?_, hu', hF.take j, by omega, by rw [hn']; exact hfit, hr2, by rw [List.take_take, Nat.min_self]; exact hq⟩
    have : off (fs.take j) j = (cat (fs.take j)).size := by unfold off; rw [List.take_take, Nat.min_self]
    rw [this]
    exact hlx
  have hop2 := hop
  rcases hop with ⟨h1, rfl⟩ | ⟨h1, hLd⟩
  · refine ⟨j, _, l, rfl, ⟨hlj, hj, hc, rfl⟩, mk hu rfl ⟨Q, ⟨hQ.now, fun i hi => by have := hQ.run i hi; omega, hQ.sz, hQ.wait⟩, ?_⟩, hK, hop2⟩
    have e : putQ Q (cat (fs.take j)) run ((cat (fs.take j)).size / 58) (min ((cat (fs.take j)).size / 58 + 1) sc) = Q := by
      funext i
      exact putQ_out (by omega)
    rw [e] at hstd
    exact hstd
  · obtain ⟨hu', _, _⟩ := hLd.ok rfl
    exact ⟨j, S', l, rfl, ⟨hlj, hj, (hLd.calm hc).2, hLd.n⟩, mk hu' hLd.n ⟨_, hQ.laid (Nat.le_of_lt hrun) hLd, hstd⟩, hK, hop2⟩
theorem Wt.open_ (h : Wt S bs sc r fs lo) (hF : Fit sc fs) (hlo : lo ≤ fs.length) (hd : Ds B w db k S) (hk : k ≤ 30000) (hrun : r < run) (hr2 : run ≤ 4294967295) (hfit : bs + sc ≤ S.n) (hu : S.up = true) (hc : S.set = false) :
    Calls Tryz.prog 10 #[.pointer (some ⟨db, 0, none⟩), .int .i64 (bs : Int), .int .i64 (sc : Int), .int .i64 (run : Int)] w fun e w' =>
      ∃ j S' l, e = .returned (.tuple #[.pointer (some ⟨l, 0, none⟩), .int .i64 0]) ∧ (lo ≤ j ∧ j ≤ fs.length ∧ S'.set = false ∧ S'.n = S.n) ∧ Lv B w' l (k + sc + 1) S' db bs sc run (fs.take j) j ∧ Kp isA B w w' := by
  refine (h.open2 hF hlo hd hk hrun hr2 hfit hu hc).mono ?_
  rintro e w' ⟨j, S', l, h1, h2, h3, h4, _⟩
  exact ⟨j, S', l, h1, h2, h3, h4⟩
end
end Go.Proofs.YtgcfbjecmmnlhaaGreat
