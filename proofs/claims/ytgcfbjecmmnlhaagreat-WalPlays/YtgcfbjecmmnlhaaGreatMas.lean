/- WalPlays: cut. WalPlays: cut at a frame. WalPlays: add, its calls. WalPlays: add, of one record. -/
import Derived.Test.YtgcfbjecmmnlhaaGreatMar
namespace Go.Proofs.YtgcfbjecmmnlhaaGreat
open Go.RowKit Go.Maps Go.ChangeMaps
set_option linter.unusedVariables false
set_option linter.unusedSimpArgs false
set_option maxRecDepth 100000

section
variable {B l k db run r r' sure lo p n psure prun : Nat} {w w' w0 wx : World} {S S' : Dk} {fs gs ss : List ByteArray} {v av u : Value} {a a1 a2 : Option Addr} {c c1 c2 : Nat} {kd m kp : Int} {s s' : Sc} {I T I' T' : Value}
theorem run_build_s0 (w : World) : (Instr.buildSlice 31 0 #[]).run Tryz.prog w = .ok (.slice (some ⟨w.heap.size, 0, none⟩) 0 0) (w.alloc (.cells #[] 9)) := by kernel_rfl
theorem run_app_none (g : Nat) (W : World) (ty : TypeId) : (Builtin.append_ #[31, 31] ty #[.slice (some ⟨g, 0, none⟩) 0 0, .slice none 0 0]).run Tryz.prog W = .ok (.slice (some ⟨g, 0, none⟩) 0 0) W := by kernel_rfl
/-- A new empty slice. -/
structure NewE (w w' : World) (g : Nat) : Prop where
  own : OwnS g w' (.slice (some ⟨g, 0, none⟩) 0 0) []
  below : Below w.heap.size w w'
  eq : g = w.heap.size
theorem OwnS.mono {B B' : Nat} (h : OwnS B w v ss) (hb : B' ≤ B) : OwnS B' w v ss := by
  obtain ⟨h1, h2⟩ := h.row
  refine ⟨h1, ?_⟩
  rcases h2 with h2 | ⟨g, cap, cur, e, hB, hg⟩
  · exact Or.inl h2
  · exact Or.inr ⟨g, cap, cur, e, Nat.le_trans hb hB, hg⟩
theorem wpList_build_s0 {ops : Array Oper} {rest : List Oper} {o : Oper} {act : Act} {Q : Exit → Act → World → Prop} (w : World) (hg : o.guard = none) (hop : o.op = Op.buildSlice 31 0 #[])
    (K : ∀ w' g, NewE w w' g → wpList Tryz.prog ops Q rest (act.put o.dst (.slice (some ⟨g, 0, none⟩) 0 0)) w') : wpList Tryz.prog ops Q (o :: rest) act w := by
  refine wpList_plain hg fun K' hK' => ?_
  unfold Oper.wp
  have := run_build_s0 w
  simp [execOp, hop, this, Result.andThen]
  refine hK' _ _ (K _ _ ⟨⟨rfl, Or.inr ⟨w.heap.size, 0, #[], rfl, Nat.le_refl _, (MapKept.heap_alloc w _).1, ?_⟩⟩, (Below.refl _ _).alloc (Nat.le_refl _) _, rfl⟩)
  simp [sv]
  try decide
/-- All of a slice behind an empty one. -/
theorem wpList_append_all {ops : Array Oper} {rest : List Oper} {o : Oper} {act : Act} {Q : Exit → Act → World → Prop} (hgd : o.guard = none) (x y : Operand)
    (hop : o.op = .call { callee := .builtin .append, args := #[x, y], argTypes := #[31, 31] }) {g : Nat} (hx : act.eval x = .slice (some ⟨g, 0, none⟩) 0 0) (h : OwnS B w (.slice (some ⟨g, 0, none⟩) 0 0) [])
    (hy : act.eval y = .slice a fs.length c) {B2 : Nat} (ho : OwnS B2 w (.slice a fs.length c) fs) (hB : B ≤ w.heap.size) (hl : fs.length ≤ 100000)
    (K : ∀ a' c' w', OwnS B w' (.slice a' fs.length c') fs → Kp isS B w w' → wpList Tryz.prog ops Q rest (act.put o.dst (.slice a' fs.length c')) w') : wpList Tryz.prog ops Q (o :: rest) act w := by
  cases ha : a with
  | none =>
    subst ha
    have hfs : fs = [] := by
      rcases ho.row.2 with ⟨e, hn⟩ | ⟨b, cap, cur, e, _⟩
      · exact List.eq_nil_of_length_eq_zero hn
      · cases e
    subst hfs
    have hc : c = 0 := by
      rcases ho.row.2 with ⟨e, hn⟩ | ⟨b, cap, cur, e, _⟩
      · injection e
      · cases e
    subst hc
    refine wpList_plain hgd fun K' hK' => ?_
    unfold Oper.wp execOp
    have hr := run_app_none g w o.type
    simp only [hop, resolve, invoke, builtin, Sem.run_bind, Sem.run_pure, Result.andThen_ok, List.map_toArray, List.map_cons, List.map_nil, hx, hy, List.length_nil, hr]
    exact hK' _ _ (K _ _ _ h (Kp.refl _ _ _))
  | some ad =>
    subst ha
    obtain ⟨i, hi, hz0, hz1, hz2⟩ := info_str
    have hsp : ad.spot = none ∧ ad.off = 0 := by
      rcases ho.row.2 with ⟨e, hn⟩ | ⟨b, cap, cur, e, _⟩
      · cases e
      · cases e; exact ⟨rfl, rfl⟩
    refine Go.wpList_append_own (P := Tryz.prog) (w := w) hgd x y 31 hop B 9 i (.string ⟨#[]⟩) 1 16 Tryz.underlying31 hi hz0 hz1 hz2 rfl (by omega) (.slice (some ⟨g, 0, none⟩) 0 0) 0 [] hx h.row ad fs.length c (sv fs) hy (by simp [sv]) ?_ ?_ (by unfold maxLen; omega) (by omega) hB ?_
    · intro j u hu
      have hj : j < fs.length := by
        have := (List.getElem?_eq_some_iff.1 hu).1
        simpa [sv] using this
      obtain ⟨g', e, hc⟩ := ho.at_ hj
      injection e with e
      subst e
      have hadd : (⟨g', 0, none⟩ : Addr).add j = ⟨g', j, none⟩ := by unfold Addr.add; split <;> simp_all
      rw [hadd, hc, ← hu]
      simp [sv, hj]
    · intro u hu
      simp [sv] at hu
      obtain ⟨q, _, rfl⟩ := hu
      rfl
    · intro v' w' hr hgr hn
      have hC : ∀ j, (Value.slice (some ⟨g, 0, none⟩) 0 0).ownBlock = some j → B ≤ j ∧ ∃ cur, w.heap[j]? = some (.cells cur 9 (0, 0)) := by
        intro j e
        rcases h.row.2 with ⟨e2, _⟩ | ⟨b, cap, cur, e2, hbg, hgg, _⟩
        · cases e2
        · rw [e2] at e
          simp [Value.ownBlock] at e
          subst e
          exact ⟨hbg, cur, hgg⟩
      have hO : OwnS B w' v' fs := ⟨by simpa using hr⟩
      obtain ⟨a', c', e'⟩ := hO.ex
      subst e'
      refine K a' c' w' hO ⟨(Below.refl B w).grown hgr hB (fun j e => (hC j e).1), fun j ob e hnr => (hgr.block j (lt_of_some e) (fun e2 => ?_)).trans e⟩
      obtain ⟨_, cur, e3⟩ := hC j e2.symm
      rw [e] at e3; cases e3; exact hnr rfl
/-- A cut where there is no frame. -/
theorem Py.cut_out (h : Py B w l k S db p a c run fs sure) (hr : run + 1 ≤ 4294967295) : Calls Tryz.prog 36 #[.pointer (some ⟨l, 0, none⟩), .int .i64 (((cat fs).size : Int) + 5), .int .i64 ((run : Int) + 1)] w fun e w' => e = .returned (.int .i64 6) ∧ w' = w := cut_range h.lv.lx h.lv.fit _ _ (by omega) (by omega) (by omega) (by omega)
theorem Py.cut_bad (h : Py B w l k S db p a c run fs sure) : Calls Tryz.prog 36 #[.pointer (some ⟨l, 0, none⟩), .int .i64 1, .int .i64 (run : Int)] w fun e w' => e = .returned (.int .i64 1) ∧ w' = w := cut_arg h.lv.lx _ _ (Int.le_refl _)
set_option maxHeartbeats 8000000 in
theorem cutl_out (h : Py B w l k S db p a c run fs sure) (hr : run + 1 ≤ 4294967295) (hm : m < 0 ∨ (fs.length : Int) < m) : Calls Tryz.prog 14 #[.pointer (some ⟨db, 0, none⟩), .pointer (some ⟨l, 0, none⟩), .pointer (some ⟨p, 0, none⟩), .agg (opA kd m s I T s' I' T' kp)] w fun e w' => Pz B w w' k db p run e := by
  have hsz := h.size
  have hle := h.le
  have hfl := h.len
  have CZ : Hid (∀ wx, Py B wx l k S db p a c run fs sure → Calls Tryz.prog 33 #[.pointer (some ⟨p, 0, none⟩), .int .i64 (fs.length : Int)] wx fun e w' => e = .returned (.int .i64 ((cat fs).size : Int)) ∧ w' = wx) := fun wx q => by
    have := q.psz fs.length (Nat.le_refl _)
    rw [off_all] at this
    exact this
  have C1 : Hid (∀ wx, Py B wx l k S db p a c run fs sure → Calls Tryz.prog 36 #[.pointer (some ⟨l, 0, none⟩), .int .i64 (((cat fs).size : Int) + 5), .int .i64 ((run : Int) + 1)] wx fun e w' => e = .returned (.int .i64 6) ∧ w' = wx) := fun wx q => q.cut_out hr
  have C2 : Hid (∀ wx, Py B wx l k S db p a c run fs sure → Calls Tryz.prog 36 #[.pointer (some ⟨l, 0, none⟩), .int .i64 1, .int .i64 (run : Int)] wx fun e w' => e = .returned (.int .i64 1) ∧ w' = wx) := fun wx q => q.cut_bad
  have d0 : (0 : Int) ≤ ((cat fs).size : Int) := by omega
  have d1 : ((cat fs).size : Int) ≤ 1740 := by omega
  generalize ((cat fs).size : Int) = D at *
  have x1 : IntKind.i64.wrap (D + 5) = D + 5 := by rw [IntKind.wrap_i64]; omega
  have y1 : RowKit.wrap64 (D + 5) = D + 5 := (IntWalk.i64_left _).symm.trans x1
  have x2 : IntKind.i64.wrap ((run : Int) + 1) = (run : Int) + 1 := by rw [IntKind.wrap_i64]; omega
  have y2 : RowKit.wrap64 ((run : Int) + 1) = (run : Int) + 1 := (IntWalk.i64_left _).symm.trans x2
  clear hsz hr
  by_cases hm0 : m < 0
  · have hd0 : decide (m < 0) = true := by simpa using hm0
    go_enter Tryz.func14, Tryz.ntmps14
    go_wp2_with (refine wpList_box_op (cs := opA kd m s I T s' I' T' kp) _ rfl _ rfl rfl ?_; intro w1 b1 N1)
    have bb := N1.below
    have h1 := h.below bb
    have o1 := N1.ob.c1
    have p0 := h1.pf.pp.c0
    clear N1 h
    go_quiet (fail)
    go_wp2
    have h2 := h1.below (Sm.below_dr (Below.refl _ _) nq)
    have bb2 := bb.trans ((Sm.below_dr (Below.refl w1.heap.size w1) nq).mono bb.size)
    clear h1 bb o1 p0
    obtain ⟨w2, hw2⟩ : ∃ w2, w2 = w1.drewN nq := ⟨_, rfl⟩
    rw [← hw2] at h2 bb2 ⊢
    clear hw2
    have H2 : Hid _ := h2
    have p0 := h2.pf.pp.c0
    have p2 := h2.pf.pp.c2
    clear h2
    go_quiet (first
      | (go_at_call 33; exact Calls.quiet_of_same (CZ.out _ (H2.out.below (Sm.below_dr (Below.refl _ _) _))))
      | (go_at_call_of 36 D; exact Calls.quiet_of_same (C1.out _ (H2.out.below (Sm.below_dr (Below.refl _ _) _))))
      | (go_at_call 36; exact Calls.quiet_of_same (C2.out _ (H2.out.below (Sm.below_dr (Below.refl _ _) _)))))
    have h3 := H2.out.below (Sm.below_dr (Below.refl _ _) nq)
    have bb3 := bb2.trans ((Sm.below_dr (Below.refl w2.heap.size w2) nq).mono bb2.size)
    clear H2
    go_wp2
    go_ret2
    exact ⟨_, _, _, _, _, _, _, rfl, h3, Nat.le_refl _, bb3.mono hle⟩
  · have hm1 : (fs.length : Int) < m := by omega
    have hd0 : decide (m < 0) = false := by simp; omega
    have hd1 : decide ((fs.length : Int) < m) = true := by simpa using hm1
    go_enter Tryz.func14, Tryz.ntmps14
    go_wp2_with (refine wpList_box_op (cs := opA kd m s I T s' I' T' kp) _ rfl _ rfl rfl ?_; intro w1 b1 N1)
    have bb := N1.below
    have h1 := h.below bb
    have o1 := N1.ob.c1
    have p0 := h1.pf.pp.c0
    clear N1 h
    go_quiet (fail)
    go_wp2
    have h2 := h1.below (Sm.below_dr (Below.refl _ _) nq)
    have bb2 := bb.trans ((Sm.below_dr (Below.refl w1.heap.size w1) nq).mono bb.size)
    clear h1 bb o1 p0
    obtain ⟨w2, hw2⟩ : ∃ w2, w2 = w1.drewN nq := ⟨_, rfl⟩
    rw [← hw2] at h2 bb2 ⊢
    clear hw2
    have H2 : Hid _ := h2
    have p0 := h2.pf.pp.c0
    have p2 := h2.pf.pp.c2
    clear h2
    go_quiet (first
      | (go_at_call 33; exact Calls.quiet_of_same (CZ.out _ (H2.out.below (Sm.below_dr (Below.refl _ _) _))))
      | (go_at_call_of 36 D; exact Calls.quiet_of_same (C1.out _ (H2.out.below (Sm.below_dr (Below.refl _ _) _))))
      | (go_at_call 36; exact Calls.quiet_of_same (C2.out _ (H2.out.below (Sm.below_dr (Below.refl _ _) _)))))
    have h3 := H2.out.below (Sm.below_dr (Below.refl _ _) nq)
    have bb3 := bb2.trans ((Sm.below_dr (Below.refl w2.heap.size w2) nq).mono bb2.size)
    clear H2
    go_wp2
    go_ret2
    exact ⟨_, _, _, _, _, _, _, rfl, h3, Nat.le_refl _, bb3.mono hle⟩
end
end Go.Proofs.YtgcfbjecmmnlhaaGreat

namespace Go.Proofs.YtgcfbjecmmnlhaaGreat
open Go.RowKit Go.Maps Go.ChangeMaps
set_option linter.unusedVariables false
set_option linter.unusedSimpArgs false
set_option maxRecDepth 100000

section
variable {B l k db run r r' sure lo p n psure prun : Nat} {w w' w0 wx : World} {S S' : Dk} {fs gs ss : List ByteArray} {v av u : Value} {a a1 a2 : Option Addr} {c c1 c2 : Nat} {kd m kp : Int} {s s' : Sc} {I T I' T' : Value}
theorem Pf.c2s (h : Pf B w p a c fs sure (run + 1)) : w.cell? ⟨p, 2, none⟩ = some (.int .i64 ((run : Int) + 1)) := by
  have h1 := h.pp.c2
  rw [show ((run + 1 : Nat) : Int) = (run : Int) + 1 by omega] at h1
  exact h1
/-- cut, ahead of all that it keeps. -/
structure Pb (B : Nat) (w0 w : World) (l k : Nat) (S : Dk) (db p : Nat) (a : Option Addr) (c : Nat) (run : Nat) (fs : List ByteArray) (sure : Nat) (b : Nat) (cs : Array Value) : Prop where
  py : Py B w l k S db p a c run fs sure
  ob : Ob w b cs
  bel : Below B w0 w
/-- cut, behind it. -/
structure Pc (B : Nat) (w0 w : World) (l k : Nat) (S : Dk) (db p : Nat) (a : Option Addr) (c : Nat) (run : Nat) (fs : List ByteArray) (sure prun : Nat) (b : Nat) (cs : Array Value) (a4 : Option Addr) (c4 : Nat) : Prop where
  px : Px B w l k S db p a c run fs sure fs sure prun
  ob : Ob w b cs
  all : OwnS B w (.slice a4 fs.length c4) fs
  bel : Below B w0 w
theorem Pb.below {b : Nat} {cs : Array Value} (h : Pb B w0 w l k S db p a c run fs sure b cs) (hb : Below w.heap.size w w') : Pb B w0 w' l k S db p a c run fs sure b cs := ⟨h.py.below hb, h.ob.below hb, h.bel.trans (hb.mono h.py.le)⟩
theorem Pc.below {b c4 : Nat} {cs : Array Value} {a4 : Option Addr} (h : Pc B w0 w l k S db p a c run fs sure prun b cs a4 c4) (hb : Below w.heap.size w w') : Pc B w0 w' l k S db p a c run fs sure prun b cs a4 c4 := ⟨h.px.below hb, h.ob.below hb, h.all.below hb, h.bel.trans (hb.mono h.px.lv.lx.le)⟩
theorem Pb.all {b c4 g : Nat} {cs : Array Value} {a4 : Option Addr} {w3 w4 : World} (h : Pb B w0 w l k S db p a c run fs sure b cs) (hE : NewE w w3 g) (hO : OwnS g w4 (.slice a4 fs.length c4) fs) (hk : Kp isS g w3 w4) : Pc B w0 (w4.setCell ⟨p, 2, none⟩ (.int .i64 ((run : Int) + 1))) l k S db p a c run fs sure (run + 1) b cs a4 c4 ∧ w4.cell? ⟨p, 2, none⟩ = some (.int .i64 (run : Int)) ∧ w4.frozen? ⟨p, 2, none⟩ = false ∧ (w4.setCell ⟨p, 2, none⟩ (.int .i64 ((run : Int) + 1))).cell? ⟨p, 2, none⟩ = some (.int .i64 ((run : Int) + 1)) := by
  have e : ((run : Int) + 1) = ((run + 1 : Nat) : Int) := by omega
  have hg := hE.eq
  have hb : Below w.heap.size w w4 := hE.below.trans (by rw [← hg]; exact hk.bel)
  have h4 := h.below hb
  have hO4 : OwnS B w4 (.slice a4 fs.length c4) fs := hO.mono (by rw [hg]; exact h.py.le)
  have hk2 := h4.py.pf.pp.kp 2 (.int .i64 ((run : Int) + 1))
  refine ⟨⟨⟨h4.py.lv.keptP hk2, h4.py.n, ?_⟩, h4.ob.keptP hk2, hO4.keptP hk2, h4.bel.trans hk2.bel⟩, h4.py.pf.pp.c2, h4.py.pf.pp.f 2, ?_⟩
  · rw [e]; exact h4.py.pf.set2 (run + 1)
  · rw [e]; exact (h4.py.pf.set2 (run + 1)).pp.c2
/-- The cut is noted. -/
theorem Px.cutdone {i : Nat} (h : Px B w l k S db p a c r (fs.take i) i fs psure r) (hi : i ≤ fs.length) : (i ≤ c ∧ (∀ ad, a = some ad → ad.spot = none)) ∧ ((w.setCell ⟨p, 0, none⟩ (.slice a i c)).cell? ⟨p, 0, none⟩ = some (.slice a i c) ∧ (w.setCell ⟨p, 0, none⟩ (.slice a i c)).frozen? ⟨p, 1, none⟩ = false ∧ (w.setCell ⟨p, 0, none⟩ (.slice a i c)).cell? ⟨p, 1, none⟩ = some (.int .i64 (psure : Int))) ∧ Py B ((w.setCell ⟨p, 0, none⟩ (.slice a i c)).setCell ⟨p, 1, none⟩ (.int .i64 (i : Int))) l k S db p a c r (fs.take i) i ∧ Below B w ((w.setCell ⟨p, 0, none⟩ (.slice a i c)).setCell ⟨p, 1, none⟩ (.int .i64 (i : Int))) := by
  obtain ⟨h1, h2, h3⟩ := h.pf.take hi
  have k1 := h.pf.pp.kp 0 (.slice a i c)
  have k2 := h3.pp.kp 1 (.int .i64 (i : Int))
  have hl : (fs.take i).length = i := by rw [List.length_take]; omega
  have hc := h3.pp.c0
  rw [hl] at hc
  exact ⟨⟨h1, h2⟩, ⟨hc, h3.pp.f 1, h3.pp.c1⟩, ⟨(h.lv.keptP k1).keptP k2, h.n, h3.set1 i⟩, k1.bel.trans k2.bel⟩
theorem Ds.upF (h : Ds B w db k S) (hu : S.up = false) : Calls Tryz.prog 44 #[.pointer (some ⟨db, 0, none⟩)] w fun e w' => e = .returned (.bool false) ∧ w' = w := by
  have := h.up
  rw [hu] at this
  exact this
set_option maxHeartbeats 16000000 in
theorem cutl_in (h : Py B w l k S db p a c run fs sure) (hk : k ≤ 28000) (hr : run + 2 ≤ 4294967295) (x0 : 0 ≤ kp) (x1 : kp ≤ 18446744073709551615) (i : Nat) (hi : i ≤ fs.length) : Calls Tryz.prog 14 #[.pointer (some ⟨db, 0, none⟩), .pointer (some ⟨l, 0, none⟩), .pointer (some ⟨p, 0, none⟩), .agg (opA kd (i : Int) s I T s' I' T' kp)] w fun e w' => Pz B w w' (k + 63) db p (run + 2) e := by
  have hsz := h.size
  have hle := h.le
  have hfl := h.len
  have hsu := h.lv.hs
  have hfit := h.lv.fit
  have hof := off_mono (l := fs) hi
  rw [off_all] at hof
  have CZ : Hid (∀ wx b cs a4 c4, Pc B w wx l k S db p a c run fs sure (run + 1) b cs a4 c4 → Calls Tryz.prog 33 #[.pointer (some ⟨p, 0, none⟩), .int .i64 (i : Int)] wx fun e w' => e = .returned (.int .i64 (off fs i : Int)) ∧ w' = wx) := fun wx b cs a4 c4 q => psz_any q.px.pf hsz hfl i hi
  have CC : Hid (∀ wx b cs a4 c4, Pc B w wx l k S db p a c run fs sure (run + 1) b cs a4 c4 → Calls Tryz.prog 36 #[.pointer (some ⟨l, 0, none⟩), .int .i64 (1 + (off fs i : Int)), .int .i64 ((run : Int) + 1)] wx fun e w' => ∃ y, e = .returned (.int .i64 y) ∧ ∃ S', Kp isA B wx w' ∧ ((y = 0 ∧ S'.up = true ∧ Px B w' l (k + 31) S' db p a c (run + 1) (fs.take i) i fs sure (run + 1)) ∨ (y = 9 ∧ S'.up = false ∧ S'.n = 31 ∧ Ds B w' db (k + 31) S' ∧ Wt S' 1 30 (run + 1) fs (min sure i) ∧ Pf B w' p a c fs sure (run + 1)))) := fun wx b cs a4 c4 q => by
    have := q.px.cut (by omega) i hi (1 + (off fs i : Int)) (by omega) (r' := run + 1) (by omega) (by omega)
    rw [show ((run + 1 : Nat) : Int) = (run : Int) + 1 by omega] at this
    exact this
  have CA : Hid (∀ wx S' a' c' lo, Pd B wx (k + 31) S' db p a' c' (run + 1) (run + 1) fs lo → Calls Tryz.prog 13 #[.pointer (some ⟨db, 0, none⟩), .pointer (some ⟨p, 0, none⟩), .int .u64 kp] wx fun e w' => ∃ l' S' j, e = .returned (.tuple #[.pointer (some ⟨l', 0, none⟩), .bool true]) ∧ Py B w' l' (k + 63) S' db p a' c' (run + 2) (fs.take j) j ∧ Below B wx w') := fun wx S' a' c' lo q => again_any q (by omega) (by omega) kp x0 x1
  have d0 : (0 : Int) ≤ (off fs i : Int) := by omega
  have d1 : (off fs i : Int) ≤ 1740 := by omega
  generalize (off fs i : Int) = D at *
  have X1 : IntKind.i64.wrap (1 + D) = 1 + D := by rw [IntKind.wrap_i64]; omega
  have Y1 : RowKit.wrap64 (1 + D) = 1 + D := (IntWalk.i64_left _).symm.trans X1
  have X2 : IntKind.i64.wrap ((run : Int) + 1) = (run : Int) + 1 := by rw [IntKind.wrap_i64]; omega
  have Y2 : RowKit.wrap64 ((run : Int) + 1) = (run : Int) + 1 := (IntWalk.i64_left _).symm.trans X2
  have n0 : ¬ (i : Int) < 0 := by omega
  have n1 : ¬ (fs.length : Int) < (i : Int) := by omega
  have n2 : (i : Int) ≤ (fs.length : Int) := by omega
  have n3 : (fs.length : Int) ≤ 300 := by omega
  have hfl5 : fs.length ≤ 100000 := by omega
  clear hsz hof hr hk
  go_enter Tryz.func14, Tryz.ntmps14
  go_wp2_with (refine wpList_box_op (cs := opA kd (i : Int) s I T s' I' T' kp) _ rfl _ rfl rfl ?_; intro w1 b1 N1)
  have bb := N1.below
  have hb1 : Pb B w w1 l k S db p a c run fs sure b1 (opA kd (i : Int) s I T s' I' T' kp) := ⟨h.below bb, N1.ob, bb.mono hle⟩
  have o1 := hb1.ob.c1
  have p0 := hb1.py.pf.pp.c0
  have hd0 : decide ((i : Int) < 0) = false := by simp
  have hd1 : decide ((fs.length : Int) < (i : Int)) = false := by simp; omega
  clear N1 h bb
  go_quiet (fail)
  have hb := hb1.below (Sm.below_dr (Below.refl _ _) nq)
  clear hb1 o1 p0
  obtain ⟨w2, hw2⟩ : ∃ w2, w2 = w1.drewN nq := ⟨_, rfl⟩
  rw [← hw2] at hb ⊢
  clear hw2
  have keep0 := And.intro hb.ob.c1 hb.py.pf.pp.c0
  have p0 := keep0.2
  go_wp2_with (first
    | (refine wpList_build_s0 _ rfl rfl ?_; intro w3 g3 E3; have own3 := (hb.below E3.below).py.pf.own; have p03 := (hb.below E3.below).py.pf.pp.c0; have hz3 : g3 ≤ w3.heap.size := (by rw [E3.eq]; exact E3.below.size))
    | (at_builtin; refine wpList_append_all rfl (.tmp 51) (.tmp 55) rfl rfl E3.own rfl own3 hz3 hfl5 ?_; intro a4 c4 w4 O4 k4; obtain ⟨hc, c24, f24, e24⟩ := hb.all E3 O4 k4; clear hb E3 O4 k4 own3 p03))
  have hd := hc.below ((Below.refl _ _).drew)
  clear hc keep0
  have keep0 := And.intro hd.ob.c1 hd.px.pf.c2s
  go_region_held3 (fun W => W.cell? ⟨b1, 1, none⟩ = some (.int .i64 (i : Int)) ∧ W.cell? ⟨p, 2, none⟩ = some (.int .i64 ((run : Int) + 1))) (first | exact keep1 | exact keep0 | go_keep) (first
    | (go_at_call 33; refine (CZ.out _ _ _ _ _ hd).mono ?_; rintro e wq ⟨rfl, rfl⟩)
    | (go_at_call 36; refine (CC.out _ _ _ _ _ hd).mono ?_; rintro e w6 ⟨y, rfl, S6, k6, hor⟩; have O6 := hd.ob.kept k6; have A6 := hd.all.kept k6; have P6 := hd.px.pf.kept k6; have B6 := hd.bel.trans k6.bel; have keep1 := And.intro O6.c1 P6.c2s; clear hd keep0))
  clear CZ CC
  rcases hor with ⟨rfl, u6, h6⟩ | ⟨rfl, u6, n6, d6, t6, f6⟩
  · have p0 := h6.pf.pp.c0
    have f0 := h6.pf.pp.f 0
    have o1 := O6.c1
    obtain ⟨⟨t1, t2⟩, ⟨q0, q1, q2⟩, h8, b8⟩ := h6.cutdone hi
    have p0d : w6.drew.cell? ⟨p, 0, none⟩ = some (.slice a fs.length c) := p0
    have f0d : w6.drew.frozen? ⟨p, 0, none⟩ = false := f0
    have o1d : w6.drew.cell? ⟨b1, 1, none⟩ = some (.int .i64 (i : Int)) := o1
    have q0d : (w6.setCell ⟨p, 0, none⟩ (.slice a i c)).drew.cell? ⟨p, 0, none⟩ = some (.slice a i c) := q0
    have q1d : (w6.setCell ⟨p, 0, none⟩ (.slice a i c)).drew.frozen? ⟨p, 1, none⟩ = false := q1
    have q2d : (w6.setCell ⟨p, 0, none⟩ (.slice a i c)).drew.cell? ⟨p, 1, none⟩ = some (.int .i64 (sure : Int)) := q2
    have h9 := h8.below ((Below.refl _ _).drew)
    have B9 : Below B w ((w6.setCell ⟨p, 0, none⟩ (.slice a i c)).setCell ⟨p, 1, none⟩ (.int .i64 (i : Int))).drew := (B6.trans b8).trans ((Below.refl _ _).drew)
    have hsl := sliceS_to (n := fs.length) i t1 t2
    clear h6 h8 b8 t2 A6 P6 CA
    go_wp2
    go_region
    go_wp2
    go_ret2
    exact ⟨_, _, _, _, _, _, _, rfl, h9.mono (by omega), by omega, B9⟩
  · have CU : Hid (Calls Tryz.prog 44 #[.pointer (some ⟨db, 0, none⟩)] w6 fun e w' => e = .returned (.bool false) ∧ w' = w6) := d6.upF u6
    have p0 := f6.pp.c0
    have f0 := f6.pp.f 0
    have P7 := f6.set0 A6
    have k7 := f6.pp.kp 0 (.slice a4 fs.length c4)
    have D7 := d6.keptBy isP_not k7
    have O7b := O6.keptP k7
    have O7 := O7b.below ((Below.refl _ _).drew)
    have B7 : Below B w (w6.setCell ⟨p, 0, none⟩ (.slice a4 fs.length c4)).drew := (B6.trans k7.bel).trans ((Below.refl _ _).drew)
    have P8 := P7.below ((Below.refl _ _).drew)
    have D8 := D7.below ((Below.refl _ _).drew)
    have keep2 := And.intro P8.pp.c1 O7.c1
    have o28 := O7.c28
    have o1 := O7.c1
    have f1 := P8.pp.f 1
    have c1 := P8.pp.c1
    clear A6 P6 d6 f6 O6
    go_wp2_with (go_at_call 44; refine CU.out.mono ?_; rintro e wq ⟨rfl, hwq⟩; have hq2 := hwq.symm; subst hq2; clear hwq)
    clear CU
    by_cases hsi : sure ≤ i
    · have m1 : ¬ (i : Int) < (sure : Int) := by omega
      have H8 : Pd B (w6.setCell ⟨p, 0, none⟩ (.slice a4 fs.length c4)).drew (k + 31) S6 db p a4 c4 (run + 1) (run + 1) fs sure := ⟨D8, by rw [Nat.min_eq_left hsi] at t6; exact t6, hfit, hsu, n6, P8⟩
      clear D8 P8 O7
      go_region_held3 (fun W => W.cell? ⟨p, 1, none⟩ = some (.int .i64 (sure : Int)) ∧ W.cell? ⟨b1, 1, none⟩ = some (.int .i64 (i : Int))) (first | exact keep2 | go_keep) (fail)
      go_wp2_with (go_at_call 13; refine (CA.out _ _ _ _ _ H8).mono ?_; rintro e w9 ⟨l9, S9, j9, rfl, h9, b9⟩)
      go_ret2
      exact ⟨_, _, _, _, _, _, _, rfl, h9, Nat.le_refl _, B7.trans b9⟩
    · have m1 : (i : Int) < (sure : Int) := by omega
      have k8 := P7.pp.kp 1 (.int .i64 (i : Int))
      have H7 : Pd B ((w6.setCell ⟨p, 0, none⟩ (.slice a4 fs.length c4)).setCell ⟨p, 1, none⟩ (.int .i64 (i : Int))) (k + 31) S6 db p a4 c4 (run + 1) (run + 1) fs i := ⟨D7.keptBy isP_not k8, by rw [Nat.min_eq_right (by omega)] at t6; exact t6, hfit, hi, n6, P7.set1 i⟩
      have H8 := H7.below ((Below.refl _ _).drew)
      have o28s := (O7b.keptP k8).c28
      have o28d : ((w6.setCell ⟨p, 0, none⟩ (.slice a4 fs.length c4)).setCell ⟨p, 1, none⟩ (.int .i64 (i : Int))).drew.cell? ⟨b1, 28, none⟩ = some (.int .u64 kp) := o28s
      have B8 : Below B w ((w6.setCell ⟨p, 0, none⟩ (.slice a4 fs.length c4)).setCell ⟨p, 1, none⟩ (.int .i64 (i : Int))).drew := ((B6.trans k7.bel).trans k8.bel).trans ((Below.refl _ _).drew)
      clear D8 P8 O7 k8 H7 P7 D7 O7b
      go_region_held3 (fun W => W.cell? ⟨p, 1, none⟩ = some (.int .i64 (sure : Int)) ∧ W.cell? ⟨b1, 1, none⟩ = some (.int .i64 (i : Int))) (first | exact keep2 | go_keep) (fail)
      go_wp2_with (go_at_call 13; refine (CA.out _ _ _ _ _ H8).mono ?_; rintro e w9 ⟨l9, S9, j9, rfl, h9, b9⟩)
      go_ret2
      exact ⟨_, _, _, _, _, _, _, rfl, h9, Nat.le_refl _, B8.trans b9⟩
end
end Go.Proofs.YtgcfbjecmmnlhaaGreat

namespace Go.Proofs.YtgcfbjecmmnlhaaGreat
open Go.RowKit Go.Maps Go.ChangeMaps
/-- add, ahead of what it appends. -/
structure Pa (B : Nat) (w0 w : World) (l k : Nat) (S : Dk) (db p : Nat) (a : Option Addr) (c : Nat) (run : Nat) (fs : List ByteArray) (sure : Nat) (b : Nat) (cs : Array Value) : Prop where
  py : Py B w l k S db p a c run fs sure
  ob : Ob w b cs
  bel : Below w0.heap.size w0 w
  le : B ≤ w0.heap.size
/-- add, behind it: the plain record may be another. -/
structure Pq (B : Nat) (w0 w : World) (l k : Nat) (S : Dk) (db p : Nat) (a : Option Addr) (c : Nat) (run : Nat) (fs : List ByteArray) (sure : Nat) (gs : List ByteArray) (b : Nat) (cs : Array Value) : Prop where
  px : Px B w l k S db p a c run fs sure gs sure run
  ob : Ob w b cs
  bel : Below B w0 w
  le : B ≤ w.heap.size
structure NewF (w w' : World) (g : Nat) (F : ByteArray) : Prop where
  c : w'.cell? ⟨g, 0, none⟩ = some (.string F)
  below : Below w.heap.size w w'
open Go.RowKit Go.Maps Go.ChangeMaps
set_option linter.unusedVariables false
set_option linter.unusedSimpArgs false
set_option maxRecDepth 100000

section
variable {B l k db run r r' sure lo p n b : Nat} {w w' w0 wx : World} {S S' : Dk} {fs gs ss : List ByteArray} {v av u : Value} {a a1 a2 : Option Addr} {c c1 c2 : Nat} {kd m kp : Int} {s s' : Sc} {I T I' T' : Value} {cs : Array Value} {R Q : Rm} {F : ByteArray}
theorem Pa.below (h : Pa B w0 w l k S db p a c run fs sure b cs) (hb : Below w.heap.size w w') : Pa B w0 w' l k S db p a c run fs sure b cs := ⟨h.py.below hb, h.ob.below hb, thn h.bel hb, h.le⟩
theorem Pq.below (h : Pq B w0 w l k S db p a c run fs sure gs b cs) (hb : Below w.heap.size w w') : Pq B w0 w' l k S db p a c run fs sure gs b cs := ⟨h.px.below hb, h.ob.below hb, h.bel.trans (hb.mono h.le), Nat.le_trans h.le hb.size⟩
theorem Pa.pq (h : Pa B w0 w l k S db p a c run fs sure b cs) : Pq B w0 w l k S db p a c run fs sure fs b cs := ⟨h.py.px, h.ob, h.bel.mono h.le, h.py.le⟩
theorem Pq.py (h : Pq B w0 w l k S db p a c run fs sure gs b cs) (e : gs = fs) : Py B w l k S db p a c run fs sure := by subst e; exact h.px.py
theorem Pq.cc (h : Pq B w0 w l k S db p a c run fs sure gs b cs) : w.cell? ⟨p, 0, none⟩ = some (.slice a gs.length c) ∧ w.cell? ⟨p, 3, none⟩ = some (.int .i64 1740) := ⟨h.px.pf.pp.c0, h.px.pf.pp.c3⟩
theorem Pq.z (h : Pq B w0 w l k S db p a c run fs sure gs b cs) (hz : (cat gs).size ≤ 1740) (hl : gs.length ≤ 300) : Calls Tryz.prog 33 #[.pointer (some ⟨p, 0, none⟩), .int .i64 (gs.length : Int)] w fun e w' => e = .returned (.int .i64 ((cat gs).size : Int)) ∧ w' = w := by
  have := psz_any h.px.pf hz hl gs.length (Nat.le_refl _)
  rw [off_all] at this
  exact this
theorem Pq.app {w9 : World} {hs : List ByteArray} {a9 : Option Addr} {c9 : Nat} (h : Pq B w0 w l k S db p a c run fs sure gs b cs) (hO : OwnS B w9 (.slice a9 hs.length c9) hs) (hk : Kp isS B w w9) : Pq B w0 (w9.setCell ⟨p, 0, none⟩ (.slice a9 hs.length c9)) l k S db p a9 c9 run fs sure hs b cs ∧ w9.cell? ⟨p, 0, none⟩ = some (.slice a gs.length c) ∧ w9.frozen? ⟨p, 0, none⟩ = false := by
  have hp := h.px.pf.pp.keptS hk
  have k2 := hp.kp 0 (.slice a9 hs.length c9)
  exact ⟨⟨⟨(h.px.lv.keptS hk).keptP k2, h.px.n, ⟨hp.set0 _, hO.keptP k2⟩⟩, (h.ob.keptS hk).keptP k2, (h.bel.trans hk.bel).trans k2.bel, Nat.le_trans (Nat.le_trans h.le hk.size) k2.size⟩, hp.c0, hp.f 0⟩
theorem Pa.append_ok (h : Pa B w0 w l k S db p a c run fs sure b cs) {v : Value} {m : Rm} (hv : RecV w0 v m) (hm : Small m) (he : (frameM m).2 = 0) (hn : (cat fs).size + (frameM m).1.size ≤ 1740) : Calls Tryz.prog 20 #[.pointer (some ⟨l, 0, none⟩), v] w fun e w' => e = .returned (.tuple #[.int .i64 (1 + ((cat fs).size : Int)), .int .i64 0]) ∧ Pq B w0 w' l k S db p a c run (fs ++ [(frameM m).1]) sure fs b cs := by
  refine (h.py.lv.append (hv.below h.bel) hm he hn).mono ?_
  rintro e w' ⟨he', h1, k1⟩
  rw [Int.add_comm] at he'
  exact ⟨he', ⟨h1, h.py.n, h.py.pf.kept k1.l⟩, h.ob.kept k1.l, (h.bel.mono h.le).trans k1.bel, Nat.le_trans h.py.le k1.size⟩
theorem Pa.append_err (h : Pa B w0 w l k S db p a c run fs sure b cs) {v : Value} {m : Rm} (hv : RecV w0 v m) (hm : Small m) (he : (frameM m).2 ≠ 0) : Calls Tryz.prog 20 #[.pointer (some ⟨l, 0, none⟩), v] w fun e w' => e = .returned (.tuple #[.int .i64 0, .int .i64 (frameM m).2]) ∧ Pq B w0 w' l k S db p a c run fs sure fs b cs := by
  refine (Go.Proofs.YtgcfbjecmmnlhaaGreat.append_err h.py.lv.lx h.py.lv.fit (hv.below h.bel) hm he).mono ?_
  rintro e w' ⟨he', b1⟩
  exact ⟨he', (h.below b1).pq⟩
theorem Pa.append_full (h : Pa B w0 w l k S db p a c run fs sure b cs) {v : Value} {m : Rm} (hv : RecV w0 v m) (hm : Small m) (he : (frameM m).2 = 0) (hn : ¬ (cat fs).size + (frameM m).1.size ≤ 1740) : Calls Tryz.prog 20 #[.pointer (some ⟨l, 0, none⟩), v] w fun e w' => e = .returned (.tuple #[.int .i64 0, .int .i64 7]) ∧ Pq B w0 w' l k S db p a c run fs sure fs b cs := by
  refine (Go.Proofs.YtgcfbjecmmnlhaaGreat.append_full h.py.lv.lx h.py.lv.fit (hv.below h.bel) hm he hn).mono ?_
  rintro e w' ⟨he', b1⟩
  exact ⟨he', (h.below b1).pq⟩
theorem Pa.put_ok (h : Pa B w0 w l k S db p a c run fs sure b cs) {A : ByteArray} (hg : ∀ g ∈ gs, Frm g) (hA : cat gs = A) (hz : A.size ≤ 400000) (hn : (cat fs).size + A.size ≤ 1740) : Calls Tryz.prog 42 #[.pointer (some ⟨l, 0, none⟩), .string A] w fun e w' => e = .returned (.tuple #[.int .i64 (1 + ((cat fs).size : Int)), .int .i64 0]) ∧ Pq B w0 w' l k S db p a c run (fs ++ gs) sure fs b cs := by
  subst hA
  refine (Go.Proofs.YtgcfbjecmmnlhaaGreat.put_ok h.py.lv.lx h.py.lv.fit hg hz hn).mono ?_
  rintro e w' ⟨he', h1, k1⟩
  rw [Int.add_comm] at he'
  exact ⟨he', ⟨h.py.lv.grown hg hn h1, h.py.n, h.py.pf.kept k1.l⟩, h.ob.kept k1.l, (h.bel.mono h.le).trans k1.bel, Nat.le_trans h.py.le k1.size⟩
theorem Pa.put_full (h : Pa B w0 w l k S db p a c run fs sure b cs) {A : ByteArray} (hg : ∀ g ∈ gs, Frm g) (hA : cat gs = A) (hz : A.size ≤ 400000) (hn : ¬ (cat fs).size + A.size ≤ 1740) : Calls Tryz.prog 42 #[.pointer (some ⟨l, 0, none⟩), .string A] w fun e w' => e = .returned (.tuple #[.int .i64 0, .int .i64 7]) ∧ Pq B w0 w' l k S db p a c run fs sure fs b cs := by
  subst hA
  refine (Go.Proofs.YtgcfbjecmmnlhaaGreat.put_full h.py.lv.lx h.py.lv.fit hg hz hn).mono ?_
  rintro e w' ⟨he', b1⟩
  exact ⟨he', (h.below b1).pq⟩
theorem run_build_str1 (F : ByteArray) (w : World) : (Instr.buildSlice 31 1 #[(0, .string F)]).run Tryz.prog w = .ok (.slice (some ⟨w.heap.size, 0, none⟩) 1 1) (w.alloc (.cells #[.string F] 9)) := by kernel_rfl
theorem wpList_build_str1 {ops : Array Oper} {rest : List Oper} {o : Oper} {act : Act} {K : Exit → Act → World → Prop} (w : World) (hg : o.guard = none) (x : Operand) (hop : o.op = Op.buildSlice 31 1 #[(0, x)]) (hx : act.eval x = .string F)
    (h : ∀ w' g, NewF w w' g F → wpList Tryz.prog ops K rest (act.put o.dst (.slice (some ⟨g, 0, none⟩) 1 1)) w') : wpList Tryz.prog ops K (o :: rest) act w := by
  refine wpList_plain hg fun K' hK' => ?_
  unfold Oper.wp
  have := run_build_str1 F w
  simp [execOp, hop, hx, this, Result.andThen]
  exact hK' _ _ (h _ _ ⟨cell_new1 w _ 9, (Below.refl _ _).alloc (Nat.le_refl _) _⟩)
end
end Go.Proofs.YtgcfbjecmmnlhaaGreat

namespace Go.Proofs.YtgcfbjecmmnlhaaGreat
open Go.RowKit Go.Maps Go.ChangeMaps
set_option linter.unusedVariables false
set_option linter.unusedSimpArgs false
set_option maxRecDepth 100000

section
variable {B l k db run r r' sure lo p n b : Nat} {w w' w0 wx : World} {S S' : Dk} {fs gs ss : List ByteArray} {v av u : Value} {a a1 a2 : Option Addr} {c c1 c2 : Nat} {kd m kp : Int} {s s' : Sc} {I T I' T' : Value} {cs : Array Value} {R Q : Rm} {F : ByteArray}
set_option maxHeartbeats 8000000 in
theorem add0_err (h : Py B w l k S db p a c run fs sure) (hR : RecV w (.agg (R.s.A I T)) R) (hhR : Held R) (hQ : RecV w (.agg (Q.s.A I' T')) Q) (hhQ : Held Q) (he1 : (frameM (few8M R)).2 ≠ 0) : Calls Tryz.prog 11 #[.pointer (some ⟨l, 0, none⟩), .pointer (some ⟨p, 0, none⟩), .agg (opA 0 m R.s I T Q.s I' T' kp)] w fun e w' => e = .returned (.bool true) ∧ ∃ a' c' fs', Py B w' l k S db p a' c' run fs' sure ∧ Below B w w' := by
  have hsz := h.size
  have hle := h.le
  have hfl3 := h.len
  have CW1 : Hid (∀ wx, Calls Tryz.prog 19 #[.agg (R.s.A I T)] wx fun e w' => (∃ v', e = .returned v' ∧ RecV w v' (few8M R)) ∧ Below wx.heap.size wx w') := fun wx => few8_any hR hhR.im hhR.tb
  have CW2 : Hid (∀ wx, Calls Tryz.prog 19 #[.agg (Q.s.A I' T')] wx fun e w' => (∃ v', e = .returned v' ∧ RecV w v' (few8M Q)) ∧ Below wx.heap.size wx w') := fun wx => few8_any hQ hhQ.im hhQ.tb
  have CF1 : Hid (∀ wx v', Below w.heap.size w wx → RecV w v' (few8M R) → Calls Tryz.prog 18 #[v'] wx fun r w' => r = .returned (.tuple #[.string (frameM (few8M R)).1, .int .i64 (frameM (few8M R)).2]) ∧ Below wx.heap.size wx w') := fun wx v' q1 q2 => Frame_any (q2.below q1) hhR.few8
  have CF2 : Hid (∀ wx v', Below w.heap.size w wx → RecV w v' (few8M Q) → Calls Tryz.prog 18 #[v'] wx fun r w' => r = .returned (.tuple #[.string (frameM (few8M Q)).1, .int .i64 (frameM (few8M Q)).2]) ∧ Below wx.heap.size wx w') := fun wx v' q1 q2 => Frame_any (q2.below q1) hhQ.few8
  have CAp : Hid (∀ wx v' b cs, Pa B w wx l k S db p a c run fs sure b cs → RecV w v' (few8M R) → Calls Tryz.prog 20 #[.pointer (some ⟨l, 0, none⟩), v'] wx fun e w' => e = .returned (.tuple #[.int .i64 0, .int .i64 (frameM (few8M R)).2]) ∧ Pq B w w' l k S db p a c run (fs) sure fs b cs) := fun wx v' b cs q1 q2 => q1.append_err q2 hhR.few8 he1
  have CZ : Hid (∀ wx fs' b cs, Pq B w wx l k S db p a c run fs' sure fs b cs → Calls Tryz.prog 33 #[.pointer (some ⟨p, 0, none⟩), .int .i64 (fs.length : Int)] wx fun e w' => e = .returned (.int .i64 ((cat fs).size : Int)) ∧ w' = wx) := fun wx fs' b cs q => q.z hsz hfl3
  have H0 : Hid (∀ wx b cs, NewO w wx b cs → Pa B w wx l k S db p a c run fs sure b cs) := fun wx b cs q => ⟨h.below q.below, q.ob, q.below, hle⟩
  have hfl : fs.length ≤ 100000 := by omega
  have hfl2 : fs.length ≤ 300 := hfl3
  have d0 : (0 : Int) ≤ ((cat fs).size : Int) := by omega
  have d1 : ((cat fs).size : Int) ≤ 1740 := by omega
  have tz : (0 : Int) ≤ ((frameM (few8M R)).1.size : Int) := by omega
  clear hsz h hR hhR hQ hhQ hle
  generalize few8M R = m1 at *
  generalize few8M Q = m2 at *
  generalize R.s = s1 at *
  generalize Q.s = s2 at *
  generalize (frameM m1).1 = F1 at *
  generalize (frameM m2).1 = F2 at *
  generalize (frameM m1).2 = E1 at *
  generalize (frameM m2).2 = E2 at *
  have g1a : (E1 == 0) = false := by simpa using he1
  have g1b : (E1 != 0) = true := by simpa using he1
  clear he1
  generalize ((cat fs).size : Int) = D at *
  have x1 : IntKind.i64.wrap (1740 - D) = 1740 - D := by rw [IntKind.wrap_i64]; omega
  have y1 : RowKit.wrap64 (1740 - D) = 1740 - D := (IntWalk.i64_left _).symm.trans x1
  have x2 : IntKind.i64.wrap (1 + D) = 1 + D := by rw [IntKind.wrap_i64]; omega
  have y2 : RowKit.wrap64 (1 + D) = 1 + D := (IntWalk.i64_left _).symm.trans x2
  go_enter Tryz.func11, Tryz.ntmps11
  go_wp2_with (first
    | (refine wpList_box_op (cs := opA 0 m s1 I T s2 I' T' kp) _ rfl _ rfl rfl ?_; intro w1 b1 N1; have hp := H0.out _ _ _ N1; clear N1 H0; have o0 := hp.ob.c0; have r1 := hp.ob.r1; have r2 := hp.ob.r2)
    | (refine wpList_load_rcs (s := s1) (I := I) (T := T) _ rfl (.tmp 15) rfl rfl r1 ?_)
    | (refine wpList_load_rcs (s := s2) (I := I') (T := T') _ rfl (.tmp 22) rfl rfl r2 ?_)
    | (refine wpList_load_rcs (s := s1) (I := I) (T := T) _ rfl (.tmp 40) rfl rfl r1 ?_)
    | (go_at_call_of 19 s1; refine (CW1.out _).mono ?_; rintro e w2 ⟨⟨v1, rfl, hv1⟩, b2⟩; have hn := hp.below b2; clear hp b2; have hp := hn; clear hn; have o0 := hp.ob.c0; have r1 := hp.ob.r1; have r2 := hp.ob.r2)
    | (go_at_call_of 19 s2; refine (CW2.out _).mono ?_; rintro e w2 ⟨⟨v2, rfl, hv2⟩, b2⟩; have hn := hp.below b2; clear hp b2; have hp := hn; clear hn; have o0 := hp.ob.c0; have r1 := hp.ob.r1; have r2 := hp.ob.r2)
    | (go_at_call_of 18 v1; refine (CF1.out _ _ hp.bel hv1).mono ?_; rintro e w2 ⟨rfl, b2⟩; have hn := hp.below b2; clear hp b2; have hp := hn; clear hn; have o0 := hp.ob.c0; have r1 := hp.ob.r1; have r2 := hp.ob.r2)
    | (go_at_call_of 18 v2; refine (CF2.out _ _ hp.bel hv2).mono ?_; rintro e w2 ⟨rfl, b2⟩; have hn := hp.below b2; clear hp b2; have hp := hn; clear hn; have o0 := hp.ob.c0; have r1 := hp.ob.r1; have r2 := hp.ob.r2)
    | (go_at_call 20; refine (CAp.out _ _ _ _ hp hv1).mono ?_; clear hp; rintro e w3 ⟨rfl, hq⟩; have o0 := hq.ob.c0))
  go_ret
  exact ⟨rfl, _, _, _, hq.py rfl, hq.bel⟩
set_option maxHeartbeats 8000000 in
theorem add0_full (h : Py B w l k S db p a c run fs sure) (hR : RecV w (.agg (R.s.A I T)) R) (hhR : Held R) (hQ : RecV w (.agg (Q.s.A I' T')) Q) (hhQ : Held Q) (he1 : (frameM (few8M R)).2 = 0) (hn : ¬ (cat fs).size + (frameM (few8M R)).1.size ≤ 1740) : Calls Tryz.prog 11 #[.pointer (some ⟨l, 0, none⟩), .pointer (some ⟨p, 0, none⟩), .agg (opA 0 m R.s I T Q.s I' T' kp)] w fun e w' => e = .returned (.bool true) ∧ ∃ a' c' fs', Py B w' l k S db p a' c' run fs' sure ∧ Below B w w' := by
  have hsz := h.size
  have hle := h.le
  have hfl3 := h.len
  have CW1 : Hid (∀ wx, Calls Tryz.prog 19 #[.agg (R.s.A I T)] wx fun e w' => (∃ v', e = .returned v' ∧ RecV w v' (few8M R)) ∧ Below wx.heap.size wx w') := fun wx => few8_any hR hhR.im hhR.tb
  have CW2 : Hid (∀ wx, Calls Tryz.prog 19 #[.agg (Q.s.A I' T')] wx fun e w' => (∃ v', e = .returned v' ∧ RecV w v' (few8M Q)) ∧ Below wx.heap.size wx w') := fun wx => few8_any hQ hhQ.im hhQ.tb
  have CF1 : Hid (∀ wx v', Below w.heap.size w wx → RecV w v' (few8M R) → Calls Tryz.prog 18 #[v'] wx fun r w' => r = .returned (.tuple #[.string (frameM (few8M R)).1, .int .i64 (frameM (few8M R)).2]) ∧ Below wx.heap.size wx w') := fun wx v' q1 q2 => Frame_any (q2.below q1) hhR.few8
  have CF2 : Hid (∀ wx v', Below w.heap.size w wx → RecV w v' (few8M Q) → Calls Tryz.prog 18 #[v'] wx fun r w' => r = .returned (.tuple #[.string (frameM (few8M Q)).1, .int .i64 (frameM (few8M Q)).2]) ∧ Below wx.heap.size wx w') := fun wx v' q1 q2 => Frame_any (q2.below q1) hhQ.few8
  have CAp : Hid (∀ wx v' b cs, Pa B w wx l k S db p a c run fs sure b cs → RecV w v' (few8M R) → Calls Tryz.prog 20 #[.pointer (some ⟨l, 0, none⟩), v'] wx fun e w' => e = .returned (.tuple #[.int .i64 0, .int .i64 7]) ∧ Pq B w w' l k S db p a c run (fs) sure fs b cs) := fun wx v' b cs q1 q2 => q1.append_full q2 hhR.few8 he1 hn
  have CZ : Hid (∀ wx fs' b cs, Pq B w wx l k S db p a c run fs' sure fs b cs → Calls Tryz.prog 33 #[.pointer (some ⟨p, 0, none⟩), .int .i64 (fs.length : Int)] wx fun e w' => e = .returned (.int .i64 ((cat fs).size : Int)) ∧ w' = wx) := fun wx fs' b cs q => q.z hsz hfl3
  have H0 : Hid (∀ wx b cs, NewO w wx b cs → Pa B w wx l k S db p a c run fs sure b cs) := fun wx b cs q => ⟨h.below q.below, q.ob, q.below, hle⟩
  have hfl : fs.length ≤ 100000 := by omega
  have hfl2 : fs.length ≤ 300 := hfl3
  have d0 : (0 : Int) ≤ ((cat fs).size : Int) := by omega
  have d1 : ((cat fs).size : Int) ≤ 1740 := by omega
  have t1 : 1740 - ((cat fs).size : Int) < ((frameM (few8M R)).1.size : Int) := by omega
  have tz : (0 : Int) ≤ ((frameM (few8M R)).1.size : Int) := by omega
  clear hsz h hR hhR hQ hhQ hn hle
  generalize few8M R = m1 at *
  generalize few8M Q = m2 at *
  generalize R.s = s1 at *
  generalize Q.s = s2 at *
  generalize (frameM m1).1 = F1 at *
  generalize (frameM m2).1 = F2 at *
  generalize (frameM m1).2 = E1 at *
  generalize (frameM m2).2 = E2 at *
  subst he1
  generalize ((cat fs).size : Int) = D at *
  have x1 : IntKind.i64.wrap (1740 - D) = 1740 - D := by rw [IntKind.wrap_i64]; omega
  have y1 : RowKit.wrap64 (1740 - D) = 1740 - D := (IntWalk.i64_left _).symm.trans x1
  have x2 : IntKind.i64.wrap (1 + D) = 1 + D := by rw [IntKind.wrap_i64]; omega
  have y2 : RowKit.wrap64 (1 + D) = 1 + D := (IntWalk.i64_left _).symm.trans x2
  go_enter Tryz.func11, Tryz.ntmps11
  go_wp2_with (first
    | (refine wpList_box_op (cs := opA 0 m s1 I T s2 I' T' kp) _ rfl _ rfl rfl ?_; intro w1 b1 N1; have hp := H0.out _ _ _ N1; clear N1 H0; have o0 := hp.ob.c0; have r1 := hp.ob.r1; have r2 := hp.ob.r2)
    | (refine wpList_load_rcs (s := s1) (I := I) (T := T) _ rfl (.tmp 15) rfl rfl r1 ?_)
    | (refine wpList_load_rcs (s := s2) (I := I') (T := T') _ rfl (.tmp 22) rfl rfl r2 ?_)
    | (refine wpList_load_rcs (s := s1) (I := I) (T := T) _ rfl (.tmp 40) rfl rfl r1 ?_)
    | (go_at_call_of 19 s1; refine (CW1.out _).mono ?_; rintro e w2 ⟨⟨v1, rfl, hv1⟩, b2⟩; have hn := hp.below b2; clear hp b2; have hp := hn; clear hn; have o0 := hp.ob.c0; have r1 := hp.ob.r1; have r2 := hp.ob.r2)
    | (go_at_call_of 19 s2; refine (CW2.out _).mono ?_; rintro e w2 ⟨⟨v2, rfl, hv2⟩, b2⟩; have hn := hp.below b2; clear hp b2; have hp := hn; clear hn; have o0 := hp.ob.c0; have r1 := hp.ob.r1; have r2 := hp.ob.r2)
    | (go_at_call_of 18 v1; refine (CF1.out _ _ hp.bel hv1).mono ?_; rintro e w2 ⟨rfl, b2⟩; have hn := hp.below b2; clear hp b2; have hp := hn; clear hn; have o0 := hp.ob.c0; have r1 := hp.ob.r1; have r2 := hp.ob.r2)
    | (go_at_call_of 18 v2; refine (CF2.out _ _ hp.bel hv2).mono ?_; rintro e w2 ⟨rfl, b2⟩; have hn := hp.below b2; clear hp b2; have hp := hn; clear hn; have o0 := hp.ob.c0; have r1 := hp.ob.r1; have r2 := hp.ob.r2)
    | (go_at_call 20; refine (CAp.out _ _ _ _ hp hv1).mono ?_; clear hp; rintro e w3 ⟨rfl, hq⟩; have o0 := hq.ob.c0))
  have hq2 := hq.below ((Below.refl _ _).drew)
  clear hq r1 r2 o0
  have hq := hq2
  clear hq2
  have keep0 := hq.cc
  have o0 := hq.ob.c0
  go_region_held3 (fun W => W.cell? ⟨p, 0, none⟩ = some (.slice a fs.length c) ∧ W.cell? ⟨p, 3, none⟩ = some (.int .i64 1740)) (first | exact keep0 | go_keep) ((go_at_call 33; refine (CZ.out _ _ _ _ hq).mono ?_; rintro e wq ⟨rfl, rfl⟩))
  have p0 := keep0.1
  go_wp2_with (first
    | (go_at_call 33; refine (CZ.out _ _ _ _ hq).mono ?_; rintro e wq ⟨rfl, rfl⟩))
  go_ret
  exact ⟨rfl, _, _, _, hq.py rfl, hq.bel⟩
set_option maxHeartbeats 8000000 in
theorem add0_ok (h : Py B w l k S db p a c run fs sure) (hR : RecV w (.agg (R.s.A I T)) R) (hhR : Held R) (hQ : RecV w (.agg (Q.s.A I' T')) Q) (hhQ : Held Q) (he1 : (frameM (few8M R)).2 = 0) (hn : (cat fs).size + (frameM (few8M R)).1.size ≤ 1740) : Calls Tryz.prog 11 #[.pointer (some ⟨l, 0, none⟩), .pointer (some ⟨p, 0, none⟩), .agg (opA 0 m R.s I T Q.s I' T' kp)] w fun e w' => e = .returned (.bool true) ∧ ∃ a' c' fs', Py B w' l k S db p a' c' run fs' sure ∧ Below B w w' := by
  have hsz := h.size
  have hle := h.le
  have hfl3 := h.len
  have CW1 : Hid (∀ wx, Calls Tryz.prog 19 #[.agg (R.s.A I T)] wx fun e w' => (∃ v', e = .returned v' ∧ RecV w v' (few8M R)) ∧ Below wx.heap.size wx w') := fun wx => few8_any hR hhR.im hhR.tb
  have CW2 : Hid (∀ wx, Calls Tryz.prog 19 #[.agg (Q.s.A I' T')] wx fun e w' => (∃ v', e = .returned v' ∧ RecV w v' (few8M Q)) ∧ Below wx.heap.size wx w') := fun wx => few8_any hQ hhQ.im hhQ.tb
  have CF1 : Hid (∀ wx v', Below w.heap.size w wx → RecV w v' (few8M R) → Calls Tryz.prog 18 #[v'] wx fun r w' => r = .returned (.tuple #[.string (frameM (few8M R)).1, .int .i64 (frameM (few8M R)).2]) ∧ Below wx.heap.size wx w') := fun wx v' q1 q2 => Frame_any (q2.below q1) hhR.few8
  have CF2 : Hid (∀ wx v', Below w.heap.size w wx → RecV w v' (few8M Q) → Calls Tryz.prog 18 #[v'] wx fun r w' => r = .returned (.tuple #[.string (frameM (few8M Q)).1, .int .i64 (frameM (few8M Q)).2]) ∧ Below wx.heap.size wx w') := fun wx v' q1 q2 => Frame_any (q2.below q1) hhQ.few8
  have CAp : Hid (∀ wx v' b cs, Pa B w wx l k S db p a c run fs sure b cs → RecV w v' (few8M R) → Calls Tryz.prog 20 #[.pointer (some ⟨l, 0, none⟩), v'] wx fun e w' => e = .returned (.tuple #[.int .i64 (1 + ((cat fs).size : Int)), .int .i64 0]) ∧ Pq B w w' l k S db p a c run (fs ++ [(frameM (few8M R)).1]) sure fs b cs) := fun wx v' b cs q1 q2 => q1.append_ok q2 hhR.few8 he1 hn
  have CZ : Hid (∀ wx fs' b cs, Pq B w wx l k S db p a c run fs' sure fs b cs → Calls Tryz.prog 33 #[.pointer (some ⟨p, 0, none⟩), .int .i64 (fs.length : Int)] wx fun e w' => e = .returned (.int .i64 ((cat fs).size : Int)) ∧ w' = wx) := fun wx fs' b cs q => q.z hsz hfl3
  have H0 : Hid (∀ wx b cs, NewO w wx b cs → Pa B w wx l k S db p a c run fs sure b cs) := fun wx b cs q => ⟨h.below q.below, q.ob, q.below, hle⟩
  have hfl : fs.length ≤ 100000 := by omega
  have hfl2 : fs.length ≤ 300 := hfl3
  have d0 : (0 : Int) ≤ ((cat fs).size : Int) := by omega
  have d1 : ((cat fs).size : Int) ≤ 1740 := by omega
  have t1 : ¬ 1740 - ((cat fs).size : Int) < ((frameM (few8M R)).1.size : Int) := by omega
  have tz : (0 : Int) ≤ ((frameM (few8M R)).1.size : Int) := by omega
  clear hsz h hR hhR hQ hhQ hn hle
  generalize few8M R = m1 at *
  generalize few8M Q = m2 at *
  generalize R.s = s1 at *
  generalize Q.s = s2 at *
  generalize (frameM m1).1 = F1 at *
  generalize (frameM m2).1 = F2 at *
  generalize (frameM m1).2 = E1 at *
  generalize (frameM m2).2 = E2 at *
  subst he1
  generalize ((cat fs).size : Int) = D at *
  have x1 : IntKind.i64.wrap (1740 - D) = 1740 - D := by rw [IntKind.wrap_i64]; omega
  have y1 : RowKit.wrap64 (1740 - D) = 1740 - D := (IntWalk.i64_left _).symm.trans x1
  have x2 : IntKind.i64.wrap (1 + D) = 1 + D := by rw [IntKind.wrap_i64]; omega
  have y2 : RowKit.wrap64 (1 + D) = 1 + D := (IntWalk.i64_left _).symm.trans x2
  go_enter Tryz.func11, Tryz.ntmps11
  go_wp2_with (first
    | (refine wpList_box_op (cs := opA 0 m s1 I T s2 I' T' kp) _ rfl _ rfl rfl ?_; intro w1 b1 N1; have hp := H0.out _ _ _ N1; clear N1 H0; have o0 := hp.ob.c0; have r1 := hp.ob.r1; have r2 := hp.ob.r2)
    | (refine wpList_load_rcs (s := s1) (I := I) (T := T) _ rfl (.tmp 15) rfl rfl r1 ?_)
    | (refine wpList_load_rcs (s := s2) (I := I') (T := T') _ rfl (.tmp 22) rfl rfl r2 ?_)
    | (refine wpList_load_rcs (s := s1) (I := I) (T := T) _ rfl (.tmp 40) rfl rfl r1 ?_)
    | (go_at_call_of 19 s1; refine (CW1.out _).mono ?_; rintro e w2 ⟨⟨v1, rfl, hv1⟩, b2⟩; have hn := hp.below b2; clear hp b2; have hp := hn; clear hn; have o0 := hp.ob.c0; have r1 := hp.ob.r1; have r2 := hp.ob.r2)
    | (go_at_call_of 19 s2; refine (CW2.out _).mono ?_; rintro e w2 ⟨⟨v2, rfl, hv2⟩, b2⟩; have hn := hp.below b2; clear hp b2; have hp := hn; clear hn; have o0 := hp.ob.c0; have r1 := hp.ob.r1; have r2 := hp.ob.r2)
    | (go_at_call_of 18 v1; refine (CF1.out _ _ hp.bel hv1).mono ?_; rintro e w2 ⟨rfl, b2⟩; have hn := hp.below b2; clear hp b2; have hp := hn; clear hn; have o0 := hp.ob.c0; have r1 := hp.ob.r1; have r2 := hp.ob.r2)
    | (go_at_call_of 18 v2; refine (CF2.out _ _ hp.bel hv2).mono ?_; rintro e w2 ⟨rfl, b2⟩; have hn := hp.below b2; clear hp b2; have hp := hn; clear hn; have o0 := hp.ob.c0; have r1 := hp.ob.r1; have r2 := hp.ob.r2)
    | (go_at_call 20; refine (CAp.out _ _ _ _ hp hv1).mono ?_; clear hp; rintro e w3 ⟨rfl, hq⟩; have o0 := hq.ob.c0))
  have hq2 := hq.below ((Below.refl _ _).drew)
  clear hq r1 r2 o0
  have hq := hq2
  clear hq2
  have keep0 := hq.cc
  have o0 := hq.ob.c0
  go_region_held3 (fun W => W.cell? ⟨p, 0, none⟩ = some (.slice a fs.length c) ∧ W.cell? ⟨p, 3, none⟩ = some (.int .i64 1740)) (first | exact keep0 | go_keep) ((go_at_call 33; refine (CZ.out _ _ _ _ hq).mono ?_; rintro e wq ⟨rfl, rfl⟩))
  have p0 := keep0.1
  go_wp2_with (first
    | (go_at_call 33; refine (CZ.out _ _ _ _ hq).mono ?_; rintro e wq ⟨rfl, rfl⟩)
    | (refine wpList_build_str1 (F := F1) _ rfl (.tmp 108) rfl rfl ?_; intro w8 g8 N8; have hn := hq.below N8.below; clear hq; have hq := hn; clear hn)
    | (at_builtin; refine wpList_append_str (B := B) rfl (.tmp 107) (.tmp 109) rfl rfl hq.px.pf.own rfl N8.c hq.le hfl ?_; clear N8; intro v9 w9 O9 k9; obtain ⟨N1, HN1⟩ : ∃ N1, Hid (N1 = fs ++ [F1]) := ⟨_, rfl⟩; rw [← HN1.out] at O9; obtain ⟨a9, c9, rfl⟩ := O9.ex; have hfl9 : N1.length ≤ 100000 := (by rw [HN1.out, List.length_append]; simp; omega); obtain ⟨hq1, c9', f9'⟩ := hq.app O9 k9; clear hq O9 k9; have hq := hq1; clear hq1; have q0 := hq.px.pf.pp.c0; have o0 := hq.ob.c0))
  go_ret
  exact ⟨rfl, _, _, _, hq.py HN1.out, hq.bel⟩
end
end Go.Proofs.YtgcfbjecmmnlhaaGreat
