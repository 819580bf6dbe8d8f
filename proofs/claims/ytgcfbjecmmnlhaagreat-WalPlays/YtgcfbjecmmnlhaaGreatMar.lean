/- WalPlays: the law's plain record of a log, in memory; a log beside it; a disk beside it. WalPlays: the calls of a log beside its plain record. WalPlays: holds. WalPlays: again. WalPlays: the calls that the law is handed. WalPlays: a call that the law holds in a box of its own. WalPlays: flush. -/
import Derived.Test.YtgcfbjecmmnlhaaGreatMak
import Derived.Test.YtgcfbjecmmnlhaaGreatMao
namespace Go.Proofs.YtgcfbjecmmnlhaaGreat
open Go.RowKit Go.Maps Go.ChangeMaps
set_option linter.unusedVariables false
set_option linter.unusedSimpArgs false
set_option maxRecDepth 100000

structure Pp (B : Nat) (w : World) (p : Nat) (av : Value) (sure run : Nat) : Prop where
  blk : w.heap[p]? = some (.cells #[av, .int .i64 (sure : Int), .int .i64 (run : Int), .int .i64 1740] 33)
  ge : B ≤ p
/-- The law's plain record: its frames. -/
structure Pf (B : Nat) (w : World) (p : Nat) (a : Option Addr) (c : Nat) (fs : List ByteArray) (sure run : Nat) : Prop where
  pp : Pp B w p (.slice a fs.length c) sure run
  own : OwnS B w (.slice a fs.length c) fs
section
variable {B l k db run r r' sure lo p n : Nat} {w w' w0 wx : World} {S S' : Dk} {fs gs ss : List ByteArray} {v av u : Value} {A : Obj → Prop} {a : Option Addr} {c : Nat}
theorem Pp.c0 (h : Pp B w p av sure run) : w.cell? ⟨p, 0, none⟩ = some av := by rw [Lib.cell_of_heap h.blk]; rfl
theorem Pp.c1 (h : Pp B w p av sure run) : w.cell? ⟨p, 1, none⟩ = some (.int .i64 (sure : Int)) := by rw [Lib.cell_of_heap h.blk]; rfl
theorem Pp.c2 (h : Pp B w p av sure run) : w.cell? ⟨p, 2, none⟩ = some (.int .i64 (run : Int)) := by rw [Lib.cell_of_heap h.blk]; rfl
theorem Pp.c3 (h : Pp B w p av sure run) : w.cell? ⟨p, 3, none⟩ = some (.int .i64 1740) := by rw [Lib.cell_of_heap h.blk]; rfl
theorem Pp.f (h : Pp B w p av sure run) (i : Nat) : w.frozen? ⟨p, i, none⟩ = false := Lib.frozen_of_heap h.blk i
theorem Pp.lt (h : Pp B w p av sure run) : p < w.heap.size := lt_of_some h.blk
theorem Pp.below (h : Pp B w p av sure run) (hb : Below w.heap.size w w') : Pp B w' p av sure run := ⟨(hb.block p h.lt).trans h.blk, h.ge⟩
theorem Pp.kept (h : Pp B w p av sure run) {B' : Nat} (hb : Kp isA B' w w') : Pp B w' p av sure run := ⟨hb.block _ _ h.blk (by simp [isA, isD, isL]), h.ge⟩
theorem Pp.keptS (h : Pp B w p av sure run) {B' : Nat} (hb : Kp isS B' w w') : Pp B w' p av sure run := ⟨hb.block _ _ h.blk (by simp [isS]), h.ge⟩
theorem Pp.kp (h : Pp B w p av sure run) (i : Nat) (u : Value) : Kp isP B w (w.setCell ⟨p, i, none⟩ u) := ⟨(Below.refl B w).setCell (p := ⟨p, i, none⟩) h.ge _, fun j o e hn => by
    by_cases hj : p = j
    · subst hj; rw [h.blk] at e; cases e; exact absurd rfl hn
    · rw [Below.heap_setCell _ _ _ _ (fun e => hj e.symm)]; exact e⟩
theorem Pp.set0 (h : Pp B w p av sure run) (u : Value) : Pp B (w.setCell ⟨p, 0, none⟩ u) p u sure run := ⟨Joins.block_setCell h.blk _, h.ge⟩
theorem Pp.set1 (h : Pp B w p av sure run) (n : Nat) : Pp B (w.setCell ⟨p, 1, none⟩ (.int .i64 (n : Int))) p av n run := ⟨Joins.block_setCell h.blk _, h.ge⟩
theorem Pp.set2 (h : Pp B w p av sure run) (n : Nat) : Pp B (w.setCell ⟨p, 2, none⟩ (.int .i64 (n : Int))) p av sure n := ⟨Joins.block_setCell h.blk _, h.ge⟩
theorem Lv.keptP (h : Lv B w l k S db 1 30 run fs sure) {B' : Nat} (hb : Kp isP B' w w') : Lv B w' l k S db 1 30 run fs sure := ⟨h.lx.keptBy isP_not hb, h.up, h.fit, h.hs, h.n, h.r2, h.q⟩
theorem Ds.keptBy (h : Ds B w db k S) {B' : Nat} (hA : ∀ o, isA o → ¬ A o) (hb : Kp A B' w w') : Ds B w' db k S := by
  obtain ⟨lb, mb, m, d1, d2, d3, d4⟩ := h.dsk
  have e1 : w'.heap[lb]? = w.heap[lb]? := by
    obtain ⟨cur, fz, e2⟩ := d1.row.ty
    rw [e2]; exact hb.block _ _ e2 (hA _ (Or.inl (Or.inr rfl)))
  have e3 : w'.heap[mb]? = w.heap[mb]? := by
    obtain ⟨es, c, e2⟩ := d1.map.is
    rw [e2]; exact hb.block _ _ e2 (hA _ (Or.inl trivial))
  exact ⟨⟨lb, mb, m, ⟨hb.block _ _ d1.blk (hA _ (Or.inl (Or.inl rfl))), d1.row.of_block e1 hb.size, d1.map.of_block e3, d1.ne⟩, d2, d3, d4⟩, h.q, h.hd, Nat.le_trans h.lt hb.size⟩
theorem Pf.below (h : Pf B w p a c fs sure run) (hb : Below w.heap.size w w') : Pf B w' p a c fs sure run := ⟨h.pp.below hb, h.own.below hb⟩
theorem Pf.kept (h : Pf B w p a c fs sure run) {B' : Nat} (hb : Kp isA B' w w') : Pf B w' p a c fs sure run := ⟨h.pp.kept hb, h.own.kept hb⟩
theorem Pf.set1 (h : Pf B w p a c fs sure run) (n : Nat) : Pf B (w.setCell ⟨p, 1, none⟩ (.int .i64 (n : Int))) p a c fs n run := ⟨h.pp.set1 n, h.own.keptP (h.pp.kp _ _)⟩
theorem Pf.set2 (h : Pf B w p a c fs sure run) (n : Nat) : Pf B (w.setCell ⟨p, 2, none⟩ (.int .i64 (n : Int))) p a c fs sure n := ⟨h.pp.set2 n, h.own.keptP (h.pp.kp _ _)⟩
theorem Pf.set0 {a' : Option Addr} {c' : Nat} (h : Pf B w p a c fs sure run) (ho : OwnS B w (.slice a' gs.length c') gs) : Pf B (w.setCell ⟨p, 0, none⟩ (.slice a' gs.length c')) p a' c' gs sure run := ⟨h.pp.set0 _, ho.keptP (h.pp.kp _ _)⟩
theorem Pf.take (h : Pf B w p a c fs sure run) {j : Nat} (hj : j ≤ fs.length) : j ≤ c ∧ (∀ ad, a = some ad → ad.spot = none) ∧ Pf B (w.setCell ⟨p, 0, none⟩ (.slice a j c)) p a c (fs.take j) sure run := by
  obtain ⟨h1, h2, h3⟩ := h.own.take hj
  have hl : (fs.take j).length = j := by rw [List.length_take]; omega
  refine ⟨h2, h3, ?_⟩
  have := h.set0 (gs := fs.take j) (a' := a) (c' := c) (by rw [hl]; exact h1)
  rw [hl] at this
  exact this
set_option maxHeartbeats 4000000 in
theorem psz_any (hp : Pf B w p a c fs sure run) (hz : (cat fs).size ≤ 1740) (hl : fs.length ≤ 300) (n : Nat) (hn : n ≤ fs.length) : Calls Tryz.prog 33 #[.pointer (some ⟨p, 0, none⟩), .int .i64 (n : Int)] w fun e w' => e = .returned (.int .i64 (off fs n : Int)) ∧ w' = w := by
  have c0 := hp.pp.c0
  have HO : Hid (OwnS B w (.slice a fs.length c) fs) := hp.own
  clear hp
  go_enter Tryz.func33, Tryz.ntmps33
  go_wp2
  go_loopw [5, 6] (fun ov iv wr => ∃ i : Nat, i ≤ n ∧ iv = .int .i64 (i : Int) ∧ ov = .int .i64 (off fs i : Int) ∧ wr = w) (fun _ iv _ => n - (intOf iv).toNat)
  case atStart => exact ⟨0, Nat.zero_le _, rfl, rfl, rfl⟩
  case round =>
    obtain ⟨i, hi, rfl, rfl, rfl⟩ := hrel
    by_cases hlt : i < n
    · obtain ⟨g, ha, hcell⟩ := HO.out.at_ (i := i) (by omega)
      subst ha
      have hos := off_succ (l := fs) (i := i) (by omega)
      have hom := off_mono (l := fs) (i := i + 1) (j := fs.length) (by omega)
      rw [off_all] at hom
      have hi2 : (i : Int) < (n : Int) := by omega
      have hi3 : (i : Int) < (fs.length : Int) := by omega
      have hi4 : i < fs.length := by omega
      have hq0 : (0 : Int) ≤ (off fs i : Int) := by omega
      have hq1 : (off fs i : Int) + (fs[i].size : Int) ≤ 1740 := by omega
      have HQ : Hid ((off fs (i + 1) : Int) = (off fs i : Int) + (fs[i].size : Int)) := (by omega : (off fs (i + 1) : Int) = (off fs i : Int) + (fs[i].size : Int))
      have hik : (i : Int) ≤ 300 := by omega
      clear hos hom
      generalize fs[i] = f at *
      go_wp2
      go_roundw
      case rel => exact ⟨i + 1, by omega, by go_num, by rw [HQ.out], by first | rfl | trivial⟩
      case measure => simp [intOf]; omega
    · obtain rfl : i = n := by omega
      have hi2 : ¬ (i : Int) < (i : Int) := by omega
      clear hlt
      go_wp2
      go_ret
      exact ⟨rfl, rfl⟩
/-- The law's log, and its plain record. -/
structure Py (B : Nat) (w : World) (l k : Nat) (S : Dk) (db p : Nat) (a : Option Addr) (c : Nat) (run : Nat) (fs : List ByteArray) (sure : Nat) : Prop where
  lv : Lv B w l k S db 1 30 run fs sure
  n : S.n = 31
  pf : Pf B w p a c fs sure run
/-- The law's disk whose log is lost (r: the last run on it), and its plain record. -/
structure Pd (B : Nat) (w : World) (k : Nat) (S : Dk) (db p : Nat) (a : Option Addr) (c : Nat) (r run : Nat) (fs : List ByteArray) (lo : Nat) : Prop where
  d : Ds B w db k S
  wt : Wt S 1 30 r fs lo
  fit : Fit 30 fs
  hlo : lo ≤ fs.length
  n : S.n = 31
  pf : Pf B w p a c fs lo run
/-- The log that is opened again, its plain record as it was. -/
structure Po (B : Nat) (w : World) (l k : Nat) (S : Dk) (db p : Nat) (a : Option Addr) (c : Nat) (run : Nat) (fs : List ByteArray) (lo j : Nat) : Prop where
  lv : Lv B w l k S db 1 30 run (fs.take j) j
  n : S.n = 31
  set : S.set = false
  h1 : lo ≤ j
  h2 : j ≤ fs.length
  len : fs.length ≤ 300
  pf : Pf B w p a c fs lo run
theorem Py.below (h : Py B w l k S db p a c run fs sure) (hb : Below w.heap.size w w') : Py B w' l k S db p a c run fs sure := ⟨h.lv.below hb, h.n, h.pf.below hb⟩
theorem Py.size (h : Py B w l k S db p a c run fs sure) : (cat fs).size ≤ 1740 := h.lv.fit.sz
theorem fit30_len (h : Fit 30 fs) : fs.length ≤ 300 := by
  have h1 := h.sz
  have := cat_len h.frm
  omega
theorem Py.len (h : Py B w l k S db p a c run fs sure) : fs.length ≤ 300 := fit30_len h.lv.fit
theorem Py.psz (h : Py B w l k S db p a c run fs sure) (n : Nat) (hn : n ≤ fs.length) : Calls Tryz.prog 33 #[.pointer (some ⟨p, 0, none⟩), .int .i64 (n : Int)] w fun e w' => e = .returned (.int .i64 (off fs n : Int)) ∧ w' = w := psz_any h.pf h.size h.len n hn
theorem Py.pd (h : Py B w l k S db p a c run fs sure) : Pd B w k S db p a c run run fs sure := ⟨h.lv.lx.d, h.lv.wt, h.lv.fit, h.lv.hs, h.n, h.pf⟩
theorem Py.mono {k' : Nat} (h : Py B w l k S db p a c run fs sure) (hk : k ≤ k') : Py B w l k' S db p a c run fs sure := ⟨h.lv.mono hk, h.n, h.pf⟩
theorem Py.le (h : Py B w l k S db p a c run fs sure) : B ≤ w.heap.size := h.lv.lx.le
theorem Pd.below (h : Pd B w k S db p a c r run fs lo) (hb : Below w.heap.size w w') : Pd B w' k S db p a c r run fs lo := ⟨h.d.below hb, h.wt, h.fit, h.hlo, h.n, h.pf.below hb⟩
theorem Pd.set2 (h : Pd B w k S db p a c r run fs lo) (n : Nat) : Pd B (w.setCell ⟨p, 2, none⟩ (.int .i64 (n : Int))) k S db p a c r n fs lo := ⟨h.d.keptBy isP_not (h.pf.pp.kp _ _), h.wt, h.fit, h.hlo, h.n, h.pf.set2 n⟩
theorem cr_n (S : Dk) (x : Int) : (crDk S x).n = S.n ∧ (crDk S x).up = false := by
  unfold crDk
  split
  · exact ⟨rfl, rfl⟩
  · rename_i h; exact ⟨rfl, by simpa using h⟩
theorem Pd.crash (h : Pd B w k S db p a c r run fs lo) (hk : k ≤ 100000) (x : Int) (x0 : 0 ≤ x) (x1 : x ≤ 18446744073709551615) : Calls Tryz.prog 45 #[.pointer (some ⟨db, 0, none⟩), .int .u64 x] w fun e w' => (∃ y, e = .returned (.int .i64 y)) ∧ Pd B w' (k + 1) (crDk S x) db p a c r run fs lo ∧ Below B w w' := by
  refine (h.d.crash hk x x0 x1).mono ?_
  rintro e w' ⟨he, hd, hK⟩
  exact ⟨⟨_, he⟩, ⟨hd, h.wt.crash x, h.fit, h.hlo, by rw [(cr_n S x).1]; exact h.n, h.pf.kept hK.d⟩, hK.bel⟩
theorem Pd.calm (h : Pd B w k S db p a c r run fs lo) : Calls Tryz.prog 46 #[.pointer (some ⟨db, 0, none⟩)] w fun e w' => e = .returned (.tuple #[]) ∧ Pd B w' k (calmDk S) db p a c r run fs lo ∧ Below B w w' := by
  refine h.d.calm.mono ?_
  rintro e w' ⟨he, hd, hK⟩
  exact ⟨he, ⟨hd, h.wt.eq rfl rfl, h.fit, h.hlo, h.n, h.pf.kept hK.d⟩, hK.bel⟩
theorem Pd.start (h : Pd B w k S db p a c r run fs lo) : Calls Tryz.prog 47 #[.pointer (some ⟨db, 0, none⟩)] w fun e w' => (∃ y, e = .returned (.int .i64 y)) ∧ Pd B w' k { S with up := true } db p a c r run fs lo ∧ Below B w w' := by
  refine h.d.start.mono ?_
  rintro e w' ⟨he, hd, hK⟩
  exact ⟨⟨_, he⟩, ⟨hd, h.wt.eq rfl rfl, h.fit, h.hlo, h.n, h.pf.kept hK.d⟩, hK.bel⟩
theorem Pd.open_ (h : Pd B w k S db p a c r run fs lo) (hk : k ≤ 30000) (hr : r < run) (hr2 : run ≤ 4294967295) (hu : S.up = true) (hc : S.set = false) : Calls Tryz.prog 10 #[.pointer (some ⟨db, 0, none⟩), .int .i64 1, .int .i64 30, .int .i64 (run : Int)] w fun e w' => ∃ j S' l, e = .returned (.tuple #[.pointer (some ⟨l, 0, none⟩), .int .i64 0]) ∧ Po B w' l (k + 31) S' db p a c run fs lo j ∧ Below B w w' := by
  refine (h.wt.open_ h.fit h.hlo h.d hk hr hr2 (by rw [h.n]; omega) hu hc).mono ?_
  rintro e w' ⟨j, S', l, he, ⟨h1, h2, h3, h4⟩, hlv, hK⟩
  exact ⟨j, S', l, he, ⟨hlv, by rw [h4, h.n], h3, h1, h2, fit30_len h.fit, h.pf.kept hK⟩, hK.bel⟩
variable {j : Nat}
theorem Po.records (h : Po B w l k S db p a c run fs lo j) : Calls Tryz.prog 30 #[.pointer (some ⟨l, 0, none⟩)] w fun e w' => (∃ a1 c1 a2 c2, e = .returned (.tuple #[.slice a1 j c1, .slice a2 j c2])) ∧ Po B w' l k S db p a c run fs lo j ∧ Below B w w' := by
  refine (Records_any h.lv.lx h.lv.fit).mono ?_
  rintro e w' ⟨⟨v, v2, he, hR, hO⟩, hL, hK⟩
  obtain ⟨a1, c1, e2⟩ := hR.slice
  have hj : (fs.take j).length = j := by rw [List.length_take]; have := h.h2; omega
  rw [List.length_map, hj] at e2
  subst e2
  obtain ⟨a2, c2, e3⟩ := hO.ex
  rw [plc_length, hj] at e3
  subst e3
  exact ⟨⟨a1, c1, a2, c2, he⟩, ⟨⟨hL, h.lv.up, h.lv.fit, h.lv.hs, h.lv.n, h.lv.r2, h.lv.q⟩, h.n, h.set, h.h1, h.h2, h.len, h.pf.kept hK.l⟩, hK.bel⟩
theorem Po.take (h : Po B w l k S db p a c run fs lo j) : (j ≤ c ∧ (∀ ad, a = some ad → ad.spot = none)) ∧ Py B ((w.setCell ⟨p, 0, none⟩ (.slice a j c)).setCell ⟨p, 1, none⟩ (.int .i64 (j : Int))) l k S db p a c run (fs.take j) j ∧ Below B w ((w.setCell ⟨p, 0, none⟩ (.slice a j c)).setCell ⟨p, 1, none⟩ (.int .i64 (j : Int))) := by
  obtain ⟨h1, h2, h3⟩ := h.pf.take h.h2
  have k1 := h.pf.pp.kp 0 (.slice a j c)
  have k2 := h3.pp.kp 1 (.int .i64 (j : Int))
  exact ⟨⟨h1, h2⟩, ⟨(h.lv.keptP k1).keptP k2, h.n, h3.set1 j⟩, k1.bel.trans k2.bel⟩
end
end Go.Proofs.YtgcfbjecmmnlhaaGreat

namespace Go.Proofs.YtgcfbjecmmnlhaaGreat
open Go.RowKit Go.Maps Go.ChangeMaps
set_option linter.unusedVariables false
set_option linter.unusedSimpArgs false
set_option maxRecDepth 100000

/-- A log, its records and their places, and its plain record. -/
structure Ph (B : Nat) (w : World) (l k : Nat) (S : Dk) (db p : Nat) (a : Option Addr) (c : Nat) (run : Nat) (fs : List ByteArray) (sure : Nat) (a1 : Option Addr) (c1 : Nat) (a2 : Option Addr) (c2 : Nat) : Prop where
  py : Py B w l k S db p a c run fs sure
  rcs : Rcs B w (.slice a1 fs.length c1) (fs.map recF)
  own : OwnI B w (.slice a2 fs.length c2) (plc 1 fs)
/-- A log, and a plain record that is another. -/
structure Px (B : Nat) (w : World) (l k : Nat) (S : Dk) (db p : Nat) (a : Option Addr) (c : Nat) (run : Nat) (fs : List ByteArray) (sure : Nat) (gs : List ByteArray) (psure prun : Nat) : Prop where
  lv : Lv B w l k S db 1 30 run fs sure
  n : S.n = 31
  pf : Pf B w p a c gs psure prun
section
variable {B l k db run r r' sure lo p n psure prun : Nat} {w w' w0 wx : World} {S S' : Dk} {fs gs ss : List ByteArray} {v av u : Value} {a a1 a2 : Option Addr} {c c1 c2 : Nat}
theorem Ph.below (h : Ph B w l k S db p a c run fs sure a1 c1 a2 c2) (hb : Below w.heap.size w w') : Ph B w' l k S db p a c run fs sure a1 c1 a2 c2 := ⟨h.py.below hb, h.rcs.below hb, h.own.below hb⟩
theorem Py.px (h : Py B w l k S db p a c run fs sure) : Px B w l k S db p a c run fs sure fs sure run := ⟨h.lv, h.n, h.pf⟩
theorem Px.py (h : Px B w l k S db p a c run fs sure fs sure run) : Py B w l k S db p a c run fs sure := ⟨h.lv, h.n, h.pf⟩
theorem Px.below (h : Px B w l k S db p a c run fs sure gs psure prun) (hb : Below w.heap.size w w') : Px B w' l k S db p a c run fs sure gs psure prun := ⟨h.lv.below hb, h.n, h.pf.below hb⟩
theorem Px.set1 (h : Px B w l k S db p a c run fs sure gs psure prun) (n : Nat) : Px B (w.setCell ⟨p, 1, none⟩ (.int .i64 (n : Int))) l k S db p a c run fs sure gs n prun ∧ Below B w (w.setCell ⟨p, 1, none⟩ (.int .i64 (n : Int))) := ⟨⟨h.lv.keptP (h.pf.pp.kp _ _), h.n, h.pf.set1 n⟩, (h.pf.pp.kp _ _).bel⟩
theorem Px.set2 (h : Px B w l k S db p a c run fs sure gs psure prun) (n : Nat) : Px B (w.setCell ⟨p, 2, none⟩ (.int .i64 (n : Int))) l k S db p a c run fs sure gs psure n ∧ Below B w (w.setCell ⟨p, 2, none⟩ (.int .i64 (n : Int))) := ⟨⟨h.lv.keptP (h.pf.pp.kp _ _), h.n, h.pf.set2 n⟩, (h.pf.pp.kp _ _).bel⟩
theorem Py.records (h : Py B w l k S db p a c run fs sure) : Calls Tryz.prog 30 #[.pointer (some ⟨l, 0, none⟩)] w fun e w' => ∃ a1 c1 a2 c2, e = .returned (.tuple #[.slice a1 fs.length c1, .slice a2 fs.length c2]) ∧ Ph B w' l k S db p a c run fs sure a1 c1 a2 c2 ∧ Below B w w' := by
  refine (Records_any h.lv.lx h.lv.fit).mono ?_
  rintro e w' ⟨⟨v, v2, he, hR, hO⟩, hL, hK⟩
  obtain ⟨a1, c1, e2⟩ := hR.slice
  rw [List.length_map] at e2
  subst e2
  obtain ⟨a2, c2, e3⟩ := hO.ex
  rw [plc_length] at e3
  subst e3
  have hz := h.le
  exact ⟨a1, c1, a2, c2, he, ⟨⟨⟨hL, h.lv.up, h.lv.fit, h.lv.hs, h.lv.n, h.lv.r2, h.lv.q⟩, h.n, h.pf.kept hK.l⟩, hR.mono hz, hO.monoB hz⟩, hK.bel⟩
theorem Py.end_ (h : Py B w l k S db p a c run fs sure) : Calls Tryz.prog 24 #[.pointer (some ⟨l, 0, none⟩)] w fun e w' => e = .returned (.int .i64 (((cat fs).size : Int) + 1)) ∧ w' = w := by
  have hz := h.size
  exact End_any h.lv.lx.g (by show (cat fs).size ≤ 1000000; omega)
theorem Py.durable (h : Py B w l k S db p a c run fs sure) : Calls Tryz.prog 25 #[.pointer (some ⟨l, 0, none⟩)] w fun e w' => e = .returned (.int .i64 ((off fs sure : Int) + 1)) ∧ w' = w := Durable_any h.lv.lx.g
theorem Py.left (h : Py B w l k S db p a c run fs sure) : Calls Tryz.prog 26 #[.pointer (some ⟨l, 0, none⟩)] w fun e w' => e = .returned (.int .i64 (1740 - ((cat fs).size : Int))) ∧ Below w.heap.size w w' := by
  have hz := h.size
  exact Left_any h.lv.lx.g (by show (cat fs).size ≤ 1000000; omega) (by show (0 : Int) ≤ 30; omega) (by show (30 : Int) ≤ 10000; omega)
set_option maxHeartbeats 1000000 in
theorem Left_quiet {R : Lr} (h : LrIs B w l R) (hz : R.T.size ≤ 1000000) (s0 : 0 ≤ R.secs) (s1 : R.secs ≤ 10000) : Calls Tryz.prog 26 #[.pointer (some ⟨l, 0, none⟩)] w fun e w' => e = .returned (.int .i64 (R.secs * 58 - (R.T.size : Int))) ∧ ∃ q, w' = w.drewN q := by
  have CI : Hid (Calls Tryz.prog 54 #[.pointer (some ⟨l, 0, none⟩)] w fun e w' => e = .returned (.bool true) ∧ w' = w) := isOpen_any h
  have CL : Hid (∀ wx, LrIs B wx l R → Calls Tryz.prog 60 #[.pointer (some ⟨l, 5, none⟩)] wx fun e w' => e = .returned (.int .i64 (R.T.size : Int)) ∧ w' = wx) := fun wx h => Len_log h
  have c3 := h.c3
  have H : Hid (LrIs B w l R) := h
  clear h
  have hz' : (R.T.size : Int) ≤ 1000000 := by omega
  have hz0 : (0 : Int) ≤ R.T.size := by omega
  generalize (R.T.size : Int) = n at *
  clear hz
  generalize R.secs = sc at *
  have hw1 : IntKind.i64.wrap (sc * 58) = sc * 58 := by rw [IntKind.wrap_i64]; omega
  have hw2 : IntKind.i64.wrap (sc * 58 - n) = sc * 58 - n := by rw [IntKind.wrap_i64]; omega
  go_enter Tryz.func26, Tryz.ntmps26
  go_wp2_with (go_at_call 54; refine CI.out.mono ?_; rintro e w' ⟨rfl, rfl⟩)
  go_quiet ((go_at_call 60; exact Calls.quiet_of_same (CL.out _ (H.out.drewN _))))
  go_wp2
  go_ret
  exact ⟨rfl, nq, rfl⟩
theorem Py.leftQ (h : Py B w l k S db p a c run fs sure) : Calls Tryz.prog 26 #[.pointer (some ⟨l, 0, none⟩)] w fun e w' => e = .returned (.int .i64 (1740 - ((cat fs).size : Int))) ∧ ∃ q, w' = w.drewN q := by
  have hz := h.size
  exact Left_quiet h.lv.lx.g (by show (cat fs).size ≤ 1000000; omega) (by show (0 : Int) ≤ 30; omega) (by show (30 : Int) ≤ 10000; omega)
theorem Py.run_ (h : Py B w l k S db p a c run fs sure) : Calls Tryz.prog 27 #[.pointer (some ⟨l, 0, none⟩)] w fun e w' => e = .returned (.int .i64 (run : Int)) ∧ w' = w := Run_any h.lv.lx.g
/-- A record of the log, and what it is framed as. -/
theorem Ph.at_ (h : Ph B w l k S db p a c run fs sure a1 c1 a2 c2) {i : Nat} (hi : i < fs.length) : ∃ g1 I T g2 g3, a1 = some ⟨g1, 0, none⟩ ∧ w.rangeAt g1 (i * 13) (((recF fs[i]).s.A I T).toList) ∧ RecV w (.agg ((recF fs[i]).s.A I T)) (recF fs[i]) ∧ a2 = some ⟨g2, 0, none⟩ ∧ w.cell? ⟨g2, i, none⟩ = some (.int .i64 (1 + (off fs i : Int))) ∧ a = some ⟨g3, 0, none⟩ ∧ w.cell? ⟨g3, i, none⟩ = some (.string fs[i]) := by
  obtain ⟨g1, I, T, e1, h1, h2⟩ := h.rcs.at_ (i := i) (by rw [List.length_map]; exact hi)
  obtain ⟨g2, e2, h3⟩ := h.own.at_ (i := i) (by rw [plc_length]; exact hi)
  obtain ⟨g3, e3, h4⟩ := h.py.pf.own.at_ (i := i) hi
  have hm : (fs.map recF)[i]'(by rw [List.length_map]; exact hi) = recF fs[i] := by simp
  rw [hm] at h1 h2
  refine ⟨g1, I, T, g2, g3, e1, h1, h2.recV, e2, ?_, e3, h4⟩
  rw [h3 w (Below.refl _ _)]
  have := plc_get 1 fs i hi
  rw [List.getElem?_eq_getElem (by rw [plc_length]; exact hi)] at this
  injection this with this
  rw [this]
  congr 2
theorem Py.frame {i : Nat} (h : Py B w l k S db p a c run fs sure) (hi : i < fs.length) {v : Value} (hv : RecV w v (recF fs[i])) : Calls Tryz.prog 18 #[v] w fun r w' => r = .returned (.tuple #[.string fs[i], .int .i64 0]) ∧ Below w.heap.size w w' := by
  have hf := h.lv.fit.frm fs[i] (List.getElem_mem _)
  have := Frame_any hv (small_recF hf)
  rw [hf.back] at this
  exact this
theorem Py.flush (h : Py B w l k S db p a c run fs sure) (hk : k ≤ 30000) : Calls Tryz.prog 21 #[.pointer (some ⟨l, 0, none⟩)] w fun e w' => ∃ y, e = .returned (.int .i64 y) ∧ ∃ S', Kp isA B w w' ∧ ((y = 0 ∧ S'.up = true ∧ Px B w' l (k + 31) S' db p a c run fs fs.length fs sure run) ∨ (y = 9 ∧ S'.up = false ∧ Pd B w' (k + 31) S' db p a c run run fs sure)) := by
  refine (h.lv.flush hk).mono ?_
  rintro e w' ⟨y, he, S', ⟨h1, h2, _⟩, h4⟩
  refine ⟨y, he, S', h1, ?_⟩
  rcases h4 with ⟨e1, h4⟩ | ⟨e1, hu, hd, hw⟩
  · exact Or.inl ⟨e1, h4.up, h4, by rw [h2, h.n], h.pf.kept h1⟩
  · exact Or.inr ⟨e1, hu, hd, hw, h.lv.fit, h.lv.hs, by rw [h2, h.n], h.pf.kept h1⟩
theorem Py.need_near (h : Py B w l k S db p a c run fs sure) (x : Int) (hx : x < (off fs sure : Int) + 1) : Calls Tryz.prog 43 #[.pointer (some ⟨l, 0, none⟩), .int .i64 x] w fun e w' => e = .returned (.int .i64 0) ∧ w' = w := Go.Proofs.YtgcfbjecmmnlhaaGreat.need_near h.lv.lx x hx
theorem Py.need_far (h : Py B w l k S db p a c run fs sure) (hk : k ≤ 30000) (x : Int) (hx : ¬ x < (off fs sure : Int) + 1) : Calls Tryz.prog 43 #[.pointer (some ⟨l, 0, none⟩), .int .i64 x] w fun e w' => ∃ y, e = .returned (.int .i64 y) ∧ ∃ S', Kp isA B w w' ∧ ((y = 0 ∧ S'.up = true ∧ Px B w' l (k + 31) S' db p a c run fs fs.length fs sure run) ∨ (y = 9 ∧ S'.up = false ∧ Pd B w' (k + 31) S' db p a c run run fs sure)) := Go.Proofs.YtgcfbjecmmnlhaaGreat.need_far h.lv.lx x hx (h.flush hk)
theorem Px.note (h : Px B w l k S db p a c run fs fs.length fs psure run) : Py B (w.setCell ⟨p, 1, none⟩ (.int .i64 (fs.length : Int))) l k S db p a c run fs fs.length ∧ Below B w (w.setCell ⟨p, 1, none⟩ (.int .i64 (fs.length : Int))) := ⟨(h.set1 fs.length).1.py, (h.set1 fs.length).2⟩
theorem Px.cut (h : Px B w l k S db p a c run fs sure fs sure prun) (hk : k ≤ 30000) (i : Nat) (hi : i ≤ fs.length) (x : Int) (hx : x = ((off fs i : Nat) : Int) + 1) (hr1 : run < r') (hr2 : r' ≤ 4294967295) : Calls Tryz.prog 36 #[.pointer (some ⟨l, 0, none⟩), .int .i64 x, .int .i64 (r' : Int)] w fun e w' => ∃ y, e = .returned (.int .i64 y) ∧ ∃ S', Kp isA B w w' ∧ ((y = 0 ∧ S'.up = true ∧ Px B w' l (k + 31) S' db p a c r' (fs.take i) i fs sure prun) ∨ (y = 9 ∧ S'.up = false ∧ S'.n = 31 ∧ Ds B w' db (k + 31) S' ∧ Wt S' 1 30 r' fs (min sure i) ∧ Pf B w' p a c fs sure prun)) := by
  refine (h.lv.cut hk i hi x hx hr1 hr2).mono ?_
  rintro e w' ⟨y, he, S', ⟨h1, h2, _⟩, h4⟩
  refine ⟨y, he, S', h1, ?_⟩
  rcases h4 with ⟨e1, h4⟩ | ⟨e1, hu, hd, hw⟩
  · exact Or.inl ⟨e1, h4.up, h4, by rw [h2, h.n], h.pf.kept h1⟩
  · exact Or.inr ⟨e1, hu, by rw [h2, h.n], hd, hw, h.pf.kept h1⟩
end
end Go.Proofs.YtgcfbjecmmnlhaaGreat

namespace Go.Proofs.YtgcfbjecmmnlhaaGreat
open Go.RowKit Go.Maps Go.ChangeMaps
set_option linter.unusedVariables false
set_option linter.unusedSimpArgs false
set_option maxRecDepth 100000

/-- A log, its records, its plain record, since a world. -/
structure Pi (B : Nat) (w0 w : World) (l k : Nat) (S : Dk) (db p : Nat) (a : Option Addr) (c : Nat) (run : Nat) (fs : List ByteArray) (sure : Nat) (a1 : Option Addr) (c1 : Nat) (a2 : Option Addr) (c2 : Nat) : Prop where
  ph : Ph B w l k S db p a c run fs sure a1 c1 a2 c2
  bel : Below B w0 w
section
variable {B l k db run r r' sure lo p n psure prun : Nat} {w w' w0 wx : World} {S S' : Dk} {fs gs ss : List ByteArray} {v av u : Value} {a a1 a2 : Option Addr} {c c1 c2 : Nat}
theorem Pi.below (h : Pi B w0 w l k S db p a c run fs sure a1 c1 a2 c2) (hb : Below w.heap.size w w') : Pi B w0 w' l k S db p a c run fs sure a1 c1 a2 c2 := ⟨h.ph.below hb, h.bel.trans (hb.mono h.ph.py.le)⟩
theorem Pi.drewN (h : Pi B w0 w l k S db p a c run fs sure a1 c1 a2 c2) (n : Nat) : Pi B w0 (w.drewN n) l k S db p a c run fs sure a1 c1 a2 c2 := h.below (Sm.below_dr (Below.refl _ _) n)
theorem Pi.cc (h : Pi B w0 w l k S db p a c run fs sure a1 c1 a2 c2) : w.cell? ⟨p, 0, none⟩ = some (.slice a fs.length c) ∧ w.cell? ⟨p, 1, none⟩ = some (.int .i64 (sure : Int)) ∧ w.cell? ⟨p, 2, none⟩ = some (.int .i64 (run : Int)) ∧ w.cell? ⟨p, 3, none⟩ = some (.int .i64 1740) := ⟨h.ph.py.pf.pp.c0, h.ph.py.pf.pp.c1, h.ph.py.pf.pp.c2, h.ph.py.pf.pp.c3⟩
set_option maxHeartbeats 16000000 in
theorem holds_any (h : Py B w l k S db p a c run fs sure) : Calls Tryz.prog 16 #[.pointer (some ⟨l, 0, none⟩), .pointer (some ⟨p, 0, none⟩)] w fun e w' => e = .returned (.bool true) ∧ Py B w' l k S db p a c run fs sure ∧ Below B w w' := by
  have CR : Hid (Calls Tryz.prog 30 #[.pointer (some ⟨l, 0, none⟩)] w fun e w' => ∃ a1 c1 a2 c2, e = .returned (.tuple #[.slice a1 fs.length c1, .slice a2 fs.length c2]) ∧ Pi B w w' l k S db p a c run fs sure a1 c1 a2 c2) := h.records.mono (by
    rintro e w' ⟨a1, c1, a2, c2, h1, h2, h3⟩
    exact ⟨a1, c1, a2, c2, h1, h2, h3⟩)
  have hz := h.size
  have HZ : Hid ((cat fs).size ≤ 1740) := hz
  have hl := h.len
  have hs := h.lv.hs
  have hof := off_mono (l := fs) hs
  rw [off_all] at hof
  have CE : Hid (∀ wx a1 c1 a2 c2, Pi B w wx l k S db p a c run fs sure a1 c1 a2 c2 → Calls Tryz.prog 24 #[.pointer (some ⟨l, 0, none⟩)] wx fun e w' => e = .returned (.int .i64 (1 + ((cat fs).size : Int))) ∧ w' = wx) := fun wx a1 c1 a2 c2 q => by
    have := q.ph.py.end_
    rw [Int.add_comm] at this
    exact this
  have CD : Hid (∀ wx a1 c1 a2 c2, Pi B w wx l k S db p a c run fs sure a1 c1 a2 c2 → Calls Tryz.prog 25 #[.pointer (some ⟨l, 0, none⟩)] wx fun e w' => e = .returned (.int .i64 (1 + (off fs sure : Int))) ∧ w' = wx) := fun wx a1 c1 a2 c2 q => by
    have := q.ph.py.durable
    rw [Int.add_comm] at this
    exact this
  have CL : Hid (∀ wx a1 c1 a2 c2, Pi B w wx l k S db p a c run fs sure a1 c1 a2 c2 → Calls Tryz.prog 26 #[.pointer (some ⟨l, 0, none⟩)] wx fun e w' => e = .returned (.int .i64 (1740 - ((cat fs).size : Int))) ∧ ∃ q, w' = wx.drewN q) := fun wx a1 c1 a2 c2 q => q.ph.py.leftQ
  have CU : Hid (∀ wx a1 c1 a2 c2, Pi B w wx l k S db p a c run fs sure a1 c1 a2 c2 → Calls Tryz.prog 27 #[.pointer (some ⟨l, 0, none⟩)] wx fun e w' => e = .returned (.int .i64 (run : Int)) ∧ w' = wx) := fun wx a1 c1 a2 c2 q => q.ph.py.run_
  have CZl : Hid (∀ wx a1 c1 a2 c2, Pi B w wx l k S db p a c run fs sure a1 c1 a2 c2 → Calls Tryz.prog 33 #[.pointer (some ⟨p, 0, none⟩), .int .i64 (fs.length : Int)] wx fun e w' => e = .returned (.int .i64 ((cat fs).size : Int)) ∧ w' = wx) := fun wx a1 c1 a2 c2 q => by
    have := q.ph.py.psz fs.length (Nat.le_refl _)
    rw [off_all] at this
    exact this
  have CZs : Hid (∀ wx a1 c1 a2 c2, Pi B w wx l k S db p a c run fs sure a1 c1 a2 c2 → Calls Tryz.prog 33 #[.pointer (some ⟨p, 0, none⟩), .int .i64 (sure : Int)] wx fun e w' => e = .returned (.int .i64 (off fs sure : Int)) ∧ w' = wx) := fun wx a1 c1 a2 c2 q => q.ph.py.psz sure hs
  obtain ⟨E, HE⟩ : ∃ E : Int, E = ((cat fs).size : Int) := ⟨_, rfl⟩
  obtain ⟨F, HF⟩ : ∃ F : Int, F = (off fs sure : Int) := ⟨_, rfl⟩
  rw [← HE] at CE CL CZl
  rw [← HF] at CD CZs
  have e0 : 0 ≤ E := by omega
  have e1 : E ≤ 1740 := by omega
  have f0 : 0 ≤ F := by omega
  have f1 : F ≤ 1740 := by omega
  clear HE HF hz hof h hs
  have x1 : IntKind.i64.wrap (1 + E) = 1 + E := by rw [IntKind.wrap_i64]; omega
  have x2 : IntKind.i64.wrap (1 + F) = 1 + F := by rw [IntKind.wrap_i64]; omega
  have x3 : IntKind.i64.wrap (1740 - E) = 1740 - E := by rw [IntKind.wrap_i64]; omega
  have y1 : RowKit.wrap64 (1 + E) = 1 + E := (IntWalk.i64_left _).symm.trans x1
  have y2 : RowKit.wrap64 (1 + F) = 1 + F := (IntWalk.i64_left _).symm.trans x2
  have y3 : RowKit.wrap64 (1740 - E) = 1740 - E := (IntWalk.i64_left _).symm.trans x3
  go_enter Tryz.func16, Tryz.ntmps16
  go_wp2_with (go_at_call 30; refine CR.out.mono ?_; clear CR; rintro e w1 ⟨a1, c1, a2, c2, rfl, h1⟩)
  have HD : Hid _ := h1
  obtain ⟨p0, p1, p2, p3⟩ := h1.cc
  clear h1
  simp only [List.append]
  go_quiet (first
    | (go_at_call 24; exact Calls.quiet_of_same (CE.out _ _ _ _ _ (HD.out.drewN _)))
    | (go_at_call 25; exact Calls.quiet_of_same (CD.out _ _ _ _ _ (HD.out.drewN _)))
    | (go_at_call 27; exact Calls.quiet_of_same (CU.out _ _ _ _ _ (HD.out.drewN _)))
    | (go_at_call_of 33 (fs.length : Int); exact Calls.quiet_of_same (CZl.out _ _ _ _ _ (HD.out.drewN _)))
    | (go_at_call_of 33 (sure : Int); exact Calls.quiet_of_same (CZs.out _ _ _ _ _ (HD.out.drewN _)))
    | (go_at_call 26; exact Calls.quiet_of (CL.out _ _ _ _ _ (HD.out.drewN _))))
  have hd := HD.out.drewN nq
  clear HD p0 p1 p2 p3
  clear CE CD CL CU CZl CZs
  have HD0 : Hid _ := hd
  clear hd
  go_wp2
  go_loopw [7] (fun iv wr => ∃ i : Nat, i ≤ fs.length ∧ iv = .int .i64 (i : Int) ∧ Pi B w wr l k S db p a c run fs sure a1 c1 a2 c2) (fun iv _ => fs.length - (intOf iv).toNat)
  case atStart => exact ⟨0, Nat.zero_le _, rfl, HD0.out⟩
  case round =>
    obtain ⟨i, hi, rfl, hP⟩ := hrel
    by_cases hlt : i < fs.length
    · obtain ⟨g1, I, T, g2, g3, ea1, hrg, hrv, ea2, hat, ea, hst⟩ := hP.ph.at_ hlt
      subst ea1 ea2 ea
      have CFr : Hid (Calls Tryz.prog 18 #[.agg ((recF fs[i]).s.A I T)] wr fun r w' => r = .returned (.tuple #[.string fs[i], .int .i64 0]) ∧ Below wr.heap.size wr w') := hP.ph.py.frame hlt hrv
      have CZi : Hid (∀ wx, Pi B w wx l k S db p (some ⟨g3, 0, none⟩) c run fs sure (some ⟨g1, 0, none⟩) c1 (some ⟨g2, 0, none⟩) c2 → Calls Tryz.prog 33 #[.pointer (some ⟨p, 0, none⟩), .int .i64 (i : Int)] wx fun e w' => e = .returned (.int .i64 (off fs i : Int)) ∧ w' = wx) := fun wx q => q.ph.py.psz i hi
      have hlt3 : g3 < wr.heap.size ∧ g2 < wr.heap.size := by
        refine ⟨?_, ?_⟩
        · rcases Nat.lt_or_ge g3 wr.heap.size with h' | h'
          · exact h'
          · simp [World.cell?, Array.getElem?_eq_none h'] at hst
        · rcases Nat.lt_or_ge g2 wr.heap.size with h' | h'
          · exact h'
          · simp [World.cell?, Array.getElem?_eq_none h'] at hat
      have HC : Hid (∀ wx, Below wr.heap.size wr wx → wx.cell? ⟨g2, i, none⟩ = some (.int .i64 (1 + (off fs i : Int))) ∧ wx.cell? ⟨g3, i, none⟩ = some (.string fs[i])) := fun wx q => ⟨(q.cell (by exact hlt3.2)).trans hat, (q.cell (by exact hlt3.1)).trans hst⟩
      have hof := off_mono (l := fs) hi
      rw [off_all] at hof
      have hz9 := HZ.out
      have d0 : (0 : Int) ≤ (off fs i : Int) := by omega
      have d1 : (off fs i : Int) ≤ 1740 := by omega
      have i1 : (i : Int) < (fs.length : Int) := by omega
      have x1 : IntKind.i64.wrap (1 + (off fs i : Int)) = 1 + (off fs i : Int) := by rw [IntKind.wrap_i64]; omega
      have y1 : RowKit.wrap64 (1 + (off fs i : Int)) = 1 + (off fs i : Int) := (IntWalk.i64_left _).symm.trans x1
      clear hrv hat hst hlt3 hof hz9 HD0 HZ
      generalize (recF fs[i]).s = sm at *
      generalize fs[i] = f at *
      generalize (off fs i : Int) = D at *
      go_wp2_with (first
        | (refine wpList_load_rcs (s := sm) (I := I) (T := T) _ rfl (.tmp 93) rfl rfl hrg ?_; clear hrg)
        | (go_at_call 18; refine CFr.out.mono ?_; clear CFr; rintro e w3 ⟨rfl, b3⟩))
      have hP3 := hP.below b3
      obtain ⟨k2, k3⟩ := HC.out _ b3
      obtain ⟨p0, _, _, _⟩ := hP3.cc
      have HP3 : Hid _ := hP3
      clear hP b3 hP3
      go_quiet ((go_at_call 33; exact Calls.quiet_of_same (CZi.out _ (HP3.out.drewN _))))
      have hd := HP3.out.drewN nq
      go_wp2
      go_roundw
      case rel => exact ⟨i + 1, by omega, by go_num, hd⟩
      case measure => simp [intOf]; omega
    · obtain rfl : i = fs.length := by omega
      have i1 : ¬ (fs.length : Int) < (fs.length : Int) := by omega
      clear hlt
      go_wp2
      go_ret
      exact ⟨rfl, hP.ph.py, hP.bel⟩
end
end Go.Proofs.YtgcfbjecmmnlhaaGreat

namespace Go.Proofs.YtgcfbjecmmnlhaaGreat
open Go.RowKit Go.Maps Go.ChangeMaps
set_option linter.unusedVariables false
set_option linter.unusedSimpArgs false
set_option maxRecDepth 100000

section
variable {B l k db run r r' sure lo p n psure prun : Nat} {w w' w0 wx : World} {S S' : Dk} {fs gs ss : List ByteArray} {v av u : Value} {a a1 a2 : Option Addr} {c c1 c2 : Nat}
theorem Pd.le (h : Pd B w k S db p a c r run fs lo) : B ≤ w.heap.size := h.d.lt
theorem Pd.next (h : Pd B w k S db p a c r r fs lo) : Pd B (w.setCell ⟨p, 2, none⟩ (.int .i64 ((r : Int) + 1))) k S db p a c r (r + 1) fs lo ∧ (w.setCell ⟨p, 2, none⟩ (.int .i64 ((r : Int) + 1))).cell? ⟨p, 2, none⟩ = some (.int .i64 ((r : Int) + 1)) ∧ Below B w (w.setCell ⟨p, 2, none⟩ (.int .i64 ((r : Int) + 1))) := by
  have e : ((r : Int) + 1) = ((r + 1 : Nat) : Int) := by omega
  rw [e]
  exact ⟨h.set2 (r + 1), (h.pf.set2 (r + 1)).pp.c2, (h.pf.pp.kp _ _).bel⟩
theorem Pd.crash2 (h : Pd B w k S db p a c r run fs lo) (hk : k ≤ 100000) (x : Int) (x0 : 0 ≤ x) (x1 : x ≤ 18446744073709551615) : Calls Tryz.prog 45 #[.pointer (some ⟨db, 0, none⟩), .int .u64 x] w fun e w' => ∃ y S', e = .returned (.int .i64 y) ∧ Pd B w' (k + 1) S' db p a c r run fs lo ∧ Below B w w' := by
  refine (h.crash hk x x0 x1).mono ?_
  rintro e w' ⟨⟨y, he⟩, h1, b1⟩
  exact ⟨y, _, he, h1, b1⟩
theorem Pd.calm2 (h : Pd B w k S db p a c r run fs lo) : Calls Tryz.prog 46 #[.pointer (some ⟨db, 0, none⟩)] w fun e w' => ∃ S', e = .returned (.tuple #[]) ∧ Pd B w' k S' db p a c r run fs lo ∧ S'.set = false ∧ Below B w w' := by
  refine h.calm.mono ?_
  rintro e w' ⟨he, h1, b1⟩
  exact ⟨_, he, h1, rfl, b1⟩
theorem Pd.start2 (h : Pd B w k S db p a c r run fs lo) (hs : S.set = false) : Calls Tryz.prog 47 #[.pointer (some ⟨db, 0, none⟩)] w fun e w' => ∃ y S', e = .returned (.int .i64 y) ∧ Pd B w' k S' db p a c r run fs lo ∧ S'.up = true ∧ S'.set = false ∧ Below B w w' := by
  refine h.start.mono ?_
  rintro e w' ⟨⟨y, he⟩, h1, b1⟩
  exact ⟨y, _, he, h1, rfl, hs, b1⟩
set_option maxHeartbeats 8000000 in
theorem again_any (h : Pd B w k S db p a c r r fs lo) (hk : k ≤ 29000) (hr : r + 1 ≤ 4294967295) (x : Int) (x0 : 0 ≤ x) (x1 : x ≤ 18446744073709551615) : Calls Tryz.prog 13 #[.pointer (some ⟨db, 0, none⟩), .pointer (some ⟨p, 0, none⟩), .int .u64 x] w fun e w' => ∃ l' S' j, e = .returned (.tuple #[.pointer (some ⟨l', 0, none⟩), .bool true]) ∧ Py B w' l' (k + 32) S' db p a c (r + 1) (fs.take j) j ∧ Below B w w' := by
  have CC : Hid (Calls Tryz.prog 45 #[.pointer (some ⟨db, 0, none⟩), .int .u64 x] w fun e w' => ∃ y S', e = .returned (.int .i64 y) ∧ Pd B w' (k + 1) S' db p a c r r fs lo ∧ Below B w w') := h.crash2 (by omega) x x0 x1
  have CO : Hid (∀ wx S', Pd B wx (k + 1) S' db p a c r (r + 1) fs lo → S'.up = true → S'.set = false → Calls Tryz.prog 10 #[.pointer (some ⟨db, 0, none⟩), .int .i64 1, .int .i64 30, .int .i64 ((r : Int) + 1)] wx fun e w' => ∃ j S' l, e = .returned (.tuple #[.pointer (some ⟨l, 0, none⟩), .int .i64 0]) ∧ Po B w' l (k + 32) S' db p a c (r + 1) fs lo j ∧ Below B wx w') := fun wx S' q q1 q2 => by
    have := q.open_ (by omega) (by omega) hr q1 q2
    rw [show ((r + 1 : Nat) : Int) = (r : Int) + 1 by omega] at this
    exact this
  have CH : Hid (∀ wx l S j, Py B wx l (k + 32) S db p a c (r + 1) (fs.take j) j → Calls Tryz.prog 16 #[.pointer (some ⟨l, 0, none⟩), .pointer (some ⟨p, 0, none⟩)] wx fun e w' => e = .returned (.bool true) ∧ Py B w' l (k + 32) S db p a c (r + 1) (fs.take j) j ∧ Below B wx w') := fun wx l S j q => holds_any q
  have hfl := fit30_len h.fit
  have hr0 : (0 : Int) ≤ (r : Int) := by omega
  have hr1 : (r : Int) + 1 ≤ 4294967295 := by omega
  clear h hr hk
  go_enter Tryz.func13, Tryz.ntmps13
  go_wp2_with (first
    | (go_at_call 45; refine CC.out.mono ?_; clear CC; rintro e w1 ⟨y1, S1, rfl, h1, b1⟩)
    | (go_at_call 46; refine h1.calm2.mono ?_; clear h1; rintro e w2 ⟨S2, rfl, h2, s2, b2⟩)
    | (go_at_call 47; refine (h2.start2 s2).mono ?_; clear h2 s2; rintro e w3 ⟨y3, S3, rfl, h3, u3, s3, b3⟩; have c2 := h3.pf.pp.c2; have f2 := h3.pf.pp.f 2; obtain ⟨h4, d2, b4⟩ := h3.next; clear h3)
    | (go_at_call 10; refine (CO.out _ _ h4 u3 s3).mono ?_; clear h4 CO u3 s3; rintro e w5 ⟨j, S5, l, rfl, h5, b5⟩))
  refine h5.records.mono ?_
  rintro e w6 ⟨⟨a6, c6, a62, c62, rfl⟩, h6, b6⟩
  have cc1 := h6.pf.pp.c1
  have c0 := h6.pf.pp.c0
  have n1 : ¬ (j : Int) < (lo : Int) := (by have := h6.h1; omega)
  have f0 := h6.pf.pp.f 0
  have f1 := (h6.pf.take h6.h2).2.2.pp.f 1
  have n2 : ¬ (fs.length : Int) < (j : Int) := (by have := h6.h2; omega)
  have n3 : (j : Int) ≤ 300 := (by have := h6.h2; have := h6.len; omega)
  obtain ⟨⟨t1, t2⟩, h7, b7⟩ := h6.take
  have hsl := sliceS_to (n := fs.length) j t1 t2
  clear h6 h5 t2
  dsimp only
  go_wp2_with (go_at_call 16; refine (CH.out _ _ _ _ h7).mono ?_; clear h7 CH; rintro e w8 ⟨rfl, h8, b8⟩)
  go_ret2
  exact ⟨l, S5, j, rfl, h8, ((((((b1.trans b2).trans b3).trans b4).trans b5).trans b6).trans b7).trans b8⟩
end
end Go.Proofs.YtgcfbjecmmnlhaaGreat

namespace Go.Proofs.YtgcfbjecmmnlhaaGreat
open Go.RowKit Go.Maps Go.ChangeMaps
set_option linter.unusedVariables false
set_option linter.unusedSimpArgs false
set_option maxRecDepth 100000

def opA (kd n : Int) (s : Sc) (I T : Value) (s' : Sc) (I' T' : Value) (kp : Int) : Array Value := #[.int .i64 kd, .int .i64 n, .int .i64 s.kd, .int .i64 s.tx, .int .i64 s.pv, .int .i64 s.pg, .int .i64 s.ac, .string s.ky, .string s.ol, .string s.nw, .int .i64 s.nx, I, T, .int .i64 s.ep, .int .i64 s.nd, .int .i64 s'.kd, .int .i64 s'.tx, .int .i64 s'.pv, .int .i64 s'.pg, .int .i64 s'.ac, .string s'.ky, .string s'.ol, .string s'.nw, .int .i64 s'.nx, I', T', .int .i64 s'.ep, .int .i64 s'.nd, .int .u64 kp]
/-- A call: its cells, and what they are. -/
structure OpV (w : World) (cs : Array Value) (kd m : Int) (R Q : Rm) (kp : Int) : Prop where
  ex : ∃ I T I' T', cs = opA kd m R.s I T Q.s I' T' kp ∧ RecV w (.agg (R.s.A I T)) R ∧ RecV w (.agg (Q.s.A I' T')) Q
  hR : Held R
  hQ : Held Q
  k0 : 0 ≤ kp
  k1 : kp ≤ 18446744073709551615
  m0 : -9223372036854775808 ≤ m
  m1 : m ≤ 9223372036854775807
/-- A slice of calls that is only read. -/
structure OpsV (w : World) (a : Option Addr) (n : Nat) : Prop where
  at_ : ∀ i, i < n → ∃ g o cs kd m R Q kp, a = some ⟨g, o, none⟩ ∧ g < w.heap.size ∧ w.rangeAt g (o + i * 29) cs.toList ∧ OpV w cs kd m R Q kp
section
variable {H : Type} {enc : TypeId × Value → H} {w w' : World}
theorem OpV.below {cs : Array Value} {kd m : Int} {R Q : Rm} {kp : Int} (h : OpV w cs kd m R Q kp) (hb : Below w.heap.size w w') : OpV w' cs kd m R Q kp := by
  obtain ⟨I, T, I', T', h1, h2, h3⟩ := h.ex
  exact ⟨⟨I, T, I', T', h1, h2.below hb, h3.below hb⟩, h.hR, h.hQ, h.k0, h.k1, h.m0, h.m1⟩
set_option maxHeartbeats 2000000 in
theorem open_calls {fuel : Nat} {a0 : Option Addr} {n0 c0 : Nat} {x : DataW H × List MemPlace} (h : DataW.trod enc Tryz.prog w 0 (fun _ => true) true fuel 22 [.slice a0 n0 c0] = some x) :
    OpsV w a0 n0 ∧ n0 ≤ 9223372036854775807 := by
  rcases Go.Deep.open_slice Tryz.underlying22 h with ⟨hcs, _⟩ | ⟨ad, len, cap, mm, nn, D, Pl, hcs, _, hl, hm, hmm, _, hall⟩
  · simp at hcs
    obtain ⟨rfl, rfl, rfl⟩ := hcs
    exact ⟨⟨fun i hi => absurd hi (Nat.not_lt_zero _)⟩, by omega⟩
  · simp at hcs
    obtain ⟨rfl, rfl, rfl⟩ := hcs
    rw [if_pos rfl] at hmm
    subst hmm
    have hop : Tryz.prog.cellsOf 40 = 29 := by kernel_rfl
    have h3 : Tryz.prog.cellsOf 3 = 1 := by kernel_rfl
    have h6 : Tryz.prog.cellsOf 38 = 1 := by kernel_rfl
    have h13 : Tryz.prog.cellsOf 37 = 13 := by kernel_rfl
    obtain ⟨b, off, spot⟩ := ad
    refine ⟨⟨fun i hi => ?_⟩, by have : n0 ≤ mm := hl; have := hm; unfold maxLen at this; omega⟩
    have hlm : n0 ≤ mm := hl
    obtain ⟨cs', g1, g2⟩ := hall i (by omega)
    rw [hop] at g1
    obtain ⟨_, hlen, hcell⟩ := World.cells?_some g1
    obtain ⟨xs, k, hk, _, _, hxl, hf⟩ := DataW.trod_struct Tryz.underlying40 g2
    have q0 := hcell 0 (by omega)
    have hsp : spot = none := by
      obtain ⟨cs0, g10, _⟩ := hall 0 (by omega)
      rw [hop] at g10
      obtain ⟨_, hlen0, hcell0⟩ := World.cells?_some g10
      have q00 := hcell0 0 (by omega)
      rw [List.getElem?_eq_getElem (by omega)] at q00
      simpa [Addr.add] using World.cell?_spot q00
    subst hsp
    have hadd : ∀ k, (⟨b, off, none⟩ : Addr).add k = ⟨b, off + k, none⟩ := fun k => by unfold Addr.add; split <;> simp_all
    have hadd2 : ∀ k j, (⟨b, k, none⟩ : Addr).add j = ⟨b, k + j, none⟩ := fun k j => by unfold Addr.add; split <;> simp_all
    have hb : b < w.heap.size := by
      rw [List.getElem?_eq_getElem (by omega), hadd, hadd2] at q0
      rcases Nat.lt_or_ge b w.heap.size with h' | h'
      · exact h'
      · simp [World.cell?, Array.getElem?_eq_none h'] at q0
    have hrg : w.rangeAt b (off + i * 29) cs' := fun j u hu => by
      have hj : j < cs'.length := (List.getElem?_eq_some_iff.1 hu).1
      have := hcell j (by omega)
      rw [hadd, hadd2] at this
      rw [this]
      exact hu
    clear hcell q0 g1 g2
    match xs, hxl, cs', hlen, hrg, hf with
    | [y0, y1, y2, y3, y4], _, [v0, v1, v2, v3, v4, v5, v6, v7, v8, v9, v10, v11, v12, v13, v14, v15, v16, v17, v18, v19, v20, v21, v22, v23, v24, v25, v26, v27, v28], _, hrg, hf =>
      have f0 := hf 0 _ rfl
      have f1 := hf 1 _ rfl
      have f2 := hf 2 _ rfl
      have f3 := hf 3 _ rfl
      have f4 := hf 4 _ rfl
      simp [h3, h6, h13] at f0 f1 f2 f3 f4
      obtain ⟨n0', i0, _, _⟩ := DataW.trod_int Tryz.underlying3 f0
      obtain ⟨n1', i1, _, b1⟩ := DataW.trod_int Tryz.underlying3 f1
      obtain ⟨R, hR, hhR⟩ := open_rec (cs := #[v2, v3, v4, v5, v6, v7, v8, v9, v10, v11, v12, v13, v14]) (by rw [h13]; rfl) f2
      obtain ⟨Q, hQ, hhQ⟩ := open_rec (cs := #[v15, v16, v17, v18, v19, v20, v21, v22, v23, v24, v25, v26, v27]) (by rw [h13]; rfl) f3
      obtain ⟨n4', i4, _, b4⟩ := DataW.trod_int Tryz.underlying38 f4
      simp at i0 i1 i4
      subst i0 i1 i4
      obtain ⟨I, T, eR, _⟩ := hR.ex
      obtain ⟨I', T', eQ, _⟩ := hQ.ex
      refine ⟨b, off, _, n0', n1', R, Q, n4', rfl, hb, hrg, ⟨⟨I, T, I', T', ?_, by rw [← eR]; exact hR, by rw [← eQ]; exact hQ⟩, hhR, hhQ, (bounds_u64 b4).1, (bounds_u64 b4).2, (bounds_i64 b1).1, (bounds_i64 b1).2⟩⟩
      injection eR with eR
      injection eQ with eQ
      simp only [Sc.A, Array.mk.injEq, List.cons.injEq] at eR eQ
      obtain ⟨rfl, rfl, rfl, rfl, rfl, rfl, rfl, rfl, rfl, rfl, rfl, rfl, rfl, _⟩ := eR
      obtain ⟨rfl, rfl, rfl, rfl, rfl, rfl, rfl, rfl, rfl, rfl, rfl, rfl, rfl, _⟩ := eQ
      rfl
end
section
variable {ops : Array Oper} {rest : List Oper} {o : Oper} {a : Act} {K : Exit → Act → World → Prop} {g of : Nat}
theorem info_op (kd n : Int) (s : Sc) (I T : Value) (s' : Sc) (I' T' : Value) (kp : Int) : (Tryz.prog.info? 40).map (·.size) = some (opA kd n s I T s' I' T' kp).size := by
  show (Tryz.prog.info? 40).map (·.size) = some 29
  kernel_rfl
theorem wpList_load_op {kd n : Int} {s s' : Sc} {I T I' T' : Value} {kp : Int} (w : World) (hg : o.guard = none) (x : Operand) (hop : o.op = Op.load 40 x) (hx : a.eval x = .pointer (some ⟨g, of, none⟩)) (hr : w.rangeAt g of ((opA kd n s I T s' I' T' kp).toList))
    (h : wpList Tryz.prog ops K rest (a.put o.dst (.agg (opA kd n s I T s' I' T' kp))) w) : wpList Tryz.prog ops K (o :: rest) a w :=
  wpList_load_mid hg 40 x hop g of hx _ _ hr Tryz.underlying40 rfl (info_op kd n s I T s' I' T' kp) h
end
end Go.Proofs.YtgcfbjecmmnlhaaGreat

namespace Go.Proofs.YtgcfbjecmmnlhaaGreat
open Go.RowKit Go.Maps Go.ChangeMaps
set_option linter.unusedVariables false
set_option linter.unusedSimpArgs false
set_option maxRecDepth 100000

/-- A call's block. -/
structure Ob (w : World) (b : Nat) (cs : Array Value) : Prop where
  blk : w.heap[b]? = some (.cells cs 40)
structure NewO (w w' : World) (b : Nat) (cs : Array Value) : Prop where
  ob : Ob w' b cs
  below : Below w.heap.size w w'
  eq : b = w.heap.size
section
variable {w w' : World} {b B : Nat} {cs : Array Value} {kd m kp : Int} {s s' : Sc} {I T I' T' : Value}
theorem Ob.lt (h : Ob w b cs) : b < w.heap.size := lt_of_some h.blk
theorem Ob.below (h : Ob w b cs) (hb : Below w.heap.size w w') : Ob w' b cs := ⟨(hb.block b h.lt).trans h.blk⟩
theorem Ob.kept (h : Ob w b cs) (hb : Kp isA B w w') : Ob w' b cs := ⟨hb.block _ _ h.blk (by simp [isA, isD, isL])⟩
theorem Ob.keptP (h : Ob w b cs) (hb : Kp isP B w w') : Ob w' b cs := ⟨hb.block _ _ h.blk (by simp [isP])⟩
theorem Ob.keptS (h : Ob w b cs) (hb : Kp isS B w w') : Ob w' b cs := ⟨hb.block _ _ h.blk (by simp [isS])⟩
theorem Ob.c0 (h : Ob w b (opA kd m s I T s' I' T' kp)) : w.cell? ⟨b, 0, none⟩ = some (.int .i64 kd) := by rw [Lib.cell_of_heap h.blk]; rfl
theorem Ob.c1 (h : Ob w b (opA kd m s I T s' I' T' kp)) : w.cell? ⟨b, 1, none⟩ = some (.int .i64 m) := by rw [Lib.cell_of_heap h.blk]; rfl
theorem Ob.c28 (h : Ob w b (opA kd m s I T s' I' T' kp)) : w.cell? ⟨b, 28, none⟩ = some (.int .u64 kp) := by rw [Lib.cell_of_heap h.blk]; rfl
theorem Ob.r1 (h : Ob w b (opA kd m s I T s' I' T' kp)) : w.rangeAt b 2 ((s.A I T).toList) := fun j u hu => by
  have hj : j < 13 := (List.getElem?_eq_some_iff.1 hu).1
  rw [Lib.cell_of_heap h.blk, ← hu]
  match j, hj with
  | 0, _ | 1, _ | 2, _ | 3, _ | 4, _ | 5, _ | 6, _ | 7, _ | 8, _ | 9, _ | 10, _ | 11, _ | 12, _ => rfl
theorem Ob.r2 (h : Ob w b (opA kd m s I T s' I' T' kp)) : w.rangeAt b 15 ((s'.A I' T').toList) := fun j u hu => by
  have hj : j < 13 := (List.getElem?_eq_some_iff.1 hu).1
  rw [Lib.cell_of_heap h.blk, ← hu]
  match j, hj with
  | 0, _ | 1, _ | 2, _ | 3, _ | 4, _ | 5, _ | 6, _ | 7, _ | 8, _ | 9, _ | 10, _ | 11, _ | 12, _ => rfl
end
section
variable {ops : Array Oper} {rest : List Oper} {o : Oper} {a : Act} {Q : Exit → Act → World → Prop}
theorem wpList_box_op {cs : Array Value} (w : World) (hg : o.guard = none) (x : Operand) (hop : o.op = Op.box 40 x) (hx : a.eval x = .agg cs)
    (h : ∀ w' b, NewO w w' b cs → wpList Tryz.prog ops Q rest (a.put o.dst (.pointer (some ⟨b, 0, none⟩))) w') : wpList Tryz.prog ops Q (o :: rest) a w := by
  refine wpList_plain hg fun K' hK' => ?_
  unfold Oper.wp
  simp [execOp, hop, hx, Instr.box, Result.andThen, Value.cells]
  exact hK' _ _ (h _ _ ⟨⟨(MapKept.heap_alloc w _).1⟩, (Below.refl _ _).alloc (Nat.le_refl _) _, rfl⟩)
end
end Go.Proofs.YtgcfbjecmmnlhaaGreat

namespace Go.Proofs.YtgcfbjecmmnlhaaGreat
open Go.RowKit Go.Maps Go.ChangeMaps
set_option linter.unusedVariables false
set_option linter.unusedSimpArgs false
set_option maxRecDepth 100000

section
variable {B l k db run r r' sure lo p n psure prun : Nat} {w w' w0 wx : World} {S S' : Dk} {fs gs ss : List ByteArray} {v av u : Value} {a a1 a2 : Option Addr} {c c1 c2 : Nat} {kd m kp : Int} {s s' : Sc} {I T I' T' : Value}
/-- What a call leaves: a log and its plain record. -/
structure Pz (B : Nat) (w0 w : World) (k : Nat) (db p : Nat) (run : Nat) (e : Ending) : Prop where
  ex : ∃ l S a c run' fs sure, e = .returned (.tuple #[.pointer (some ⟨l, 0, none⟩), .bool true]) ∧ Py B w l k S db p a c run' fs sure ∧ run' ≤ run ∧ Below B w0 w
theorem Py.up_ (h : Py B w l k S db p a c run fs sure) : Calls Tryz.prog 44 #[.pointer (some ⟨db, 0, none⟩)] w fun e w' => e = .returned (.bool true) ∧ w' = w := by
  have := h.lv.lx.d.up
  rw [h.lv.up] at this
  exact this
theorem Px.up_ (h : Px B w l k S db p a c run fs sure gs psure prun) : Calls Tryz.prog 44 #[.pointer (some ⟨db, 0, none⟩)] w fun e w' => e = .returned (.bool true) ∧ w' = w := by
  have := h.lv.lx.d.up
  rw [h.lv.up] at this
  exact this
theorem Pd.up_ (h : Pd B w k S db p a c r run fs lo) (hu : S.up = false) : Calls Tryz.prog 44 #[.pointer (some ⟨db, 0, none⟩)] w fun e w' => e = .returned (.bool false) ∧ w' = w := by
  have := h.d.up
  rw [hu] at this
  exact this
set_option maxHeartbeats 8000000 in
theorem flush_near (h : Py B w l k S db p a c run fs sure) (hm : m < (off fs sure : Int) + 1) : Calls Tryz.prog 12 #[.pointer (some ⟨db, 0, none⟩), .pointer (some ⟨l, 0, none⟩), .pointer (some ⟨p, 0, none⟩), .agg (opA 3 m s I T s' I' T' kp)] w fun e w' => Pz B w w' k db p run e := by
  have hsz := h.size
  have hof := off_mono (l := fs) h.lv.hs
  rw [off_all] at hof
  have hsu := h.lv.hs
  have CN : Hid (∀ wx, Py B wx l k S db p a c run fs sure → Calls Tryz.prog 43 #[.pointer (some ⟨l, 0, none⟩), .int .i64 m] wx fun e w' => e = .returned (.int .i64 0) ∧ w' = wx) := fun wx q => q.need_near m hm
  have CU : Hid (∀ wx, Py B wx l k S db p a c run fs sure → Calls Tryz.prog 44 #[.pointer (some ⟨db, 0, none⟩)] wx fun e w' => e = .returned (.bool true) ∧ w' = wx) := fun wx q => q.up_
  have CZ : Hid (∀ wx, Py B wx l k S db p a c run fs sure → Calls Tryz.prog 33 #[.pointer (some ⟨p, 0, none⟩), .int .i64 (sure : Int)] wx fun e w' => e = .returned (.int .i64 (off fs sure : Int)) ∧ w' = wx) := fun wx q => q.psz sure hsu
  have d0 : (0 : Int) ≤ (off fs sure : Int) := by omega
  have d1 : (off fs sure : Int) ≤ 1740 := by omega
  have hle := h.le
  generalize (off fs sure : Int) = D at *
  have x1 : IntKind.i64.wrap (1 + D) = 1 + D := by rw [IntKind.wrap_i64]; omega
  have y1 : RowKit.wrap64 (1 + D) = 1 + D := (IntWalk.i64_left _).symm.trans x1
  have hm2 : m < 1 + D := by omega
  clear hsz hof hsu hm
  go_enter Tryz.func12, Tryz.ntmps12
  go_wp2_with (refine wpList_box_op (cs := opA 3 m s I T s' I' T' kp) _ rfl _ rfl rfl ?_; intro w1 b1 N1)
  have H1 : Hid _ := h.below N1.below
  have O1 := N1.ob
  have bb0 := N1.below
  have q1 := H1.out.pf.pp.c1
  have o0 := O1.c0
  have o1 := O1.c1
  clear N1 h
  go_quiet ((go_at_call 33; exact Calls.quiet_of_same (CZ.out _ (H1.out.below (Sm.below_dr (Below.refl _ _) _)))))
  have h1 := H1.out.below (Sm.below_dr (Below.refl _ _) nq)
  have O2 := O1.below (Sm.below_dr (Below.refl _ _) nq)
  have bb := bb0.trans ((Sm.below_dr (Below.refl w1.heap.size w1) nq).mono bb0.size)
  clear H1 O1 bb0 q1 CZ
  have O1 := O2
  clear O2
  go_wp2_with (first
    | (go_at_call 43; refine (CN.out _ h1).mono ?_; rintro e wq ⟨rfl, rfl⟩)
    | (go_at_call 44; refine (CU.out _ h1).mono ?_; rintro e wq ⟨rfl, rfl⟩))
  go_ret2
  exact ⟨_, _, _, _, _, _, _, rfl, h1, Nat.le_refl _, bb.mono hle⟩
set_option maxHeartbeats 8000000 in
theorem flush_far (h : Py B w l k S db p a c run fs sure) (hk : k ≤ 28000) (hr : run + 1 ≤ 4294967295) (x0 : 0 ≤ kp) (x1 : kp ≤ 18446744073709551615) (hm : ¬ m < (off fs sure : Int) + 1) : Calls Tryz.prog 12 #[.pointer (some ⟨db, 0, none⟩), .pointer (some ⟨l, 0, none⟩), .pointer (some ⟨p, 0, none⟩), .agg (opA 3 m s I T s' I' T' kp)] w fun e w' => Pz B w w' (k + 63) db p (run + 1) e := by
  have hsz := h.size
  have hof := off_mono (l := fs) h.lv.hs
  rw [off_all] at hof
  have hsu := h.lv.hs
  have CN : Hid (∀ wx, Py B wx l k S db p a c run fs sure → Calls Tryz.prog 43 #[.pointer (some ⟨l, 0, none⟩), .int .i64 m] wx fun e w' => ∃ y, e = .returned (.int .i64 y) ∧ ∃ S', Kp isA B wx w' ∧ ((y = 0 ∧ S'.up = true ∧ Px B w' l (k + 31) S' db p a c run fs fs.length fs sure run) ∨ (y = 9 ∧ S'.up = false ∧ Pd B w' (k + 31) S' db p a c run run fs sure))) := fun wx q => q.need_far (by omega) m hm
  have CA : Hid (∀ wx S', Pd B wx (k + 31) S' db p a c run run fs sure → Calls Tryz.prog 13 #[.pointer (some ⟨db, 0, none⟩), .pointer (some ⟨p, 0, none⟩), .int .u64 kp] wx fun e w' => ∃ l' S' j, e = .returned (.tuple #[.pointer (some ⟨l', 0, none⟩), .bool true]) ∧ Py B w' l' (k + 63) S' db p a c (run + 1) (fs.take j) j ∧ Below B wx w') := fun wx S' q => again_any q (by omega) hr kp x0 x1
  have CZ : Hid (∀ wx, Py B wx l k S db p a c run fs sure → Calls Tryz.prog 33 #[.pointer (some ⟨p, 0, none⟩), .int .i64 (sure : Int)] wx fun e w' => e = .returned (.int .i64 (off fs sure : Int)) ∧ w' = wx) := fun wx q => q.psz sure hsu
  have d0 : (0 : Int) ≤ (off fs sure : Int) := by omega
  have d1 : (off fs sure : Int) ≤ 1740 := by omega
  have hle := h.le
  generalize (off fs sure : Int) = D at *
  have x1 : IntKind.i64.wrap (1 + D) = 1 + D := by rw [IntKind.wrap_i64]; omega
  have y1 : RowKit.wrap64 (1 + D) = 1 + D := (IntWalk.i64_left _).symm.trans x1
  have hm3 : decide (m < 1 + D) = false := by simp; omega
  clear hsz hof hsu hr hk
  go_enter Tryz.func12, Tryz.ntmps12
  go_wp2_with (refine wpList_box_op (cs := opA 3 m s I T s' I' T' kp) _ rfl _ rfl rfl ?_; intro w1 b1 N1)
  have H1 : Hid _ := h.below N1.below
  have O1 := N1.ob
  have bb0 := N1.below
  have q1 := H1.out.pf.pp.c1
  have o0 := O1.c0
  have o1 := O1.c1
  clear N1 h
  go_quiet ((go_at_call 33; exact Calls.quiet_of_same (CZ.out _ (H1.out.below (Sm.below_dr (Below.refl _ _) _)))))
  skip
  have h1 := H1.out.below (Sm.below_dr (Below.refl _ _) nq)
  have O2 := O1.below (Sm.below_dr (Below.refl _ _) nq)
  have bb := bb0.trans ((Sm.below_dr (Below.refl w1.heap.size w1) nq).mono bb0.size)
  clear H1 O1 bb0 q1 CZ
  have O1 := O2
  clear O2
  go_wp2_with (first
    | (go_at_call 43; refine (CN.out _ h1).mono ?_; clear CN h1; rintro e w3 ⟨y, rfl, S3, k3, hor⟩; have O3 := O1.kept k3; have o28 := O3.c28; rcases hor with ⟨rfl, u3, h3⟩ | ⟨rfl, u3, h3⟩ <;> (have p0 := h3.pf.pp.c0; have p1 := h3.pf.pp.c1; have g1 := h3.pf.pp.f 1))
    | (go_at_call 44; refine (h3.up_).mono ?_; rintro e wq ⟨rfl, rfl⟩)
    | (go_at_call 44; refine (h3.up_ u3).mono ?_; rintro e wq ⟨rfl, rfl⟩)
    | (go_at_call 13; refine (CA.out _ _ h3).mono ?_; rintro e w5 ⟨l5, S5, j5, rfl, h5, b5⟩))
  all_goals first
    | (go_ret2
       exact ⟨_, _, _, _, _, _, _, rfl, (h3.note.1).mono (by omega), by omega, ((bb.mono hle).trans k3.bel).trans h3.note.2⟩)
    | (go_ret2
       exact ⟨_, _, _, _, _, _, _, rfl, h5, Nat.le_refl _, ((bb.mono hle).trans k3.bel).trans b5⟩)
set_option maxHeartbeats 8000000 in
theorem flush_all (h : Py B w l k S db p a c run fs sure) (hk : k ≤ 28000) (hr : run + 1 ≤ 4294967295) (x0 : 0 ≤ kp) (x1 : kp ≤ 18446744073709551615)  : Calls Tryz.prog 12 #[.pointer (some ⟨db, 0, none⟩), .pointer (some ⟨l, 0, none⟩), .pointer (some ⟨p, 0, none⟩), .agg (opA 2 m s I T s' I' T' kp)] w fun e w' => Pz B w w' (k + 63) db p (run + 1) e := by
  have hsz := h.size
  have hof := off_mono (l := fs) h.lv.hs
  rw [off_all] at hof
  have hsu := h.lv.hs
  have CN : Hid (∀ wx, Py B wx l k S db p a c run fs sure → Calls Tryz.prog 21 #[.pointer (some ⟨l, 0, none⟩)] wx fun e w' => ∃ y, e = .returned (.int .i64 y) ∧ ∃ S', Kp isA B wx w' ∧ ((y = 0 ∧ S'.up = true ∧ Px B w' l (k + 31) S' db p a c run fs fs.length fs sure run) ∨ (y = 9 ∧ S'.up = false ∧ Pd B w' (k + 31) S' db p a c run run fs sure))) := fun wx q => q.flush (by omega)
  have CA : Hid (∀ wx S', Pd B wx (k + 31) S' db p a c run run fs sure → Calls Tryz.prog 13 #[.pointer (some ⟨db, 0, none⟩), .pointer (some ⟨p, 0, none⟩), .int .u64 kp] wx fun e w' => ∃ l' S' j, e = .returned (.tuple #[.pointer (some ⟨l', 0, none⟩), .bool true]) ∧ Py B w' l' (k + 63) S' db p a c (run + 1) (fs.take j) j ∧ Below B wx w') := fun wx S' q => again_any q (by omega) hr kp x0 x1
  have CZ : Hid (∀ wx, Py B wx l k S db p a c run fs sure → Calls Tryz.prog 33 #[.pointer (some ⟨p, 0, none⟩), .int .i64 (sure : Int)] wx fun e w' => e = .returned (.int .i64 (off fs sure : Int)) ∧ w' = wx) := fun wx q => q.psz sure hsu
  have d0 : (0 : Int) ≤ (off fs sure : Int) := by omega
  have d1 : (off fs sure : Int) ≤ 1740 := by omega
  have hle := h.le
  generalize (off fs sure : Int) = D at *
  have x1 : IntKind.i64.wrap (1 + D) = 1 + D := by rw [IntKind.wrap_i64]; omega
  have y1 : RowKit.wrap64 (1 + D) = 1 + D := (IntWalk.i64_left _).symm.trans x1
  skip
  clear hsz hof hsu hr hk
  go_enter Tryz.func12, Tryz.ntmps12
  go_wp2_with (refine wpList_box_op (cs := opA 2 m s I T s' I' T' kp) _ rfl _ rfl rfl ?_; intro w1 b1 N1)
  have H1 : Hid _ := h.below N1.below
  have O1 := N1.ob
  have bb0 := N1.below
  have q1 := H1.out.pf.pp.c1
  have o0 := O1.c0
  have o1 := O1.c1
  clear N1 h
  go_quiet ((go_at_call 33; exact Calls.quiet_of_same (CZ.out _ (H1.out.below (Sm.below_dr (Below.refl _ _) _)))))
  skip
  have h1 := H1.out.below (Sm.below_dr (Below.refl _ _) nq)
  have O2 := O1.below (Sm.below_dr (Below.refl _ _) nq)
  have bb := bb0.trans ((Sm.below_dr (Below.refl w1.heap.size w1) nq).mono bb0.size)
  clear H1 O1 bb0 q1 CZ
  have O1 := O2
  clear O2
  go_wp2_with (first
    | (go_at_call 21; refine (CN.out _ h1).mono ?_; clear CN h1; rintro e w3 ⟨y, rfl, S3, k3, hor⟩; have O3 := O1.kept k3; have o28 := O3.c28; rcases hor with ⟨rfl, u3, h3⟩ | ⟨rfl, u3, h3⟩ <;> (have p0 := h3.pf.pp.c0; have p1 := h3.pf.pp.c1; have g1 := h3.pf.pp.f 1))
    | (go_at_call 44; refine (h3.up_).mono ?_; rintro e wq ⟨rfl, rfl⟩)
    | (go_at_call 44; refine (h3.up_ u3).mono ?_; rintro e wq ⟨rfl, rfl⟩)
    | (go_at_call 13; refine (CA.out _ _ h3).mono ?_; rintro e w5 ⟨l5, S5, j5, rfl, h5, b5⟩))
  all_goals first
    | (go_ret2
       exact ⟨_, _, _, _, _, _, _, rfl, (h3.note.1).mono (by omega), by omega, ((bb.mono hle).trans k3.bel).trans h3.note.2⟩)
    | (go_ret2
       exact ⟨_, _, _, _, _, _, _, rfl, h5, Nat.le_refl _, ((bb.mono hle).trans k3.bel).trans b5⟩)
end
end Go.Proofs.YtgcfbjecmmnlhaaGreat
