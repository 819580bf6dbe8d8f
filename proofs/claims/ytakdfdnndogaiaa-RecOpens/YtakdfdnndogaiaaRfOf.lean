/- The document's Of: what lies in memory. -/
import Derived.Test.YtakdfdnndogaiaaRfChg
import Derived.Test.YtakdfdnndogaiaaRfOfM
import Derived.Test.YtakdfdnndogaiaaRfBdy
import Derived.Test.YtakdfdnndogaiaaRxRdA
import Derived.Deep.RegionHeld3
namespace Go.Proofs.Ytakdfdnndogaiaa
open Go.RowKit
set_option linter.unusedVariables false
set_option linter.unusedSimpArgs false
set_option maxRecDepth 100000

/-- The result, the record that is read, and the document's reader. -/
structure DoS (w wx : World) (b2 b5 b4 : Nat) (s : Sc) (I T : Value) (q : Lf) : Prop where
  r : RcAt wx b2 zS nilV nilV
  c : RcAt wx b5 s I T
  rd : RfS wx b4 q
  bel : Below w.heap.size w wx
  n1 : b2 ≠ b5
  n2 : b2 ≠ b4
  n3 : b4 ≠ b5
  l2 : w.heap.size ≤ b2
  l5 : w.heap.size ≤ b5
  l4 : w.heap.size ≤ b4
theorem RfS.c2 {w : World} {b : Nat} {q : Lf} (h : RfS w b q) : w.cell? ⟨b, 2, none⟩ = some (.int .i64 q.2) := by
  obtain ⟨s, a, hb, _⟩ := h.ex
  exact Joins.cell_of_block hb 2
section
variable {w wx wq : World} {b2 b5 b4 : Nat} {s s' : Sc} {I T I' T' : Value} {q q' : Lf}
theorem DoS.below (h : DoS w wx b2 b5 b4 s I T q) (hb : Below wx.heap.size wx wq) : DoS w wq b2 b5 b4 s I T q := ⟨h.r.below hb, h.c.below hb, h.rd.below hb, thn h.bel hb, h.n1, h.n2, h.n3, h.l2, h.l5, h.l4⟩
theorem DoS.step (h : DoS w wx b2 b5 b4 s I T q) (hr : RfS wq b4 q') (o : Pk.Off b4 wx wq) : DoS w wq b2 b5 b4 s I T q' := ⟨h.r.off o h.n2, h.c.off o (fun e => h.n3 e.symm), hr, h.bel.trans (o.below h.l4 h.bel.size), h.n1, h.n2, h.n3, h.l2, h.l5, h.l4⟩
theorem DoS.put (h : DoS w wx b2 b5 b4 s I T q) (P : PutR wx wq b5 s' I' T') : DoS w wq b2 b5 b4 s' I' T' q := ⟨h.r.off P.off h.n1, P.rc, h.rd.off P.off h.n3, h.bel.trans (P.below h.l5 h.bel.size), h.n1, h.n2, h.n3, h.l2, h.l5, h.l4⟩
theorem DoS.num (h : DoS w wx b2 b5 b4 s I T q) (k : Int) (h1 : 1 ≤ k) (h6 : k ≤ 6) : Calls Try.prog 32 #[.pointer (some ⟨b4, 0, none⟩), .int .i64 k] wx fun r w' => r = .returned (.int .i64 (nN q k)) ∧ DoS w w' b2 b5 b4 s I T (sN q k) :=
  (h.rd.num k h1 h6).mono fun e w' ⟨he, h1, o1⟩ => ⟨he, h.step h1 o1⟩
theorem DoS.num0 {K : Int} (h : DoS w wx b2 b5 b4 s I T q) (k : Int) (h1 : 1 ≤ k) (h6 : k ≤ 6) (hK : nN q k = K) (hq : sN q k = q') : Calls Try.prog 32 #[.pointer (some ⟨b4, 0, none⟩), .int .i64 k] wx fun r w' => r = .returned (.int .i64 K) ∧ DoS w w' b2 b5 b4 s I T q' := by
  rw [← hK, ← hq]; exact h.num k h1 h6
theorem DoS.change (h : DoS w wx b2 b5 b4 s I T q) (hI : I.oneCell' = true) (hT : T.oneCell' = true) (act : Int) : Calls Try.prog 34 #[.pointer (some ⟨b4, 0, none⟩), .agg (s.A I T), .int .i64 act] wx fun e w' => e = .returned (.agg ((rdChg act s q).1.A I T)) ∧ DoS w w' b2 b5 b4 s I T (rdChg act s q).2 :=
  (change_any h.rd hI hT).mono fun e w' ⟨he, h1, o1⟩ => ⟨he, h.step h1 o1⟩
theorem DoS.start {w1 w3 w4 w5 : World} (N1 : NewR w w1 b2 zS nilV nilV) (hr : RfS w3 w1.heap.size q) (hb : Below w1.heap.size w1 w3) (N2 : NewR w3 w4 b5 zS nilV nilV) (P : PutR w4 w5 b5 s I T) : DoS w w5 b2 b5 w1.heap.size s I T q := by
  have e1 := N1.eq
  have e2 := N2.eq
  have z1 := N1.rc.lt
  have z2 := hr.lt
  have z3 := N1.below.size
  have z4 := hb.size
  have n1 : b2 ≠ b5 := by omega
  have n3 : w1.heap.size ≠ b5 := by omega
  have B4 := thn (thn N1.below hb) N2.below
  exact ⟨((N1.rc.below hb).below N2.below).off P.off n1, P.rc, (hr.below N2.below).off P.off n3, B4.trans (P.below (by omega) B4.size), n1, by omega, n3, by omega, by omega, by omega⟩
theorem rd_start {t : ByteArray} (ht : t.size ≤ 140737488351232) (w1 : World) : Calls Try.prog 32 #[.pointer (some ⟨w1.heap.size, 0, none⟩), .int .i64 1] (w1.alloc (.cells #[.string t, .int .i64 0, .int .i64 0] 63)) fun r w' => r = .returned (.int .i64 (nN (t, 0) 1)) ∧ RfS w' w1.heap.size (sN (t, 0) 1) ∧ Below w1.heap.size w1 w' := by
  have h : RfS (w1.alloc (.cells #[.string t, .int .i64 0, .int .i64 0] 63)) w1.heap.size (t, 0) := by
    refine ⟨t, 0, (MapKept.heap_alloc w1 _).1, Nat.zero_le _, ht, fun _ => ?_⟩
    apply ByteArray.ext
    simp [ByteArray.data_extract]
  refine (h.num 1 (by omega) (by omega)).mono ?_
  rintro e w' ⟨he, h1, o1⟩
  have hb : Below w1.heap.size w1 (w1.alloc (.cells #[.string t, .int .i64 0, .int .i64 0] 63)) := (Below.refl _ _).alloc (Nat.le_refl _) _
  exact ⟨he, h1, hb.trans (o1.below (Nat.le_refl _) hb.size)⟩
end
end Go.Proofs.Ytakdfdnndogaiaa
