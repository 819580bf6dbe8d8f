/- BaseStarts: the law's disk and base between two calls, as one predicate, and its calls. -/
import Derived.Test.YtljedbakdlhlbaaBsEw
namespace Go.Proofs.Ytljedbakdlhlbaa
open Go.RowKit
set_option linter.unusedVariables false
set_option linter.unusedSimpArgs false
set_option maxRecDepth 100000

/-- Numbers that a law is handed, as they lie in memory. -/
structure NsV (w : World) (a : Option Addr) (n : Nat) (is : List Int) : Prop where
  len : is.length = n
  at_ : ∀ i, (h : i < is.length) → ∃ g o, a = some ⟨g, o, none⟩ ∧ g < w.heap.size ∧ w.cell? ⟨g, o + i, none⟩ = some (.int .i64 is[i])
section
variable {H : Type} {enc : TypeId × Value → H} {w : World}
theorem open_ints {fuel : Nat} {a0 : Option Addr} {n0 c0 : Nat} {x : DataW H × List MemPlace} (h : DataW.trod enc Try.prog w 0 (fun _ => true) true fuel 33 [.slice a0 n0 c0] = some x) :
    ∃ is, NsV w a0 n0 is ∧ n0 ≤ 9223372036854775807 := by
  rcases Go.Deep.open_slice Try.underlying33 h with ⟨hcs, _⟩ | ⟨ad, len, cap, m, n, D, Pl, hcs, _, hl, hm, hmm, _, hall⟩
  · simp at hcs
    obtain ⟨rfl, rfl, rfl⟩ := hcs
    exact ⟨[], ⟨rfl, fun i hi => absurd hi (Nat.not_lt_zero _)⟩, by omega⟩
  · simp at hcs
    obtain ⟨rfl, rfl, rfl⟩ := hcs
    rw [if_pos rfl] at hmm
    subst hmm
    have h3 : Try.prog.cellsOf 3 = 1 := by kernel_rfl
    have each : ∀ i, i < m → ∃ q : Int, w.cell? (ad.add i) = some (.int .i64 q) := by
      intro i hi
      obtain ⟨cs', g1, g2⟩ := hall i hi
      rw [h3] at g1
      obtain ⟨_, hlen, hcell⟩ := World.cells?_some g1
      match cs', hlen with
      | [v0], _ =>
        have e0 := hcell 0 (by omega)
        rw [Go.Deep.add_add] at e0
        obtain ⟨s1, i1, _, _⟩ := DataW.trod_int Try.underlying3 g2
        simp at i1
        subst i1
        exact ⟨s1, by simpa using e0⟩
    obtain ⟨q, hq⟩ := Go.Deep.choose_lt each
    obtain ⟨b, off, spot⟩ := ad
    refine ⟨(List.range n0).map q, ⟨by simp, fun i hi => ?_⟩, by have : n0 ≤ m := hl; have := hm; unfold maxLen at this; omega⟩
    have hi' : i < n0 := by simpa using hi
    have hlm : n0 ≤ m := hl
    have hsp : spot = none := by
      have g0 := hq 0 (by omega)
      simpa [Addr.add] using World.cell?_spot g0
    subst hsp
    have hadd : ∀ k, (⟨b, off, none⟩ : Addr).add k = ⟨b, off + k, none⟩ := fun k => by unfold Addr.add; split <;> simp_all
    have hget : ((List.range n0).map q)[i] = q i := by simp
    rw [hget]
    have hc := hq i (by omega)
    rw [hadd] at hc
    refine ⟨b, off, rfl, ?_, hc⟩
    rcases Nat.lt_or_ge b w.heap.size with h' | h'
    · exact h'
    · simp [World.cell?, Array.getElem?_eq_none h'] at hc
end
def Bs.at (s : Bs) (L : Int) : Bs := { s with bt := L }
theorem Bs.at_next (s : Bs) (L : Int) : (s.at L).next = s.at (L + 1) := rfl
theorem Bs.at_self (s : Bs) : s.at s.bt = s := rfl
theorem fit_at {s : Bs} (h : Fit s) {L : Int} (h0 : 0 ≤ L) (h1 : L ≤ 2000) : Fit (s.at L) := by
  obtain ⟨q1, q2, q3, q4, q5, q6, q7⟩ := (fit_iff s).1 h
  have : Pk.limI 4 = 4294967296 := by decide
  exact (fit_iff _).2 ⟨q1, ⟨h0, by rw [this]; show L < _; omega⟩, q3, q4, q5, q6, q7⟩
/-- The law's disk and base. -/
structure Q9 (w wr : World) (b0 db B k : Nat) (s : Bs) (F : Dk → Prop) : Prop where
  dsk : ∃ S, Ds B wr db k S ∧ F S
  own : BsAt wr b0 s
  bel : Below w.heap.size w wr
  B0 : w.heap.size ≤ B
section
variable {w wr w' : World} {b0 db B k : Nat} {s : Bs} {F G : Dk → Prop} {L z x : Int}
theorem Q9.below (h : Q9 w wr b0 db B k s F) (hb : Below wr.heap.size wr w') : Q9 w w' b0 db B k s F := by
  obtain ⟨S, d, f⟩ := h.dsk
  exact ⟨⟨S, d.below hb, f⟩, h.own.below hb, thn h.bel hb, h.B0⟩
/-- A base of the law's own is laid. -/
theorem Q9.putB {b : Nat} {t t' : Bs} (h : Q9 w wr b0 db B k s F) (h0 : BsAt wr b t) (p : PutB wr w' b t') (hn : b0 ≠ b) (hb : w.heap.size ≤ b) : Q9 w w' b0 db B k s F := by
  obtain ⟨S, d, f⟩ := h.dsk
  exact ⟨⟨S, d.putB h0 p, f⟩, h.own.off p.off hn, h.bel.trans (p.below hb h.bel.size), h.B0⟩
/-- A new one. -/
theorem Q9.newB {w1 w2 : World} {b : Nat} {t : Bs} (h : Q9 w wr b0 db B k s F) (N : NewB wr w1 b Bs.zero) (p : PutB w1 w2 b t) : Q9 w w2 b0 db B k s F := by
  have h1 := h.below N.below
  have e := N.eq
  have l := h.own.lt
  have z := h.bel.size
  exact h1.putB N.rc p (by omega) (by omega)
theorem Q9.arm (h : Q9 w wr b0 db B k s (fun S => Sv S (s.at L))) (hz : z = 0 ∨ z = 1) (x0 : 0 ≤ x) (x1 : x ≤ 18446744073709551615) : Calls Try.prog 16 #[.pointer (some ⟨db, 0, none⟩), .int .i64 z, .int .u64 x] wr fun e w' => e = .returned (.int .i64 0) ∧ Q9 w w' b0 db B k s (fun S' => ∃ S, Sv S (s.at L) ∧ S' = armDk S z x) := by
  obtain ⟨S, d, f⟩ := h.dsk
  have := d.arm z x (by omega) x0 x1
  rw [arm_ok f.qt hz] at this
  refine this.mono ?_
  rintro e w' ⟨rfl, d', kp⟩
  exact ⟨rfl, ⟨_, d', S, f, rfl⟩, h.own.kp kp, h.bel.trans (kp.bel.mono h.B0), h.B0⟩
theorem Q9.startA (h : Q9 w wr b0 db B k s (fun S' => ∃ S, Sv S (s.at L) ∧ S' = armDk S z x)) (hk : k ≤ 1000) (hz : z = 0 ∨ z = 1) (hf : Fit s) (h0 : 0 ≤ L) (h1 : L ≤ 1100) : Calls Try.prog 18 #[.pointer (some ⟨db, 0, none⟩)] wr fun e w' => e = .returned (.tuple #[.agg Bs.zero.A, .int .i64 9]) ∧ Q9 w w' b0 db B (k + 2) s (fun S => S.up = false ∧ (Sv { S with up := true } (s.at L) ∨ Sv { S with up := true } (s.at (L + 1)))) := by
  obtain ⟨S', d, S, f, rfl⟩ := h.dsk
  obtain ⟨t1, t2, t3, t4⟩ := f.armed (b := s.at (L + 1)) (x := x) hz
  have hs : Has ((armDk S z x).now 0) (s.at L) := by rw [arm_now]; exact f.has (fit_at hf h0 (by omega))
  have := Start_has d (by omega) (arm_up f.qt z x) hs (by rw [Bs.at_next]; exact fit_at hf (by omega) (by omega))
  rw [Bs.at_next, t1, if_neg (by decide)] at this
  refine this.mono ?_
  rintro e w' ⟨rfl, d', kp⟩
  exact ⟨rfl, ⟨_, d', t2, t3⟩, h.own.kp kp, h.bel.trans (kp.bel.mono h.B0), h.B0⟩
theorem Q9.up (h : Q9 w wr b0 db B k s (fun S => S.up = false ∧ (Sv { S with up := true } (s.at L) ∨ Sv { S with up := true } (s.at (L + 1))))) : Calls Try.prog 17 #[.pointer (some ⟨db, 0, none⟩)] wr fun e w' => e = .returned (.int .i64 0) ∧ ∃ c, (c = L ∨ c = L + 1) ∧ Q9 w w' b0 db B k s (fun S => Sv S (s.at c)) := by
  obtain ⟨S, d, f, g⟩ := h.dsk
  have := d.start
  rw [f] at this
  refine this.mono ?_
  rintro e w' ⟨rfl, d', kp⟩
  refine ⟨rfl, ?_⟩
  rcases g with g | g
  · exact ⟨L, Or.inl rfl, ⟨_, d', g⟩, h.own.kp kp, h.bel.trans (kp.bel.mono h.B0), h.B0⟩
  · exact ⟨L + 1, Or.inr rfl, ⟨_, d', g⟩, h.own.kp kp, h.bel.trans (kp.bel.mono h.B0), h.B0⟩
theorem Q9.load (h : Q9 w wr b0 db B k s (fun S => Sv S (s.at L))) (hf : Fit s) (h0 : 0 ≤ L) (h1 : L ≤ 1100) : Calls Try.prog 11 #[.pointer (some ⟨db, 0, none⟩)] wr fun e w' => e = .returned (.tuple #[.agg (s.at L).A, .int .i64 0]) ∧ Q9 w w' b0 db B k s (fun S => Sv S (s.at L)) := by
  obtain ⟨S, d, f⟩ := h.dsk
  refine (Load_has d f.qt.up (f.has (fit_at hf h0 (by omega)))).mono ?_
  rintro e w' ⟨rfl, q⟩
  exact ⟨rfl, h.below q⟩
theorem Q9.startQ (h : Q9 w wr b0 db B k s (fun S => Sv S (s.at L))) (hk : k ≤ 1000) (hf : Fit s) (h0 : 0 ≤ L) (h1 : L ≤ 1100) : Calls Try.prog 18 #[.pointer (some ⟨db, 0, none⟩)] wr fun e w' => e = .returned (.tuple #[.agg (s.at (L + 1)).A, .int .i64 0]) ∧ Q9 w w' b0 db B (k + 2) s (fun S => Sv S (s.at (L + 1))) := by
  obtain ⟨S, d, f⟩ := h.dsk
  obtain ⟨s1, s2, s3⟩ := f.qt.save (s := s.at (L + 1)) f.wait
  have := Start_has d (by omega) f.qt.up (f.has (fit_at hf h0 (by omega))) (by rw [Bs.at_next]; exact fit_at hf (by omega) (by omega))
  rw [Bs.at_next, s1, if_pos rfl] at this
  refine this.mono ?_
  rintro e w' ⟨rfl, d', kp⟩
  exact ⟨rfl, ⟨_, d', s2⟩, h.own.kp kp, h.bel.trans (kp.bel.mono h.B0), h.B0⟩
theorem Q9.save0 (h : Q9 w wr b0 db B 0 s (fun S => S = newDk 1)) (hf : Fit s) : Calls Try.prog 9 #[.pointer (some ⟨db, 0, none⟩), .agg s.A] wr fun e w' => e = .returned (.int .i64 0) ∧ Q9 w w' b0 db B 2 s (fun S => Sv S (s.at s.bt)) := by
  obtain ⟨S, d, rfl⟩ := h.dsk
  obtain ⟨s1, s2, s3⟩ := (qt_new 1 (by decide)).save (s := s) (fun _ => rfl)
  have := Save_fit d (by decide) hf
  rw [s1] at this
  refine this.mono ?_
  rintro e w' ⟨rfl, d', kp⟩
  exact ⟨rfl, ⟨_, d', s2⟩, h.own.kp kp, h.bel.trans (kp.bel.mono h.B0), h.B0⟩
theorem Q9.start0 (h : Q9 w wr b0 db B 0 s (fun S => S = newDk 1)) : Calls Try.prog 18 #[.pointer (some ⟨db, 0, none⟩)] wr fun e w' => e = .returned (.tuple #[.agg Bs.zero.A, .int .i64 8]) ∧ Q9 w w' b0 db B 0 s (fun S => S = newDk 1) := by
  obtain ⟨S, d, rfl⟩ := h.dsk
  refine (Start_none d rfl (new_none 1)).mono ?_
  rintro e w' ⟨rfl, q⟩
  exact ⟨rfl, h.below q⟩
end
end Go.Proofs.Ytljedbakdlhlbaa
