/- The laws' disk of 40 sectors and store of 8 pages from sector 5 on, as ONE predicate, and its calls' contracts. -/
import Derived.Test.YtdgnfglghiecpaaStQ
namespace Go.Proofs.Ytdgnfglghiecpaa
open Go.RowKit Go.Maps Go.ChangeMaps
set_option linter.unusedVariables false
set_option linter.unusedSimpArgs false
set_option maxRecDepth 100000

structure Sx (W w : World) (db sb g k : Nat) (S : Dk) : Prop where
  dsk : ∃ lb mb m, DkIs w db lb mb m S ∧ m ≤ k ∧ W.heap.size ≤ lb ∧ W.heap.size ≤ mb ∧ ¬ disk3 db lb mb sb
  q : Dq k S
  n : S.n = 40
  g1 : 1 ≤ g
  g2 : g ≤ 65535
  st : StIs w sb db 5 8 g
  hd : W.heap.size ≤ db
  bel : Below W.heap.size W w

variable {W w w' : World} {db sb g k : Nat} {S : Dk}

theorem Sx.below (h : Sx W w db sb g k S) (hb : Below w.heap.size w w') : Sx W w' db sb g k S := by
  obtain ⟨lb, mb, m, h1, h2, h3, h4, h5⟩ := h.dsk
  exact ⟨⟨lb, mb, m, h1.below hb, h2, h3, h4, h5⟩, h.q, h.n, h.g1, h.g2, h.st.below hb, h.hd, h.bel.trans (hb.mono h.bel.size)⟩
theorem Sx.drew (h : Sx W w db sb g k S) : Sx W w.drew db sb g k S := h.below ((Below.refl _ _).drew)
theorem Sx.mono {k' : Nat} (h : Sx W w db sb g k S) (hk : k ≤ k') : Sx W w db sb g k' S := by
  obtain ⟨lb, mb, m, h1, h2, h3, h4, h5⟩ := h.dsk
  exact ⟨⟨lb, mb, m, h1, by omega, h3, h4, h5⟩, h.q.mono hk, h.n, h.g1, h.g2, h.st, h.hd, h.bel⟩
theorem Sx.turn {lb mb m' k' : Nat} {S' : Dk} (h : Sx W w db sb g k S) (h3 : W.heap.size ≤ lb) (h4 : W.heap.size ≤ mb) (h5 : ¬ disk3 db lb mb sb) (ho : Off (disk3 db lb mb) w w') (hd : DkIs w' db lb mb m' S') (hm : m' ≤ k') (hq : Dq k' S') (hn : S'.n = 40) : Sx W w' db sb g k' S' :=
  ⟨⟨lb, mb, m', hd, hm, h3, h4, h5⟩, hq, hn, h.g1, h.g2, h.st.off ho h5, h.hd, h.bel.trans (ho.below (fun j hj => by rcases hj with rfl | rfl | rfl; exact h.hd; exact h3; exact h4) h.bel.size)⟩
theorem stOut_q {b p g k : Nat} (h : Dq k S) (hk : k ≤ 90000) (id : Int) (t : ByteArray) (l : Int) : Dq (k + 4) (stOut b p g S id t l).1 := by
  unfold stOut
  split
  · exact h.mono (by omega)
  · split
    · exact h.mono (by omega)
    · split
      · exact h.mono (by omega)
      · exact wrK_dq h hk 4 (Nat.le_refl _)
theorem stOut_n (b p g : Nat) (S : Dk) (id : Int) (t : ByteArray) (l : Int) : (stOut b p g S id t l).1.n = S.n := by
  unfold stOut
  split
  · rfl
  · split
    · rfl
    · split
      · rfl
      · exact wrK_n _ _ _ _
theorem Sx.write (h : Sx W w db sb g k S) (hk : k ≤ 10000) (id : Int) (t : ByteArray) (ht : t.size ≤ 140737488351232) (l : Int) : Calls Try.prog 15 #[.pointer (some ⟨sb, 0, none⟩), .int .i64 id, .string t, .int .i64 l] w fun e w' =>
    e = .returned (.int .i64 (stOut 5 8 g S id t l).2) ∧ Sx W w' db sb g (k + 4) (stOut 5 8 g S id t l).1 := by
  obtain ⟨lb, mb, m, h1, h2, h3, h4, h5⟩ := h.dsk
  refine (StWrite_any w h.st h1 h.q (by omega) (by omega) h5 (by omega) h.g2 id t ht l).mono ?_
  rintro e w' ⟨he, hd, ho⟩
  exact ⟨he, h.turn h3 h4 h5 ho hd (by omega) (stOut_q h.q (by omega) id t l) ((stOut_n _ _ _ _ _ _ _).trans h.n)⟩
theorem Sx.read (h : Sx W w db sb g k S) (hu : S.up = true) (id : Int) : Calls Try.prog 19 #[.pointer (some ⟨sb, 0, none⟩), .int .i64 id] w fun e w' =>
    e = .returned (.tuple #[.string (rdOut 5 8 g S id).1, .int .i64 (rdOut 5 8 g S id).2.1, .int .i64 (rdOut 5 8 g S id).2.2]) ∧ Sx W w' db sb g k S := by
  obtain ⟨lb, mb, m, h1, h2, h3, h4, h5⟩ := h.dsk
  refine (StRead_any w h.st h1 h.q.ok hu (by rw [h.n]; omega) id).mono ?_
  rintro e w' ⟨he, hb⟩
  exact ⟨he, h.below hb⟩
theorem Sx.is (h : Sx W w db sb g k S) (hu : S.up = true) (id l : Int) : Calls Try.prog 20 #[.pointer (some ⟨sb, 0, none⟩), .int .i64 id, .int .i64 l] w fun e w' =>
    e = .returned (.bool ((rdOut 5 8 g S id).2.2 == 0 && (rdOut 5 8 g S id).2.1 == l)) ∧ Sx W w' db sb g k S := by
  obtain ⟨lb, mb, m, h1, h2, h3, h4, h5⟩ := h.dsk
  refine (StIs_any w h.st h1 h.q.ok hu (by rw [h.n]; omega) id l).mono ?_
  rintro e w' ⟨he, hb⟩
  exact ⟨he, h.below hb⟩
theorem Sx.sync (h : Sx W w db sb g k S) (hk : k ≤ 10000) : Calls Try.prog 24 #[.pointer (some ⟨sb, 0, none⟩)] w fun e w' =>
    e = .returned (.int .i64 (syncE S)) ∧ Sx W w' db sb g (k + 1) (syncDk S) := by
  obtain ⟨lb, mb, m, h1, h2, h3, h4, h5⟩ := h.dsk
  refine (StSync_any w h.st h1 h.q.ok (by omega)).mono ?_
  rintro e w' ⟨he, hd, ho⟩
  exact ⟨he, h.turn h3 h4 h5 ho hd (by omega) (h.q.sync (by omega)) ((syncDk_n _).trans h.n)⟩
def crE (S : Dk) : Int := if S.up then 0 else 9
def crDk (S : Dk) (x : Int) : Dk := if S.up then offDk S x else S
theorem Sx.crash (h : Sx W w db sb g k S) (hk : k ≤ 10000) (x : Int) (x0 : 0 ≤ x) (x1 : x ≤ 18446744073709551615) : Calls Try.prog 25 #[.pointer (some ⟨db, 0, none⟩), .int .u64 x] w fun e w' =>
    e = .returned (.int .i64 (crE S)) ∧ Sx W w' db sb g (k + 1) (crDk S x) := by
  obtain ⟨lb, mb, m, h1, h2, h3, h4, h5⟩ := h.dsk
  cases hu : S.up
  · have e1 : crE S = 9 := by simp [crE, hu]
    have e2 : crDk S x = S := by simp [crDk, hu]
    rw [e1, e2]
    refine (Crash_ref w h1 h.q.ok.n1 hu x).mono ?_
    rintro e w' ⟨he, rfl⟩
    exact ⟨he, h.mono (by omega)⟩
  · have e1 : crE S = 0 := by simp [crE, hu]
    have e2 : crDk S x = offDk S x := by simp [crDk, hu]
    rw [e1, e2]
    refine (Crash_any w h1 h.q.ok (by omega) hu x x0 x1).mono ?_
    rintro e w' ⟨he, hd, ho⟩
    exact ⟨he, h.turn h3 h4 h5 ho hd (by omega) (h.q.off (by omega) x) h.n⟩
theorem Sx.start (h : Sx W w db sb g k S) : Calls Try.prog 27 #[.pointer (some ⟨db, 0, none⟩)] w fun e w' =>
    e = .returned (.int .i64 (if S.up then 19 else 0)) ∧ Sx W w' db sb g k { S with up := true } := by
  obtain ⟨lb, mb, m, h1, h2, h3, h4, h5⟩ := h.dsk
  refine (Start_any w h1 h.q.ok.n1).mono ?_
  rintro e w' ⟨he, hd, ho⟩
  exact ⟨he, h.turn h3 h4 h5 ho hd h2 (h.q.up true) h.n⟩
def calmDk (S : Dk) : Dk := { S with set := false, left := 0, keep := 0 }
theorem Sx.calm (h : Sx W w db sb g k S) : Calls Try.prog 26 #[.pointer (some ⟨db, 0, none⟩)] w fun e w' =>
    e = .returned (.tuple #[]) ∧ Sx W w' db sb g k (calmDk S) := by
  obtain ⟨lb, mb, m, h1, h2, h3, h4, h5⟩ := h.dsk
  refine (Calm_any w h1 h.q.ok.n1).mono ?_
  rintro e w' ⟨he, hd, ho⟩
  have o := h.q.ok
  exact ⟨he, h.turn h3 h4 h5 ho hd h2 ⟨⟨o.n1, o.n2, o.wait, by simp [calmDk], by simp [calmDk], by simp [calmDk], by simp [calmDk], o.a0, o.a1, o.d0, o.d1⟩, h.q.acts, h.q.downs⟩ h.n⟩
theorem Sx.arm (h : Sx W w db sb g k S) (i x : Int) (i1 : i ≤ 9223372036854775807) (x0 : 0 ≤ x) (x1 : x ≤ 18446744073709551615) : Calls Try.prog 22 #[.pointer (some ⟨db, 0, none⟩), .int .i64 i, .int .u64 x] w fun e w' =>
    e = .returned (.int .i64 (armE S.up i)) ∧ Sx W w' db sb g k (armDk S i x) := by
  obtain ⟨lb, mb, m, h1, h2, h3, h4, h5⟩ := h.dsk
  refine (Arm_any w h1 h.q.ok.n1 i x).mono ?_
  rintro e w' ⟨he, hd, ho⟩
  have o := h.q.ok
  refine ⟨he, h.turn h3 h4 h5 ho hd h2 ?_ ?_⟩
  · unfold armDk
    split
    · rename_i hi
      exact ⟨⟨o.n1, o.n2, o.wait, by dsimp only; omega, i1, x0, x1, o.a0, o.a1, o.d0, o.d1⟩, h.q.acts, h.q.downs⟩
    · exact h.q
  · unfold armDk
    split
    · exact h.n
    · exact h.n
theorem Sx.dread (h : Sx W w db sb g k S) (hu : S.up = true) (i : Nat) (hi : i < 40) : Calls Try.prog 17 #[.pointer (some ⟨db, 0, none⟩), .int .i64 (i : Int)] w fun e w' =>
    e = .returned (.tuple #[.string (S.now i), .int .i64 0]) ∧ Sx W w' db sb g k S := by
  obtain ⟨lb, mb, m, h1, h2, h3, h4, h5⟩ := h.dsk
  refine (Read_any w h1 h.q.ok i (by rw [h.n]; exact hi) hu).mono ?_
  rintro e w' ⟨he, hb⟩
  exact ⟨he, h.below hb⟩
theorem Sx.dwrite (h : Sx W w db sb g k S) (hk : k ≤ 10000) (i : Int) (s : ByteArray) (hs : s.size ≤ 9223372036854775807) : Calls Try.prog 21 #[.pointer (some ⟨db, 0, none⟩), .int .i64 i, .string s] w fun e w' =>
    e = .returned (.int .i64 (writeE S i s)) ∧ Sx W w' db sb g (k + 1) (writeDk S i s) := by
  obtain ⟨lb, mb, m, h1, h2, h3, h4, h5⟩ := h.dsk
  refine (Write_any w h1 h.q.ok (by omega) i s hs).mono ?_
  rintro e w' ⟨he, hd, ho⟩
  exact ⟨he, h.turn h3 h4 h5 ho hd (by omega) (h.q.write (by omega) i s) ((writeDk_n _ _ _).trans h.n)⟩
theorem Sx.waiting (h : Sx W w db sb g k S) (hk : k ≤ 10000) : Calls Try.prog 16 #[.pointer (some ⟨db, 0, none⟩)] w fun e w' =>
    ∃ (a : Option Addr) (cap : Nat), e = .returned (.slice a S.waitL.length cap) ∧ Sx W w' db sb g k S := by
  obtain ⟨lb, mb, m, h1, h2, h3, h4, h5⟩ := h.dsk
  refine (Waiting_any w h1 h.q.ok (by omega)).mono ?_
  rintro e w' ⟨a, gg, cap, he, _, _, _, hb⟩
  exact ⟨a, cap, he, h.below hb⟩
theorem Sx.size {k' : Nat} (h : Sx W w db sb g k S) (j : Nat) (hj : j < 40) : (S.now j).size = 64 := by
  obtain ⟨lb, mb, m, h1, h2, h3, h4, h5⟩ := h.dsk
  unfold Dk.now
  cases hw : S.wait j with
  | none => exact h1.row.size _ (by rw [h.n]; exact hj)
  | some c => exact (h.q.ok.wait _ c hw).2
end Go.Proofs.Ytdgnfglghiecpaa
