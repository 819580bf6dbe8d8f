/- What calls of disks leave alone, told by the types of blocks; a disk that a call owns, as ONE predicate, and its calls' contracts. -/
import Derived.Test.YtljedbakdlhlbaaDkQ
import Derived.Lib.FrozenHead
namespace Go.Proofs.Ytljedbakdlhlbaa
open Go.RowKit Go.Maps Go.ChangeMaps
set_option linter.unusedVariables false
set_option linter.unusedSimpArgs false
set_option maxRecDepth 100000

/-- Blocks that a disk's calls turn. -/
def isD : Obj → Prop
  | .cells _ t _ => t = 54 ∨ t = 65
  | .map _ _ => True
  | _ => False
/-- From B on only blocks of the kinds A are turned. -/
structure Kp (A : Obj → Prop) (B : Nat) (w w' : World) : Prop where
  bel : Below B w w'
  block : ∀ (k : Nat) (o : Obj), w.heap[k]? = some o → ¬ A o → w'.heap[k]? = some o
section
variable {A A' : Obj → Prop} {B : Nat} {w w' w1 w2 : World}
theorem Kp.refl (A : Obj → Prop) (B : Nat) (w : World) : Kp A B w w := ⟨Below.refl _ _, fun _ _ h _ => h⟩
theorem Kp.trans (h : Kp A B w w1) (k : Kp A B w1 w2) : Kp A B w w2 := ⟨h.bel.trans k.bel, fun j o h1 h2 => k.block j o (h.block j o h1 h2) h2⟩
theorem Kp.mono (h : Kp A B w w1) (hA : ∀ o, A o → A' o) : Kp A' B w w1 := ⟨h.bel, fun j o h1 h2 => h.block j o h1 (fun e => h2 (hA o e))⟩
theorem Kp.of_below (h : Below w.heap.size w w') (hB : B ≤ w.heap.size) : Kp A B w w' := ⟨h.mono hB, fun j o h1 _ => (h.block j (Array.getElem?_eq_some_iff.1 h1).1).trans h1⟩
theorem Kp.below (h : Kp A B w w1) (k : Below w1.heap.size w1 w2) (hB : B ≤ w.heap.size) : Kp A B w w2 := h.trans (Kp.of_below k (Nat.le_trans hB h.bel.size))
theorem Kp.size (h : Kp A B w w1) : w.heap.size ≤ w1.heap.size := h.bel.size
/-- The cells of all blocks that there were read as they did. -/
structure Ce (w w' : World) : Prop where
  size : w.heap.size ≤ w'.heap.size
  cell : ∀ p : Addr, p.block < w.heap.size → w'.cell? p = w.cell? p
theorem Ce.of_below (h : Below w.heap.size w w') : Ce w w' := ⟨h.size, fun p hp => World.cell?_of_block (h.block _ hp)⟩
theorem Ce.trans (h : Ce w w1) (k : Ce w1 w2) : Ce w w2 := ⟨Nat.le_trans h.size k.size, fun p hp => (k.cell p (Nat.lt_of_lt_of_le hp h.size)).trans (h.cell p hp)⟩
theorem Ce.freeze (w : World) (g n : Nat) : Ce w (w.freeze ⟨g, 0, none⟩ n) := by
  unfold World.freeze
  split
  · exact ⟨Nat.le_refl _, fun _ _ => rfl⟩
  · refine ⟨by simp, fun p hp => ?_⟩
    obtain ⟨b, o, sp⟩ := p
    unfold World.cell?
    by_cases hb : g = b
    · subst hb
      simp only [Array.getElem?_modify, if_pos]
      cases hh : w.heap[g]? with
      | none => rfl
      | some ob =>
        cases ob <;> rfl
    · simp only [Array.getElem?_modify, if_neg hb]
theorem lt_of_some {w : World} {k : Nat} {o : Obj} (h : w.heap[k]? = some o) : k < w.heap.size := (Array.getElem?_eq_some_iff.1 h).1
end
section
variable {B : Nat} {w w' : World} {db lb mb m k : Nat} {S : Dk}
theorem MapIs.is {f : Nat → Option ByteArray} (h : MapIs w mb m f) : ∃ es c, w.heap[mb]? = some (.map es c) := by
  obtain ⟨D, h, _⟩ := h
  obtain ⟨es, c, e, _⟩ := h
  exact ⟨es, c, e⟩
theorem DkIs.kp (h : DkIs w db lb mb m S) (ho : Off (disk3 db lb mb) w w') (h1 : B ≤ db) (h2 : B ≤ lb) (h3 : B ≤ mb) (hB : B ≤ w.heap.size) : Kp isD B w w' := by
  refine ⟨ho.below (fun j hj => by rcases hj with rfl | rfl | rfl <;> assumption) hB, fun j o e hn => ?_⟩
  refine (ho.block j (lt_of_some e) ?_).trans e
  rintro (rfl | rfl | rfl)
  · rw [h.blk] at e; cases e; exact hn (Or.inl rfl)
  · obtain ⟨cur, fz, e2⟩ := h.row.ty
    rw [e2] at e; cases e; exact hn (Or.inr rfl)
  · obtain ⟨es, c, e2⟩ := h.map.is
    rw [e2] at e; cases e; exact hn trivial
theorem DkIs.kept {A : Obj → Prop} (h : DkIs w db lb mb m S) (hA : ∀ o, A o → ¬ isD o) (ho : Kp A B w w') : DkIs w' db lb mb m S := by
  have e1 : w'.heap[lb]? = w.heap[lb]? := by
    obtain ⟨cur, fz, e2⟩ := h.row.ty
    rw [e2]; exact ho.block _ _ e2 (fun x => hA _ x (Or.inr rfl))
  have e3 : w'.heap[mb]? = w.heap[mb]? := by
    obtain ⟨es, c, e2⟩ := h.map.is
    rw [e2]; exact ho.block _ _ e2 (fun x => hA _ x trivial)
  exact ⟨ho.block _ _ h.blk (fun x => hA _ x (Or.inl rfl)), h.row.of_block e1 ho.size, h.map.of_block e3, h.ne⟩
/-- A disk whose blocks lie from B on. -/
structure Ds (B : Nat) (w : World) (db k : Nat) (S : Dk) : Prop where
  dsk : ∃ lb mb m, DkIs w db lb mb m S ∧ m ≤ k ∧ B ≤ lb ∧ B ≤ mb
  q : Dq k S
  hd : B ≤ db
  lt : B ≤ w.heap.size
theorem Ds.below (h : Ds B w db k S) (hb : Below w.heap.size w w') : Ds B w' db k S := by
  obtain ⟨lb, mb, m, h1, h2, h3, h4⟩ := h.dsk
  exact ⟨⟨lb, mb, m, h1.below hb, h2, h3, h4⟩, h.q, h.hd, Nat.le_trans h.lt hb.size⟩
theorem Ds.kept {A : Obj → Prop} (h : Ds B w db k S) (hA : ∀ o, A o → ¬ isD o) {B' : Nat} (hb : Kp A B' w w') : Ds B w' db k S := by
  obtain ⟨lb, mb, m, h1, h2, h3, h4⟩ := h.dsk
  exact ⟨⟨lb, mb, m, h1.kept hA hb, h2, h3, h4⟩, h.q, h.hd, Nat.le_trans h.lt hb.size⟩
theorem Ds.mono {k' : Nat} (h : Ds B w db k S) (hk : k ≤ k') : Ds B w db k' S := by
  obtain ⟨lb, mb, m, h1, h2, h3, h4⟩ := h.dsk
  exact ⟨⟨lb, mb, m, h1, by omega, h3, h4⟩, h.q.mono hk, h.hd, h.lt⟩
theorem Ds.turn {m' k' : Nat} {S' : Dk} (h : Ds B w db k S) (h1 : DkIs w db lb mb m S) (h3 : B ≤ lb) (h4 : B ≤ mb) (ho : Off (disk3 db lb mb) w w') (hd : DkIs w' db lb mb m' S') (hm : m' ≤ k') (hq : Dq k' S') : Ds B w' db k' S' ∧ Kp isD B w w' :=
  ⟨⟨⟨lb, mb, m', hd, hm, h3, h4⟩, hq, h.hd, Nat.le_trans h.lt ho.size⟩, h1.kp ho h.hd h3 h4 h.lt⟩
theorem Ds.write (h : Ds B w db k S) (hk : k ≤ 100000) (i : Int) (s : ByteArray) (hs : s.size ≤ 9223372036854775807) : Calls Try.prog 15 #[.pointer (some ⟨db, 0, none⟩), .int .i64 i, .string s] w fun e w' =>
    e = .returned (.int .i64 (writeE S i s)) ∧ Ds B w' db (k + 1) (writeDk S i s) ∧ Kp isD B w w' := by
  obtain ⟨lb, mb, m, h1, h2, h3, h4⟩ := h.dsk
  refine (Write_any w h1 h.q.ok (by omega) i s hs).mono ?_
  rintro e w' ⟨rfl, d, o⟩
  exact ⟨rfl, h.turn h1 h3 h4 o d (by omega) (h.q.write hk i s)⟩
theorem Ds.sync (h : Ds B w db k S) (hk : k ≤ 100000) : Calls Try.prog 21 #[.pointer (some ⟨db, 0, none⟩)] w fun e w' =>
    e = .returned (.int .i64 (syncE S)) ∧ Ds B w' db (k + 1) (syncDk S) ∧ Kp isD B w w' := by
  obtain ⟨lb, mb, m, h1, h2, h3, h4⟩ := h.dsk
  refine (Sync_any w h1 h.q.ok (by omega)).mono ?_
  rintro e w' ⟨rfl, d, o⟩
  exact ⟨rfl, h.turn h1 h3 h4 o d (by omega) (h.q.sync hk)⟩
theorem Ds.read (h : Ds B w db k S) (hu : S.up = true) (i : Nat) (hi : i < S.n) : Calls Try.prog 14 #[.pointer (some ⟨db, 0, none⟩), .int .i64 (i : Int)] w fun e w' =>
    e = .returned (.tuple #[.string (S.now i), .int .i64 0]) ∧ Below w.heap.size w w' := by
  obtain ⟨lb, mb, m, h1, h2, h3, h4⟩ := h.dsk
  exact Read_any w h1 h.q.ok i hi hu
theorem Ds.start (h : Ds B w db k S) : Calls Try.prog 17 #[.pointer (some ⟨db, 0, none⟩)] w fun e w' =>
    e = .returned (.int .i64 (if S.up then 19 else 0)) ∧ Ds B w' db k { S with up := true } ∧ Kp isD B w w' := by
  obtain ⟨lb, mb, m, h1, h2, h3, h4⟩ := h.dsk
  refine (Start_any w h1 h.q.ok.n1).mono ?_
  rintro e w' ⟨rfl, d, o⟩
  exact ⟨rfl, h.turn h1 h3 h4 o d h2 (h.q.up true)⟩
theorem Ds.arm (h : Ds B w db k S) (i x : Int) (i1 : i ≤ 9223372036854775807) (x0 : 0 ≤ x) (x1 : x ≤ 18446744073709551615) : Calls Try.prog 16 #[.pointer (some ⟨db, 0, none⟩), .int .i64 i, .int .u64 x] w fun e w' =>
    e = .returned (.int .i64 (armE S.up i)) ∧ Ds B w' db k (armDk S i x) ∧ Kp isD B w w' := by
  obtain ⟨lb, mb, m, h1, h2, h3, h4⟩ := h.dsk
  refine (Arm_any w h1 h.q.ok.n1 i x).mono ?_
  rintro e w' ⟨rfl, d, o⟩
  have hq := h.q
  refine ⟨rfl, h.turn h1 h3 h4 o d h2 ?_⟩
  unfold armDk
  split
  · rename_i hc
    exact ⟨⟨hq.ok.n1, hq.ok.n2, hq.ok.wait, by dsimp only; omega, i1, x0, x1, hq.ok.a0, hq.ok.a1, hq.ok.d0, hq.ok.d1⟩, hq.acts, hq.downs⟩
  · exact hq
theorem Ds.new (n : Nat) (h1 : 1 ≤ n) (h2 : n ≤ 8192) (w : World) : Calls Try.prog 8 #[.int .i64 (n : Int)] w fun e w' => e = .returned (.tuple #[.pointer (some ⟨w.heap.size + 2, 0, none⟩), .int .i64 0]) ∧ Ds w.heap.size w' (w.heap.size + 2) 0 (newDk n) ∧ Below w.heap.size w w' := by
  refine (New_any n h1 h2 w).mono ?_
  rintro e w' ⟨rfl, d, b⟩
  exact ⟨rfl, ⟨⟨_, _, _, d, Nat.le_refl _, Nat.le_refl _, by omega⟩, Dq.new h1 h2, by omega, b.size⟩, b⟩
theorem Ds.waiting0 (h : Ds B w db k S) (hk : k ≤ 100000) (h0 : S.waitL = []) : Calls Try.prog 12 #[.pointer (some ⟨db, 0, none⟩)] w fun e w' =>
    ∃ a cap, e = .returned (.slice a 0 cap) ∧ Below w.heap.size w w' := by
  obtain ⟨lb, mb, m, h1, h2, h3, h4⟩ := h.dsk
  refine (Waiting_any w h1 h.q.ok (by omega)).mono ?_
  rintro e w' ⟨a, g, cap, rfl, _, _, _, b⟩
  rw [h0]
  exact ⟨a, cap, rfl, b⟩
theorem Ds.sz (h : Ds B w db k S) {i : Nat} (hi : i < S.n) : (S.now i).size = 64 := by
  obtain ⟨lb, mb, m, h1, h2, h3, h4⟩ := h.dsk
  unfold Dk.now
  cases hw : S.wait i with
  | none => exact h1.row.size i hi
  | some c => exact (h.q.ok.wait i c hw).2
end
end Go.Proofs.Ytljedbakdlhlbaa
