/- A log and what stands on its disk: ONE predicate, and what each call makes of it. The law's few: a record of at most 2 images, and of at most 3 transactions. The law's awake: chapter 8's example. A store on a disk that a call owns: pages written and synced; rules for structs in blocks of their own. A pool in memory, as ONE predicate; its small calls: isMade, isDirty, find, pick. DERIVED: THE SHELF's CONTRACTS AT THIS DUMP, IN PLAIN WORDS (tools/lay-plain.mjs out of 'TryzShelfF.lean', which tools/lay-shelf.mjs wrote): THE SAME DECLARATIONS UNDER THE SAME NAMES: 'import', 'namespace', 'open', 'def', 'theorem' AND NOTHING ELSE: no command of the shelf's: FOR A HAND-IN. Each laying: the table of numbers ('.._ren') and one theorem, a field a fact of the dump's own or the kernel's comparison; each contract: ONE APPLICATION. The dirty frames, gathered and sorted by their pages: dirtyOf. The dirty frames: dirtyOf. What a pool's log and store have, by the records alone: plain; Flush told with its sectors; Need and page writes over one predicate. The pool's pick, read, write, and its frames gathered: dirtyOf. The pool's save: the log's records, then the pages. The pool's save, walked. What a pool's frames have to do with the records: plain. -/
import Derived.Test.YtgodjnbbocnckaaGreatMak
import Derived.Test.YtgodjnbbocnckaaGreatMag
import Derived.Test.YtgodjnbbocnckaaGreatMad
import Derived.Shelf.SlGeneric
import Derived.Shelf.SlSortCmp.NoneTotal
import Derived.Ground.SlsfProg
import Derived.Test.YtgodjnbbocnckaaGreatProg
import Derived.Deep.RegionHeld3
namespace Go.Proofs.YtgodjnbbocnckaaGreat
open Go.RowKit Go.Maps Go.ChangeMaps
set_option linter.unusedVariables false
set_option linter.unusedSimpArgs false
set_option maxRecDepth 100000

/-- The sectors of a disk. -/
structure Qs (S : Dk) (bs sc r : Nat) (Q : Nat → Sec) : Prop where
  now : ∀ i, i < sc → S.now (bs + i) = encQ (Q i)
  run : ∀ i, i < sc → (Q i).1 ≤ r
  sz : ∀ i, i < sc → (Q i).2.size ≤ 58
  wait : ∀ i, S.wait i = none
/-- A log that is open, and what stands of it: so many of its frames last. -/
structure Lv [Inhabited PrSet] (B : Nat) (w : World) (l k : Nat) (S : Dk) (db bs sc run : Nat) (fs : List ByteArray) (sure : Nat) : Prop where
  lx : Lx B w l k S (lgR db bs sc run fs (off fs sure) false)
  up : S.up = true
  fit : Fit sc fs
  hs : sure ≤ fs.length
  n : bs + sc ≤ S.n
  r2 : run ≤ 4294967295
  q : ∃ Q, Qs S bs sc run Q ∧ Std Q sc run (cat (fs.take sure))
/-- What stands is a beginning of frames, so many of them at least. -/
structure Wt (S : Dk) (bs sc r : Nat) (fs : List ByteArray) (lo : Nat) : Prop where
  q : ∃ Q, Qs S bs sc r Q ∧ ∀ run, r ≤ run → ∃ x, cat fs = stand Q run sc ++ x ∧ off fs lo ≤ (stand Q run sc).size
section
variable [Inhabited PrSet] {B l k db bs sc run r r' sure lo : Nat} {w w' w0 : World} {S S' : Dk} {fs gs : List ByteArray} {Q : Nat → Sec}
end
section
variable {B l k db bs sc run r r' sure lo : Nat} {w w' w0 : World} {S S' : Dk} {fs gs : List ByteArray} {Q : Nat → Sec}
theorem Qs.lasts (h : Qs S bs sc r Q) {i : Nat} (hi : i < sc) : S.sure (bs + i) = encQ (Q i) := by
  have := h.now i hi
  unfold Dk.now at this
  rw [h.wait] at this
  exact this
end
section
variable [Inhabited PrSet] {B l k db bs sc run r r' sure lo : Nat} {w w' w0 : World} {S S' : Dk} {fs gs : List ByteArray} {Q : Nat → Sec}
end
section
variable {B l k db bs sc run r r' sure lo : Nat} {w w' w0 : World} {S S' : Dk} {fs gs : List ByteArray} {Q : Nat → Sec}
theorem fs_split (fs : List ByteArray) (i : Nat) : cat fs = cat (fs.take i) ++ cat (fs.drop i) := by rw [← cat_append, List.take_append_drop]
end
section
variable [Inhabited PrSet] {B l k db bs sc run r r' sure lo : Nat} {w w' w0 : World} {S S' : Dk} {fs gs : List ByteArray} {Q : Nat → Sec}
theorem Lv.pos (h : Lv B w l k S db bs sc run fs sure) : 1 ≤ run := by obtain ⟨Q, _, hs⟩ := h.q; exact hs.pos
theorem Lv.below (h : Lv B w l k S db bs sc run fs sure) (hb : Below w.heap.size w w') : Lv B w' l k S db bs sc run fs sure := ⟨h.lx.below hb, h.up, h.fit, h.hs, h.n, h.r2, h.q⟩
theorem Lv.mono {k' : Nat} (h : Lv B w l k S db bs sc run fs sure) (hk : k ≤ k') : Lv B w l k' S db bs sc run fs sure := ⟨h.lx.mono hk, h.up, h.fit, h.hs, h.n, h.r2, h.q⟩
theorem Lv.wt (h : Lv B w l k S db bs sc run fs sure) : Wt S bs sc run fs sure := by
  obtain ⟨Q, hQ, hs⟩ := h.q
  refine ⟨Q, hQ, fun rn hr => ⟨cat (fs.drop sure), ?_, ?_⟩⟩
  · rw [hs.stands hr]; exact fs_split fs sure
  · rw [hs.stands hr]; exact Nat.le_refl _
end
section
variable {B l k db bs sc run r r' sure lo : Nat} {w w' w0 : World} {S S' : Dk} {fs gs : List ByteArray} {Q : Nat → Sec}
theorem Wt.eq (h : Wt S bs sc r fs lo) (h1 : S'.sure = S.sure) (h2 : S'.wait = S.wait) : Wt S' bs sc r fs lo := by
  obtain ⟨Q, hQ, hs⟩ := h.q
  exact ⟨Q, ⟨fun i hi => by have := hQ.now i hi; unfold Dk.now at this ⊢; rw [h1, h2]; exact this, hQ.run, hQ.sz, fun i => by rw [h2]; exact hQ.wait i⟩, hs⟩
end
section
variable [Inhabited PrSet] {B l k db bs sc run r r' sure lo : Nat} {w w' w0 : World} {S S' : Dk} {fs gs : List ByteArray} {Q : Nat → Sec}
end
section
variable {B l k db bs sc run r r' sure lo : Nat} {w w' w0 : World} {S S' : Dk} {fs gs : List ByteArray} {Q : Nat → Sec}
theorem Wt.crash (h : Wt S bs sc r fs lo) (x : Int) : Wt (crDk S x) bs sc r fs lo := by
  obtain ⟨Q, hQ, hs⟩ := h.q
  unfold crDk
  split
  · refine ⟨Q, ⟨fun i hi => ?_, hQ.run, hQ.sz, fun i => rfl⟩, hs⟩
    show lossF S.sure S.wait x (bs + i) = _
    unfold lossF
    rw [hQ.wait]
    exact hQ.lasts hi
  · exact ⟨Q, hQ, hs⟩
end
section
variable [Inhabited PrSet] {B l k db bs sc run r r' sure lo : Nat} {w w' w0 : World} {S S' : Dk} {fs gs : List ByteArray} {Q : Nat → Sec}
end
section
variable {B l k db bs sc run r r' sure lo : Nat} {w w' w0 : World} {S S' : Dk} {fs gs : List ByteArray} {Q : Nat → Sec}
/-- What is laid comes to the disk. -/
theorem Qs.laid (h : Qs S bs sc r Q) {t : ByteArray} {rr a b : Nat} (hr : r ≤ rr) (hL : Laid S S' (nw bs t rr a b) 0) : Qs S' bs sc rr (putQ Q t rr a b) := by
  obtain ⟨hu, hw, hsu⟩ := hL.ok rfl
  refine ⟨fun i hi => ?_, fun i hi => ?_, fun i hi => ?_, hw⟩
  · unfold Dk.now
    rw [hw, hsu]
    show (nw bs t rr a b (bs + i)).getD (S.now (bs + i)) = _
    unfold nw putQ
    by_cases hc : a ≤ i ∧ i < b
    · rw [if_pos (by omega), if_pos hc, show bs + i - bs = i by omega]; rfl
    · rw [if_neg (by omega), if_neg hc]
      exact h.now i hi
  · unfold putQ
    split
    · exact Nat.le_refl _
    · exact Nat.le_trans (h.run i hi) hr
  · unfold putQ
    split
    · exact part_le t i
    · exact h.sz i hi
end
section
variable [Inhabited PrSet] {B l k db bs sc run r r' sure lo : Nat} {w w' w0 : World} {S S' : Dk} {fs gs : List ByteArray} {Q : Nat → Sec}
end
section
variable {B l k db bs sc run r r' sure lo : Nat} {w w' w0 : World} {S S' : Dk} {fs gs : List ByteArray} {Q : Nat → Sec}
/-- Of what is laid some came to the disk, and some did not. -/
theorem Qs.lost (h : Qs S bs sc r Q) {t : ByteArray} {rr a b : Nat} {y : Int} (hr : r ≤ rr) (hL : Laid S S' (nw bs t rr a b) y) (hy : y ≠ 0) : ∃ Q', Qs S' bs sc rr Q' ∧ ∀ i, i < sc → Q' i = Q i ∨ (a ≤ i ∧ i < b ∧ Q' i = (rr, part t i)) := by
  obtain ⟨_, hu, hw⟩ := hL.bad hy
  have hA : AllR (fun j c => ∀ i, i < sc → j = bs + i → c = encQ (Q i) ∨ (a ≤ i ∧ i < b ∧ c = encQ (rr, part t i))) S := by
    refine ⟨fun j i hi e => ?_, fun j c hc => by rw [h.wait] at hc; cases hc⟩
    subst e
    exact Or.inl (h.lasts hi)
  have hB := hL.all _ hA (fun j c hc i hi e => by
    subst e
    unfold nw at hc
    split at hc
    · rename_i hc2
      rw [show bs + i - bs = i by omega] at hc
      injection hc with hc
      exact Or.inr ⟨by omega, by omega, hc.symm⟩
    · cases hc)
  refine ⟨fun i => if S'.sure (bs + i) = encQ (Q i) then Q i else (rr, part t i), ⟨fun i hi => ?_, fun i hi => ?_, fun i hi => ?_, hw⟩, fun i hi => ?_⟩
  · unfold Dk.now
    rw [hw]
    show S'.sure (bs + i) = _
    split
    · rename_i e; exact e
    · rename_i e
      rcases hB.sure (bs + i) i hi rfl with e2 | ⟨_, _, e2⟩
      · exact absurd e2 e
      · exact e2
  · split
    · exact Nat.le_trans (h.run i hi) hr
    · exact Nat.le_refl _
  · split
    · exact h.sz i hi
    · exact part_le t i
  · dsimp only
    split
    · exact Or.inl rfl
    · rename_i e
      rcases hB.sure (bs + i) i hi rfl with e2 | ⟨e3, e4, e2⟩
      · exact absurd e2 e
      · exact Or.inr ⟨e3, e4, rfl⟩
end
section
variable [Inhabited PrSet] {B l k db bs sc run r r' sure lo : Nat} {w w' w0 : World} {S S' : Dk} {fs gs : List ByteArray} {Q : Nat → Sec}
end
section
variable {B l k db bs sc run r r' sure lo : Nat} {w w' w0 : World} {S S' : Dk} {fs gs : List ByteArray} {Q : Nat → Sec}
theorem off_take {fs : List ByteArray} {i : Nat} : off (fs.take i) (fs.take i).length = off fs i := by rw [off_all]; rfl
end
section
variable [Inhabited PrSet] {B l k db bs sc run r r' sure lo : Nat} {w w' w0 : World} {S S' : Dk} {fs gs : List ByteArray} {Q : Nat → Sec}
/-- Flush. -/
theorem Lv.flush (h : Lv B w l k S db bs sc run fs sure) (hk : k ≤ 30000) : Calls Tryz.prog 101 #[.pointer (some ⟨l, 0, none⟩)] w fun e w' => ∃ y, e = .returned (.int .i64 y) ∧ ∃ S', (Kp isA B w w' ∧ S'.n = S.n ∧ (S.set = false → y = 0 ∧ S'.set = false)) ∧ ((y = 0 ∧ Lv B w' l (k + sc + 1) S' db bs sc run fs fs.length) ∨ (y = 9 ∧ S'.up = false ∧ Ds B w' db (k + sc + 1) S' ∧ Wt S' bs sc run fs sure)) := by
  obtain ⟨Q, hQ, hstd⟩ := h.q
  have hle := h.lx.le
  have hm := off_mono (l := fs) h.hs
  rw [off_all] at hm
  rcases Nat.lt_or_ge (off fs sure) (cat fs).size with hd | hd
  · refine (flush_any h.lx hk h.fit hd (by have := h.r2; omega) h.n h.up).mono ?_
    rintro e w' ⟨S', x, rfl, hF⟩
    refine ⟨x, rfl, S', ⟨hF.kp, hF.ld.n, hF.ld.calm⟩, ?_⟩
    have hlx := hF.lx
    have hL := hF.ld
    have hT := fs_split fs sure
    by_cases hx : x = 0
    · subst hx
      obtain ⟨hu, hw, _⟩ := hL.ok rfl
      left
      refine ⟨rfl, ?_, hu, h.fit, Nat.le_refl _, by rw [hL.n]; exact h.n, h.r2, ?_⟩
      · rw [off_all]; exact hlx
      · refine ⟨_, hQ.laid (Nat.le_refl _) hL, ?_⟩
        rw [List.take_length]
        exact hstd.flush hT hd h.fit.sz
    · obtain ⟨h9, hu, hw⟩ := hL.bad hx
      right
      refine ⟨h9, hu, hlx.d, ?_⟩
      obtain ⟨Q', hQ', hor⟩ := hQ.lost (Nat.le_refl _) hL hx
      refine ⟨Q', hQ', fun rn hr => ?_⟩
      have hsz : (cat (fs.take sure)).size = off fs sure := rfl
      obtain ⟨y, z, e1, e2⟩ := hstd.grow (T := cat fs) (Q' := Q') (r' := run) hT h.fit.sz hr (Nat.le_refl _) (fun i hi => by
        rcases hor i hi with e | ⟨e3, e4, e⟩
        · exact Or.inl e
        · exact Or.inr ⟨by rw [hsz]; omega, e⟩) (Or.inl rfl)
      exact ⟨z, by rw [e1]; exact e2, by rw [e1, bsz, hsz]; omega⟩
  · have hd2 : off fs sure = (cat fs).size := by omega
    refine (flush_same h.lx h.fit hd2).mono ?_
    rintro e w' ⟨rfl, hb⟩
    have he : sure = fs.length := off_inj h.fit.frm h.hs (Nat.le_refl _) (by rw [hd2, off_all])
    refine ⟨0, rfl, S, ⟨Kp.of_below hb hle, rfl, fun hs => ⟨rfl, hs⟩⟩, Or.inl ⟨rfl, ?_⟩⟩
    have := (h.below hb).mono (k' := k + sc + 1) (by omega)
    rw [he] at this
    exact this
end
section
variable {B l k db bs sc run r r' sure lo : Nat} {w w' w0 : World} {S S' : Dk} {fs gs : List ByteArray} {Q : Nat → Sec}
theorem Fit.take (h : Fit sc fs) (i : Nat) : Fit sc (fs.take i) := by
  refine ⟨fun f hf => h.frm f (List.mem_of_mem_take hf), ?_, h.s0, h.s1⟩
  have e := fs_split fs i
  have := h.sz
  rw [e, bsz] at this
  omega
end
section
variable [Inhabited PrSet] {B l k db bs sc run r r' sure lo : Nat} {w w' w0 : World} {S S' : Dk} {fs gs : List ByteArray} {Q : Nat → Sec}
end
section
variable {B l k db bs sc run r r' sure lo : Nat} {w w' w0 : World} {S S' : Dk} {fs gs : List ByteArray} {Q : Nat → Sec}
theorem Fit.snoc (h : Fit sc fs) {gs : List ByteArray} (hg : ∀ g ∈ gs, Frm g) (hz : (cat fs).size + (cat gs).size ≤ 58 * sc) : Fit sc (fs ++ gs) := ⟨fun f hf => by
  rcases List.mem_append.1 hf with q | q
  · exact h.frm f q
  · exact hg f q, by rw [cat_append, bsz]; exact hz, h.s0, h.s1⟩
end
section
variable [Inhabited PrSet] {B l k db bs sc run r r' sure lo : Nat} {w w' w0 : World} {S S' : Dk} {fs gs : List ByteArray} {Q : Nat → Sec}
end
section
variable {B l k db bs sc run r r' sure lo : Nat} {w w' w0 : World} {S S' : Dk} {fs gs : List ByteArray} {Q : Nat → Sec}
theorem take_pre {i j : Nat} (hij : i ≤ j) : cat (fs.take j) = cat (fs.take i) ++ cat ((fs.take j).drop i) := by
  have := List.take_append_drop i (fs.take j)
  rw [List.take_take, Nat.min_eq_left hij] at this
  conv => lhs; rw [← this]
  rw [cat_append]
end
section
variable [Inhabited PrSet] {B l k db bs sc run r r' sure lo : Nat} {w w' w0 : World} {S S' : Dk} {fs gs : List ByteArray} {Q : Nat → Sec}
/-- Frames come behind all others. -/
theorem Lv.grown (h : Lv B w l k S db bs sc run fs sure) {gs : List ByteArray} (hg : ∀ g ∈ gs, Frm g) (hz : (cat fs).size + (cat gs).size ≤ 58 * sc) (hl : Lx B w' l k S (lgR db bs sc run (fs ++ gs) (off fs sure) false)) : Lv B w' l k S db bs sc run (fs ++ gs) sure := by
  have e : (fs ++ gs).take sure = fs.take sure := List.take_append_of_le_length h.hs
  have e2 : off (fs ++ gs) sure = off fs sure := by unfold off; rw [e]
  refine ⟨by rw [e2]; exact hl, h.up, h.fit.snoc hg hz, by rw [List.length_append]; have := h.hs; omega, h.n, h.r2, ?_⟩
  rw [e]
  exact h.q
/-- A log is opened in a run that nobody had. -/
theorem Wt.open2 (h : Wt S bs sc r fs lo) (hF : Fit sc fs) (hlo : lo ≤ fs.length) (hd : Ds B w db k S) (hk : k ≤ 30000) (hrun : r < run) (hr2 : run ≤ 4294967295) (hfit : bs + sc ≤ S.n) (hu : S.up = true) (hc : S.set = false) :
    Calls Tryz.prog 20 #[.pointer (some ⟨db, 0, none⟩), .int .i64 (bs : Int), .int .i64 (sc : Int), .int .i64 (run : Int)] w fun e w' =>
      ∃ j S' l, e = .returned (.tuple #[.pointer (some ⟨l, 0, none⟩), .int .i64 0]) ∧ (lo ≤ j ∧ j ≤ fs.length ∧ S'.set = false ∧ S'.n = S.n) ∧ Lv B w' l (k + sc + 1) S' db bs sc run (fs.take j) j ∧ Kp isA B w w' ∧ Opn S S' bs sc run (cat (fs.take j)) := by
  obtain ⟨Q, hQ, hst⟩ := h.q
  refine (Open_calm hd hk bs sc run hF.s0 hF.s1 (by omega) hr2 hfit hu hc Q (fun i hi => ⟨hQ.now i hi, by have := hQ.run i hi; omega, hQ.sz i hi⟩)).mono ?_
  rintro e w' ⟨gs, S', l, rfl, hsp, hop, hlx, hK⟩
  obtain ⟨x, hx, hlow⟩ := hst run (Nat.le_of_lt hrun)
  obtain ⟨j, hj, rfl, hmax⟩ := Spl.take fs gs _ x hF.frm hx hsp
  have hlj : lo ≤ j := hmax lo hlo hlow
  have hjl : (fs.take j).length = j := by rw [List.length_take]; omega
  obtain ⟨y, hy⟩ := hsp.pre
  have hstd := std_new (Q := Q) (secs := sc) (r := run) (T := cat (fs.take j)) (x := y) (fun i hi => by have := hQ.run i hi; omega) hQ.sz hy (hF.take j).sz (by omega)
  have mk : S'.up = true → S'.n = S.n → (∃ Q', Qs S' bs sc run Q' ∧ Std Q' sc run (cat (fs.take j))) → Lv B w' l (k + sc + 1) S' db bs sc run (fs.take j) j := fun hu' hn' hq => by
    refine ⟨?_, hu', hF.take j, by omega, by rw [hn']; exact hfit, hr2, by rw [List.take_take, Nat.min_self]; exact hq⟩
    have : off (fs.take j) j = (cat (fs.take j)).size := by unfold off; rw [List.take_take, Nat.min_self]
    rw [this]
    exact hlx
  have hop2 := hop
  rcases hop with ⟨h1, rfl⟩ | ⟨h1, hLd⟩
  · refine ⟨j, _, l, rfl, ⟨hlj, hj, hc, rfl⟩, mk hu rfl ⟨Q, ⟨hQ.now, fun i hi => by have := hQ.run i hi; omega, hQ.sz, hQ.wait⟩, ?_⟩, hK, hop2⟩
    have e : putQ Q (cat (fs.take j)) run ((cat (fs.take j)).size / 58) (min ((cat (fs.take j)).size / 58 + 1) sc) = Q := by
      funext i
      exact putQ_out (by omega)
    rw [e] at hstd
    exact hstd
  · obtain ⟨hu', _, _⟩ := hLd.ok rfl
    exact ⟨j, S', l, rfl, ⟨hlj, hj, (hLd.calm hc).2, hLd.n⟩, mk hu' hLd.n ⟨_, hQ.laid (Nat.le_of_lt hrun) hLd, hstd⟩, hK, hop2⟩
theorem Wt.open_ (h : Wt S bs sc r fs lo) (hF : Fit sc fs) (hlo : lo ≤ fs.length) (hd : Ds B w db k S) (hk : k ≤ 30000) (hrun : r < run) (hr2 : run ≤ 4294967295) (hfit : bs + sc ≤ S.n) (hu : S.up = true) (hc : S.set = false) :
    Calls Tryz.prog 20 #[.pointer (some ⟨db, 0, none⟩), .int .i64 (bs : Int), .int .i64 (sc : Int), .int .i64 (run : Int)] w fun e w' =>
      ∃ j S' l, e = .returned (.tuple #[.pointer (some ⟨l, 0, none⟩), .int .i64 0]) ∧ (lo ≤ j ∧ j ≤ fs.length ∧ S'.set = false ∧ S'.n = S.n) ∧ Lv B w' l (k + sc + 1) S' db bs sc run (fs.take j) j ∧ Kp isA B w w' := by
  refine (h.open2 hF hlo hd hk hrun hr2 hfit hu hc).mono ?_
  rintro e w' ⟨j, S', l, h1, h2, h3, h4, _⟩
  exact ⟨j, S', l, h1, h2, h3, h4⟩
end
end Go.Proofs.YtgodjnbbocnckaaGreat

namespace Go.Proofs.YtgodjnbbocnckaaGreat
open Go.RowKit
set_option linter.unusedVariables false
set_option linter.unusedSimpArgs false
set_option maxRecDepth 100000

def few8M (m : Rm) : Rm := ⟨m.s, m.im.take 2, m.tb.take 3⟩
section
variable {w : World} {s : Sc} {a a' : Option Addr} {n n' c c' : Nat}
end
theorem Held.few8 {m : Rm} (h : Held m) : Small (few8M m) := by
  refine ⟨?_, ?_, ?_, h.ky, h.ol, h.nw⟩
  · show (m.im.take 2).length ≤ 1000
    rw [List.length_take]; omega
  · show (m.tb.take 3).length ≤ 1000
    rw [List.length_take]; omega
  · intro p hp
    exact h.t p (List.mem_of_mem_take hp)
end Go.Proofs.YtgodjnbbocnckaaGreat

namespace Go.Proofs.YtgodjnbbocnckaaGreat
open Go.RowKit Go.Maps Go.ChangeMaps
set_option linter.unusedVariables false
set_option linter.unusedSimpArgs false
set_option maxRecDepth 100000

section
variable [Inhabited PrSet] {B l k db bs sc run r r' sure lo : Nat} {w w' w0 wx : World} {S S' : Dk} {fs gs : List ByteArray} {Q : Nat → Sec}
theorem Lv.wt0 (h : Lv B w l k S db bs sc run fs sure) : Wt S bs sc run (fs.take sure) sure := by
  obtain ⟨Q, hQ, hs⟩ := h.q
  refine ⟨Q, hQ, fun rn hr => ⟨⟨#[]⟩, ?_, ?_⟩⟩
  · rw [hs.stands hr, app_nil]
  · rw [hs.stands hr]; unfold off; rw [List.take_take, Nat.min_self]; exact Nat.le_refl _
end
section
variable {B l k db bs sc run r r' sure lo : Nat} {w w' w0 wx : World} {S S' : Dk} {fs gs : List ByteArray} {Q : Nat → Sec}
theorem new_wt (n bs sc : Nat) (h : 1 ≤ sc) : Wt (newDk n) bs sc 0 [] 0 := by
  refine ⟨fun _ => (0, ⟨#[]⟩), ⟨fun i hi => ?_, fun i hi => Nat.le_refl _, fun i hi => Nat.zero_le _, fun i => rfl⟩, fun rn hr => ⟨⟨#[]⟩, ?_, Nat.zero_le _⟩⟩
  · rw [enc_zero]; rfl
  · obtain ⟨m, rfl⟩ : ∃ m, sc = m + 1 := ⟨sc - 1, by omega⟩
    show cat [] = stK _ rn (m + 1) 0 1 ++ _
    rw [stK, if_pos (Or.inl (by show 0 < 1; omega))]
    rfl
end
section
variable [Inhabited PrSet] {B l k db bs sc run r r' sure lo : Nat} {w w' w0 wx : World} {S S' : Dk} {fs gs : List ByteArray} {Q : Nat → Sec}
end
section
variable {B l k db bs sc run r r' sure lo : Nat} {w w' w0 wx : World} {S S' : Dk} {fs gs : List ByteArray} {Q : Nat → Sec}
theorem fit_nil (h0 : 1 ≤ sc) (h1 : sc ≤ 8000) : Fit sc [] := ⟨(fun f hf => by cases hf), Nat.zero_le _, h0, h1⟩
end
section
variable [Inhabited PrSet] {B l k db bs sc run r r' sure lo : Nat} {w w' w0 wx : World} {S S' : Dk} {fs gs : List ByteArray} {Q : Nat → Sec}
/-- Append of a record that has a frame, and room. -/
theorem Lv.append {v : Value} {m : Rm} (h : Lv B w l k S db bs sc run fs sure) (hv : RecV w v m) (hm : Small m) (he : (frameM m).2 = 0) (hn : (cat fs).size + (frameM m).1.size ≤ 58 * sc) :
    Calls Tryz.prog 57 #[.pointer (some ⟨l, 0, none⟩), v] w fun e w' => e = .returned (.tuple #[.int .i64 (((cat fs).size : Int) + 1), .int .i64 0]) ∧ Lv B w' l k S db bs sc run (fs ++ [(frameM m).1]) sure ∧ Kp isL B w w' := by
  refine (append_ok h.lx h.fit hv hm he hn).mono ?_
  rintro e w' ⟨he', h1, k1⟩
  refine ⟨he', h.grown (fun g hg => by rw [List.mem_singleton] at hg; subst hg; exact frm_good he) ?_ h1, k1⟩
  rw [cat, cat, app_nil]; exact hn
/-- A small record. -/
def cmS (n : Int) : Sc := {kS 7 with tx := n, pv := 1}
def cmM (n : Int) : Rm := ⟨cmS n, [], []⟩
end
section
variable {B l k db bs sc run r r' sure lo : Nat} {w w' w0 wx : World} {S S' : Dk} {fs gs : List ByteArray} {Q : Nat → Sec}
theorem cm_body (n : Int) (h0 : 0 ≤ n) (h1 : n < 1000) : bodyM (cleanM (cmM n)) = (⟨#[]⟩ ++ Pk.beS 7 1 ++ Pk.beS n.toNat 6 ++ Pk.beS 1 6, 0) ∧ cleanM (cmM n) = cmM n := by
  have e : cleanM (cmM n) = cmM n := by simp [cleanM, cleanS, cmM, cmS, kS, zS]
  have hl : laidM (cmM n) = (⟨#[]⟩ ++ Pk.beS 7 1 ++ Pk.beS n.toNat 6 ++ Pk.beS 1 6, 0) := by
    show stepW (stepW (stepW (⟨#[]⟩, 0) 7 1) n 6) 1 6 = _
    rw [stepW_good (by omega) (by omega) (by omega) (by rw [Pk.limI_1]; omega), stepW_good (by omega) (by omega) (by omega) (by rw [Pk.limI_6]; omega), stepW_good (by omega) (by omega) (by omega) (by rw [Pk.limI_6]; omega)]
    rfl
  rw [e]
  refine ⟨?_, rfl⟩
  rw [bodyM_good (by simp [refM, formed, cmM, cmS, kS, zS, Pk.size_nil]) (by rw [hl]) (by rw [hl]; simp [ByteArray.size_append, Pk.beS_size, Pk.size_nil]), hl]
end
section
variable [Inhabited PrSet] {B l k db bs sc run r r' sure lo : Nat} {w w' w0 wx : World} {S S' : Dk} {fs gs : List ByteArray} {Q : Nat → Sec}
end
section
variable {B l k db bs sc run r r' sure lo : Nat} {w w' w0 wx : World} {S S' : Dk} {fs gs : List ByteArray} {Q : Nat → Sec}
theorem cm_frame (n : Int) (h0 : 0 ≤ n) (h1 : n < 1000) : (frameM (cmM n)).2 = 0 ∧ (frameM (cmM n)).1.size = 19 ∧ recF (frameM (cmM n)).1 = cmM n := by
  obtain ⟨hb, hc⟩ := cm_body n h0 h1
  have e : frameM (cmM n) = (frameB (⟨#[]⟩ ++ Pk.beS 7 1 ++ Pk.beS n.toNat 6 ++ Pk.beS 1 6), 0) := by
    unfold frameM
    rw [hb]
    simp
  rw [e]
  refine ⟨rfl, ?_, ?_⟩
  · show (frameB _).size = 19
    rw [frameB_size]
    simp [ByteArray.size_append, Pk.beS_size, Pk.size_nil]
  · have h0 := open_frame hb ⟨#[]⟩ ⟨#[]⟩
    rw [nil_app, app_nil, hc] at h0
    have h1 : openM (frameB (⟨#[]⟩ ++ Pk.beS 7 1 ++ Pk.beS n.toNat 6 ++ Pk.beS 1 6)) 0 = _ := h0
    unfold recF
    rw [h1]
end
section
variable [Inhabited PrSet] {B l k db bs sc run r r' sure lo : Nat} {w w' w0 wx : World} {S S' : Dk} {fs gs : List ByteArray} {Q : Nat → Sec}
end
section
variable {B l k db bs sc run r r' sure lo : Nat} {w w' w0 wx : World} {S S' : Dk} {fs gs : List ByteArray} {Q : Nat → Sec}
theorem small_cm (n : Int) : Small (cmM n) := ⟨Nat.zero_le _, Nat.zero_le _, (fun p hp => by cases hp), Nat.zero_le _, Nat.zero_le _, Nat.zero_le _⟩
end
section
variable [Inhabited PrSet] {B l k db bs sc run r r' sure lo : Nat} {w w' w0 wx : World} {S S' : Dk} {fs gs : List ByteArray} {Q : Nat → Sec}
end
section
variable {B l k db bs sc run r r' sure lo : Nat} {w w' w0 wx : World} {S S' : Dk} {fs gs : List ByteArray} {Q : Nat → Sec}
theorem recV_cm (w : World) (n : Int) : RecV w (.agg ((cmS n).A nilV nilV)) (cmM n) := ⟨nilV, nilV, rfl, SlI.nil w, SlT.nil w⟩
end
section
variable [Inhabited PrSet] {B l k db bs sc run r r' sure lo : Nat} {w w' w0 wx : World} {S S' : Dk} {fs gs : List ByteArray} {Q : Nat → Sec}
/-- The example's log. -/
structure AwS (w0 wx : World) (l k : Nat) (S : Dk) (db run : Nat) (fs : List ByteArray) (sure : Nat) : Prop where
  lv : Lv w0.heap.size wx l k S db 1 10 run fs sure
  set : S.set = false
  n : S.n = 20
  bel : Below w0.heap.size w0 wx
  sz : (cat fs).size = 19 * fs.length
/-- Its disk. -/
structure AwD (w0 wx : World) (k : Nat) (S : Dk) (db : Nat) (r : Nat) (fs : List ByteArray) (lo : Nat) : Prop where
  d : Ds w0.heap.size wx db k S
  wt : Wt S 1 10 r fs lo
  fit : Fit 10 fs
  hlo : lo = fs.length
  set : S.set = false
  n : S.n = 20
  bel : Below w0.heap.size w0 wx
  sz : (cat fs).size = 19 * fs.length
theorem AwD.below (h : AwD w0 wx k S db r fs lo) (hb : Below wx.heap.size wx w') : AwD w0 w' k S db r fs lo := ⟨h.d.below hb, h.wt, h.fit, h.hlo, h.set, h.n, thn h.bel hb, h.sz⟩
theorem AwS.below (h : AwS w0 wx l k S db run fs sure) (hb : Below wx.heap.size wx w') : AwS w0 w' l k S db run fs sure := ⟨h.lv.below hb, h.set, h.n, thn h.bel hb, h.sz⟩
theorem AwD.open_ (h : AwD w0 wx k S db r fs lo) (hk : k ≤ 1000) (hu : S.up = true) (hr : r < run) (hr2 : run ≤ 4294967295) : Calls Tryz.prog 20 #[.pointer (some ⟨db, 0, none⟩), .int .i64 1, .int .i64 10, .int .i64 (run : Int)] wx fun e w' => ∃ S' l, e = .returned (.tuple #[.pointer (some ⟨l, 0, none⟩), .int .i64 0]) ∧ AwS w0 w' l (k + 11) S' db run fs fs.length := by
  refine (h.wt.open_ (bs := 1) (sc := 10) h.fit (by rw [h.hlo]; exact Nat.le_refl _) h.d (by omega) hr hr2 (by rw [h.n]; omega) hu h.set).mono ?_
  rintro e w' ⟨j, S', l, he, ⟨h1, h2, h3, h4⟩, hlv, hk'⟩
  have hj : j = fs.length := by have := h.hlo; omega
  subst hj
  rw [List.take_length] at hlv
  exact ⟨S', l, he, hlv, h3, by rw [h4, h.n], h.bel.trans hk'.bel, h.sz⟩
theorem AwS.append (h : AwS w0 wx l k S db run fs sure) (n : Int) (h0 : 0 ≤ n) (h1 : n < 1000) (hl : fs.length ≤ 5) : Calls Tryz.prog 57 #[.pointer (some ⟨l, 0, none⟩), .agg ((cmS n).A nilV nilV)] wx fun e w' => (∃ x, e = .returned (.tuple #[.int .i64 x, .int .i64 0])) ∧ AwS w0 w' l k S db run (fs ++ [(frameM (cmM n)).1]) sure := by
  obtain ⟨e1, e2, _⟩ := cm_frame n h0 h1
  have hz := h.sz
  refine (h.lv.append (recV_cm _ n) (small_cm n) e1 (by rw [e2, hz]; omega)).mono ?_
  rintro e w' ⟨he, h2, k2⟩
  refine ⟨⟨_, he⟩, h2, h.set, h.n, h.bel.trans k2.bel, ?_⟩
  rw [cat_snoc, bsz, e2, hz, List.length_append, List.length_singleton]; omega
theorem AwS.flush (h : AwS w0 wx l k S db run fs sure) (hk : k ≤ 1000) : Calls Tryz.prog 101 #[.pointer (some ⟨l, 0, none⟩)] wx fun e w' => ∃ S', e = .returned (.int .i64 0) ∧ AwS w0 w' l (k + 11) S' db run fs fs.length := by
  refine (h.lv.flush (by omega)).mono ?_
  rintro e w' ⟨y, he, S', ⟨h1, h2, h3⟩, h4⟩
  obtain ⟨rfl, hs⟩ := h3 h.set
  rcases h4 with ⟨_, h4⟩ | ⟨h4, _⟩
  · exact ⟨S', he, h4, hs, by rw [h2, h.n], h.bel.trans h1.bel, h.sz⟩
  · cases h4
end
section
variable {B l k db bs sc run r r' sure lo : Nat} {w w' w0 wx : World} {S S' : Dk} {fs gs : List ByteArray} {Q : Nat → Sec}
theorem sz_take {fs : List ByteArray} (h : ∀ f ∈ fs, f.size = 19) : (cat fs).size = 19 * fs.length := by
  induction fs with
  | nil => rfl
  | cons f l ih =>
    have h1 := h f (List.mem_cons_self ..)
    have h2 := ih (fun g hg => h g (List.mem_cons_of_mem _ hg))
    rw [cat, bsz, h1, h2, List.length_cons]; omega
end
section
variable [Inhabited PrSet] {B l k db bs sc run r r' sure lo : Nat} {w w' w0 wx : World} {S S' : Dk} {fs gs : List ByteArray} {Q : Nat → Sec}
theorem AwS.crash (h : AwS w0 wx l k S db run fs sure) (hk : k ≤ 1000) (hsz : (cat (fs.take sure)).size = 19 * (fs.take sure).length) (x : Int) (x0 : 0 ≤ x) (x1 : x ≤ 18446744073709551615) : Calls Tryz.prog 17 #[.pointer (some ⟨db, 0, none⟩), .int .u64 x] wx fun e w' => (∃ y, e = .returned (.int .i64 y)) ∧ AwD w0 w' (k + 1) (crDk S x) db run (fs.take sure) sure := by
  refine (h.lv.lx.d.crash (by omega) x x0 x1).mono ?_
  rintro e w' ⟨he, h1, k1⟩
  have hs : (crDk S x).set = false := by unfold crDk; split; rfl; exact h.set
  have hn : (crDk S x).n = S.n := by unfold crDk; split; rfl; rfl
  exact ⟨⟨_, he⟩, h1, h.lv.wt0.crash x, h.lv.fit.take sure, by rw [List.length_take]; have := h.lv.hs; omega, hs, by rw [hn, h.n], h.bel.trans k1.bel, hsz⟩
theorem AwD.start (h : AwD w0 wx k S db r fs lo) : Calls Tryz.prog 19 #[.pointer (some ⟨db, 0, none⟩)] wx fun e w' => (∃ y, e = .returned (.int .i64 y)) ∧ AwD w0 w' k { S with up := true } db r fs lo := by
  refine h.d.start.mono ?_
  rintro e w' ⟨he, h1, k1⟩
  exact ⟨⟨_, he⟩, h1, h.wt.eq rfl rfl, h.fit, h.hlo, h.set, h.n, h.bel.trans k1.bel, h.sz⟩
end
end Go.Proofs.YtgodjnbbocnckaaGreat

namespace Go.Proofs.YtgodjnbbocnckaaGreat
open Go.RowKit Go.Maps Go.ChangeMaps
set_option linter.unusedVariables false
set_option linter.unusedSimpArgs false
set_option maxRecDepth 100000

/-- Blocks that a pool's calls turn besides: its own, its frames. -/
def isF : Obj → Prop
  | .cells _ t _ => t = 67 ∨ t = 85
  | _ => False
def isQ (o : Obj) : Prop := isA o ∨ isF o
/-- Four sectors of a text. -/
def nwK (b : Nat) (t : Nat → ByteArray) (k i : Nat) : Option ByteArray := if b ≤ i ∧ i < b + k then some (pad (t (i - b))) else none
section
variable [Inhabited PrSet] {B k db sb base pages gen : Nat} {w w' : World} {S S' : Dk}
end
section
variable [Inhabited PrSet] {B k db sb base pages gen : Nat} {w w' : World} {S S' : Dk}
end
section
variable {B k db sb base pages gen : Nat} {w w' : World} {S S' : Dk}
theorem isF_not : ∀ o, isA o → ¬ isF o := by
  intro o ha hs
  cases o with
  | cells cs t fz =>
    rcases hs with hs | hs
    · subst hs
      rcases ha with ha | ha
      · rcases ha with ha | ha <;> exact absurd ha (by decide)
      · rcases ha with ha | ha | ha <;> exact absurd ha (by decide)
    · subst hs
      rcases ha with ha | ha
      · rcases ha with ha | ha <;> exact absurd ha (by decide)
      · rcases ha with ha | ha | ha <;> exact absurd ha (by decide)
  | _ => exact hs
end
section
variable [Inhabited PrSet] {B k db sb base pages gen : Nat} {w w' : World} {S S' : Dk}
end
section
variable [Inhabited PrSet] {B k db sb base pages gen : Nat} {w w' : World} {S S' : Dk}
section
variable {l : Nat} {R : Lr} {A : Obj → Prop}
theorem Lx.keptA (h : Lx B w l k S R) {B' : Nat} (hA : ∀ o, isA o → ¬ A o) (hb : Kp A B' w w') : Lx B w' l k S R := by
  obtain ⟨lb, mb, m, d1, d2, d3, d4⟩ := h.d.dsk
  obtain ⟨p, v, pv, h1, h2, h3, h4, n3, n4⟩ := h.g.ex
  have e1 : w'.heap[lb]? = w.heap[lb]? := by
    obtain ⟨cur, fz, e2⟩ := d1.row.ty
    rw [e2]; exact hb.block _ _ e2 (hA _ (Or.inl (Or.inr rfl)))
  have e3 : w'.heap[mb]? = w.heap[mb]? := by
    obtain ⟨es, c, e2⟩ := d1.map.is
    rw [e2]; exact hb.block _ _ e2 (hA _ (Or.inl trivial))
  refine ⟨⟨⟨lb, mb, m, ⟨hb.block _ _ d1.blk (hA _ (Or.inl (Or.inl rfl))), d1.row.of_block e1 hb.size, d1.map.of_block e3, d1.ne⟩, d2, d3, d4⟩, h.d.q, h.d.hd, Nat.le_trans h.d.lt hb.size, h.d.lp.kp hb⟩, ?_⟩
  exact ⟨⟨p, v, pv, hb.block l _ h1 (hA _ (Or.inr (Or.inr (Or.inr rfl)))), h2, ownF_of h3 (fun k cur fz e => hb.block k _ e (hA _ (Or.inr (Or.inr (Or.inl rfl))))), h4.of_block (fun k cur fz e => hb.block k _ e (hA _ (Or.inr (Or.inl rfl)))), n3, n4⟩, h.g.ge, Nat.le_trans h.g.le hb.size, h.g.lp.kp hb⟩
end
theorem Kp.q {w1 : World} (h : Kp isA B w w1) : Kp isQ B w w1 := h.mono (fun _ => Or.inl)
theorem Kp.f {w1 : World} (h : Kp isF B w w1) : Kp isQ B w w1 := h.mono (fun _ => Or.inr)
theorem StIs.kept {B' : Nat} (h : StIs w sb db base pages gen) (hb : Kp isQ B' w w') : StIs w' sb db base pages gen := ⟨hb.block _ _ h.blk (by simp [isQ, isA, isD, isL, isF])⟩
end
section
variable {B k db sb base pages gen : Nat} {w w' : World} {S S' : Dk}
theorem disk_ne {lb mb m : Nat} (h : DkIs w db lb mb m S) (hs : StIs w sb db base pages gen) : ¬ disk3 db lb mb sb := by
  rintro (rfl | rfl | rfl)
  · have := hs.blk; rw [h.blk] at this; simp at this
  · obtain ⟨cur, fz, e⟩ := h.row.ty; rw [hs.blk] at e; simp at e
  · obtain ⟨es, c, e⟩ := h.map.is; rw [hs.blk] at e; simp at e
end
section
variable [Inhabited PrSet] {B k db sb base pages gen : Nat} {w w' : World} {S S' : Dk}
end
section
variable {B k db sb base pages gen : Nat} {w w' : World} {S S' : Dk}
theorem nwK_zero (b : Nat) (t : Nat → ByteArray) : nwK b t 0 = fun _ => none := by
  funext i; unfold nwK; rw [if_neg (by omega)]
end
section
variable [Inhabited PrSet] {B k db sb base pages gen : Nat} {w w' : World} {S S' : Dk}
end
section
variable {B k db sb base pages gen : Nat} {w w' : World} {S S' : Dk}
theorem nwK_succ (b : Nat) (t : Nat → ByteArray) (k i : Nat) : nwK b t (k + 1) i = if i = b + k then some (pad (t k)) else nwK b t k i := by
  unfold nwK
  by_cases e : i = b + k
  · subst e; rw [if_pos (by omega), if_pos rfl, show b + k - b = k by omega]
  · rw [if_neg e]
    by_cases h : b ≤ i ∧ i < b + k
    · rw [if_pos h, if_pos (by omega)]
    · rw [if_neg h, if_neg (by omega)]
end
section
variable [Inhabited PrSet] {B k db sb base pages gen : Nat} {w w' : World} {S S' : Dk}
end
section
variable {B k db sb base pages gen : Nat} {w w' : World} {S S' : Dk}
theorem wrK_wrt (hu : S.up = true) {b : Nat} {t : Nat → ByteArray} (hb : b + 4 ≤ S.n) (hz : ∀ i, i < 4 → (t i).size ≤ 64) (k : Nat) (hk : k ≤ 4) : Wrt S (wrK b t S k).1 (nwK b t k) (wrK b t S k).2 := by
  induction k with
  | zero => rw [nwK_zero]; exact Wrt.refl S hu
  | succ k ih =>
    have ih := ih (by omega)
    rw [wrK]
    split
    · rename_i h0
      rw [h0] at ih
      exact ih.step (i := b + k) (by omega) (hz k (by omega)) (by unfold nwK; rw [if_neg (by omega)]) (nwK_succ b t k)
    · rename_i h0
      refine ⟨ih.n, fun e => absurd e h0, ih.bad, fun R hR hc => ih.all R hR (fun i c hi => hc i c ?_), fun hs => absurd (ih.calm hs).1 h0⟩
      rw [nwK_succ]
      by_cases e : i = b + k
      · subst e; unfold nwK at hi; rw [if_neg (by omega)] at hi; cases hi
      · rw [if_neg e]; exact hi
end
section
variable [Inhabited PrSet] {B k db sb base pages gen : Nat} {w w' : World} {S S' : Dk}
/-- A page is written. -/
theorem Ds.stw (h : Ds B w db k S) (hs : StIs w sb db 40 8 1) (hk : k ≤ 80000) (hu : S.up = true) (hn : S.n = 80) (id : Nat) (hid : id < 8) (t : ByteArray) (ht : t.size = 224) (l : Nat) (hl : l < 281474976710656) :
    Calls Tryz.prog 102 #[.pointer (some ⟨sb, 0, none⟩), .int .i64 (id : Int), .string t, .int .i64 (l : Int)] w fun e w' => ∃ S' y, e = .returned (.int .i64 y) ∧ Ds B w' db (k + 4) S' ∧ Kp isD B w w' ∧ Wrt S S' (nwK (40 + 4 * id) (sec 1 l t) 4) y := by
  obtain ⟨lb, mb, m, h1, h2, h3, h4⟩ := h.dsk
  refine (StWrite_good w hs h1 h.q (by omega) (by omega) (disk_ne h1 hs) (by omega) id hid (by omega) t ht l hl).mono ?_
  rintro e w' ⟨he, hd, ho⟩
  obtain ⟨q1, q2⟩ := h.turn h1 h3 h4 ho hd (show m + 4 ≤ k + 4 by omega) (wrK_dq h.q (by omega) 4 (Nat.le_refl _))
  exact ⟨_, _, he, q1, q2, wrK_wrt hu (by omega) (fun i hi => by rw [sec_size ht hi]; exact Nat.le_refl _) 4 (Nat.le_refl _)⟩
theorem Ds.sts (h : Ds B w db k S') (hs : StIs w sb db 40 8 1) (hk : k ≤ 80000) {N : Nat → Option ByteArray} (hw : Wrt S S' N 0) :
    Calls Tryz.prog 103 #[.pointer (some ⟨sb, 0, none⟩)] w fun e w' => ∃ S2 y, e = .returned (.int .i64 y) ∧ Ds B w' db (k + 1) S2 ∧ Kp isD B w w' ∧ Laid S S2 N y := by
  obtain ⟨lb, mb, m, h1, h2, h3, h4⟩ := h.dsk
  refine (StSync_any w hs h1 h.q.ok (by omega)).mono ?_
  rintro e w' ⟨he, hd, ho⟩
  obtain ⟨q1, q2⟩ := h.turn h1 h3 h4 ho hd (show m ≤ k + 1 by omega) (h.q.sync (by omega))
  exact ⟨_, _, he, q1, q2, hw.sync⟩
theorem Ds.strd (h : Ds B w db k S) (hs : StIs w sb db 40 8 1) (hu : S.up = true) (hn : S.n = 80) (id : Int) : Calls Tryz.prog 21 #[.pointer (some ⟨sb, 0, none⟩), .int .i64 id] w fun e w' =>
    e = .returned (.tuple #[.string (rdOut 40 8 1 S id).1, .int .i64 (rdOut 40 8 1 S id).2.1, .int .i64 (rdOut 40 8 1 S id).2.2]) ∧ Below w.heap.size w w' := by
  obtain ⟨lb, mb, m, h1, h2, h3, h4⟩ := h.dsk
  exact StRead_any w hs h1 h.q.ok hu (by rw [hn]; omega) id
theorem Ds.stis (h : Ds B w db k S) (hs : StIs w sb db 40 8 1) (hu : S.up = true) (hn : S.n = 80) (id l : Int) : Calls Tryz.prog 28 #[.pointer (some ⟨sb, 0, none⟩), .int .i64 id, .int .i64 l] w fun e w' =>
    e = .returned (.bool ((rdOut 40 8 1 S id).2.2 == 0 && (rdOut 40 8 1 S id).2.1 == l)) ∧ Below w.heap.size w w' := by
  obtain ⟨lb, mb, m, h1, h2, h3, h4⟩ := h.dsk
  exact StIs_any w hs h1 h.q.ok hu (by rw [hn]; omega) id l
end
/-! ### Structs in blocks of their own -/
structure NewO (w w' : World) (b : Nat) (A : Array Value) (t : TypeId) : Prop where
  blk : w'.heap[b]? = some (.cells A t)
  below : Below w.heap.size w w'
  eq : b = w.heap.size
structure PutO (w w' : World) (b : Nat) (A : Array Value) (t : TypeId) : Prop where
  blk : w'.heap[b]? = some (.cells A t)
  off : Off (fun k => k = b) w w'
section
variable [Inhabited PrSet] {ops : Array Oper} {rest : List Oper} {o : Oper} {a : Act} {Q : Exit → Act → World → Prop} {A A' : Array Value} {t : TypeId} {b : Nat}
end
section
variable [Inhabited PrSet] {ops : Array Oper} {rest : List Oper} {o : Oper} {a : Act} {Q : Exit → Act → World → Prop} {A A' : Array Value} {t : TypeId} {b : Nat}
end
section
variable {ops : Array Oper} {rest : List Oper} {o : Oper} {a : Act} {Q : Exit → Act → World → Prop} {A A' : Array Value} {t : TypeId} {b : Nat}
theorem wpList_box_o (w : World) (hg : o.guard = none) (x : Operand) (hop : o.op = Op.box t x) (hx : a.eval x = .agg A)
    (h : ∀ w' b, NewO w w' b A t → wpList Tryz.prog ops Q rest (a.put o.dst (.pointer (some ⟨b, 0, none⟩))) w') : wpList Tryz.prog ops Q (o :: rest) a w := by
  refine wpList_plain hg fun K' hK' => ?_
  unfold Oper.wp
  simp [execOp, hop, hx, Instr.box, Result.andThen, Value.cells]
  exact hK' _ _ (h _ _ ⟨(MapKept.heap_alloc w _).1, (Below.refl _ _).alloc (Nat.le_refl _) _, rfl⟩)
end
section
variable [Inhabited PrSet] {ops : Array Oper} {rest : List Oper} {o : Oper} {a : Act} {Q : Exit → Act → World → Prop} {A A' : Array Value} {t : TypeId} {b : Nat}
end
section
variable [Inhabited PrSet] {ops : Array Oper} {rest : List Oper} {o : Oper} {a : Act} {Q : Exit → Act → World → Prop} {A A' : Array Value} {t : TypeId} {b : Nat}
end
section
variable [Inhabited PrSet] {ops : Array Oper} {rest : List Oper} {o : Oper} {a : Act} {Q : Exit → Act → World → Prop} {A A' : Array Value} {t : TypeId} {b : Nat}
end
section
variable {ops : Array Oper} {rest : List Oper} {o : Oper} {a : Act} {Q : Exit → Act → World → Prop} {A A' : Array Value} {t : TypeId} {b : Nat}
theorem wpList_new_o (w : World) (hg : o.guard = none) (hop : o.op = Op.alloc t) (hz : (zeroValue t).run Tryz.prog w = .ok (.agg A) w)
    (h : ∀ w' b, NewO w w' b A t → wpList Tryz.prog ops Q rest (a.put o.dst (.pointer (some ⟨b, 0, none⟩))) w') : wpList Tryz.prog ops Q (o :: rest) a w := by
  refine wpList_plain hg fun K' hK' => ?_
  unfold Oper.wp
  simp [execOp, hop, Instr.alloc, hz, Result.andThen, Value.cells]
  exact hK' _ _ (h _ _ ⟨(MapKept.heap_alloc w _).1, (Below.refl _ _).alloc (Nat.le_refl _) _, rfl⟩)
end
section
variable [Inhabited PrSet] {ops : Array Oper} {rest : List Oper} {o : Oper} {a : Act} {Q : Exit → Act → World → Prop} {A A' : Array Value} {t : TypeId} {b : Nat}
end
section
variable [Inhabited PrSet] {ops : Array Oper} {rest : List Oper} {o : Oper} {a : Act} {Q : Exit → Act → World → Prop} {A A' : Array Value} {t : TypeId} {b : Nat}
end
section
variable [Inhabited PrSet] {ops : Array Oper} {rest : List Oper} {o : Oper} {a : Act} {Q : Exit → Act → World → Prop} {A A' : Array Value} {t : TypeId} {b : Nat}
end
section
variable {ops : Array Oper} {rest : List Oper} {o : Oper} {a : Act} {Q : Exit → Act → World → Prop} {A A' : Array Value} {t : TypeId} {b : Nat}
theorem setCells_o {w : World} (h : w.heap[b]? = some (.cells A t)) (hz : A.size = A'.size) (h1 : ∀ v ∈ A'.toList, v.oneCell' = true) : w.setCells b 0 A'.toList = w.setRow b A' := by
  have hth : ∀ j, j < A'.size → ((w.cell? ⟨b, 0 + j, none⟩).isSome = true) := fun j hj => by
    rw [cell_of_row w b _ _ t (0, 0) h]
    simp [hz, hj]
  have e1 := run_storeCells_at Tryz.prog b 0 t A'.toList 0 A w h (by simp [hz]) h1
  have e2 := run_storeCells_cells (P := Tryz.prog) b 0 A'.toList 0 w (fun j hj => by have := hth j (by simpa using hj); simpa using this) (fun j hj => by have := Joins.unfrozen_of_block h (0 + 0 + j); simpa using this) h1
  have e : (List.take (0 + 0) A.toList ++ A'.toList ++ List.drop (0 + 0 + A'.toList.length) A.toList).toArray = A' := by
    have e0 : List.drop (0 + 0 + A'.toList.length) A.toList = [] := List.drop_eq_nil_of_le (by simp [hz])
    rw [e0]
    simp
  rw [e, e2] at e1
  simpa using e1
end
section
variable [Inhabited PrSet] {ops : Array Oper} {rest : List Oper} {o : Oper} {a : Act} {Q : Exit → Act → World → Prop} {A A' : Array Value} {t : TypeId} {b : Nat}
end
section
variable [Inhabited PrSet] {ops : Array Oper} {rest : List Oper} {o : Oper} {a : Act} {Q : Exit → Act → World → Prop} {A A' : Array Value} {t : TypeId} {b : Nat}
end
section
variable [Inhabited PrSet] {ops : Array Oper} {rest : List Oper} {o : Oper} {a : Act} {Q : Exit → Act → World → Prop} {A A' : Array Value} {t : TypeId} {b : Nat}
end
section
variable {ops : Array Oper} {rest : List Oper} {o : Oper} {a : Act} {Q : Exit → Act → World → Prop} {A A' : Array Value} {t : TypeId} {b : Nat}
theorem wpList_put_o (w : World) (hg : o.guard = none) (x y : Operand) (hop : o.op = Op.store t x y)
    (hx : a.eval x = .pointer (some ⟨b, 0, none⟩)) (hy : a.eval y = .agg A') (hs : w.heap[b]? = some (.cells A t)) (hi : (Tryz.prog.info? t).map (·.size) = some A'.size) (hz : A.size = A'.size) (h1 : ∀ v ∈ A'.toList, v.oneCell' = true)
    (h : ∀ w', PutO w w' b A' t → wpList Tryz.prog ops Q rest (a.put o.dst undef) w') : wpList Tryz.prog ops Q (o :: rest) a w := by
  refine wpList_store_mid hg t x y hop b 0 A' hx hy ?_ hi (Array.all_eq_true_iff_forall_mem.2 (fun v hv => h1 v (by simpa using hv))) ?_
  · intro j hj
    refine ⟨?_, Joins.unfrozen_of_block hs _⟩
    rw [cell_of_row w b _ _ t (0, 0) hs]
    simp [hz, hj]
  · rw [setCells_o hs hz h1]
    refine h _ ⟨setRow_heap w b _ _ t _ hs, ⟨rfl, rfl, rfl, by simp, fun k _ hk => setRow_other w b k _ hk⟩⟩
end
section
variable [Inhabited PrSet] {ops : Array Oper} {rest : List Oper} {o : Oper} {a : Act} {Q : Exit → Act → World → Prop} {A A' : Array Value} {t : TypeId} {b : Nat}
end
section
variable [Inhabited PrSet] {ops : Array Oper} {rest : List Oper} {o : Oper} {a : Act} {Q : Exit → Act → World → Prop} {A A' : Array Value} {t : TypeId} {b : Nat}
end
end Go.Proofs.YtgodjnbbocnckaaGreat

namespace Go.Proofs.YtgodjnbbocnckaaGreat
open Go.RowKit Go.Maps Go.ChangeMaps
set_option linter.unusedVariables false
set_option linter.unusedSimpArgs false
set_option maxRecDepth 100000

/-- A frame. -/
structure Fm where
  id : Int
  tx : ByteArray
  ln : Int
  us : Bool
  si : Int
  pn : Int
def Fm.A (f : Fm) : Array Value := #[.int .i64 f.id, .string f.tx, .int .i64 f.ln, .bool f.us, .int .i64 f.si, .int .i64 f.pn]
def zF : Fm := ⟨0, ⟨#[]⟩, 0, false, 0, 0⟩
/-- Where a pool lies: its disk, store, log, its own block, its row, its frames. -/
structure Ad where
  db : Nat
  sb : Nat
  l : Nat
  pb : Nat
  ra : Nat
  cp : Nat
  n : Nat
  fb : Nat → Nat
/-- A pool's own fields. -/
structure Gp where
  hd : Int
  sv : Int
  tk : Int
  F : Nat → Fm
def Gp.A (G : Gp) (X : Ad) : Array Value := #[.pointer (some ⟨X.sb, 0, none⟩), .pointer (some ⟨X.l, 0, none⟩), .slice (some ⟨X.ra, 0, none⟩) X.n X.cp, .int .i64 G.hd, .int .i64 G.sv, .int .i64 G.tk]
structure PoIs [Inhabited PrSet] (B : Nat) (w : World) (X : Ad) (G : Gp) : Prop where
  blk : w.heap[X.pb]? = some (.cells (G.A X) 67)
  row : ∃ cur fz, w.heap[X.ra]? = some (.cells cur 79 fz) ∧ ∀ j, j < X.n → cur[j]? = some (.pointer (some ⟨X.fb j, 0, none⟩))
  fr : ∀ j, j < X.n → w.heap[X.fb j]? = some (.cells (G.F j).A 85)
  inj : ∀ i j, i < X.n → j < X.n → X.fb i = X.fb j → i = j
  n1 : 2 ≤ X.n
  n2 : X.n ≤ 64
  gp : Ow B X.pb
  gf : ∀ j, j < X.n → Ow B (X.fb j)
  gr : np X.ra
  h0 : 0 ≤ G.hd
  h1 : G.hd ≤ (X.n : Int)
section
variable [Inhabited PrSet] {B : Nat} {w w' : World} {X : Ad} {G : Gp}
theorem PoIs.c0 (h : PoIs B w X G) : w.cell? ⟨X.pb, 0, none⟩ = some (.pointer (some ⟨X.sb, 0, none⟩)) := Joins.cell_of_block h.blk 0
theorem PoIs.c1 (h : PoIs B w X G) : w.cell? ⟨X.pb, 1, none⟩ = some (.pointer (some ⟨X.l, 0, none⟩)) := Joins.cell_of_block h.blk 1
theorem PoIs.c2 (h : PoIs B w X G) : w.cell? ⟨X.pb, 2, none⟩ = some (.slice (some ⟨X.ra, 0, none⟩) X.n X.cp) := Joins.cell_of_block h.blk 2
theorem PoIs.c3 (h : PoIs B w X G) : w.cell? ⟨X.pb, 3, none⟩ = some (.int .i64 G.hd) := Joins.cell_of_block h.blk 3
theorem PoIs.c4 (h : PoIs B w X G) : w.cell? ⟨X.pb, 4, none⟩ = some (.int .i64 G.sv) := Joins.cell_of_block h.blk 4
theorem PoIs.c5 (h : PoIs B w X G) : w.cell? ⟨X.pb, 5, none⟩ = some (.int .i64 G.tk) := Joins.cell_of_block h.blk 5
theorem PoIs.z (h : PoIs B w X G) (i : Nat) : w.frozen? ⟨X.pb, i, none⟩ = false := Joins.unfrozen_of_block h.blk i
theorem PoIs.lt (h : PoIs B w X G) : X.pb < w.heap.size := lt_of_some h.blk
theorem PoIs.ra (h : PoIs B w X G) {j : Nat} (hj : j < X.n) : w.cell? ⟨X.ra, j, none⟩ = some (.pointer (some ⟨X.fb j, 0, none⟩)) := by
  obtain ⟨cur, fz, e, hc⟩ := h.row
  rw [cell_of_row w X.ra j cur _ fz e]
  exact hc j hj
theorem PoIs.ralt (h : PoIs B w X G) : X.ra < w.heap.size := by obtain ⟨cur, fz, e, hc⟩ := h.row; exact lt_of_some e
theorem PoIs.f0 (h : PoIs B w X G) {j : Nat} (hj : j < X.n) : w.cell? ⟨X.fb j, 0, none⟩ = some (.int .i64 (G.F j).id) := Joins.cell_of_block (h.fr j hj) 0
theorem PoIs.f1 (h : PoIs B w X G) {j : Nat} (hj : j < X.n) : w.cell? ⟨X.fb j, 1, none⟩ = some (.string (G.F j).tx) := Joins.cell_of_block (h.fr j hj) 1
theorem PoIs.f2 (h : PoIs B w X G) {j : Nat} (hj : j < X.n) : w.cell? ⟨X.fb j, 2, none⟩ = some (.int .i64 (G.F j).ln) := Joins.cell_of_block (h.fr j hj) 2
theorem PoIs.f3 (h : PoIs B w X G) {j : Nat} (hj : j < X.n) : w.cell? ⟨X.fb j, 3, none⟩ = some (.bool (G.F j).us) := Joins.cell_of_block (h.fr j hj) 3
theorem PoIs.f4 (h : PoIs B w X G) {j : Nat} (hj : j < X.n) : w.cell? ⟨X.fb j, 4, none⟩ = some (.int .i64 (G.F j).si) := Joins.cell_of_block (h.fr j hj) 4
theorem PoIs.f5 (h : PoIs B w X G) {j : Nat} (hj : j < X.n) : w.cell? ⟨X.fb j, 5, none⟩ = some (.int .i64 (G.F j).pn) := Joins.cell_of_block (h.fr j hj) 5
theorem PoIs.fz (h : PoIs B w X G) {j : Nat} (hj : j < X.n) (i : Nat) : w.frozen? ⟨X.fb j, i, none⟩ = false := Joins.unfrozen_of_block (h.fr j hj) i
theorem PoIs.flt (h : PoIs B w X G) {j : Nat} (hj : j < X.n) : X.fb j < w.heap.size := lt_of_some (h.fr j hj)
theorem PoIs.below (h : PoIs B w X G) (hb : Below w.heap.size w w') : PoIs B w' X G := by
  refine ⟨(hb.block _ h.lt).trans h.blk, ?_, fun j hj => (hb.block _ (h.flt hj)).trans (h.fr j hj), h.inj, h.n1, h.n2, h.gp, h.gf, h.gr, h.h0, h.h1⟩
  obtain ⟨cur, fz, e, hc⟩ := h.row
  exact ⟨cur, fz, (hb.block _ (lt_of_some e)).trans e, hc⟩
theorem PoIs.kept {B' : Nat} (h : PoIs B w X G) (hb : Kp isA B' w w') : PoIs B w' X G := by
  refine ⟨hb.block _ _ h.blk (by simp [isA, isD, isL]), ?_, fun j hj => hb.block _ _ (h.fr j hj) (by simp [isA, isD, isL]), h.inj, h.n1, h.n2, h.gp, h.gf, h.gr, h.h0, h.h1⟩
  obtain ⟨cur, fz, e, hc⟩ := h.row
  exact ⟨cur, fz, hb.block _ _ e (by simp [isA, isD, isL]), hc⟩
theorem PoIs.drew (h : PoIs B w X G) : PoIs B w.drew X G := h.below ((Below.refl _ _).drew)
theorem PoIs.drewN (h : PoIs B w X G) (n : Nat) : PoIs B (w.drewN n) X G := h.below (Sm.below_dr (Below.refl _ _) n)
/-- A frame is another one. -/
def Gp.set (G : Gp) (j : Nat) (f : Fm) : Gp := { G with F := upd G.F j f }
theorem PoIs.pf (h : PoIs B w X G) {j : Nat} (hj : j < X.n) : X.pb ≠ X.fb j := fun e => by
  have := h.fr j hj
  rw [← e, h.blk] at this
  simp at this
theorem PoIs.rf (h : PoIs B w X G) {j : Nat} (hj : j < X.n) : X.ra ≠ X.fb j := fun e => by
  obtain ⟨cur, fz, e2, hc⟩ := h.row
  rw [e, h.fr j hj] at e2
  simp at e2
theorem PoIs.rp (h : PoIs B w X G) : X.ra ≠ X.pb := fun e => by
  obtain ⟨cur, fz, e2, hc⟩ := h.row
  rw [e, h.blk] at e2
  simp at e2
theorem PoIs.putF (h : PoIs B w X G) {j : Nat} (hj : j < X.n) {f : Fm} (ho : Off (fun k => k = X.fb j) w w') (hb : w'.heap[X.fb j]? = some (.cells f.A 85)) (hB : B ≤ w.heap.size) : PoIs B w' X (G.set j f) ∧ Kp isF B w w' := by
  refine ⟨⟨(ho.block _ h.lt (h.pf hj)).trans h.blk, ?_, fun i hi => ?_, h.inj, h.n1, h.n2, h.gp, h.gf, h.gr, h.h0, h.h1⟩, ho.below (fun k hk => by subst hk; exact (h.gf j hj).ge) hB, fun i o e hn => (ho.block i (lt_of_some e) (fun e2 => ?_)).trans e, fun i o e hn => (ho.block i (lt_of_some e) (fun e2 => by subst e2; exact (h.gf j hj).np hn)).trans e⟩
  · obtain ⟨cur, fz, e, hc⟩ := h.row
    exact ⟨cur, fz, (ho.block _ (lt_of_some e) (h.rf hj)).trans e, hc⟩
  · by_cases e : i = j
    · subst e
      show w'.heap[X.fb i]? = some (.cells (upd G.F i f i).A _)
      rw [upd_same]; exact hb
    · show w'.heap[X.fb i]? = some (.cells (upd G.F j f i).A _)
      rw [upd_other _ _ e]
      exact (ho.block _ (h.flt hi) (fun e2 => e (h.inj i j hi hj e2))).trans (h.fr i hi)
  · subst e2
    rw [h.fr j hj] at e; cases e
    exact hn (Or.inr rfl)
theorem PoIs.setF (h : PoIs B w X G) {j : Nat} (hj : j < X.n) {f : Fm} {i : Nat} {u : Value} (e : (G.F j).A.setIfInBounds i u = f.A) (hB : B ≤ w.heap.size) : PoIs B (w.setCell ⟨X.fb j, i, none⟩ u) X (G.set j f) ∧ Kp isF B w (w.setCell ⟨X.fb j, i, none⟩ u) :=
  h.putF hj (Off.setCell (B := fun k => k = X.fb j) (Off.refl _ _) rfl _ _) (by rw [← e]; exact Joins.block_setCell (h.fr j hj) _) hB
theorem PoIs.setP (h : PoIs B w X G) {G' : Gp} {i : Nat} {u : Value} (e : (G.A X).setIfInBounds i u = G'.A X) (eF : G'.F = G.F) (h0 : 0 ≤ G'.hd) (h1 : G'.hd ≤ (X.n : Int)) (hB : B ≤ w.heap.size) : PoIs B (w.setCell ⟨X.pb, i, none⟩ u) X G' ∧ Kp isF B w (w.setCell ⟨X.pb, i, none⟩ u) := by
  have ho : Off (fun k => k = X.pb) w (w.setCell ⟨X.pb, i, none⟩ u) := Off.setCell (B := fun k => k = X.pb) (Off.refl _ _) rfl _ _
  refine ⟨⟨by rw [← e]; exact Joins.block_setCell h.blk _, ?_, fun j hj => by rw [eF]; exact (ho.block _ (h.flt hj) (fun e2 => h.pf hj e2.symm)).trans (h.fr j hj), h.inj, h.n1, h.n2, h.gp, h.gf, h.gr, h0, h1⟩, ho.below (fun k hk => by subst hk; exact h.gp.ge) hB, fun j o e hn => (ho.block j (lt_of_some e) (fun e2 => ?_)).trans e, fun j o e hn => (ho.block j (lt_of_some e) (fun e2 => by subst e2; exact h.gp.np hn)).trans e⟩
  · obtain ⟨cur, fz, e, hc⟩ := h.row
    exact ⟨cur, fz, (ho.block _ (lt_of_some e) h.rp).trans e, hc⟩
  · subst e2
    rw [h.blk] at e; cases e
    exact hn (Or.inl rfl)
theorem isMade_po (h : PoIs B w X G) : Calls Tryz.prog 60 #[.pointer (some ⟨X.pb, 0, none⟩)] w fun e w' => e = .returned (.bool true) ∧ w' = w := by
  have c2 := h.c2
  have hn : 0 < X.n := by have := h.n1; omega
  clear h
  generalize X.n = n at *
  go_enter Tryz.func60, Tryz.ntmps60
  go_wp2
  go_ret
  exact ⟨by simp [hn], rfl⟩
end
section
variable {B : Nat} {w w' : World} {X : Ad} {G : Gp}
theorem isMade_nil (w : World) : Calls Tryz.prog 60 #[.pointer none] w fun e w' => e = .returned (.bool false) ∧ w' = w := by
  go_enter Tryz.func60, Tryz.ntmps60
  go_wp2
  go_ret
  exact ⟨rfl, rfl⟩
end
section
variable [Inhabited PrSet] {B : Nat} {w w' : World} {X : Ad} {G : Gp}
end
section
variable {B : Nat} {w w' : World} {X : Ad} {G : Gp}
theorem isMade_none {b : Nat} (hc : w.cell? ⟨b, 2, none⟩ = some (.slice none 0 0)) : Calls Tryz.prog 60 #[.pointer (some ⟨b, 0, none⟩)] w fun e w' => e = .returned (.bool false) ∧ w' = w := by
  go_enter Tryz.func60, Tryz.ntmps60
  go_wp2
  go_ret
  exact ⟨rfl, rfl⟩
end
section
variable [Inhabited PrSet] {B : Nat} {w w' : World} {X : Ad} {G : Gp}
end
section
variable {B : Nat} {w w' : World} {X : Ad} {G : Gp}
theorem isDirty_at {b : Nat} {x : Int} (hc : w.cell? ⟨b, 4, none⟩ = some (.int .i64 x)) : Calls Tryz.prog 59 #[.pointer (some ⟨b, 0, none⟩)] w fun e w' => e = .returned (.bool (decide (0 < x))) ∧ w' = w := by
  by_cases hx : 0 < x
  · go_enter Tryz.func59, Tryz.ntmps59
    go_wp2
    go_ret
    exact ⟨by simp [hx], rfl⟩
  · go_enter Tryz.func59, Tryz.ntmps59
    go_wp2
    go_ret
    exact ⟨by simp [hx], rfl⟩
end
section
variable [Inhabited PrSet] {B : Nat} {w w' : World} {X : Ad} {G : Gp}
/-- A frame has this page. -/
def Fm.has (f : Fm) (id : Int) : Prop := f.us = true ∧ f.id = id
set_option maxHeartbeats 1000000 in
theorem find_hit (h : PoIs B w X G) (id : Int) (j : Nat) (hj : j < X.n) (hh : (G.F j).has id) (hlt : ∀ i, i < j → ¬ (G.F i).has id) : Calls Tryz.prog 58 #[.pointer (some ⟨X.pb, 0, none⟩), .int .i64 id] w fun e w' => e = .returned (.pointer (some ⟨X.fb j, 0, none⟩)) ∧ w' = w := by
  have CM : Hid (Calls Tryz.prog 60 #[.pointer (some ⟨X.pb, 0, none⟩)] w fun e w' => e = .returned (.bool true) ∧ w' = w) := isMade_po h
  have c2 := h.c2
  have H : Hid (PoIs B w X G) := h
  have HJ : Hid ((G.F j).has id) := hh
  have HL : Hid (∀ i, i < j → ¬ (G.F i).has id) := hlt
  clear h hh hlt
  go_enter Tryz.func58, Tryz.ntmps58
  go_wp2_with (go_at_call 60; refine CM.out.mono ?_; rintro e w' ⟨rfl, rfl⟩)
  go_loopw [15] (fun iv wr => ∃ i : Nat, i ≤ j ∧ iv = .int .i64 (i : Int) ∧ wr = w') (fun iv _ => j - (intOf iv).toNat)
  case atStart => exact ⟨0, Nat.zero_le _, rfl, rfl⟩
  case round =>
    obtain ⟨i, hi, rfl, rfl⟩ := hrel
    have hin : i < X.n := by omega
    have i1 : (i : Int) < (X.n : Int) := by omega
    have ra := H.out.ra hin
    have f3 := H.out.f3 hin
    have f0 := H.out.f0 hin
    have hi64 : (i : Int) ≤ 64 := by have := H.out.n2; omega
    by_cases hij : i = j
    · subst hij
      have e1 := HJ.out.1
      have e2 := HJ.out.2
      rw [e1] at f3
      rw [e2] at f0
      clear e1 e2
      go_wp2
      go_ret
      exact ⟨rfl, rfl⟩
    · have hn := HL.out i (by omega)
      cases hu : (G.F i).us with
      | false =>
        rw [hu] at f3
        clear hu
        go_wp2
        go_roundw
        case rel => exact ⟨i + 1, by omega, by go_num, by first | rfl | trivial⟩
        case measure => simp [intOf]; omega
      | true =>
        have hne : ((G.F i).id == id) = false := by
          have : (G.F i).id ≠ id := fun e => hn ⟨hu, e⟩
          simpa using this
        rw [hu] at f3
        clear hn hu
        generalize (G.F i).id = y at *
        go_wp2
        go_roundw
        case rel => exact ⟨i + 1, by omega, by go_num, by first | rfl | trivial⟩
        case measure => simp [intOf]; omega
set_option maxHeartbeats 1000000 in
theorem find_miss (h : PoIs B w X G) (id : Int) (hlt : ∀ i, i < X.n → ¬ (G.F i).has id) : Calls Tryz.prog 58 #[.pointer (some ⟨X.pb, 0, none⟩), .int .i64 id] w fun e w' => e = .returned (.pointer none) ∧ w' = w := by
  have CM : Hid (Calls Tryz.prog 60 #[.pointer (some ⟨X.pb, 0, none⟩)] w fun e w' => e = .returned (.bool true) ∧ w' = w) := isMade_po h
  have c2 := h.c2
  have H : Hid (PoIs B w X G) := h
  have HL : Hid (∀ i, i < X.n → ¬ (G.F i).has id) := hlt
  clear h hlt
  go_enter Tryz.func58, Tryz.ntmps58
  go_wp2_with (go_at_call 60; refine CM.out.mono ?_; rintro e w' ⟨rfl, rfl⟩)
  go_loopw [15] (fun iv wr => ∃ i : Nat, i ≤ X.n ∧ iv = .int .i64 (i : Int) ∧ wr = w') (fun iv _ => X.n - (intOf iv).toNat)
  case atStart => exact ⟨0, Nat.zero_le _, rfl, rfl⟩
  case round =>
    obtain ⟨i, hi, rfl, rfl⟩ := hrel
    by_cases hin : i < X.n
    · have i1 : (i : Int) < (X.n : Int) := by omega
      have ra := H.out.ra hin
      have f3 := H.out.f3 hin
      have f0 := H.out.f0 hin
      have hi64 : (i : Int) ≤ 64 := by have := H.out.n2; omega
      have hn := HL.out i (by omega)
      cases hu : (G.F i).us with
      | false =>
        rw [hu] at f3
        clear hu
        go_wp2
        go_roundw
        case rel => exact ⟨i + 1, by omega, by go_num, by first | rfl | trivial⟩
        case measure => simp [intOf]; omega
      | true =>
        have hne : ((G.F i).id == id) = false := by
          have : (G.F i).id ≠ id := fun e => hn ⟨hu, e⟩
          simpa using this
        rw [hu] at f3
        clear hn hu
        generalize (G.F i).id = y at *
        go_wp2
        go_roundw
        case rel => exact ⟨i + 1, by omega, by go_num, by first | rfl | trivial⟩
        case measure => simp [intOf]; omega
    · have i1 : ¬ (i : Int) < (X.n : Int) := by omega
      clear hin
      go_wp2
      go_ret
      exact ⟨rfl, rfl⟩
end
section
variable {B : Nat} {w w' : World} {X : Ad} {G : Gp}
theorem rem_lt {a n : Nat} (h : a < 2 * n) : ((a : Int).tmod (n : Int)) = ((if a < n then a else a - n : Nat) : Int) := by
  rw [← Int.ofNat_tmod]
  congr 1
  split
  · rename_i h1; exact Nat.mod_eq_of_lt h1
  · rename_i h1
    rw [Nat.mod_eq_sub_mod (by omega), Nat.mod_eq_of_lt (by omega)]
end
section
variable [Inhabited PrSet] {B : Nat} {w w' : World} {X : Ad} {G : Gp}
end
end Go.Proofs.YtgodjnbbocnckaaGreat

namespace Go.Proofs
open Go.Shelf
def Tryz.sortF_ren : Go.Shelf.Ren := ⟨fun | 6 => 82 | 15 => 105 | 14 => 104 | 28 => 131 | 29 => 132 | 20 => 123 | 21 => 124 | 22 => 125 | 23 => 126 | 24 => 127 | 25 => 128 | 26 => 129 | 27 => 130 | 46 => 154 | 47 => 155 | 48 => 156 | 49 => 157 | 50 => 158 | 57 => 166 | n => n, fun | 22 => 65 | 24 => 79 | 25 => 146 | 3 => 3 | 39 => 152 | 0 => 0 | 53 => 182 | 55 => 42 | 4 => 4 | 46 => 175 | 45 => 174 | 50 => 179 | 5 => 5 | 9 => 9 | 66 => 210 | 70 => 166 | 76 => 225 | 77 => 68 | n => n, fun | n => n⟩
theorem Tryz.sortF : Go.Proofs.SlLaysF.n6 Tryz.prog Tryz.sortF_ren := {
  mixed := by kernel_rfl
  f6 := ⟨Tryz.f82.name, by decide, Tryz.func82.trans (congrArg some (by kernel_rfl))⟩
  f14 := ⟨Tryz.f104.name, by decide, Tryz.func104.trans (congrArg some (by kernel_rfl))⟩
  f15 := Tryz.func105.trans (congrArg some (by kernel_rfl))
  f20 := ⟨Tryz.f123.name, by decide, Tryz.func123.trans (congrArg some (by kernel_rfl))⟩
  f21 := ⟨Tryz.f124.name, by decide, Tryz.func124.trans (congrArg some (by kernel_rfl))⟩
  f22 := ⟨Tryz.f125.name, by decide, Tryz.func125.trans (congrArg some (by kernel_rfl))⟩
  f23 := ⟨Tryz.f126.name, by decide, Tryz.func126.trans (congrArg some (by kernel_rfl))⟩
  f24 := ⟨Tryz.f127.name, by decide, Tryz.func127.trans (congrArg some (by kernel_rfl))⟩
  f25 := ⟨Tryz.f128.name, by decide, Tryz.func128.trans (congrArg some (by kernel_rfl))⟩
  f26 := ⟨Tryz.f129.name, by decide, Tryz.func129.trans (congrArg some (by kernel_rfl))⟩
  f27 := ⟨Tryz.f130.name, by decide, Tryz.func130.trans (congrArg some (by kernel_rfl))⟩
  f28 := Tryz.func131.trans (congrArg some (by kernel_rfl))
  f29 := Tryz.func132.trans (congrArg some (by kernel_rfl))
  f46 := ⟨Tryz.f154.name, by decide, Tryz.func154.trans (congrArg some (by kernel_rfl))⟩
  f47 := Tryz.func155.trans (congrArg some (by kernel_rfl))
  f48 := Tryz.func156.trans (congrArg some (by kernel_rfl))
  f49 := ⟨Tryz.f157.name, by decide, Tryz.func157.trans (congrArg some (by kernel_rfl))⟩
  f50 := ⟨Tryz.f158.name, by decide, Tryz.func158.trans (congrArg some (by kernel_rfl))⟩
  f57 := ⟨Tryz.f166.name, by decide, Tryz.func166.trans (congrArg some (by kernel_rfl))⟩
  t0 := Tryz.underlying0
  a0 := Tryz.isAgg0
  z0 := Tryz.sizeOf0
  v0 := Tryz.zeroValue0
  t3 := Tryz.underlying3
  a3 := Tryz.isAgg3
  z3 := Tryz.sizeOf3
  v3 := Tryz.zeroValue3
  t4 := Tryz.underlying4
  a4 := Tryz.isAgg4
  z4 := Tryz.sizeOf4
  v4 := Tryz.zeroValue4
  t5 := Tryz.underlying5
  a5 := Tryz.isAgg5
  z5 := Tryz.sizeOf5
  v5 := Tryz.zeroValue5
  t9 := Tryz.underlying9
  a9 := Tryz.isAgg9
  z9 := Tryz.sizeOf9
  v9 := Tryz.zeroValue9
  t22 := Tryz.underlying65
  a22 := Tryz.isAgg65
  z22 := Tryz.sizeOf65
  v22 := Tryz.zeroValue65
  a24 := Tryz.isAgg79
  z24 := Tryz.sizeOf79
  t25 := Tryz.underlying146
  a25 := Tryz.isAgg146
  z25 := Tryz.sizeOf146
  v25 := Tryz.zeroValue146
  t39 := Tryz.underlying152
  a39 := Tryz.isAgg152
  z39 := Tryz.sizeOf152
  v39 := Tryz.zeroValue152
  t45 := Tryz.underlying174
  a45 := Tryz.isAgg174
  z45 := Tryz.sizeOf174
  v45 := Tryz.zeroValue174
  t46 := Tryz.underlying175
  a46 := Tryz.isAgg175
  z46 := Tryz.sizeOf175
  v46 := Tryz.zeroValue175
  t50 := Tryz.underlying179
  a50 := Tryz.isAgg179
  z50 := Tryz.sizeOf179
  v50 := Tryz.zeroValue179
  t53 := Tryz.underlying182
  a53 := Tryz.isAgg182
  z53 := Tryz.sizeOf182
  v53 := Tryz.zeroValue182
  t55 := Tryz.underlying42
  a55 := Tryz.isAgg42
  z55 := Tryz.sizeOf42
  v55 := Tryz.zeroValue42
  t66 := Tryz.underlying210
  a66 := Tryz.isAgg210
  z66 := Tryz.sizeOf210
  v66 := Tryz.zeroValue210
  t70 := Tryz.underlying166
  a70 := Tryz.isAgg166
  z70 := Tryz.sizeOf166
  v70 := Tryz.zeroValue166
  t76 := Tryz.underlying225
  a76 := Tryz.isAgg225
  z76 := Tryz.sizeOf225
  v76 := Tryz.zeroValue225
  t77 := Tryz.underlying68
  a77 := Tryz.isAgg68
  z77 := Tryz.sizeOf68
  v77 := Tryz.zeroValue68 }
end Go.Proofs

namespace Go.Proofs.YtgodjnbbocnckaaGreat
open Go.RowKit Go.Maps Go.ChangeMaps
set_option linter.unusedVariables false
set_option linter.unusedSimpArgs false
set_option maxRecDepth 100000

/-- What cmp.Compare tells. -/
def cmpI (a b : Int) : Int := if a < b then -1 else if b < a then 1 else 0
theorem isNaN_int (x : Int) (w : World) : Calls Tryz.prog 106 #[.int .i64 x] w fun e w' => e = .returned (.bool false) ∧ w' = w := by
  go_enter Tryz.func106, Tryz.ntmps106
  go_wp2
  go_ret
  exact ⟨by simp, rfl⟩
theorem Compare_int (x y : Int) (w : World) : Calls Tryz.prog 84 #[.int .i64 x, .int .i64 y] w fun e w' => e = .returned (.int .i64 (cmpI x y)) ∧ w' = w := by
  have CN : Hid (∀ z wx, Calls Tryz.prog 106 #[.int .i64 z] wx fun e w' => e = .returned (.bool false) ∧ w' = wx) := fun z wx => isNaN_int z wx
  by_cases h1 : x < y
  · have e : cmpI x y = -1 := by unfold cmpI; rw [if_pos h1]
    rw [e]
    go_enter Tryz.func84, Tryz.ntmps84
    go_wp2_with (go_at_call 106; refine (CN.out _ _).mono ?_; rintro e w' ⟨rfl, rfl⟩)
    go_ret
    exact ⟨rfl, rfl⟩
  · by_cases h2 : y < x
    · have e : cmpI x y = 1 := by unfold cmpI; rw [if_neg h1, if_pos h2]
      rw [e]
      go_enter Tryz.func84, Tryz.ntmps84
      go_wp2_with (go_at_call 106; refine (CN.out _ _).mono ?_; rintro e w' ⟨rfl, rfl⟩)
      go_ret
      exact ⟨rfl, rfl⟩
    · have e : cmpI x y = 0 := by unfold cmpI; rw [if_neg h1, if_neg h2]
      rw [e]
      go_enter Tryz.func84, Tryz.ntmps84
      go_wp2_with (go_at_call 106; refine (CN.out _ _).mono ?_; rintro e w' ⟨rfl, rfl⟩)
      go_ret
      exact ⟨rfl, rfl⟩
theorem closure_po {W : World} {a b : Nat} {x y : Int} (ha : W.cell? ⟨a, 0, none⟩ = some (.int .i64 x)) (hb : W.cell? ⟨b, 0, none⟩ = some (.int .i64 y)) :
    Calls Tryz.prog 83 #[.pointer (some ⟨a, 0, none⟩), .pointer (some ⟨b, 0, none⟩)] W fun e w' => e = .returned (.int .i64 (cmpI x y)) ∧ ∃ q, w' = W.drewN q := by
  have CC : Hid (∀ wx, Calls Tryz.prog 84 #[.int .i64 x, .int .i64 y] wx fun e w' => e = .returned (.int .i64 (cmpI x y)) ∧ w' = wx) := fun wx => Compare_int x y wx
  generalize cmpI x y = r at *
  go_enter Tryz.func83, Tryz.ntmps83
  go_wp2
  go_quiet ((go_at_call 84; exact Calls.quiet_of_same (CC.out _)))
  go_wp2
  go_ret
  exact ⟨rfl, nq, rfl⟩
/-! ### Rows of frames -/
def ptF (X : Ad) (j : Nat) : Value := .pointer (some ⟨X.fb j, 0, none⟩)
/-- A slice of frames that is only read. -/
structure Ps (w : World) (X : Ad) (a : Option Addr) (js : List Nat) : Prop where
  at_ : ∀ i, (h : i < js.length) → js[i] < X.n ∧ ∃ g, a = some ⟨g, 0, none⟩ ∧ g < w.heap.size ∧ (∃ cur fz, w.heap[g]? = some (.cells cur 79 fz)) ∧ w.cell? ⟨g, i, none⟩ = some (ptF X js[i])
structure OwnP (B : Nat) (w : World) (v : Value) (X : Ad) (js : List Nat) : Prop where
  row : w.ownsRow B 79 1 v js.length (js.map (ptF X))
section
variable [Inhabited PrSet] {B b0 : Nat} {w w' : World} {X : Ad} {G : Gp} {a : Option Addr} {js : List Nat} {v : Value}
end
section
variable {B b0 : Nat} {w w' : World} {X : Ad} {G : Gp} {a : Option Addr} {js : List Nat} {v : Value}
theorem Ps.below (h : Ps w X a js) (hb : Below w.heap.size w w') : Ps w' X a js := ⟨fun i hi => by
  obtain ⟨h1, g, h2, h3, ⟨cur, fz, h5⟩, h4⟩ := h.at_ i hi
  exact ⟨h1, g, h2, Nat.lt_of_lt_of_le h3 hb.size, ⟨cur, fz, (hb.block _ h3).trans h5⟩, (World.cell?_of_block (hb.block g h3)).trans h4⟩⟩
end
section
variable [Inhabited PrSet] {B b0 : Nat} {w w' : World} {X : Ad} {G : Gp} {a : Option Addr} {js : List Nat} {v : Value}
theorem Ps.kept {B' : Nat} (h : Ps w X a js) (hb : Kp isQ B' w w') : Ps w' X a js := ⟨fun i hi => by
  obtain ⟨h1, g, h2, h3, ⟨cur, fz, h5⟩, h4⟩ := h.at_ i hi
  have e := hb.block _ _ h5 (by simp [isQ, isA, isD, isL, isF])
  exact ⟨h1, g, h2, Nat.lt_of_lt_of_le h3 hb.size, ⟨cur, fz, e⟩, (World.cell?_of_block (w := w) (e.trans h5.symm)).trans h4⟩⟩
theorem Ps.all (h : PoIs B w X G) : Ps w X (some ⟨X.ra, 0, none⟩) (List.range X.n) := ⟨fun i hi => by
  have hi' : i < X.n := by simpa using hi
  obtain ⟨cur, fz, e, _⟩ := h.row
  refine ⟨by simpa using hi', X.ra, rfl, h.ralt, ⟨cur, fz, e⟩, ?_⟩
  rw [List.getElem_range]
  exact h.ra hi'⟩
end
section
variable {B b0 : Nat} {w w' : World} {X : Ad} {G : Gp} {a : Option Addr} {js : List Nat} {v : Value}
theorem Ps.one (w : World) {j : Nat} (hj : j < X.n) : Ps (w.alloc (.cells #[ptF X j] 79)) X (some ⟨w.heap.size, 0, none⟩) [j] := ⟨fun i hi => by
  obtain rfl : i = 0 := by simpa using hi
  have e := (MapKept.heap_alloc w (.cells #[ptF X j] 79)).1
  exact ⟨hj, w.heap.size, rfl, lt_of_some e, ⟨_, _, e⟩, Joins.cell_of_block e 0⟩⟩
end
section
variable [Inhabited PrSet] {B b0 : Nat} {w w' : World} {X : Ad} {G : Gp} {a : Option Addr} {js : List Nat} {v : Value}
end
section
variable {B b0 : Nat} {w w' : World} {X : Ad} {G : Gp} {a : Option Addr} {js : List Nat} {v : Value}
theorem cell_new0 (w : World) (x : Value) (t : TypeId) : (w.alloc (.cells #[x] t)).cell? ⟨w.heap.size, 0, none⟩ = some x := Joins.cell_of_block (MapKept.heap_alloc w (.cells #[x] t)).1 0
end
section
variable [Inhabited PrSet] {B b0 : Nat} {w w' : World} {X : Ad} {G : Gp} {a : Option Addr} {js : List Nat} {v : Value}
end
section
variable {B b0 : Nat} {w w' : World} {X : Ad} {G : Gp} {a : Option Addr} {js : List Nat} {v : Value}
theorem OwnP.nil (B : Nat) (w : World) : OwnP B w (.slice none 0 0) X [] := ⟨rfl, Or.inl ⟨rfl, rfl⟩⟩
end
section
variable [Inhabited PrSet] {B b0 : Nat} {w w' : World} {X : Ad} {G : Gp} {a : Option Addr} {js : List Nat} {v : Value}
end
section
variable {B b0 : Nat} {w w' : World} {X : Ad} {G : Gp} {a : Option Addr} {js : List Nat} {v : Value}
theorem OwnP.below (h : OwnP b0 w v X js) (hb : Below w.heap.size w w') : OwnP b0 w' v X js := by
  obtain ⟨h1, h2⟩ := h.row
  refine ⟨h1, ?_⟩
  rcases h2 with h2 | ⟨g, cap, cur, e, hB, hg, h3⟩
  · exact Or.inl h2
  · exact Or.inr ⟨g, cap, cur, e, hB, (hb.block _ (lt_of_some hg)).trans hg, h3⟩
end
section
variable [Inhabited PrSet] {B b0 : Nat} {w w' : World} {X : Ad} {G : Gp} {a : Option Addr} {js : List Nat} {v : Value}
end
section
variable {B b0 : Nat} {w w' : World} {X : Ad} {G : Gp} {a : Option Addr} {js : List Nat} {v : Value}
theorem OwnP.ex (h : OwnP b0 w v X js) : ∃ a c, v = .slice a js.length c := by
  obtain ⟨h1, h2⟩ := h.row
  rcases h2 with ⟨rfl, h2⟩ | ⟨g, cap, cur, e, hB, hg, h3⟩
  · exact ⟨none, 0, by rw [h2]⟩
  · exact ⟨_, _, e⟩
end
section
variable [Inhabited PrSet] {B b0 : Nat} {w w' : World} {X : Ad} {G : Gp} {a : Option Addr} {js : List Nat} {v : Value}
end
section
variable {B b0 : Nat} {w w' : World} {X : Ad} {G : Gp} {a : Option Addr} {js : List Nat} {v : Value}
theorem info_ptr : ∃ i, Tryz.prog.info? 79 = some i ∧ i.zero = some (.pointer none) ∧ i.size = 1 ∧ i.bytes = 8 :=
  info_parts (show (Tryz.prog.info? 79).map (fun i => (i.zero, i.size, i.bytes)) = some (some (.pointer none), 1, 8) by kernel_rfl)
end
section
variable [Inhabited PrSet] {B b0 : Nat} {w w' : World} {X : Ad} {G : Gp} {a : Option Addr} {js : List Nat} {v : Value}
end
section
variable {B b0 : Nat} {w w' : World} {X : Ad} {G : Gp} {a : Option Addr} {js : List Nat} {v : Value}
theorem wpList_append_ptr {ops : Array Oper} {rest : List Oper} {o : Oper} {act : Act} {Q : Exit → Act → World → Prop} (hgd : o.guard = none) (s x : Operand)
    (ho : o.op = .call { callee := .builtin .append, args := #[s, x], argTypes := #[65, 65] }) (hs : act.eval s = v) (h : OwnP b0 w v X js)
    {g : Nat} {j : Nat} (hx : act.eval x = .slice (some ⟨g, 0, none⟩) 1 1) (hg : w.cell? ⟨g, 0, none⟩ = some (ptF X j)) (hB : b0 ≤ w.heap.size) (hl : js.length ≤ 100000)
    (K : ∀ v' w', OwnP b0 w' v' X (js ++ [j]) → Below b0 w w' → (∀ (k : Nat) (t : TypeId) (cur : Array Value) (fz : Nat × Nat), w.heap[k]? = some (Obj.cells cur t fz) → t ≠ 79 → w'.heap[k]? = some (Obj.cells cur t fz)) → wpList Tryz.prog ops Q rest (act.put o.dst v') w') : wpList Tryz.prog ops Q (o :: rest) act w := by
  obtain ⟨i, hi, hz0, hz1, hz2⟩ := info_ptr
  refine Go.wpList_append_own (P := Tryz.prog) (w := w) hgd s x 65 ho b0 79 i (.pointer none) 1 8 Tryz.underlying65 hi hz0 hz1 hz2 rfl (by omega) v js.length (js.map (ptF X)) hs h.row ⟨g, 0, none⟩ 1 1 [ptF X j] hx rfl ?_ ?_ (by unfold maxLen; omega) (by omega) hB ?_
  · intro j u hu
    have : j = 0 := by
      have := (List.getElem?_eq_some_iff.1 hu).1
      simpa using this
    subst this
    simp at hu
    subst hu
    have hadd : (⟨g, 0, none⟩ : Addr).add 0 = ⟨g, 0, none⟩ := by unfold Addr.add; split <;> simp_all
    rw [hadd]
    exact hg
  · intro u hu
    simp at hu
    subst hu
    rfl
  · intro v' w' hr hgr hn
    have hC : ∀ j, v.ownBlock = some j → b0 ≤ j ∧ ∃ cur, w.heap[j]? = some (.cells cur 79 (0, 0)) := by
      intro j e
      rcases h.row.2 with ⟨rfl, _⟩ | ⟨b, cap, cur, rfl, hbg, hgg, _⟩
      · simp [Value.ownBlock] at e
      · simp [Value.ownBlock] at e
        subst e
        exact ⟨hbg, cur, hgg⟩
    refine K v' w' ⟨?_⟩ ((Below.refl b0 w).grown hgr hB (fun j e => (hC j e).1)) (fun j t cur fz e hnr => (hgr.block j (lt_of_some e) (fun e2 => ?_)).trans e)
    · have e1 : (js ++ [j]).length = js.length + 1 := by simp
      have e2 : (js ++ [j]).map (ptF X) = js.map (ptF X) ++ [ptF X j] := by simp
      rw [e1, e2]
      exact hr
    · obtain ⟨_, cur, e3⟩ := hC j e2.symm
      rw [e] at e3; cases e3; exact hnr rfl
end
section
variable [Inhabited PrSet] {B b0 : Nat} {w w' : World} {X : Ad} {G : Gp} {a : Option Addr} {js : List Nat} {v : Value}
/-! ### Sorted -/
end
section
open Go.Sort Go.Shelf
variable {α : Type} [Inhabited α] {enc : α → Value}
theorem heap_sortedE {w : World} {g n : Nat} {os : Array Obj} {cur : Array Value} {e : TypeId} {fr : Nat × Nat} (d : Array α) (hb : w.heap[g]? = some (.cells cur e fr)) :
    (sortWorld enc w g 0 n d os).heap[g]? = some (.cells (putCells enc 0 d cur) e fr) := by
  have hlt := lt_of_some hb
  unfold sortWorld
  rw [heap_grow_old _ _ (by simpa [putRow, mapBlock, Sort.ahead] using hlt)]
  simp [putRow, mapBlock, Sort.ahead, Array.getElem?_modify, hb]
  rfl
theorem grownBy_sortedE {w : World} {g n : Nat} {os : Array Obj} (d : Array α) : w.grownBy (sortWorld enc w g 0 n d os) (some g) := by
  refine ⟨rfl, rfl, rfl, by simp [sortWorld, grow, putRow, mapBlock, Sort.ahead], fun k hk hne => ?_⟩
  unfold sortWorld
  rw [heap_grow_old _ _ (by simpa [putRow, mapBlock, Sort.ahead] using hk)]
  have : g ≠ k := fun e => hne (by rw [e])
  simp [putRow, mapBlock, Sort.ahead, Array.getElem?_modify, this]
theorem cell_sortedE {w : World} {g n : Nat} {os : Array Obj} (d : Array α) {p : Addr} (hp : p.block < w.heap.size) (hn : p.block ≠ g) : (sortWorld enc w g 0 n d os).cell? p = w.cell? p :=
  World.cell?_of_block ((grownBy_sortedE (os := os) (n := n) d).block _ hp (fun e => hn (by cases e; rfl)))
end
section
variable [Inhabited PrSet] {B b0 : Nat} {w w' : World} {X : Ad} {G : Gp} {a : Option Addr} {js : List Nat} {v : Value}
def toF {n : Nat} (hn : 0 < n) (j : Nat) : Fin n := if h : j < n then ⟨j, h⟩ else ⟨0, hn⟩
end
section
variable {B b0 : Nat} {w w' : World} {X : Ad} {G : Gp} {a : Option Addr} {js : List Nat} {v : Value}
theorem toF_val {n : Nat} (hn : 0 < n) {j : Nat} (h : j < n) : (toF hn j).val = j := by unfold toF; rw [dif_pos h]
end
section
variable [Inhabited PrSet] {B b0 : Nat} {w w' : World} {X : Ad} {G : Gp} {a : Option Addr} {js : List Nat} {v : Value}
open Go.Sort Go.Shelf in
set_option maxHeartbeats 1000000 in
theorem sort_po (h : PoIs B w X G) (hne : js ≠ []) (hjs : ∀ j ∈ js, j < X.n) (hl : js.length ≤ 1000) (ho : OwnP b0 w v X js) :
    Calls Tryz.prog 82 #[v, .func (.func 83) #[] #[]] w fun e w' => e = .returned (.tuple #[]) ∧ ∃ ds, ds.Perm js ∧ ds.Pairwise (fun i j => (G.F i).id ≤ (G.F j).id) ∧ OwnP b0 w' v X ds ∧ ∃ g, v.ownBlock = some g ∧ b0 ≤ g ∧ w.grownBy w' (some g) := by
  have hn : 0 < X.n := by have := h.n1; omega
  haveI : Inhabited (Fin X.n) := ⟨⟨0, hn⟩⟩
  rcases ho.row.2 with ⟨rfl, hz⟩ | ⟨g, cap, cur, rfl, hbg, hgg, hnc, hcm, hcs, htake⟩
  · exact absurd (List.eq_nil_of_length_eq_zero hz) hne
  have hd : (js.map (toF hn)).length = js.length := by simp
  have henc : ∀ j ∈ js, (fun i : Fin X.n => ptF X i.val) (toF hn j) = ptF X j := fun j hj => by dsimp only; rw [toF_val hn (hjs j hj)]
  have hmap : (js.map (toF hn)).map (fun i : Fin X.n => ptF X i.val) = js.map (ptF X) := by
    rw [List.map_map]; exact List.map_congr_left henc
  have hgf : ∀ i : Fin X.n, X.fb i.val ≠ g := fun i e => by
    have := h.fr i.val i.isLt
    rw [e, hgg] at this
    simp at this
  have hH : Holds (fun i : Fin X.n => ptF X i.val) w g 0 (js.map (toF hn)).toArray := by
    intro j hj
    have hj' : j < js.length := by simpa using hj
    refine ⟨?_, Joins.unfrozen_of_block hgg _⟩
    rw [Nat.zero_add, cell_of_row w g j cur _ (0, 0) hgg]
    have e1 : (cur.toList.take (js.length * 1))[j]? = (js.map (ptF X))[j]? := by rw [htake]
    rw [List.getElem?_take_of_lt (by omega)] at e1
    rw [← Array.getElem?_toList, e1, ← hmap]
    simp [hj']
  have hcf : ∀ x y : Fin X.n, ltOf (fun x y : Fin X.n => cmpI (G.F x.val).id (G.F y.val).id) x y = decide ((G.F x.val).id < (G.F y.val).id) := fun x y => by
    unfold ltOf cmpI
    by_cases h1 : (G.F x.val).id < (G.F y.val).id
    · simp [h1]
    · by_cases h2 : (G.F y.val).id < (G.F x.val).id <;> simp [h1, h2]
  have hO : SWO (ltOf (fun x y : Fin X.n => cmpI (G.F x.val).id (G.F y.val).id)) := by
    refine ⟨fun x => ?_, fun x y z h1 h2 => ?_, fun x y z h1 h2 => ?_⟩
    · rw [hcf]; simp
    · rw [hcf] at *; simp at *; omega
    · rw [hcf] at *; simp at *; omega
  have hC : CmpReads Tryz.prog 83 #[] (fun i : Fin X.n => ptF X i.val) (fun x y : Fin X.n => cmpI (G.F x.val).id (G.F y.val).id) g 0 (js.map (toF hn)).toArray.size w := by
    intro m os dk hdk x y
    have cx : (sortWorld (fun i : Fin X.n => ptF X i.val) w g 0 m dk os).cell? ⟨X.fb x.val, 0, none⟩ = some (.int .i64 (G.F x.val).id) := (cell_sortedE dk (h.flt x.isLt) (hgf x)).trans (h.f0 x.isLt)
    have cy : (sortWorld (fun i : Fin X.n => ptF X i.val) w g 0 m dk os).cell? ⟨X.fb y.val, 0, none⟩ = some (.int .i64 (G.F y.val).id) := (cell_sortedE dk (h.flt y.isLt) (hgf y)).trans (h.f0 y.isLt)
    exact closure_po cx cy
  have eg : ∀ args w, (callFunc 83 args).run Tryz.prog w = .ok (.enter 83 args) w := enters_of Tryz.func83 (by kernel_rfl) rfl
  have hcon := Any.slices_SortFunc Tryz.sortF (fun i : Fin X.n => ptF X i.val) (fun _ => rfl) (fun x y : Fin X.n => cmpI (G.F x.val).id (G.F y.val).id) hO 83 #[] g 0 cap (js.map (toF hn)).toArray w eg hC.lays hH (lt_of_some hgg) (by simp; omega)
  change Calls Tryz.prog 82 _ _ _ at hcon
  rw [show (js.map (toF hn)).toArray.size = js.length by simp] at hcon
  refine hcon.mono ?_
  rintro e w' ⟨he, d', m, os, hp, hs, rfl⟩
  refine ⟨he, d'.toList.map Fin.val, ?_, ?_, ⟨?_⟩, g, rfl, hbg, grownBy_sortedE d'⟩
  · have h3 := hp.2.2
    have hsz : d'.size = js.length := by rw [hp.1]; simp
    have e1 : (d'.extract 0 js.length).toList = d'.toList := by rw [← hsz]; simp
    have e2 : ((js.map (toF hn)).toArray.extract 0 js.length).toList = js.map (toF hn) := by
      simp
      exact List.take_of_length_le (by simp)
    rw [e1, e2] at h3
    have h4 := h3.map Fin.val
    rw [List.map_map] at h4
    have e3 : js.map (Fin.val ∘ toF hn) = js := by
      conv => rhs; rw [← List.map_id js]
      exact List.map_congr_left (fun j hj => toF_val hn (hjs j hj))
    rw [e3] at h4
    exact h4
  · have hsz : d'.size = js.length := by rw [hp.1]; simp
    rw [List.pairwise_map, List.pairwise_iff_getElem]
    intro i j hi hj hij
    have hi' : i < d'.size := by simpa using hi
    have hj' : j < d'.size := by simpa using hj
    have := hs i j (Nat.zero_le _) hij (by omega)
    rw [hcf] at this
    simp [hi', hj'] at this
    simp
    omega
  · have hsz : d'.size = js.length := by rw [hp.1]; simp
    refine ⟨by simp, Or.inr ⟨g, cap, _, by simp [hsz], hbg, heap_sortedE d' hgg, by simp [hsz]; exact hnc, hcm, by simp [putCells]; omega, ?_⟩⟩
    apply List.ext_getElem?
    intro j
    by_cases hj : j < js.length
    · have hjd : j < d'.size := by omega
      have hjc : j < cur.size := by omega
      rw [List.getElem?_take_of_lt (by simp [hsz]; omega), Array.getElem?_toList]
      simp [putCells, hjd, hjc]
    · rw [List.getElem?_take_eq_none (by simp [hsz]; omega), List.getElem?_eq_none (by simp [hsz]; omega)]
end
end Go.Proofs.YtgodjnbbocnckaaGreat

namespace Go.Proofs.YtgodjnbbocnckaaGreat
open Go.RowKit Go.Maps Go.ChangeMaps
set_option linter.unusedVariables false
set_option linter.unusedSimpArgs false
set_option maxRecDepth 100000

def dty (G : Gp) (j : Nat) : Bool := decide (0 < (G.F j).si)
/-- The dirty frames of some, by their pages. -/
structure Dl (w w' : World) (X : Ad) (G : Gp) (js : List Nat) (e : Ending) (a : Option Addr) (c : Nat) (ds : List Nat) : Prop where
  e : e = .returned (.slice a ds.length c)
  ps : Ps w' X a ds
  perm : ds.Perm (js.filter (dty G))
  sort : ds.Pairwise (fun i j => (G.F i).id ≤ (G.F j).id)
  below : Below w.heap.size w w'
section
variable [Inhabited PrSet] {B b0 : Nat} {w w' : World} {X : Ad} {G : Gp} {a : Option Addr} {js : List Nat} {v : Value}
end
section
variable {B b0 : Nat} {w w' : World} {X : Ad} {G : Gp} {a : Option Addr} {js : List Nat} {v : Value}
theorem OwnP.ps (h : OwnP b0 w v X js) (hj : ∀ j ∈ js, j < X.n) {a : Option Addr} {n c : Nat} (hv : v = .slice a n c) : Ps w X a js := by
  refine ⟨fun i hi => ⟨hj _ (List.getElem_mem hi), ?_⟩⟩
  obtain ⟨h1, h2⟩ := h.row
  rcases h2 with ⟨rfl, h2⟩ | ⟨g, cap, cur, e, hB, hg, h3, h4, h5, h6⟩
  · omega
  · rw [hv] at e
    cases e
    refine ⟨g, rfl, lt_of_some hg, ⟨_, _, hg⟩, ?_⟩
    rw [cell_of_row w g i cur _ (0, 0) hg]
    have : (js.map (ptF X))[i]? = some (ptF X js[i]) := by simp [hi]
    rw [← h6, List.getElem?_take, if_pos (by omega)] at this
    simpa using this
end
section
variable [Inhabited PrSet] {B b0 : Nat} {w w' : World} {X : Ad} {G : Gp} {a : Option Addr} {js : List Nat} {v : Value}
set_option maxHeartbeats 4000000 in
theorem dirtyOf_po (h : PoIs B w X G) (hp : Ps w X a js) (hl : js.length ≤ 64) (c : Nat) : Calls Tryz.prog 63 #[.slice a js.length c] w fun e w' => ∃ a' c' ds, Dl w w' X G js e a' c' ds := by
  have hjs : ∀ j ∈ js, j < X.n := fun j hj => by
    obtain ⟨i, hi, rfl⟩ := List.getElem_of_mem hj
    exact (hp.at_ i hi).1
  have HD : Hid (∀ wx i (hi : i < js.length), Below w.heap.size w wx → Calls Tryz.prog 59 #[ptF X js[i]] wx fun e w' => e = .returned (.bool (dty G js[i])) ∧ w' = wx) := fun wx i hi hx => isDirty_at ((h.below hx).f4 (hp.at_ i hi).1)
  have HA : Hid (∀ wx i (hi : i < js.length), Below w.heap.size w wx → ∃ g, a = some ⟨g, 0, none⟩ ∧ wx.cell? ⟨g, i, none⟩ = some (ptF X js[i])) := fun wx i hi hx => by
    obtain ⟨_, g, e, _, _, hc⟩ := (hp.below hx).at_ i hi
    exact ⟨g, e, hc⟩
  have HT : Hid (∀ i (hi : i < js.length), (js.take (i + 1)).filter (dty G) = (js.take i).filter (dty G) ++ (if dty G js[i] = true then [js[i]] else [])) := fun i hi => by
    rw [List.take_succ_eq_append_getElem hi, List.filter_append]
    by_cases hd : dty G js[i] = true
    · rw [if_pos hd]; simp [hd]
    · rw [if_neg hd]; simp [hd]
  have HL : Hid (∀ i, ((js.take i).filter (dty G)).length ≤ 100000) := fun i => by
    have h1 := List.length_filter_le (dty G) (js.take i)
    have h2 := List.length_take_le' i js
    omega
  have HS : Hid (∀ wx v, Below w.heap.size w wx → OwnP w.heap.size wx v X (js.filter (dty G)) → js.filter (dty G) ≠ [] → Calls Tryz.prog 82 #[v, .func (.func 83) #[] #[]] wx fun e w' => e = .returned (.tuple #[]) ∧ ∃ ds, ds.Perm (js.filter (dty G)) ∧ ds.Pairwise (fun i j => (G.F i).id ≤ (G.F j).id) ∧ OwnP w.heap.size w' v X ds ∧ Below w.heap.size w w') := fun wx v hx ho hne => by
    refine (sort_po (h.below hx) hne (fun j hj => hjs j ((List.mem_filter.1 hj).1)) (by have := HL.out js.length; rw [List.take_length] at this; have h1 := List.length_filter_le (dty G) js; omega) ho).mono ?_
    rintro e w' ⟨he, ds, h1, h2, h3, g, hg, hbg, hgr⟩
    exact ⟨he, ds, h1, h2, h3, hx.grown hgr hx.size (fun j e => by cases e; exact hbg)⟩
  have HN : Hid (∀ wx p cap fv, Calls Tryz.prog 82 #[.slice p 0 cap, fv] wx fun e w' => e = .returned (.tuple #[]) ∧ w' = wx) := fun wx p cap fv => AnyF.slices_SortFunc_none { Tryz.sortF with } p cap fv wx
  have HW : Hid (Below w.heap.size w w) := Below.refl _ _
  have HO : Hid (∀ wx v, OwnP w.heap.size wx v X (js.filter (dty G)) → OwnP w.heap.size wx v X (js.filter (dty G))) := fun _ _ h => h
  have HJ : Hid (∀ j ∈ js, j < X.n) := hjs
  clear h hp hjs
  go_enter Tryz.func63, Tryz.ntmps63
  go_wp2
  go_loopw [3, 8] (fun dv iv wr => ∃ (i : Nat) (ad : Option Addr) (cc : Nat), i ≤ js.length ∧ iv = .int .i64 (i : Int) ∧ dv = .slice ad ((js.take i).filter (dty G)).length cc ∧ OwnP w.heap.size wr (.slice ad ((js.take i).filter (dty G)).length cc) X ((js.take i).filter (dty G)) ∧ Below w.heap.size w wr) (fun _ iv _ => js.length - (intOf iv).toNat)
  case atStart => exact ⟨0, none, 0, Nat.zero_le _, rfl, rfl, OwnP.nil _ _, HW.out⟩
  case round =>
    obtain ⟨i, ad, cc, hi, rfl, rfl, ho, hb⟩ := hrel
    have HB : Hid (Below w.heap.size w wr) := hb
    by_cases hlt : i < js.length
    · have i1 : (i : Int) < (js.length : Int) := by omega
      have i64 : (i : Int) ≤ 64 := by omega
      obtain ⟨g, ha, hc⟩ := HA.out wr i hlt hb
      subst ha
      have hT := HT.out i hlt
      have CD := fun wx hx => HD.out wx i hlt hx
      have hlen := HL.out i
      obtain ⟨j, hj⟩ : ∃ j, j = js[i] := ⟨_, rfl⟩
      rw [← hj] at hT hc CD
      have HCD : Hid (∀ wx, Below w.heap.size w wx → Calls Tryz.prog 59 #[ptF X j] wx fun e w' => e = .returned (.bool (dty G j)) ∧ w' = wx) := CD
      have HOw : Hid (OwnP w.heap.size wr (.slice ad ((js.take i).filter (dty G)).length cc) X ((js.take i).filter (dty G))) := ho
      clear CD ho hj
      simp only [ptF] at hc HCD
      by_cases hd : dty G j = true
      · rw [if_pos hd] at hT
        rw [hd] at HCD
        have hTH : Hid ((js.take (i + 1)).filter (dty G) = (js.take i).filter (dty G) ++ [j]) := hT
        clear hT hd hb
        generalize (js.take i).filter (dty G) = L at *
        go_wp2_with (first
          | (go_at_call 59; refine (HCD.out _ HB.out).mono ?_; rintro e w1 ⟨rfl, rfl⟩)
          | (at_builtin; refine wpList_append_ptr (b0 := w.heap.size) (X := X) (j := j) rfl _ _ rfl rfl (HOw.out.below ((Below.refl _ _).alloc (Nat.le_refl _) _)) rfl (cell_new0 _ _ _) ?_ hlen ?_; exact Nat.le_trans HB.out.size (by simp); intro v2 w2 o2 b2 _; obtain ⟨a2, c2, rfl⟩ := o2.ex))
        go_roundw
        case rel =>
          refine ⟨i + 1, a2, c2, hlt, by go_num, ?_, ?_, ?_⟩
          · rw [hTH.out]; simp
          · rw [hTH.out]; exact o2
          · exact (HB.out.alloc (by exact HB.out.size) _).trans b2
        case measure => simp [intOf]; omega
      · rw [if_neg hd, List.append_nil] at hT
        have hd' : dty G j = false := by simpa using hd
        rw [hd'] at HCD
        have hTH : Hid ((js.take (i + 1)).filter (dty G) = (js.take i).filter (dty G)) := hT
        clear hT hd hb hd'
        generalize (js.take i).filter (dty G) = L at *
        go_wp2_with (go_at_call 59; refine (HCD.out _ HB.out).mono ?_; rintro e w1 ⟨rfl, rfl⟩)
        go_roundw
        case rel =>
          refine ⟨i + 1, ad, cc, hlt, by go_num, ?_, ?_, HB.out⟩
          · rw [hTH.out]
          · rw [hTH.out]; exact HOw.out
        case measure => simp [intOf]; omega
    · obtain rfl : i = js.length := by omega
      have i1 : ¬ (js.length : Int) < (js.length : Int) := by omega
      rw [List.take_length] at ho
      rw [List.take_length]
      clear hlt
      by_cases hne : js.filter (dty G) = []
      · have HP : Hid (js.filter (dty G) = []) := hne
        rw [hne]
        clear ho hne
        go_wp2_with (go_at_call 82; refine (HN.out _ _ _ _).mono ?_; rintro e w1 ⟨rfl, rfl⟩)
        go_ret
        exact ⟨ad, cc, [], rfl, ⟨fun i hi => absurd hi (Nat.not_lt_zero _)⟩, by rw [HP.out], List.Pairwise.nil, HB.out⟩
      · have CS : Hid (Calls Tryz.prog 82 #[.slice ad (js.filter (dty G)).length cc, .func (.func 83) #[] #[]] wr fun e w' => e = .returned (.tuple #[]) ∧ ∃ ds, ds.Perm (js.filter (dty G)) ∧ ds.Pairwise (fun i j => (G.F i).id ≤ (G.F j).id) ∧ OwnP w.heap.size w' (.slice ad (js.filter (dty G)).length cc) X ds ∧ Below w.heap.size w w') := HS.out _ _ hb ho hne
        clear ho hb hne
        have HL2 : Hid (∀ ds : List Nat, ds.Perm (js.filter (dty G)) → ds.length = (js.filter (dty G)).length) := fun ds h => h.length_eq
        go_wp2_with (go_at_call 82; refine CS.out.mono ?_; rintro e w1 ⟨rfl, ds, h1, h2, h3, h4⟩)
        go_ret
        refine ⟨ad, cc, ds, ?_, ?_, h1, h2, h4⟩
        · rw [h1.length_eq]; rfl
        · exact h3.ps (fun j hj => HJ.out j (List.mem_filter.1 (h1.subset hj)).1) rfl
end
end Go.Proofs.YtgodjnbbocnckaaGreat

namespace Go.Proofs.YtgodjnbbocnckaaGreat
open Go.RowKit Go.Maps Go.ChangeMaps
set_option linter.unusedVariables false
set_option linter.unusedSimpArgs false
set_option maxRecDepth 100000

/-- 224 bytes of one kind. -/
def fillS (x : Nat) : ByteArray := ⟨Array.replicate 224 (UInt8.ofNat x)⟩
theorem fillS_size (x : Nat) : (fillS x).size = 224 := by simp [fillS, ByteArray.size]
theorem fillS_get (x : Nat) (i : Nat) (hi : i < (fillS x).size) : (fillS x)[i] = UInt8.ofNat x := by
  show (fillS x).data[i] = _
  simp [fillS]
/-- The log's frames: a commit's record for each byte. -/
def fcm (c : Nat) : ByteArray := (frameM (cmM (c : Int))).1
def fsOf (cs : List Nat) : List ByteArray := cs.map fcm
theorem fcm_ok {c : Nat} (h : c < 256) : (frameM (cmM (c : Int))).2 = 0 ∧ (fcm c).size = 19 ∧ recF (fcm c) = cmM (c : Int) := cm_frame (c : Int) (by omega) (by omega)
theorem fsOf_sz {cs : List Nat} (h : ∀ c ∈ cs, c < 256) : (cat (fsOf cs)).size = 19 * cs.length := by
  have := sz_take (fs := fsOf cs) (fun f hf => by
    obtain ⟨c, hc, rfl⟩ := List.mem_map.1 hf
    exact (fcm_ok (h c hc)).2.1)
  rw [this]; simp [fsOf]
theorem fsOf_off {cs : List Nat} (h : ∀ c ∈ cs, c < 256) {i : Nat} (hi : i ≤ cs.length) : off (fsOf cs) i = 19 * i := by
  have e : (fsOf cs).take i = fsOf (cs.take i) := by simp [fsOf, List.map_take]
  unfold off
  rw [e, fsOf_sz (fun c hc => h c (List.mem_of_mem_take hc)), List.length_take]
  omega
theorem fsOf_snoc (cs : List Nat) (c : Nat) : fsOf (cs ++ [c]) = fsOf cs ++ [fcm c] := by simp [fsOf]
theorem fsOf_len (cs : List Nat) : (fsOf cs).length = cs.length := by simp [fsOf]
/-- A page as a record made it. -/
def txO (cs : List Nat) : Option Nat → ByteArray
  | none => ⟨#[]⟩
  | some k => fillS (cs.getD k 0)
def lnO : Option Nat → Int
  | none => 0
  | some k => 19 * (k : Int) + 1
def secO (cs : List Nat) (o : Option Nat) (q : Nat) : ByteArray :=
  match o with
  | none => zs64
  | some k => sec 1 (19 * k + 1) (fillS (cs.getD k 0)) q
/-- What the store's sectors have. -/
structure Sp (S : Dk) (cs : List Nat) (sure : Nat) (pg : Nat → Option Nat) : Prop where
  at_ : ∀ id q, id < 8 → q < 4 → S.now (40 + 4 * id + q) = secO cs (pg id) q
  lt : ∀ id k, id < 8 → pg id = some k → k < sure
/-- What they can have behind a loss. -/
def RW (cs : List Nat) (m i : Nat) (c : ByteArray) : Prop := ∀ id q, id < 8 → q < 4 → i = 40 + 4 * id + q → c = zs64 ∨ ∃ k, k < m ∧ c = sec 1 (19 * k + 1) (fillS (cs.getD k 0)) q
section
variable [Inhabited PrSet] {B k db bs sc run sure l m : Nat} {w w' : World} {S S' : Dk} {fs : List ByteArray} {X : Ad} {G : Gp} {cs : List Nat} {pg : Nat → Option Nat}
end
section
variable {B k db bs sc run sure l m : Nat} {w w' : World} {S S' : Dk} {fs : List ByteArray} {X : Ad} {G : Gp} {cs : List Nat} {pg : Nat → Option Nat}
theorem getD_snoc (cs : List Nat) (c : Nat) {k : Nat} (h : k < cs.length) : (cs ++ [c]).getD k 0 = cs.getD k 0 := by
  simp [List.getD, List.getElem?_append_left h]
end
section
variable [Inhabited PrSet] {B k db bs sc run sure l m : Nat} {w w' : World} {S S' : Dk} {fs : List ByteArray} {X : Ad} {G : Gp} {cs : List Nat} {pg : Nat → Option Nat}
end
section
variable {B k db bs sc run sure l m : Nat} {w w' : World} {S S' : Dk} {fs : List ByteArray} {X : Ad} {G : Gp} {cs : List Nat} {pg : Nat → Option Nat}
theorem getD_last (cs : List Nat) (c : Nat) : (cs ++ [c]).getD cs.length 0 = c := by simp [List.getD]
end
section
variable [Inhabited PrSet] {B k db bs sc run sure l m : Nat} {w w' : World} {S S' : Dk} {fs : List ByteArray} {X : Ad} {G : Gp} {cs : List Nat} {pg : Nat → Option Nat}
end
section
variable {B k db bs sc run sure l m : Nat} {w w' : World} {S S' : Dk} {fs : List ByteArray} {X : Ad} {G : Gp} {cs : List Nat} {pg : Nat → Option Nat}
theorem txO_snoc (cs : List Nat) (c : Nat) {o : Option Nat} (h : ∀ k, o = some k → k < cs.length) : txO (cs ++ [c]) o = txO cs o := by
  cases o with
  | none => rfl
  | some k => show fillS _ = fillS _; rw [getD_snoc cs c (h k rfl)]
end
section
variable [Inhabited PrSet] {B k db bs sc run sure l m : Nat} {w w' : World} {S S' : Dk} {fs : List ByteArray} {X : Ad} {G : Gp} {cs : List Nat} {pg : Nat → Option Nat}
end
section
variable {B k db bs sc run sure l m : Nat} {w w' : World} {S S' : Dk} {fs : List ByteArray} {X : Ad} {G : Gp} {cs : List Nat} {pg : Nat → Option Nat}
theorem secO_snoc (cs : List Nat) (c : Nat) {o : Option Nat} (h : ∀ k, o = some k → k < cs.length) (q : Nat) : secO (cs ++ [c]) o q = secO cs o q := by
  cases o with
  | none => rfl
  | some k => show sec _ _ (fillS _) _ = sec _ _ (fillS _) _; rw [getD_snoc cs c (h k rfl)]
end
section
variable [Inhabited PrSet] {B k db bs sc run sure l m : Nat} {w w' : World} {S S' : Dk} {fs : List ByteArray} {X : Ad} {G : Gp} {cs : List Nat} {pg : Nat → Option Nat}
end
section
variable {B k db bs sc run sure l m : Nat} {w w' : World} {S S' : Dk} {fs : List ByteArray} {X : Ad} {G : Gp} {cs : List Nat} {pg : Nat → Option Nat}
theorem Sp.snoc (h : Sp S cs sure pg) (hs : sure ≤ cs.length) (c : Nat) : Sp S (cs ++ [c]) sure pg :=
  ⟨fun id q h1 h2 => by rw [secO_snoc cs c (fun k hk => by have := h.lt id k h1 hk; omega)]; exact h.at_ id q h1 h2, h.lt⟩
end
section
variable [Inhabited PrSet] {B k db bs sc run sure l m : Nat} {w w' : World} {S S' : Dk} {fs : List ByteArray} {X : Ad} {G : Gp} {cs : List Nat} {pg : Nat → Option Nat}
end
section
variable {B k db bs sc run sure l m : Nat} {w w' : World} {S S' : Dk} {fs : List ByteArray} {X : Ad} {G : Gp} {cs : List Nat} {pg : Nat → Option Nat}
theorem Sp.mono {sure' : Nat} (h : Sp S cs sure pg) (hs : sure ≤ sure') : Sp S cs sure' pg := ⟨h.at_, fun id k h1 h2 => Nat.lt_of_lt_of_le (h.lt id k h1 h2) hs⟩
end
section
variable [Inhabited PrSet] {B k db bs sc run sure l m : Nat} {w w' : World} {S S' : Dk} {fs : List ByteArray} {X : Ad} {G : Gp} {cs : List Nat} {pg : Nat → Option Nat}
end
section
variable {B k db bs sc run sure l m : Nat} {w w' : World} {S S' : Dk} {fs : List ByteArray} {X : Ad} {G : Gp} {cs : List Nat} {pg : Nat → Option Nat}
theorem Sp.eq (h : Sp S cs sure pg) (he : ∀ i, 40 ≤ i → S'.now i = S.now i) : Sp S' cs sure pg := ⟨fun id q h1 h2 => by rw [he _ (by omega)]; exact h.at_ id q h1 h2, h.lt⟩
end
section
variable [Inhabited PrSet] {B k db bs sc run sure l m : Nat} {w w' : World} {S S' : Dk} {fs : List ByteArray} {X : Ad} {G : Gp} {cs : List Nat} {pg : Nat → Option Nat}
end
section
variable {B k db bs sc run sure l m : Nat} {w w' : World} {S S' : Dk} {fs : List ByteArray} {X : Ad} {G : Gp} {cs : List Nat} {pg : Nat → Option Nat}
theorem rd_out (S : Dk) {id : Int} (h : ¬ (0 ≤ id ∧ id < 8)) : rdOut 40 8 1 S id = (⟨#[]⟩, 0, 6) := by
  unfold rdOut; rw [if_pos (by omega)]
end
section
variable [Inhabited PrSet] {B k db bs sc run sure l m : Nat} {w w' : World} {S S' : Dk} {fs : List ByteArray} {X : Ad} {G : Gp} {cs : List Nat} {pg : Nat → Option Nat}
end
section
variable {B k db bs sc run sure l m : Nat} {w w' : World} {S S' : Dk} {fs : List ByteArray} {X : Ad} {G : Gp} {cs : List Nat} {pg : Nat → Option Nat}
/-- A page is read. -/
theorem Sp.rd (h : Sp S cs sure pg) (hs : sure ≤ 1000) {id : Nat} (hid : id < 8) : rdOut 40 8 1 S (id : Int) = (txO cs (pg id), lnO (pg id), if pg id = none then 8 else 0) := by
  unfold rdOut
  rw [if_neg (by omega), Int.toNat_natCast]
  cases hp : pg id with
  | none =>
    rw [rdV_none (fun i hi => by rw [h.at_ id i hid hi, hp]; show gnS zs64 ≠ 1; rw [gnS_zero]; omega)]
    rfl
  | some k =>
    have hk := h.lt id k hid hp
    rw [rdV_whole (g := 1) (l := 19 * k + 1) (t := fillS (cs.getD k 0)) (by omega) (by omega) (fillS_size _) (fun i hi => by rw [h.at_ id i hid hi, hp]; rfl)]
    simp only [txO, lnO]
    refine Prod.ext rfl (Prod.ext ?_ (by simp))
    show ((19 * k + 1 : Nat) : Int) = 19 * (k : Int) + 1
    omega
end
section
variable [Inhabited PrSet] {B k db bs sc run sure l m : Nat} {w w' : World} {S S' : Dk} {fs : List ByteArray} {X : Ad} {G : Gp} {cs : List Nat} {pg : Nat → Option Nat}
end
section
variable {B k db bs sc run sure l m : Nat} {w w' : World} {S S' : Dk} {fs : List ByteArray} {X : Ad} {G : Gp} {cs : List Nat} {pg : Nat → Option Nat}
theorem Sp.all (h : Sp S cs sure pg) (hw : ∀ i, S.wait i = none) : AllR (RW cs sure) S := by
  refine ⟨fun i id q h1 h2 e => ?_, fun i c hc => by rw [hw] at hc; cases hc⟩
  subst e
  have := h.at_ id q h1 h2
  unfold Dk.now at this
  rw [hw] at this
  have hn : S.sure (40 + 4 * id + q) = secO cs (pg id) q := this
  rw [hn]
  cases hp : pg id with
  | none => exact Or.inl rfl
  | some k => exact Or.inr ⟨k, h.lt id k h1 hp, rfl⟩
end
section
variable [Inhabited PrSet] {B k db bs sc run sure l m : Nat} {w w' : World} {S S' : Dk} {fs : List ByteArray} {X : Ad} {G : Gp} {cs : List Nat} {pg : Nat → Option Nat}
end
section
variable {B k db bs sc run sure l m : Nat} {w w' : World} {S S' : Dk} {fs : List ByteArray} {X : Ad} {G : Gp} {cs : List Nat} {pg : Nat → Option Nat}
theorem RW.mono {m m' i : Nat} {c : ByteArray} (h : RW cs m i c) (hm : m ≤ m') : RW cs m' i c := fun id q h1 h2 e => by
  rcases h id q h1 h2 e with e | ⟨k, hk, e⟩
  · exact Or.inl e
  · exact Or.inr ⟨k, by omega, e⟩
end
section
variable [Inhabited PrSet] {B k db bs sc run sure l m : Nat} {w w' : World} {S S' : Dk} {fs : List ByteArray} {X : Ad} {G : Gp} {cs : List Nat} {pg : Nat → Option Nat}
/-- Flush, told with its sectors. -/
theorem Lv.flush2 (h : Lv B w l k S db bs sc run fs sure) (hk : k ≤ 30000) : Calls Tryz.prog 101 #[.pointer (some ⟨l, 0, none⟩)] w fun e w' => ∃ y, e = .returned (.int .i64 y) ∧ ∃ S', Kp isA B w w' ∧ ((y = 0 ∧ Lv B w' l (k + sc + 1) S' db bs sc run fs fs.length) ∨ (y = 9 ∧ Ds B w' db (k + sc + 1) S' ∧ Wt S' bs sc run fs sure)) ∧ ∃ N, Laid S S' N y ∧ ∀ i c, N i = some c → bs ≤ i ∧ i < bs + sc := by
  obtain ⟨Q, hQ, hstd⟩ := h.q
  have hle := h.lx.le
  have hm := off_mono (l := fs) h.hs
  rw [off_all] at hm
  rcases Nat.lt_or_ge (off fs sure) (cat fs).size with hd | hd
  · refine (flush_any h.lx hk h.fit hd (by have := h.r2; omega) h.n h.up).mono ?_
    rintro e w' ⟨S', x, rfl, hF⟩
    have hlx := hF.lx
    have hL := hF.ld
    have hT := fs_split fs sure
    refine ⟨x, rfl, S', hF.kp, ?_, _, hL, fun i c hc => ?_⟩
    · by_cases hx : x = 0
      · subst hx
        obtain ⟨hu, hw, _⟩ := hL.ok rfl
        left
        refine ⟨rfl, ?_, hu, h.fit, Nat.le_refl _, by rw [hL.n]; exact h.n, h.r2, ?_⟩
        · rw [off_all]; exact hlx
        · refine ⟨_, hQ.laid (Nat.le_refl _) hL, ?_⟩
          rw [List.take_length]
          exact hstd.flush hT hd h.fit.sz
      · obtain ⟨h9, hu, hw⟩ := hL.bad hx
        right
        refine ⟨h9, hlx.d, ?_⟩
        obtain ⟨Q', hQ', hor⟩ := hQ.lost (Nat.le_refl _) hL hx
        refine ⟨Q', hQ', fun rn hr => ?_⟩
        have hsz : (cat (fs.take sure)).size = off fs sure := rfl
        obtain ⟨y, z, e1, e2⟩ := hstd.grow (T := cat fs) (Q' := Q') (r' := run) hT h.fit.sz hr (Nat.le_refl _) (fun i hi => by
          rcases hor i hi with e | ⟨e3, e4, e⟩
          · exact Or.inl e
          · exact Or.inr ⟨by rw [hsz]; omega, e⟩) (Or.inl rfl)
        exact ⟨z, by rw [e1]; exact e2, by rw [e1, bsz, hsz]; omega⟩
    · unfold nw at hc
      split at hc
      · rename_i hb
        have := h.fit.sz
        omega
      · cases hc
  · have hd2 : off fs sure = (cat fs).size := by omega
    refine (flush_same h.lx h.fit hd2).mono ?_
    rintro e w' ⟨rfl, hb⟩
    have he : sure = fs.length := off_inj h.fit.frm h.hs (Nat.le_refl _) (by rw [hd2, off_all])
    refine ⟨0, rfl, S, Kp.of_below hb hle, Or.inl ⟨rfl, ?_⟩, fun _ => none, ⟨rfl, fun _ => ⟨h.up, hQ.wait, fun i => ?_⟩, fun h => absurd rfl h, fun R hR _ => hR, fun hs => ⟨rfl, hs⟩⟩, fun i c hc => by cases hc⟩
    · have := (h.below hb).mono (k' := k + sc + 1) (by omega)
      rw [he] at this
      exact this
    · show S.sure i = S.now i
      unfold Dk.now
      rw [hQ.wait]; rfl
theorem Lv.nowait (h : Lv B w l k S db bs sc run fs sure) (i : Nat) : S.wait i = none := by obtain ⟨Q, hQ, _⟩ := h.q; exact hQ.wait i
/-- What is laid elsewhere leaves the log as it is. -/
theorem Lv.laid {k' : Nat} (h : Lv B w l k S db bs sc run fs sure) {N : Nat → Option ByteArray} (hL : Laid S S' N 0) (hN : ∀ i c, N i = some c → i < bs ∨ bs + sc ≤ i) (hd : Ds B w' db k' S') (hK : Kp isD B w w') : Lv B w' l k' S' db bs sc run fs sure := by
  obtain ⟨hu, hw, hsu⟩ := hL.ok rfl
  obtain ⟨Q, hQ, hs⟩ := h.q
  refine ⟨⟨hd, h.lx.g.keptD hK⟩, hu, h.fit, h.hs, by rw [hL.n]; exact h.n, h.r2, Q, ⟨fun i hi => ?_, hQ.run, hQ.sz, hw⟩, hs⟩
  unfold Dk.now
  rw [hw]
  show S'.sure (bs + i) = _
  rw [hsu]
  cases hc : N (bs + i) with
  | none => exact hQ.now i hi
  | some c => have := hN _ _ hc; omega
end
section
variable {B k db bs sc run sure l m : Nat} {w w' : World} {S S' : Dk} {fs : List ByteArray} {X : Ad} {G : Gp} {cs : List Nat} {pg : Nat → Option Nat}
theorem Wt.laid {r lo : Nat} (h : Wt S bs sc r fs lo) {N : Nat → Option ByteArray} {y : Int} (hL : Laid S S' N y) (hy : y ≠ 0) (hN : ∀ i c, N i = some c → i < bs ∨ bs + sc ≤ i) : Wt S' bs sc r fs lo := by
  obtain ⟨Q, hQ, hs⟩ := h.q
  obtain ⟨_, _, hw⟩ := hL.bad hy
  have hA : AllR (fun j c => ∀ i, i < sc → j = bs + i → c = encQ (Q i)) S := by
    refine ⟨fun j i hi e => ?_, fun j c hc => by rw [hQ.wait] at hc; cases hc⟩
    subst e
    exact hQ.lasts hi
  have hB := hL.all _ hA (fun j c hc i hi e => by have := hN j c hc; omega)
  refine ⟨Q, ⟨fun i hi => ?_, hQ.run, hQ.sz, hw⟩, hs⟩
  unfold Dk.now
  rw [hw]
  exact hB.sure _ i hi rfl
end
section
variable [Inhabited PrSet] {B k db bs sc run sure l m : Nat} {w w' : World} {S S' : Dk} {fs : List ByteArray} {X : Ad} {G : Gp} {cs : List Nat} {pg : Nat → Option Nat}
/-- A pool, its log, its store, its disk. -/
structure Pq (B : Nat) (w : World) (X : Ad) (k : Nat) (S : Dk) (cs : List Nat) (sure : Nat) (G : Gp) : Prop where
  lv : Lv B w X.l k S X.db 0 40 1 (fsOf cs) sure
  st : StIs w X.sb X.db 40 8 1
  po : PoIs B w X G
  n : S.n = 80
  len : cs.length ≤ 100
  cb : ∀ c ∈ cs, c < 256
/-- What is left behind a loss. -/
structure Lo (B : Nat) (w : World) (db sb k : Nat) (S : Dk) (cs : List Nat) (m : Nat) : Prop where
  d : Ds B w db k S
  st : StIs w sb db 40 8 1
  wt : Wt S 0 40 1 (fsOf cs) m
  all : AllR (RW cs m) S
  n : S.n = 80
  up : S.up = false
  len : cs.length ≤ 100
  cb : ∀ c ∈ cs, c < 256
  hm : m ≤ cs.length
theorem Pq.sl (h : Pq B w X k S cs sure G) : sure ≤ cs.length := by have := h.lv.hs; rw [fsOf_len] at this; exact this
theorem Pq.le (h : Pq B w X k S cs sure G) : B ≤ w.heap.size := h.lv.lx.le
theorem Pq.ds (h : Pq B w X k S cs sure G) : Ds B w X.db k S := h.lv.lx.d
theorem Pq.below (h : Pq B w X k S cs sure G) (hb : Below w.heap.size w w') : Pq B w' X k S cs sure G := ⟨h.lv.below hb, h.st.below hb, h.po.below hb, h.n, h.len, h.cb⟩
theorem Pq.drew (h : Pq B w X k S cs sure G) : Pq B w.drew X k S cs sure G := h.below ((Below.refl _ _).drew)
theorem Pq.drewN (h : Pq B w X k S cs sure G) (n : Nat) : Pq B (w.drewN n) X k S cs sure G := h.below (Sm.below_dr (Below.refl _ _) n)
theorem Pq.mono {k' : Nat} (h : Pq B w X k S cs sure G) (hk : k ≤ k') : Pq B w X k' S cs sure G := ⟨h.lv.mono hk, h.st, h.po, h.n, h.len, h.cb⟩
theorem Lv.keptF (h : Lv B w l k S db bs sc run fs sure) {B' : Nat} (hb : Kp isF B' w w') : Lv B w' l k S db bs sc run fs sure := ⟨h.lx.keptA isF_not hb, h.up, h.fit, h.hs, h.n, h.r2, h.q⟩
/-- The pool's own fields are turned. -/
theorem Pq.turn {G' : Gp} (h : Pq B w X k S cs sure G) (hp : PoIs B w' X G' ∧ Kp isF B w w') : Pq B w' X k S cs sure G' := ⟨h.lv.keptF hp.2, h.st.kept hp.2.f, hp.1, h.n, h.len, h.cb⟩
theorem Pq.offs (h : Pq B w X k S cs sure G) {i : Nat} (hi : i ≤ cs.length) : off (fsOf cs) i = 19 * i := fsOf_off h.cb hi
/-- Need. -/
theorem Pq.need (h : Pq B w X k S cs sure G) (hp : Sp S cs sure pg) (hk : k ≤ 30000) (r : Nat) (hr : r < cs.length) : Calls Tryz.prog 80 #[.pointer (some ⟨X.l, 0, none⟩), .int .i64 (lnO (some r))] w fun e w' => ∃ y, e = .returned (.int .i64 y) ∧ Kp isA B w w' ∧ ∃ S' sure', (S.set = false → y = 0 ∧ S'.set = false) ∧ ((y = 0 ∧ Pq B w' X (k + 41) S' cs sure' G ∧ Sp S' cs sure' pg ∧ sure ≤ sure' ∧ r < sure') ∨ (y = 9 ∧ Lo B w' X.db X.sb (k + 41) S' cs sure)) := by
  have hsl := h.sl
  have hle := h.le
  by_cases hx : lnO (some r) < (off (fsOf cs) sure : Int) + 1
  · refine (need_near h.lv.lx _ hx).mono ?_
    rintro e w' ⟨rfl, rfl⟩
    refine ⟨0, rfl, Kp.refl _ _ _, S, sure, fun hs => ⟨rfl, hs⟩, Or.inl ⟨rfl, h.mono (by omega), hp, Nat.le_refl _, ?_⟩⟩
    rw [h.offs hsl] at hx
    simp only [lnO] at hx
    omega
  · refine (need_far (P := fun y w' => Kp isA B w w' ∧ ∃ S' sure', (S.set = false → y = 0 ∧ S'.set = false) ∧ ((y = 0 ∧ Pq B w' X (k + 41) S' cs sure' G ∧ Sp S' cs sure' pg ∧ sure ≤ sure' ∧ r < sure') ∨ (y = 9 ∧ Lo B w' X.db X.sb (k + 41) S' cs sure))) h.lv.lx _ hx ((h.lv.flush2 hk).mono ?_))
    rintro e w' ⟨y, rfl, S', hK, hor, N, hL, hN⟩
    refine ⟨y, rfl, hK, S', ?_⟩
    rcases hor with ⟨rfl, hlv⟩ | ⟨rfl, hd, hwt⟩
    · obtain ⟨hu, hw, hsu⟩ := hL.ok rfl
      rw [fsOf_len] at hlv
      refine ⟨cs.length, hL.calm, Or.inl ⟨rfl, ⟨hlv, h.st.kept hK.q, h.po.kept hK, by rw [hL.n]; exact h.n, h.len, h.cb⟩, (hp.mono hsl).eq (fun i hi => ?_), hsl, hr⟩⟩
      unfold Dk.now
      rw [hw]
      show S'.sure i = _
      rw [hsu]
      cases hc : N i with
      | none => rfl
      | some c => have := hN _ _ hc; omega
    · refine ⟨sure, fun hs => absurd (hL.calm hs).1 (by omega), Or.inr ⟨rfl, hd, h.st.kept hK.q, hwt, hL.all _ (hp.all h.lv.nowait) (fun i c hc id q h1 h2 e => by have := hN _ _ hc; omega), by rw [hL.n]; exact h.n, (hL.bad (by omega)).2.1, h.len, h.cb, hsl⟩⟩
end
end Go.Proofs.YtgodjnbbocnckaaGreat

namespace Go.Proofs.YtgodjnbbocnckaaGreat
open Go.RowKit Go.Maps Go.ChangeMaps
set_option linter.unusedVariables false
set_option linter.unusedSimpArgs false
set_option maxRecDepth 100000

section
variable [Inhabited PrSet] {B k : Nat} {w w' : World} {X : Ad} {G : Gp} {S S' : Dk}
/-- Where the hand stands behind i steps. -/
def at_ (hd n i : Nat) : Nat := if hd + i < n then hd + i else hd + i - n
end
section
variable {B k : Nat} {w w' : World} {X : Ad} {G : Gp} {S S' : Dk}
theorem at_lt {hd n i : Nat} (h : hd ≤ n) (hi : i < n) : at_ hd n i < n := by unfold at_; split <;> omega
end
section
variable [Inhabited PrSet] {B k : Nat} {w w' : World} {X : Ad} {G : Gp} {S S' : Dk}
end
section
variable {B k : Nat} {w w' : World} {X : Ad} {G : Gp} {S S' : Dk}
theorem at_all {hd n j : Nat} (h : hd ≤ n) (hj : j < n) : ∃ i, i < n ∧ at_ hd n i = j := by
  by_cases e : hd ≤ j
  · exact ⟨j - hd, by omega, by unfold at_; rw [if_pos (by omega)]; omega⟩
  · exact ⟨j + n - hd, by omega, by unfold at_; rw [if_neg (by omega)]; omega⟩
end
section
variable [Inhabited PrSet] {B k : Nat} {w w' : World} {X : Ad} {G : Gp} {S S' : Dk}
end
section
variable {B k : Nat} {w w' : World} {X : Ad} {G : Gp} {S S' : Dk}
theorem at_rem {hd n i : Nat} (h : hd ≤ n) (hi : i < n) : (((hd : Int) + (i : Int)).tmod (n : Int)) = ((at_ hd n i : Nat) : Int) := by
  have := rem_lt (a := hd + i) (n := n) (by omega)
  rw [show ((hd + i : Nat) : Int) = (hd : Int) + (i : Int) by omega] at this
  rw [this]
  rfl
end
section
variable [Inhabited PrSet] {B k : Nat} {w w' : World} {X : Ad} {G : Gp} {S S' : Dk}
set_option maxHeartbeats 1000000 in
theorem pick_some (h : PoIs B w X G) (hz : ∃ j, j < X.n ∧ (G.F j).pn = 0) : Calls Tryz.prog 66 #[.pointer (some ⟨X.pb, 0, none⟩)] w fun e w' => ∃ a : Nat, e = .returned (.int .i64 (a : Int)) ∧ a < X.n ∧ (G.F a).pn = 0 ∧ Below w.heap.size w w' := by
  obtain ⟨hd, hhd⟩ : ∃ hd : Nat, G.hd = (hd : Int) := ⟨G.hd.toNat, by have := h.h0; omega⟩
  have hle : hd ≤ X.n := by have := h.h1; omega
  obtain ⟨j, hj, hp⟩ := hz
  obtain ⟨m, hm, rfl⟩ := at_all hle hj
  have H : Hid (PoIs B w X G) := h
  have c2 := h.c2
  have hn2 := h.n2
  have hn1 := h.n1
  have HP : Hid ((G.F (at_ hd X.n m)).pn = 0) := hp
  have hm64 : Hid (m < X.n) := hm
  clear h hp hj
  go_enter Tryz.func66, Tryz.ntmps66
  go_wp2
  go_loopw [10] (fun iv wr => ∃ i : Nat, i ≤ m ∧ iv = .int .i64 (i : Int) ∧ Below w.heap.size w wr) (fun iv _ => m - (intOf iv).toNat)
  case atStart => exact ⟨0, Nat.zero_le _, rfl, Below.refl _ _⟩
  case round =>
    obtain ⟨i, hi, rfl, hb⟩ := hrel
    have hin : i < X.n := by omega
    have i1 : (i : Int) < (X.n : Int) := by omega
    have hi64 : (i : Int) ≤ 64 := by omega
    have Hw := H.out.below hb
    have c2 := Hw.c2
    have c3 := Hw.c3
    rw [hhd] at c3
    have hal := at_lt hle hin
    have ra := Hw.ra hal
    have f5 := Hw.f5 hal
    have hrem := at_rem hle hin
    have hw1 : IntKind.i64.wrap ((hd : Int) + (i : Int)) = (hd : Int) + (i : Int) := by rw [IntKind.wrap_i64]; omega
    have hn0 : ¬ ((X.n : Int) = 0) := by omega
    have hai : ((at_ hd X.n i : Nat) : Int) < (X.n : Int) := by omega
    have HB : Hid (Below w.heap.size w wr) := hb
    clear hb Hw
    generalize hat : at_ hd X.n i = a at *
    have hai0 : (0 : Int) ≤ (a : Int) := by omega
    by_cases hz : (G.F a).pn = 0
    · rw [hz] at f5
      have HZ : Hid ((G.F a).pn = 0) := hz
      have hal' : Hid (a < X.n) := hal
      clear hz hat hal
      go_wp2
      go_quiet (fail)
      go_wp2
      go_ret
      exact ⟨a, rfl, hal'.out, HZ.out, Sm.below_dr HB.out nq⟩
    · have hzb : ((G.F a).pn == 0) = false := by simpa using hz
      have hlt : Hid (i < m) := by
        have : i ≠ m := fun e => by subst e; rw [hat] at HP; exact hz HP.out
        exact (by omega : i < m)
      clear hz hat hal
      generalize (G.F a).pn = y at *
      go_wp2
      go_quiet (fail)
      go_wp2
      go_roundw
      case rel => exact ⟨i + 1, hlt.out, by go_num, Sm.below_dr HB.out nq⟩
      case measure => have := hlt.out; simp [intOf]; omega
set_option maxHeartbeats 1000000 in
theorem pick_none (h : PoIs B w X G) (hz : ∀ j, j < X.n → (G.F j).pn ≠ 0) : Calls Tryz.prog 66 #[.pointer (some ⟨X.pb, 0, none⟩)] w fun e w' => e = .returned (.int .i64 (-1)) ∧ Below w.heap.size w w' := by
  obtain ⟨hd, hhd⟩ : ∃ hd : Nat, G.hd = (hd : Int) := ⟨G.hd.toNat, by have := h.h0; omega⟩
  have hle : hd ≤ X.n := by have := h.h1; omega
  have H : Hid (PoIs B w X G) := h
  have c2 := h.c2
  have hn2 := h.n2
  have hn1 := h.n1
  have HZ : Hid (∀ j, j < X.n → (G.F j).pn ≠ 0) := hz
  clear h hz
  go_enter Tryz.func66, Tryz.ntmps66
  go_wp2
  go_loopw [10] (fun iv wr => ∃ i : Nat, i ≤ X.n ∧ iv = .int .i64 (i : Int) ∧ Below w.heap.size w wr) (fun iv _ => X.n - (intOf iv).toNat)
  case atStart => exact ⟨0, Nat.zero_le _, rfl, Below.refl _ _⟩
  case round =>
    obtain ⟨i, hi, rfl, hb⟩ := hrel
    have HB : Hid (Below w.heap.size w wr) := hb
    by_cases hin : i < X.n
    · have i1 : (i : Int) < (X.n : Int) := by omega
      have hi64 : (i : Int) ≤ 64 := by omega
      have Hw := H.out.below hb
      have c2 := Hw.c2
      have c3 := Hw.c3
      rw [hhd] at c3
      have hal := at_lt hle hin
      have ra := Hw.ra hal
      have f5 := Hw.f5 hal
      have hrem := at_rem hle hin
      have hw1 : IntKind.i64.wrap ((hd : Int) + (i : Int)) = (hd : Int) + (i : Int) := by rw [IntKind.wrap_i64]; omega
      have hn0 : ¬ ((X.n : Int) = 0) := by omega
      have hai : ((at_ hd X.n i : Nat) : Int) < (X.n : Int) := by omega
      have hzb : ((G.F (at_ hd X.n i)).pn == 0) = false := by simpa using HZ.out _ hal
      clear hb Hw hal
      generalize at_ hd X.n i = a at *
      have hai0 : (0 : Int) ≤ (a : Int) := by omega
      generalize (G.F a).pn = y at *
      go_wp2
      go_quiet (fail)
      go_wp2
      go_roundw
      case rel => exact ⟨i + 1, hin, by go_num, Sm.below_dr HB.out nq⟩
      case measure => simp [intOf]; omega
    · have i1 : ¬ (i : Int) < (X.n : Int) := by omega
      clear hin hb
      go_wp2
      go_ret
      exact ⟨rfl, HB.out⟩
/-! ### A page by value -/
def pgA (id : Int) (t : ByteArray) (l : Int) : Array Value := #[.int .i64 id, .string t, .int .i64 l]
end
section
variable {B k : Nat} {w w' : World} {X : Ad} {G : Gp} {S S' : Dk}
theorem info_pg : (Tryz.prog.info? 83).map (·.size) = some 3 := by kernel_rfl
end
section
variable [Inhabited PrSet] {B k : Nat} {w w' : World} {X : Ad} {G : Gp} {S S' : Dk}
end
section
variable {B k : Nat} {w w' : World} {X : Ad} {G : Gp} {S S' : Dk}
theorem zero_pg (w : World) : (zeroValue 83).run Tryz.prog w = .ok (.agg (pgA 0 ⟨#[]⟩ 0)) w := by kernel_rfl
end
section
variable [Inhabited PrSet] {B k : Nat} {w w' : World} {X : Ad} {G : Gp} {S S' : Dk}
end
section
variable {B k : Nat} {w w' : World} {X : Ad} {G : Gp} {S S' : Dk}
theorem one_pg (id : Int) (t : ByteArray) (l : Int) : ∀ v ∈ (pgA id t l).toList, v.oneCell' = true := by
  intro v hv
  simp [pgA] at hv
  rcases hv with rfl | rfl | rfl <;> rfl
end
section
variable [Inhabited PrSet] {B k : Nat} {w w' : World} {X : Ad} {G : Gp} {S S' : Dk}
end
section
variable {B k : Nat} {w w' : World} {X : Ad} {G : Gp} {S S' : Dk}
theorem results_pg2 {fn : Func} {p u : Tmp} (h : fn.results = #[.cell p 83, .tmp u]) (tmps : Array Value) (w : World) {b : Nat} {id l : Int} {t : ByteArray}
    (hp : tmps.getD p undef = .pointer (some ⟨b, 0, none⟩)) (hg : w.heap[b]? = some (.cells (pgA id t l) 83)) : (results fn tmps).run Tryz.prog w = .ok (.tuple #[.agg (pgA id t l), tmps.getD u undef]) w := by
  have hl := run_loadVar_row (P := Tryz.prog) w b 83 83 (pgA id t l) (0, 0) _ hg Tryz.underlying83 rfl info_pg
  have hp' : tmps[p]?.getD undef = .pointer (some ⟨b, 0, none⟩) := by simpa using hp
  simp only [results, h]
  simp [Sem.run_bind, Result.andThen, hp', asAddr, hl]
end
section
variable [Inhabited PrSet] {B k : Nat} {w w' : World} {X : Ad} {G : Gp} {S S' : Dk}
/-- What the pool reads of a page. -/
def rdP (S : Dk) (id : Int) : ByteArray × Int × Int := if (rdOut 40 8 1 S id).2.2 = 8 ∨ (rdOut 40 8 1 S id).2.2 = 10 then (⟨#[]⟩, 0, 0) else rdOut 40 8 1 S id
set_option maxHeartbeats 1000000 in
theorem read_po (h : PoIs B w X G) (hd : Ds B w X.db k S) (hs : StIs w X.sb X.db 40 8 1) (hu : S.up = true) (hn : S.n = 80) (id : Int) : Calls Tryz.prog 65 #[.pointer (some ⟨X.pb, 0, none⟩), .int .i64 id] w fun e w' =>
    e = .returned (.tuple #[.agg (pgA id (rdP S id).1 (rdP S id).2.1), .int .i64 (rdP S id).2.2]) ∧ Below w.heap.size w w' := by
  have CR : Hid (∀ wx, Below w.heap.size w wx → Calls Tryz.prog 21 #[.pointer (some ⟨X.sb, 0, none⟩), .int .i64 id] wx fun e w' =>
    e = .returned (.tuple #[.string (rdOut 40 8 1 S id).1, .int .i64 (rdOut 40 8 1 S id).2.1, .int .i64 (rdOut 40 8 1 S id).2.2]) ∧ Below wx.heap.size wx w') := fun wx hx => (hd.below hx).strd (hs.below hx) hu hn id
  have H : Hid (∀ wx, Below w.heap.size w wx → wx.cell? ⟨X.pb, 0, none⟩ = some (.pointer (some ⟨X.sb, 0, none⟩))) := fun wx hx => (h.below hx).c0
  have hb1 : ∀ W (i : Int), (Instr.build 83 #[(0, .int .i64 i)]).run Tryz.prog W = .ok (.agg (pgA i ⟨#[]⟩ 0)) W := fun W i => by kernel_rfl
  have hb2 : ∀ W (i l : Int) t, (Instr.build 83 #[(0, .int .i64 i), (1, .string t), (2, .int .i64 l)]).run Tryz.prog W = .ok (.agg (pgA i t l)) W := fun W i l t => by kernel_rfl
  unfold rdP
  generalize rdOut 40 8 1 S id = R at *
  obtain ⟨t, l, y⟩ := R
  dsimp only at *
  clear h hd hs
  by_cases h8 : y = 8
  · subst h8
    go_enter Tryz.func65, Tryz.ntmps65
    go_wp2_with (first
      | (refine wpList_new_o _ rfl rfl (zero_pg _) ?_; intro w1 b1 N1; have c0 := H.out _ N1.below)
      | (go_at_call 21; refine (CR.out _ N1.below).mono ?_; rintro e w2 ⟨rfl, b2⟩; have p1 : w2.heap[b1]? = some (.cells (pgA 0 ⟨#[]⟩ 0) 83) := (b2.block _ (lt_of_some N1.blk)).trans N1.blk)
      | (refine wpList_put_o (A' := pgA id ⟨#[]⟩ 0) _ rfl (.tmp 4) (.tmp 26) rfl rfl rfl p1 info_pg rfl (one_pg _ _ _) ?_; intro w3 P3))
    refine bodyPost_ret (results_pg2 rfl _ _ rfl P3.blk) rfl ?_
    have e1 := N1.eq
    have h2 := b2.size
    have h3 := lt_of_some N1.blk
    exact ⟨rfl, (thn N1.below b2).trans (P3.off.below (fun k hk => by omega) (by omega))⟩
  · by_cases h10 : y = 10
    · subst h10
      go_enter Tryz.func65, Tryz.ntmps65
      go_wp2_with (first
        | (refine wpList_new_o _ rfl rfl (zero_pg _) ?_; intro w1 b1 N1; have c0 := H.out _ N1.below)
        | (go_at_call 21; refine (CR.out _ N1.below).mono ?_; rintro e w2 ⟨rfl, b2⟩; have p1 : w2.heap[b1]? = some (.cells (pgA 0 ⟨#[]⟩ 0) 83) := (b2.block _ (lt_of_some N1.blk)).trans N1.blk)
        | (refine wpList_put_o (A' := pgA id ⟨#[]⟩ 0) _ rfl (.tmp 4) (.tmp 26) rfl rfl rfl p1 info_pg rfl (one_pg _ _ _) ?_; intro w3 P3))
      refine bodyPost_ret (results_pg2 rfl _ _ rfl P3.blk) rfl ?_
      have e1 := N1.eq
      have h2 := b2.size
      have h3 := lt_of_some N1.blk
      exact ⟨rfl, (thn N1.below b2).trans (P3.off.below (fun k hk => by omega) (by omega))⟩
    · have t1 : (y == 8) = false := by simpa using h8
      have t2 : (y == 10) = false := by simpa using h10
      rw [if_neg (by omega)]
      clear h8 h10
      go_enter Tryz.func65, Tryz.ntmps65
      go_wp2_with (first
        | (refine wpList_new_o _ rfl rfl (zero_pg _) ?_; intro w1 b1 N1; have c0 := H.out _ N1.below)
        | (go_at_call 21; refine (CR.out _ N1.below).mono ?_; rintro e w2 ⟨rfl, b2⟩; have p1 : w2.heap[b1]? = some (.cells (pgA 0 ⟨#[]⟩ 0) 83) := (b2.block _ (lt_of_some N1.blk)).trans N1.blk)
        | (refine wpList_put_o (A' := pgA id t l) _ rfl (.tmp 4) (.tmp 30) rfl rfl rfl p1 info_pg rfl (one_pg _ _ _) ?_; intro w3 P3))
      refine bodyPost_ret (results_pg2 rfl _ _ rfl P3.blk) rfl ?_
      have e1 := N1.eq
      have h2 := b2.size
      have h3 := lt_of_some N1.blk
      exact ⟨rfl, (thn N1.below b2).trans (P3.off.below (fun k hk => by omega) (by omega))⟩
set_option maxHeartbeats 1000000 in
theorem write_po (h : PoIs B w X G) (hd : Ds B w X.db k S) (hs : StIs w X.sb X.db 40 8 1) (hk : k ≤ 70000) (hu : S.up = true) (hn : S.n = 80) (id : Nat) (hid : id < 8) (t : ByteArray) (ht : t.size = 224) (l : Nat) (hl : l < 281474976710656) :
    Calls Tryz.prog 81 #[.pointer (some ⟨X.pb, 0, none⟩), .agg (pgA (id : Int) t (l : Int))] w fun e w' => ∃ S' y, e = .returned (.int .i64 y) ∧ Ds B w' X.db (k + 5) S' ∧ Kp isD B w w' ∧ Laid S S' (nwK (40 + 4 * id) (sec 1 l t) 4) y := by
  have CW : Hid (∀ wx, Below w.heap.size w wx → Calls Tryz.prog 102 #[.pointer (some ⟨X.sb, 0, none⟩), .int .i64 (id : Int), .string t, .int .i64 (l : Int)] wx fun e w' => ∃ S' y, e = .returned (.int .i64 y) ∧ Ds B w' X.db (k + 4) S' ∧ Kp isD B wx w' ∧ Wrt S S' (nwK (40 + 4 * id) (sec 1 l t) 4) y) := fun wx hx => (hd.below hx).stw (hs.below hx) (by omega) hu hn id hid t ht l hl
  have CS : Hid (∀ wx S1 (y : Int), (y != 0) = false → StIs wx X.sb X.db 40 8 1 → Ds B wx X.db (k + 4) S1 → Wrt S S1 (nwK (40 + 4 * id) (sec 1 l t) 4) y → Calls Tryz.prog 103 #[.pointer (some ⟨X.sb, 0, none⟩)] wx fun e w' => ∃ S2 y, e = .returned (.int .i64 y) ∧ Ds B w' X.db (k + 5) S2 ∧ Kp isD B wx w' ∧ Laid S S2 (nwK (40 + 4 * id) (sec 1 l t) 4) y) := fun wx S1 y hy q1 q2 q3 => by
    obtain rfl : y = 0 := by simpa using hy
    exact q2.sts q1 (by omega) q3
  have HC : Hid (∀ wx, Below w.heap.size w wx → wx.cell? ⟨X.pb, 0, none⟩ = some (.pointer (some ⟨X.sb, 0, none⟩)) ∧ X.pb < wx.heap.size) := fun wx hx => ⟨(h.below hx).c0, (h.below hx).lt⟩
  have HP : Hid (∀ wx w2, Below w.heap.size w wx → Kp isA B wx w2 → w2.cell? ⟨X.pb, 0, none⟩ = some (.pointer (some ⟨X.sb, 0, none⟩))) := fun wx w2 hx hk2 => ((h.below hx).kept hk2).c0
  have HS : Hid (∀ wx w2, Below w.heap.size w wx → Kp isD B wx w2 → StIs w2 X.sb X.db 40 8 1 ∧ w2.cell? ⟨X.pb, 0, none⟩ = some (.pointer (some ⟨X.sb, 0, none⟩))) := fun wx w2 hx hk2 => ⟨(hs.below hx).kept hk2.d.q, ((h.below hx).kept hk2.d).c0⟩
  have hle := hd.lt
  clear h hd hs hk hid hl
  generalize nwK (40 + 4 * id) (sec 1 l t) 4 = N at *
  generalize (id : Int) = idI at *
  generalize (l : Int) = lI at *
  clear ht
  go_enter Tryz.func81, Tryz.ntmps81
  go_wp2_with (first
    | (refine wpList_box_o (A := pgA idI t lI) _ rfl _ rfl rfl ?_; intro w1 b1 N1))
  have HN : Hid (∀ wx, Kp isA B w1 wx → B ≤ w1.heap.size → wx.cell? ⟨X.pb, 0, none⟩ = some (.pointer (some ⟨X.sb, 0, none⟩)) ∧ wx.cell? ⟨b1, 0, none⟩ = some (.int .i64 idI) ∧ wx.cell? ⟨b1, 1, none⟩ = some (.string t) ∧ wx.cell? ⟨b1, 2, none⟩ = some (.int .i64 lI)) := fun wx hx hB => by
    have e := hx.block _ _ N1.blk (by simp [isA, isD, isL])
    exact ⟨HP.out _ _ N1.below hx, Joins.cell_of_block e 0, Joins.cell_of_block e 1, Joins.cell_of_block e 2⟩
  have hB1 : Hid (B ≤ w1.heap.size) := Nat.le_trans hle N1.below.size
  have bd : Hid (Below w.heap.size w w1.drew) := N1.below.drew
  have kd := HN.out w1.drew (Kp.of_below ((Below.refl _ _).drew) hB1.out) hB1.out
  have q0 := kd.1
  have q1 := kd.2.1
  have q2 := kd.2.2.1
  have q3 := kd.2.2.2
  have HD1 : Hid (Below w1.heap.size w1 w1.drew) := (Below.refl _ _).drew
  clear kd
  go_region_held3 (fun W => W.cell? ⟨X.pb, 0, none⟩ = some (.pointer (some ⟨X.sb, 0, none⟩)) ∧ W.cell? ⟨b1, 0, none⟩ = some (.int .i64 idI) ∧ W.cell? ⟨b1, 1, none⟩ = some (.string t) ∧ W.cell? ⟨b1, 2, none⟩ = some (.int .i64 lI)) (first | exact ⟨keep1, keep2, keep3, keep4⟩ | exact ⟨q0, q1, q2, q3⟩ | go_keep) (first
    | (go_at_call 102; refine (CW.out _ bd.out).mono ?_; rintro e w2 ⟨S1, y, rfl, D2, k2, W2⟩; have K2 : Hid (Kp isA B w1 w2) := (Kp.of_below HD1.out hB1.out).trans k2.d; have kk := HN.out _ K2.out hB1.out; have keep1 := kk.1; have keep2 := kk.2.1; have keep3 := kk.2.2.1; have keep4 := kk.2.2.2; clear kk; have HS2 : Hid (StIs w2 X.sb X.db 40 8 1) := (HS.out _ _ bd.out k2).1; have HD2 : Hid (Ds B w2 X.db (k + 4) S1) := D2; have HW2 : Hid (Wrt S S1 N y) := W2; have HK2 : Hid (Kp isD B w w2) := (Kp.of_below bd.out hle).trans k2; clear D2 k2 W2))
  by_cases he : y = 0
  · subst he
    go_wp2_with (go_at_call 103; refine (CS.out _ _ _ rfl HS2.out HD2.out HW2.out).mono ?_; rintro e w3 ⟨S3, z, rfl, D3, k3, L3⟩)
    go_ret
    exact ⟨S3, z, rfl, D3, HK2.out.trans k3, L3⟩
  · have heb : (y != 0) = true := by simpa using he
    go_wp2
    go_ret
    exact ⟨S1, y, rfl, HD2.out.mono (by omega), HK2.out, HW2.out.laid he⟩
end
end Go.Proofs.YtgodjnbbocnckaaGreat

namespace Go.Proofs.YtgodjnbbocnckaaGreat
open Go.RowKit Go.Maps Go.ChangeMaps
set_option linter.unusedVariables false
set_option linter.unusedSimpArgs false
set_option maxRecDepth 100000

/-- What the pages on the disk are behind some frames' saving. -/
def pgw (G : Gp) (st pg : Nat → Option Nat) (ds : List Nat) (id : Nat) : Option Nat := if ds.any (fun j => (G.F j).id == (id : Int)) then st id else pg id
def Fm.cl (f : Fm) : Fm := { f with si := 0 }
def cln (G : Gp) (ds : List Nat) : Gp := { G with F := fun j => if j ∈ ds then (G.F j).cl else G.F j }
/-- A frame whose page was set by a record. -/
structure Dj (cs : List Nat) (G : Gp) (st : Nat → Option Nat) (j : Nat) : Prop where
  ex : ∃ id r, id < 8 ∧ (G.F j).id = ((id : Nat) : Int) ∧ st id = some r ∧ r < cs.length ∧ (G.F j).tx = fillS (cs.getD r 0) ∧ (G.F j).ln = lnO (some r)
section
variable [Inhabited PrSet] {B k k' db sb sure sure1 m i : Nat} {w w' w0 wr : World} {S S' S1 S2 : Dk} {X : Ad} {G : Gp} {cs : List Nat} {st pg : Nat → Option Nat} {ds : List Nat}
end
section
variable {B k k' db sb sure sure1 m i : Nat} {w w' w0 wr : World} {S S' S1 S2 : Dk} {X : Ad} {G : Gp} {cs : List Nat} {st pg : Nat → Option Nat} {ds : List Nat}
theorem pgw_nil : pgw G st pg [] = pg := by funext id; simp [pgw]
end
section
variable [Inhabited PrSet] {B k k' db sb sure sure1 m i : Nat} {w w' w0 wr : World} {S S' S1 S2 : Dk} {X : Ad} {G : Gp} {cs : List Nat} {st pg : Nat → Option Nat} {ds : List Nat}
end
section
variable {B k k' db sb sure sure1 m i : Nat} {w w' w0 wr : World} {S S' S1 S2 : Dk} {X : Ad} {G : Gp} {cs : List Nat} {st pg : Nat → Option Nat} {ds : List Nat}
theorem pgw_snoc (j : Nat) (id : Nat) : pgw G st pg (ds ++ [j]) id = if (G.F j).id = (id : Int) then st id else pgw G st pg ds id := by
  unfold pgw
  rw [List.any_append]
  by_cases h : (G.F j).id = (id : Int)
  · rw [if_pos h, if_pos (by simp [h])]
  · rw [if_neg h]
    have : ([j].any fun j => (G.F j).id == (id : Int)) = false := by simp [h]
    rw [this, Bool.or_false]
end
section
variable [Inhabited PrSet] {B k k' db sb sure sure1 m i : Nat} {w w' w0 wr : World} {S S' S1 S2 : Dk} {X : Ad} {G : Gp} {cs : List Nat} {st pg : Nat → Option Nat} {ds : List Nat}
end
section
variable {B k k' db sb sure sure1 m i : Nat} {w w' w0 wr : World} {S S' S1 S2 : Dk} {X : Ad} {G : Gp} {cs : List Nat} {st pg : Nat → Option Nat} {ds : List Nat}
theorem cln_nil : cln G [] = G := by unfold cln; simp
end
section
variable [Inhabited PrSet] {B k k' db sb sure sure1 m i : Nat} {w w' w0 wr : World} {S S' S1 S2 : Dk} {X : Ad} {G : Gp} {cs : List Nat} {st pg : Nat → Option Nat} {ds : List Nat}
end
section
variable {B k k' db sb sure sure1 m i : Nat} {w w' w0 wr : World} {S S' S1 S2 : Dk} {X : Ad} {G : Gp} {cs : List Nat} {st pg : Nat → Option Nat} {ds : List Nat}
theorem cln_snoc (j : Nat) : (cln G ds).set j ((cln G ds).F j).cl = cln G (ds ++ [j]) := by
  unfold Gp.set cln
  congr 1
  funext i
  unfold upd
  by_cases h : i = j
  · subst h
    rw [if_pos rfl, if_pos (by simp)]
    by_cases hi : i ∈ ds
    · dsimp only; rw [if_pos hi]; rfl
    · dsimp only; rw [if_neg hi]
  · rw [if_neg h]
    by_cases hi : i ∈ ds
    · dsimp only; rw [if_pos hi, if_pos (by simp [hi])]
    · dsimp only; rw [if_neg hi, if_neg (by simp [hi, h])]
end
section
variable [Inhabited PrSet] {B k k' db sb sure sure1 m i : Nat} {w w' w0 wr : World} {S S' S1 S2 : Dk} {X : Ad} {G : Gp} {cs : List Nat} {st pg : Nat → Option Nat} {ds : List Nat}
theorem Lo.mono (h : Lo B w db sb k S cs m) (hk : k ≤ k') : Lo B w db sb k' S cs m := ⟨h.d.mono hk, h.st, h.wt, h.all, h.n, h.up, h.len, h.cb, h.hm⟩
theorem Lo.below (h : Lo B w db sb k S cs m) (hb : Below w.heap.size w w') : Lo B w' db sb k S cs m := ⟨h.d.below hb, h.st.below hb, h.wt, h.all, h.n, h.up, h.len, h.cb, h.hm⟩
/-- The power went. -/
structure Ls (B : Nat) (w w' : World) (X : Ad) (k : Nat) (S : Dk) (cs : List Nat) : Prop where
  ex : ∃ S' m, Lo B w' X.db X.sb k S' cs m
  set : S.set = true
  kp : Kp isQ B w w'
structure Sv1 (B : Nat) (w wr : World) (X : Ad) (k : Nat) (S S1 : Dk) (cs : List Nat) (sure sure1 : Nat) (G : Gp) (st pg : Nat → Option Nat) (ds : List Nat) (i : Nat) : Prop where
  q : Pq B wr X (k + 41 * i) S1 cs sure1 G
  p : Sp S1 cs sure1 pg
  le : sure ≤ sure1
  rc : ∀ j ∈ ds.take i, ∀ id r, (G.F j).id = ((id : Nat) : Int) → st id = some r → r < sure1
  cm : S.set = false → S1.set = false
  kp : Kp isA B w wr
structure Sv2 (B : Nat) (w wr : World) (X : Ad) (k : Nat) (S S1 : Dk) (cs : List Nat) (sure1 : Nat) (G : Gp) (st pg : Nat → Option Nat) (ds : List Nat) (i : Nat) : Prop where
  q : Pq B wr X (k + 5 * i) S1 cs sure1 G
  p : Sp S1 cs sure1 (pgw G st pg (ds.take i))
  cm : S.set = false → S1.set = false
  kp : Kp isA B w wr
structure Sv3 (B : Nat) (w wr : World) (X : Ad) (k : Nat) (S1 : Dk) (cs : List Nat) (sure1 : Nat) (G : Gp) (ds : List Nat) (i : Nat) : Prop where
  q : Pq B wr X k S1 cs sure1 (cln G (ds.take i))
  kp : Kp isQ B w wr
theorem Sv1.need (h : Sv1 B w wr X k S S1 cs sure sure1 G st pg ds i) (hk : k + 41 * i ≤ 30000) (hi : i < ds.length) (hD : Dj cs G st ds[i]) (hb : Below wr.heap.size wr w') : Calls Tryz.prog 80 #[.pointer (some ⟨X.l, 0, none⟩), .int .i64 (G.F ds[i]).ln] w' fun e w' => ∃ y, e = .returned (.int .i64 y) ∧ (y = 0 → ∃ S2 sure2, Sv1 B w w' X k S S2 cs sure sure2 G st pg ds (i + 1)) ∧ (y ≠ 0 → y = 9 ∧ Ls B w w' X (k + 41 * (i + 1)) S cs) ∧ Kp isA B wr w' := by
  obtain ⟨id, r, h1, h2, h3, h4, h5, h6⟩ := hD.ex
  rw [h6]
  have hle := h.q.le
  refine ((h.q.below hb).need h.p hk r h4).mono ?_
  rintro e w2 ⟨y, he, hK, S2, sure2, hc, hor⟩
  have hK2 : Kp isA B wr w2 := (Kp.of_below hb hle).trans hK
  refine ⟨y, he, fun hy => ?_, fun hy => ?_, hK2⟩
  · rcases hor with ⟨_, q1, q2, q3, q4⟩ | ⟨h9, _⟩
    · refine ⟨S2, sure2, q1, q2, by have := h.le; omega, fun j hj id' r' e1 e2 => ?_, fun hs => (hc (h.cm hs)).2, h.kp.trans hK2⟩
      rw [List.take_succ_eq_append_getElem hi] at hj
      rcases List.mem_append.1 hj with hj | hj
      · have := h.rc j hj id' r' e1 e2; omega
      · rw [List.mem_singleton] at hj
        subst hj
        rw [h2] at e1
        have : id' = id := by omega
        subst this
        rw [h3] at e2
        cases e2
        exact q4
    · omega
  · rcases hor with ⟨h0, _⟩ | ⟨h9, hL⟩
    · exact absurd h0 hy
    · refine ⟨h9, ⟨_, _, hL⟩, ?_, (h.kp.trans hK2).q⟩
      cases hs : S.set with
      | true => rfl
      | false => exact absurd (hc (h.cm hs)).1 hy
theorem Sv2.write (h : Sv2 B w wr X k S S1 cs sure1 G st pg ds i) (hk : k + 5 * i ≤ 60000) (hi : i < ds.length) (hD : Dj cs G st ds[i]) (hrc : ∀ id r, (G.F ds[i]).id = ((id : Nat) : Int) → st id = some r → r < sure1) : Calls Tryz.prog 81 #[.pointer (some ⟨X.pb, 0, none⟩), .agg (pgA (G.F ds[i]).id (G.F ds[i]).tx (G.F ds[i]).ln)] wr fun e w' => ∃ y, e = .returned (.int .i64 y) ∧ (y = 0 → ∃ S2, Sv2 B w w' X k S S2 cs sure1 G st pg ds (i + 1)) ∧ (y ≠ 0 → y = 9 ∧ Ls B w w' X (k + 5 * (i + 1)) S cs) ∧ Kp isA B wr w' := by
  obtain ⟨id, r, h1, h2, h3, h4, h5, h6⟩ := hD.ex
  have hr := hrc id r h2 h3
  have hq := h.q
  have hlen := hq.len
  rw [h2, h5, h6]
  have e6 : lnO (some r) = ((19 * r + 1 : Nat) : Int) := by simp only [lnO]; omega
  rw [e6]
  refine (write_po hq.po hq.ds hq.st (by omega) hq.lv.up hq.n id h1 (fillS (cs.getD r 0)) (fillS_size _) (19 * r + 1) (by omega)).mono ?_
  rintro e w2 ⟨S2, y, he, hd, hK, hL⟩
  have hN : ∀ i c, nwK (40 + 4 * id) (sec 1 (19 * r + 1) (fillS (cs.getD r 0))) 4 i = some c → 40 ≤ i ∧ ∃ q, q < 4 ∧ i = 40 + 4 * id + q ∧ c = sec 1 (19 * r + 1) (fillS (cs.getD r 0)) q := fun i c hc => by
    unfold nwK at hc
    split at hc
    · rename_i hb
      injection hc with hc
      refine ⟨by omega, i - (40 + 4 * id), by omega, by omega, ?_⟩
      rw [← hc, pad_self (sec_size (fillS_size _) (by omega))]
    · cases hc
  refine ⟨y, he, fun hy => ?_, fun hy => ?_, hK.d⟩
  · subst hy
    obtain ⟨hu, hw, hsu⟩ := hL.ok rfl
    refine ⟨S2, ⟨hq.lv.laid hL (fun i c hc => Or.inr (hN i c hc).1) hd hK, hq.st.kept hK.d.q, hq.po.kept hK.d, by rw [hL.n]; exact hq.n, hq.len, hq.cb⟩, ?_, fun hs => (hL.calm (h.cm hs)).2, h.kp.trans hK.d⟩
    rw [List.take_succ_eq_append_getElem hi]
    refine ⟨fun id' q a1 a2 => ?_, fun id' r' a1 a2 => ?_⟩
    · unfold Dk.now
      rw [hw]
      show S2.sure _ = _
      rw [hsu, pgw_snoc, h2]
      by_cases hid : id = id'
      · subst hid
        rw [if_pos rfl, h3]
        have : nwK (40 + 4 * id) (sec 1 (19 * r + 1) (fillS (cs.getD r 0))) 4 (40 + 4 * id + q) = some (sec 1 (19 * r + 1) (fillS (cs.getD r 0)) q) := by
          unfold nwK
          rw [if_pos (by omega), Nat.add_sub_cancel_left, pad_self (sec_size (fillS_size _) a2)]
        rw [this]; rfl
      · rw [if_neg (by omega)]
        have : nwK (40 + 4 * id) (sec 1 (19 * r + 1) (fillS (cs.getD r 0))) 4 (40 + 4 * id' + q) = none := by
          unfold nwK; rw [if_neg (by omega)]
        rw [this]
        exact h.p.at_ id' q a1 a2
    · rw [pgw_snoc, h2] at a2
      by_cases hid : id = id'
      · subst hid
        rw [if_pos rfl] at a2
        rw [h3] at a2
        cases a2
        exact hr
      · rw [if_neg (by omega)] at a2
        exact h.p.lt id' r' a1 a2
  · refine ⟨(hL.bad hy).1, ⟨S2, sure1, hd.mono (by omega), hq.st.kept hK.d.q, hq.lv.wt.laid hL hy (fun i c hc => Or.inr (hN i c hc).1), hL.all _ (h.p.all hq.lv.nowait) (fun i c hc id' q a1 a2 e => ?_), by rw [hL.n]; exact hq.n, (hL.bad hy).2.1, hq.len, hq.cb, hq.sl⟩, ?_, (h.kp.trans hK.d).q⟩
    · obtain ⟨_, q', b1, b2, b3⟩ := hN i c hc
      refine Or.inr ⟨r, hr, ?_⟩
      rw [b3]
      congr 1
      omega
    · cases hs : S.set with
      | true => rfl
      | false => exact absurd (hL.calm (h.cm hs)).1 hy
theorem Sv3.step (h : Sv3 B w wr X k S1 cs sure1 G ds i) (hi : i < ds.length) (hn : ds[i] < X.n) : Sv3 B w (wr.setCell ⟨X.fb ds[i], 4, none⟩ (.int .i64 0)) X k S1 cs sure1 G ds (i + 1) := by
  have hp := h.q.po.setF (j := ds[i]) hn (f := ((cln G (ds.take i)).F ds[i]).cl) (i := 4) (u := .int .i64 0) rfl h.q.le
  have hq := h.q.turn hp
  rw [cln_snoc, ← List.take_succ_eq_append_getElem hi] at hq
  exact ⟨hq, h.kp.trans hp.2.f⟩
end
end Go.Proofs.YtgodjnbbocnckaaGreat

namespace Go.Proofs.YtgodjnbbocnckaaGreat
open Go.RowKit Go.Maps Go.ChangeMaps
set_option linter.unusedVariables false
set_option linter.unusedSimpArgs false
set_option maxRecDepth 100000

/-- What save comes to, where all went well. -/
structure SvO [Inhabited PrSet] (B : Nat) (w w' : World) (X : Ad) (k : Nat) (S : Dk) (cs : List Nat) (sure : Nat) (G : Gp) (st pg : Nat → Option Nat) (js ds : List Nat) (S' : Dk) (sure' : Nat) (sv : Int) : Prop where
  perm : ds.Perm (js.filter (dty G))
  q : Pq B w' X k S' cs sure' { cln G ds with sv := sv }
  p : Sp S' cs sure' (pgw G st pg ds)
  le : sure ≤ sure'
  cm : S.set = false → S'.set = false
  kp : Kp isQ B w w'
section
variable [Inhabited PrSet] {B k k' db sb sure sure1 m i : Nat} {w w' w0 wr : World} {S S' S1 S2 : Dk} {X : Ad} {G : Gp} {cs : List Nat} {st pg : Nat → Option Nat} {ds js : List Nat} {a : Option Addr}
theorem wpList_load_pg {ops : Array Oper} {rest : List Oper} {o : Oper} {act : Act} {Q : Exit → Act → World → Prop} {j : Nat} (w : World) (hg : o.guard = none) (x : Operand) (hop : o.op = Op.load 83 x) (hx : act.eval x = .pointer (some ⟨X.fb j, 0, none⟩)) (hp : PoIs B w X G) (hj : j < X.n)
    (h : wpList Tryz.prog ops Q rest (act.put o.dst (.agg (pgA (G.F j).id (G.F j).tx (G.F j).ln))) w) : wpList Tryz.prog ops Q (o :: rest) act w := by
  refine wpList_load_mid hg 83 x hop (X.fb j) 0 hx ((pgA (G.F j).id (G.F j).tx (G.F j).ln).toList) _ (fun i u hu => ?_) Tryz.underlying83 rfl info_pg h
  have hi : i < 3 := by
    have := (List.getElem?_eq_some_iff.1 hu).1
    simpa [pgA] using this
  rw [Nat.zero_add]
  have : i = 0 ∨ i = 1 ∨ i = 2 := by omega
  rcases this with rfl | rfl | rfl
  · simp [pgA] at hu; subst hu; exact hp.f0 hj
  · simp [pgA] at hu; subst hu; exact hp.f1 hj
  · simp [pgA] at hu; subst hu; exact hp.f2 hj
set_option maxHeartbeats 8000000 in
theorem save_po (h : Pq B w X k S cs sure G) (hp : Sp S cs sure pg) (hk : k + 46 * js.length ≤ 30000) (hps : Ps w X a js) (hl : js.length ≤ 64) (c : Nat) (hD : ∀ j ∈ js, dty G j = true → Dj cs G st j) :
    Calls Tryz.prog 62 #[.pointer (some ⟨X.pb, 0, none⟩), .slice a js.length c] w fun e w' => ∃ y, e = .returned (.int .i64 y) ∧ (y = 0 → ∃ ds S' sure' sv, SvO B w w' X (k + 46 * js.length) S cs sure G st pg js ds S' sure' sv) ∧ (y ≠ 0 → y = 9 ∧ Ls B w w' X (k + 46 * js.length) S cs) := by
  have CD : Hid (Calls Tryz.prog 63 #[.slice a js.length c] w fun e w' => ∃ a' c' ds, Dl w w' X G js e a' c' ds) := dirtyOf_po h.po hps hl c
  have H : Hid (Pq B w X k S cs sure G) := h
  have HP : Hid (Sp S cs sure pg) := hp
  have HD : Hid (∀ j ∈ js, dty G j = true → Dj cs G st j) := hD
  have hle := h.le
  clear h hp hps hD
  go_enter Tryz.func62, Tryz.ntmps62
  go_wp2_with (go_at_call 63; refine CD.out.mono ?_; rintro e w1 ⟨a1, c1, ds, D1⟩; have he := D1.e; subst he)
  have hlen : ds.length ≤ js.length := by
    have h1 := D1.perm.length_eq
    have h2 := List.length_filter_le (dty G) js
    omega
  have hds : Hid (∀ j ∈ ds, j < X.n ∧ Dj cs G st j) := fun j hj => by
    have h1 := D1.perm.subset hj
    have h2 := List.mem_filter.1 h1
    obtain ⟨i, hi, rfl⟩ := List.getElem_of_mem hj
    exact ⟨(D1.ps.at_ i hi).1, HD.out _ h2.1 h2.2⟩
  have hb1 := D1.below
  have P1 : Hid (Ps w1 X a1 ds) := D1.ps
  have PM : Hid (ds.Perm (js.filter (dty G))) := D1.perm
  have S0 : Hid (Sv1 B w w1 X k S S cs sure sure G st pg ds 0) := ⟨H.out.below hb1, HP.out, Nat.le_refl _, fun j hj => by simp at hj, fun h => h, Kp.of_below hb1 hle⟩
  have HK1 : Hid (Kp isA B w w1) := Kp.of_below hb1 hle
  clear D1 hb1 CD
  go_wp2
  go_loopw [18] (fun iv wr => ∃ (i : Nat) (S1 : Dk) (sure1 : Nat), i ≤ ds.length ∧ iv = .int .i64 (i : Int) ∧ Sv1 B w wr X k S S1 cs sure sure1 G st pg ds i ∧ Kp isA B w1 wr) (fun iv _ => ds.length - (intOf iv).toNat)
  case atStart => exact ⟨0, S, sure, Nat.zero_le _, rfl, S0.out, Kp.refl _ _ _⟩
  case round =>
    obtain ⟨i, S1, sure1, hi, rfl, hS1, hK⟩ := hrel
    have HS1 : Hid (Sv1 B w wr X k S S1 cs sure sure1 G st pg ds i) := hS1
    have HK : Hid (Kp isA B w1 wr) := hK
    clear hS1 hK
    by_cases hlt : i < ds.length
    · have i1 : (i : Int) < (ds.length : Int) := by omega
      have i64 : (i : Int) ≤ 64 := by omega
      obtain ⟨hjn, g, hga, _, _, hgc⟩ := (P1.out.kept HK.out.q).at_ i hlt
      subst hga
      have hDj := (hds.out ds[i] (List.getElem_mem hlt)).2
      have CN : Hid (∀ wx, Below wr.heap.size wr wx → Calls Tryz.prog 80 #[.pointer (some ⟨X.l, 0, none⟩), .int .i64 (G.F ds[i]).ln] wx fun e w' => ∃ y, e = .returned (.int .i64 y) ∧ (y = 0 → ∃ S2 sure2, Sv1 B w w' X k S S2 cs sure sure2 G st pg ds (i + 1)) ∧ (y ≠ 0 → y = 9 ∧ Ls B w w' X (k + 41 * (i + 1)) S cs) ∧ Kp isA B wr w') := fun wx hx => HS1.out.need (by omega) hlt hDj hx
      have HC : Hid (∀ wx, Kp isA B wr wx → wx.cell? ⟨X.pb, 1, none⟩ = some (.pointer (some ⟨X.l, 0, none⟩)) ∧ wx.cell? ⟨X.fb ds[i], 2, none⟩ = some (.int .i64 (G.F ds[i]).ln)) := fun wx hx => ⟨(HS1.out.q.po.kept hx).c1, (HS1.out.q.po.kept hx).f2 hjn⟩
      have hrefl : Hid (Kp isA B wr wr) := Kp.refl _ _ _
      have hwB : Hid (B ≤ wr.heap.size) := HS1.out.q.le
      unfold ptF at hgc
      generalize (G.F ds[i]).ln = ln at *
      generalize X.fb ds[i] = fb at *
      go_wp2
      have q1 := (HC.out wr hrefl.out).1
      have q2 := (HC.out wr hrefl.out).2
      have kd := HC.out wr.drew (Kp.of_below ((Below.refl _ _).drew) hwB.out)
      have q3 := kd.1
      have q4 := kd.2
      have bd : Hid (Below wr.heap.size wr wr.drew) := (Below.refl _ _).drew
      clear kd
      go_region_held3 (fun W => W.cell? ⟨X.pb, 1, none⟩ = some (.pointer (some ⟨X.l, 0, none⟩)) ∧ W.cell? ⟨fb, 2, none⟩ = some (.int .i64 ln)) (first | exact ⟨keep1, keep2⟩ | exact ⟨q3, q4⟩ | go_keep) (first
        | (go_at_call 80; refine (CN.out _ bd.out).mono ?_; rintro e wB ⟨y, rfl, hy0, hy9, hKB⟩; have HY0 : Hid (y = 0 → ∃ S2 sure2, Sv1 B w wB X k S S2 cs sure sure2 G st pg ds (i + 1)) := hy0; have HY9 : Hid (y ≠ 0 → y = 9 ∧ Ls B w wB X (k + 41 * (i + 1)) S cs) := hy9; have HKB : Hid (Kp isA B wr wB) := hKB; have keep1 := (HC.out _ hKB).1; have keep2 := (HC.out _ hKB).2; clear hy0 hy9 hKB))
      by_cases he : y = 0
      · subst he
        obtain ⟨S2, sure2, hS2⟩ := HY0.out rfl
        have HS2 : Hid (Sv1 B w wB X k S S2 cs sure sure2 G st pg ds (i + 1)) := hS2
        clear hS2
        go_wp2
        go_roundw
        case rel => exact ⟨i + 1, S2, sure2, hlt, by go_num, HS2.out, HK.out.trans HKB.out⟩
        case measure => simp [intOf]; omega
      · have heb : (y != 0) = true := by simpa using he
        obtain ⟨h9, hLs⟩ := HY9.out he
        have HLs : Hid (Ls B w wB X (k + 41 * (i + 1)) S cs) := hLs
        have H9 : Hid (y = 9) := h9
        clear hLs h9
        go_wp2
        go_ret
        refine ⟨y, rfl, fun e => absurd e he, fun _ => ⟨H9.out, ?_⟩⟩
        obtain ⟨⟨S3, m3, hLo⟩, hset, hkp⟩ := HLs.out
        exact ⟨⟨S3, m3, hLo.mono (by omega)⟩, hset, hkp⟩
    · obtain rfl : i = ds.length := by omega
      have i1 : ¬ (ds.length : Int) < (ds.length : Int) := by omega
      clear hlt hi
      have T0 : Hid (Sv2 B w wr X (k + 41 * ds.length) S S1 cs sure1 G st pg ds 0) := ⟨HS1.out.q, by rw [List.take_zero, pgw_nil]; exact HS1.out.p, HS1.out.cm, HS1.out.kp⟩
      have hsu : Hid (sure ≤ sure1) := HS1.out.le
      have hrc : Hid (∀ j ∈ ds, ∀ id r, (G.F j).id = ((id : Nat) : Int) → st id = some r → r < sure1) := by
        have := HS1.out.rc
        rw [List.take_length] at this
        exact this
      have P2 : Hid (Ps wr X a1 ds) := P1.out.kept HK.out.q
      have hwB : Hid (B ≤ wr.heap.size) := T0.out.q.le
      clear HS1 HK HK1 P1 S0
      generalize wr = w2 at *
      go_wp2
      go_loopw [38] (fun iv wq => ∃ (i : Nat) (S2 : Dk), i ≤ ds.length ∧ iv = .int .i64 (i : Int) ∧ Sv2 B w wq X (k + 41 * ds.length) S S2 cs sure1 G st pg ds i ∧ Kp isA B w2 wq) (fun iv _ => ds.length - (intOf iv).toNat)
      case atStart => exact ⟨0, S1, Nat.zero_le _, rfl, T0.out, Kp.refl _ _ _⟩
      case round =>
        obtain ⟨i, S2, hi, rfl, hS2, hK2⟩ := hrel
        have HS2 : Hid (Sv2 B w wr X (k + 41 * ds.length) S S2 cs sure1 G st pg ds i) := hS2
        have HK2 : Hid (Kp isA B w2 wr) := hK2
        clear hS2 hK2
        by_cases hlt : i < ds.length
        · have i1 : (i : Int) < (ds.length : Int) := by omega
          have i64 : (i : Int) ≤ 64 := by omega
          obtain ⟨hjn, g, hga, _, _, hgc⟩ := (P2.out.kept HK2.out.q).at_ i hlt
          subst hga
          have hDj := (hds.out ds[i] (List.getElem_mem hlt)).2
          have CW : Hid (Calls Tryz.prog 81 #[.pointer (some ⟨X.pb, 0, none⟩), .agg (pgA (G.F ds[i]).id (G.F ds[i]).tx (G.F ds[i]).ln)] wr fun e w' => ∃ y, e = .returned (.int .i64 y) ∧ (y = 0 → ∃ S3, Sv2 B w w' X (k + 41 * ds.length) S S3 cs sure1 G st pg ds (i + 1)) ∧ (y ≠ 0 → y = 9 ∧ Ls B w w' X (k + 41 * ds.length + 5 * (i + 1)) S cs) ∧ Kp isA B wr w') := HS2.out.write (by omega) hlt hDj (hrc.out _ (List.getElem_mem hlt))
          have HPo : Hid (PoIs B wr X G) := HS2.out.q.po
          have hjH : Hid (ds[i] < X.n) := hjn
          clear hjn hDj
          unfold ptF at hgc
          generalize ds[i] = j at *
          go_wp2_with (first
            | (refine wpList_load_pg (B := B) (X := X) (G := G) (j := j) _ rfl _ rfl rfl HPo.out hjH.out ?_)
            | (go_at_call 81; refine CW.out.mono ?_; rintro e wB ⟨y, rfl, hy0, hy9, hKB⟩; have HY0 : Hid (y = 0 → ∃ S3, Sv2 B w wB X (k + 41 * ds.length) S S3 cs sure1 G st pg ds (i + 1)) := hy0; have HY9 : Hid (y ≠ 0 → y = 9 ∧ Ls B w wB X (k + 41 * ds.length + 5 * (i + 1)) S cs) := hy9; have HKB : Hid (Kp isA B wr wB) := hKB; clear hy0 hy9 hKB))
          · have he : y ≠ 0 := by simpa using ‹(y != 0) = true›
            obtain ⟨h9, hLs⟩ := HY9.out he
            go_ret
            refine ⟨y, rfl, fun e => absurd e he, fun _ => ⟨h9, ?_⟩⟩
            obtain ⟨⟨S3, m3, hLo⟩, hset, hkp⟩ := hLs
            exact ⟨⟨S3, m3, hLo.mono (by omega)⟩, hset, hkp⟩
          · have he : y = 0 := by simpa using ‹(y != 0) = false›
            obtain ⟨S3, hS3⟩ := HY0.out he
            go_roundw
            case rel => exact ⟨i + 1, S3, hlt, by go_num, hS3, HK2.out.trans HKB.out⟩
            case measure => simp [intOf]; omega
        · obtain rfl : i = ds.length := by omega
          have i1 : ¬ (ds.length : Int) < (ds.length : Int) := by omega
          clear hlt hi
          have U0 : Hid (Sv3 B w wr X (k + 46 * js.length) S2 cs sure1 G ds 0) := ⟨by rw [List.take_zero, cln_nil]; exact HS2.out.q.mono (by omega), HS2.out.kp.q⟩
          have HSp : Hid (Sp S2 cs sure1 (pgw G st pg ds)) := by
            have := HS2.out.p
            rw [List.take_length] at this
            exact this
          have HCm : Hid (S.set = false → S2.set = false) := HS2.out.cm
          have P3 : Hid (Ps wr X a1 ds) := P2.out.kept HK2.out.q
          clear HS2 HK2 P2 T0 hwB
          generalize wr = w3 at *
          go_wp2
          go_loopw [54] (fun iv wq => ∃ (i : Nat), i ≤ ds.length ∧ iv = .int .i64 (i : Int) ∧ Sv3 B w wq X (k + 46 * js.length) S2 cs sure1 G ds i ∧ Kp isQ B w3 wq) (fun iv _ => ds.length - (intOf iv).toNat)
          case atStart => exact ⟨0, Nat.zero_le _, rfl, U0.out, Kp.refl _ _ _⟩
          case round =>
            obtain ⟨i, hi, rfl, hS3, hK3⟩ := hrel
            have HS3 : Hid (Sv3 B w wr X (k + 46 * js.length) S2 cs sure1 G ds i) := hS3
            have HK3 : Hid (Kp isQ B w3 wr) := hK3
            clear hS3 hK3
            by_cases hlt : i < ds.length
            · have i1 : (i : Int) < (ds.length : Int) := by omega
              have i64 : (i : Int) ≤ 64 := by omega
              obtain ⟨hjn, g, hga, _, _, hgc⟩ := (P3.out.kept HK3.out).at_ i hlt
              subst hga
              have f4 := HS3.out.q.po.f4 hjn
              have z4 := HS3.out.q.po.fz hjn 4
              have HN : Hid (Sv3 B w (wr.setCell ⟨X.fb ds[i], 4, none⟩ (.int .i64 0)) X (k + 46 * js.length) S2 cs sure1 G ds (i + 1)) := HS3.out.step hlt hjn
              have HKN : Hid (Kp isQ B wr (wr.setCell ⟨X.fb ds[i], 4, none⟩ (.int .i64 0))) := (HS3.out.q.po.setF (j := ds[i]) hjn (f := ((cln G (ds.take i)).F ds[i]).cl) (i := 4) (u := .int .i64 0) rfl HS3.out.q.le).2.f
              clear hjn
              unfold ptF at hgc
              generalize ds[i] = j at *
              generalize ((cln G (List.take i ds)).F j).si = si at *
              go_wp2
              go_roundw
              case rel => exact ⟨i + 1, hlt, by go_num, HN.out, HK3.out.trans HKN.out⟩
              case measure => simp [intOf]; omega
            · obtain rfl : i = ds.length := by omega
              have i1 : ¬ (ds.length : Int) < (ds.length : Int) := by omega
              have hq := HS3.out.q
              rw [List.take_length] at hq
              have c4 := hq.po.c4
              have z4 := hq.po.z 4
              have HF : Hid (∀ x : Int, Pq B (wr.setCell ⟨X.pb, 4, none⟩ (.int .i64 x)) X (k + 46 * js.length) S2 cs sure1 { cln G ds with sv := x } ∧ Kp isF B wr (wr.setCell ⟨X.pb, 4, none⟩ (.int .i64 x))) := fun x => by
                have := hq.po.setP (G' := { cln G ds with sv := x }) (i := 4) (u := .int .i64 x) rfl rfl hq.po.h0 hq.po.h1 hq.le
                exact ⟨hq.turn this, this.2⟩
              have HKw : Hid (Kp isQ B w wr) := HS3.out.kp
              clear hlt hi hq HS3 HK3
              generalize (cln G ds).sv = sv at *
              go_wp2
              go_ret
              refine ⟨0, rfl, fun _ => ⟨ds, S2, sure1, _, PM.out, (HF.out _).1, HSp.out, hsu.out, HCm.out, HKw.out.trans (HF.out _).2.f⟩, fun e => absurd rfl e⟩
end
end Go.Proofs.YtgodjnbbocnckaaGreat

namespace Go.Proofs.YtgodjnbbocnckaaGreat
open Go.RowKit Go.Maps Go.ChangeMaps
set_option linter.unusedVariables false
set_option linter.unusedSimpArgs false
set_option maxRecDepth 100000

/-- A frame's page, as it was set last. -/
structure Fat (cs : List Nat) (f : Fm) (st : Nat → Option Nat) (pins : Nat → Nat) (q : Nat) : Prop where
  id : f.id = (q : Int)
  tx : f.tx = txO cs (st q)
  ln : f.ln = lnO (st q)
  pn : f.pn = (pins q : Int)
  si : f.si = 0 ∨ ∃ k r, st q = some r ∧ k ≤ r ∧ f.si = lnO (some k)
structure Iv [Inhabited PrSet] (cs : List Nat) (n : Nat) (F : Nat → Fm) (st : Nat → Option Nat) (pn : Nat → Nat) (pg : Nat → Option Nat) : Prop where
  us : ∀ j, j < n → (F j).us = true → ∃ id : Nat, id < 8 ∧ Fat cs (F j) st pn id
  un : ∀ j, j < n → (F j).us = false → (F j).si = 0 ∧ (F j).pn = 0
  ds : ∀ (i j : Nat) (id : Int), i < n → j < n → (F i).has id → (F j).has id → i = j
  cl : ∀ id : Nat, id < 8 → (∀ j, j < n → (F j).has (id : Int) → (F j).si = 0) → pg id = st id
  pl : ∀ id : Nat, id < 8 → ∀ k, pg id = some k → ∃ r, st id = some r ∧ k ≤ r
  sl : ∀ id : Nat, id < 8 → ∀ r, st id = some r → r < cs.length
  np : ∀ id : Nat, id < 8 → pn id ≠ 0 → ∃ j, j < n ∧ (F j).has (id : Int)
section
variable [Inhabited PrSet] {B k k' db sb sure sure1 m i n : Nat} {w w' w0 wr : World} {S S' S1 S2 : Dk} {X : Ad} {G : Gp} {cs : List Nat} {st pg : Nat → Option Nat} {pn : Nat → Nat} {ds js : List Nat} {F : Nat → Fm}
end
section
variable {B k k' db sb sure sure1 m i n : Nat} {w w' w0 wr : World} {S S' S1 S2 : Dk} {X : Ad} {G : Gp} {cs : List Nat} {st pg : Nat → Option Nat} {pn : Nat → Nat} {ds js : List Nat} {F : Nat → Fm}
theorem lnO_pos (k : Nat) : 1 ≤ lnO (some k) := by simp only [lnO]; omega
end
section
variable [Inhabited PrSet] {B k k' db sb sure sure1 m i n : Nat} {w w' w0 wr : World} {S S' S1 S2 : Dk} {X : Ad} {G : Gp} {cs : List Nat} {st pg : Nat → Option Nat} {pn : Nat → Nat} {ds js : List Nat} {F : Nat → Fm}
end
section
variable {B k k' db sb sure sure1 m i n : Nat} {w w' w0 wr : World} {S S' S1 S2 : Dk} {X : Ad} {G : Gp} {cs : List Nat} {st pg : Nat → Option Nat} {pn : Nat → Nat} {ds js : List Nat} {F : Nat → Fm}
theorem lnO_le {k r : Nat} (h : k ≤ r) : lnO (some k) ≤ lnO (some r) := by simp only [lnO]; omega
end
section
variable [Inhabited PrSet] {B k k' db sb sure sure1 m i n : Nat} {w w' w0 wr : World} {S S' S1 S2 : Dk} {X : Ad} {G : Gp} {cs : List Nat} {st pg : Nat → Option Nat} {pn : Nat → Nat} {ds js : List Nat} {F : Nat → Fm}
end
section
variable {B k k' db sb sure sure1 m i n : Nat} {w w' w0 wr : World} {S S' S1 S2 : Dk} {X : Ad} {G : Gp} {cs : List Nat} {st pg : Nat → Option Nat} {pn : Nat → Nat} {ds js : List Nat} {F : Nat → Fm}
theorem lnO_inj {a b : Option Nat} (h : lnO a = lnO b) : a = b := by
  cases a <;> cases b <;> simp only [lnO] at h
  · rfl
  · omega
  · omega
  · congr 1; omega
end
section
variable [Inhabited PrSet] {B k k' db sb sure sure1 m i n : Nat} {w w' w0 wr : World} {S S' S1 S2 : Dk} {X : Ad} {G : Gp} {cs : List Nat} {st pg : Nat → Option Nat} {pn : Nat → Nat} {ds js : List Nat} {F : Nat → Fm}
theorem Iv.fat (h : Iv cs n F st pn pg) {j id : Nat} (hj : j < n) (hh : (F j).has (id : Int)) : id < 8 ∧ Fat cs (F j) st pn id := by
  obtain ⟨id', h1, h2⟩ := h.us j hj hh.1
  have e1 := h2.id
  have e2 := hh.2
  have : id' = id := by omega
  subst this
  exact ⟨h1, h2⟩
theorem Iv.pos (h : Iv cs n F st pn pg) {j : Nat} (hj : j < n) (hd : 0 < (F j).si) : ∃ id k r, id < 8 ∧ Fat cs (F j) st pn id ∧ (F j).has (id : Int) ∧ st id = some r ∧ k ≤ r ∧ (F j).si = lnO (some k) := by
  cases hu : (F j).us with
  | false => have := (h.un j hj hu).1; omega
  | true =>
    obtain ⟨id, h1, h2⟩ := h.us j hj hu
    rcases h2.si with e | ⟨k, r, e1, e2, e3⟩
    · omega
    · exact ⟨id, k, r, h1, h2, ⟨hu, h2.id⟩, e1, e2, e3⟩
theorem Iv.dj {G : Gp} (h : Iv cs n G.F st pn pg) {j : Nat} (hj : j < n) (hd : dty G j = true) : Dj cs G st j := by
  obtain ⟨id, k, r, h1, h2, h3, h4, h5, h6⟩ := h.pos hj (by simpa [dty] using hd)
  refine ⟨id, r, h1, h2.id, h4, h.sl id h1 r h4, ?_, ?_⟩
  · rw [h2.tx, h4]; rfl
  · rw [h2.ln, h4]
theorem Iv.snoc (h : Iv cs n F st pn pg) (c : Nat) : Iv (cs ++ [c]) n F st pn pg := by
  refine ⟨fun j hj hu => ?_, h.un, h.ds, h.cl, h.pl, fun id h1 r h2 => ?_, h.np⟩
  · obtain ⟨id, h1, h2⟩ := h.us j hj hu
    exact ⟨id, h1, h2.id, by rw [txO_snoc cs c (fun r hr => h.sl id h1 r hr)]; exact h2.tx, h2.ln, h2.pn, h2.si⟩
  · have := h.sl id h1 r h2
    rw [List.length_append]; omega
end
section
variable {B k k' db sb sure sure1 m i n : Nat} {w w' w0 wr : World} {S S' S1 S2 : Dk} {X : Ad} {G : Gp} {cs : List Nat} {st pg : Nat → Option Nat} {pn : Nat → Nat} {ds js : List Nat} {F : Nat → Fm}
theorem cl_has {f : Fm} {id : Int} : f.cl.has id ↔ f.has id := Iff.rfl
end
section
variable [Inhabited PrSet] {B k k' db sb sure sure1 m i n : Nat} {w w' w0 wr : World} {S S' S1 S2 : Dk} {X : Ad} {G : Gp} {cs : List Nat} {st pg : Nat → Option Nat} {pn : Nat → Nat} {ds js : List Nat} {F : Nat → Fm}
/-- Pages are saved. -/
theorem Iv.saved {G : Gp} (h : Iv cs n G.F st pn pg) (ds : List Nat) : Iv cs n (cln G ds).F st pn (pgw G st pg ds) := by
  have hF : ∀ j, (cln G ds).F j = if j ∈ ds then (G.F j).cl else G.F j := fun j => rfl
  have hh : ∀ j id, ((cln G ds).F j).has id ↔ (G.F j).has id := fun j id => by rw [hF]; split <;> exact Iff.rfl
  refine ⟨fun j hj hu => ?_, fun j hj hu => ?_, fun i j id hi hj h1 h2 => h.ds i j id hi hj ((hh _ _).1 h1) ((hh _ _).1 h2), fun id h1 h2 => ?_, fun id h1 k h2 => ?_, h.sl, fun id h1 h2 => ?_⟩
  · rw [hF] at hu ⊢
    by_cases hm : j ∈ ds
    · rw [if_pos hm] at hu ⊢
      obtain ⟨id, h1, h2⟩ := h.us j hj hu
      exact ⟨id, h1, h2.id, h2.tx, h2.ln, h2.pn, Or.inl rfl⟩
    · rw [if_neg hm] at hu ⊢
      exact h.us j hj hu
  · rw [hF] at hu ⊢
    by_cases hm : j ∈ ds
    · rw [if_pos hm] at hu ⊢
      exact ⟨rfl, (h.un j hj hu).2⟩
    · rw [if_neg hm] at hu ⊢
      exact h.un j hj hu
  · unfold pgw
    by_cases ha : (ds.any fun j => (G.F j).id == (id : Int)) = true
    · rw [if_pos ha]
    · rw [if_neg ha]
      refine h.cl id h1 (fun j hj hhas => ?_)
      have := h2 j hj ((hh _ _).2 hhas)
      rw [hF] at this
      by_cases hm : j ∈ ds
      · exfalso
        apply ha
        rw [List.any_eq_true]
        exact ⟨j, hm, by rw [hhas.2]; simp⟩
      · rw [if_neg hm] at this; exact this
  · unfold pgw at h2
    split at h2
    · exact ⟨k, h2, Nat.le_refl _⟩
    · exact h.pl id h1 k h2
  · obtain ⟨j, hj, hhas⟩ := h.np id h1 h2
    exact ⟨j, hj, (hh _ _).2 hhas⟩
/-- A page that is in no frame is taken into one. -/
theorem Iv.taken (h : Iv cs n F st pn pg) {a id : Nat} (ha : a < n) (hid : id < 8) (hno : ∀ j, j < n → ¬ (F j).has (id : Int)) (hp : (F a).pn = 0) (hs : (F a).si = 0) : Iv cs n (upd F a ⟨(id : Int), txO cs (pg id), lnO (pg id), true, 0, 0⟩) st pn pg := by
  have hpg : pg id = st id := h.cl id hid (fun j hj hh => absurd hh (hno j hj))
  have hpn : pn id = 0 := by
    cases e : pn id with
    | zero => rfl
    | succ x => obtain ⟨j, hj, hh⟩ := h.np id hid (by omega); exact absurd hh (hno j hj)
  have hsame : ∀ j, j ≠ a → upd F a (⟨(id : Int), txO cs (pg id), lnO (pg id), true, 0, 0⟩ : Fm) j = F j := fun j hj => upd_other _ _ hj
  have hat : upd F a (⟨(id : Int), txO cs (pg id), lnO (pg id), true, 0, 0⟩ : Fm) a = ⟨(id : Int), txO cs (pg id), lnO (pg id), true, 0, 0⟩ := upd_same _ _ _
  refine ⟨fun j hj hu => ?_, fun j hj hu => ?_, fun i j id' hi hj h1 h2 => ?_, fun id' h1 h2 => ?_, h.pl, h.sl, fun id' h1 h2 => ?_⟩
  · by_cases e : j = a
    · subst e
      rw [hat]
      exact ⟨id, hid, rfl, by rw [hpg], by rw [hpg], by rw [hpn]; rfl, Or.inl rfl⟩
    · rw [hsame j e] at hu ⊢
      exact h.us j hj hu
  · by_cases e : j = a
    · subst e; rw [hat] at hu; cases hu
    · rw [hsame j e] at hu ⊢; exact h.un j hj hu
  · by_cases e1 : i = a
    · by_cases e2 : j = a
      · omega
      · subst e1
        rw [hat] at h1
        rw [hsame j e2] at h2
        have : (id : Int) = id' := h1.2
        subst this
        exact absurd h2 (hno j hj)
    · by_cases e2 : j = a
      · subst e2
        rw [hat] at h2
        rw [hsame i e1] at h1
        have : (id : Int) = id' := h2.2
        subst this
        exact absurd h1 (hno i hi)
      · rw [hsame i e1] at h1
        rw [hsame j e2] at h2
        exact h.ds i j id' hi hj h1 h2
  · refine h.cl id' h1 (fun j hj hh => ?_)
    by_cases e : j = a
    · subst e; exact hs
    · have := h2 j hj (by rw [hsame j e]; exact hh)
      rw [hsame j e] at this
      exact this
  · obtain ⟨j, hj, hh⟩ := h.np id' h1 h2
    by_cases e : j = a
    · subst e
      have := (h.fat hj hh).2.pn
      omega
    · exact ⟨j, hj, by rw [hsame j e]; exact hh⟩
/-- A page in a frame is set by the newest record. -/
theorem Iv.setp (h : Iv cs n F st pn pg) {j id r : Nat} (hj : j < n) (hh : (F j).has (id : Int)) (hr : r < cs.length) (hst : ∀ id', id' < 8 → ∀ r0, st id' = some r0 → r0 ≤ r) : Iv cs n (upd F j { F j with tx := fillS (cs.getD r 0), ln := lnO (some r), si := if 0 < (F j).si then (F j).si else lnO (some r) }) (upd st id (some r)) pn pg := by
  obtain ⟨hid, hf⟩ := h.fat hj hh
  have hsame : ∀ i, i ≠ j → upd F j ({ F j with tx := fillS (cs.getD r 0), ln := lnO (some r), si := if 0 < (F j).si then (F j).si else lnO (some r) } : Fm) i = F i := fun i hi => upd_other _ _ hi
  have hat : upd F j ({ F j with tx := fillS (cs.getD r 0), ln := lnO (some r), si := if 0 < (F j).si then (F j).si else lnO (some r) } : Fm) j = { F j with tx := fillS (cs.getD r 0), ln := lnO (some r), si := if 0 < (F j).si then (F j).si else lnO (some r) } := upd_same _ _ _
  have hpos : 0 < (if 0 < (F j).si then (F j).si else lnO (some r)) := by
    have := lnO_pos r
    split <;> omega
  have hoth : ∀ i, i < n → i ≠ j → ¬ (F i).has (id : Int) := fun i hi e h2 => e (h.ds i j _ hi hj h2 hh)
  refine ⟨fun i hi hu => ?_, fun i hi hu => ?_, fun i i' id' hi hi' h1 h2 => ?_, fun id' h1 h2 => ?_, fun id' h1 k h2 => ?_, fun id' h1 r' h2 => ?_, fun id' h1 h2 => ?_⟩
  · by_cases e : i = j
    · subst e
      rw [hat]
      refine ⟨id, hid, hf.id, by rw [upd_same]; rfl, by rw [upd_same], hf.pn, Or.inr ?_⟩
      rw [upd_same]
      by_cases hs : 0 < (F i).si
      · rcases hf.si with e0 | ⟨k, r0, e1, e2, e3⟩
        · omega
        · refine ⟨k, r, rfl, Nat.le_trans e2 (hst id hid r0 e1), ?_⟩
          show (if 0 < (F i).si then (F i).si else lnO (some r)) = _
          rw [if_pos hs]; exact e3
      · refine ⟨r, r, rfl, Nat.le_refl _, ?_⟩
        show (if 0 < (F i).si then (F i).si else lnO (some r)) = _
        rw [if_neg hs]
    · rw [hsame i e] at hu ⊢
      obtain ⟨id', h1, h2⟩ := h.us i hi hu
      have hne : id' ≠ id := fun e2 => by subst e2; exact hoth i hi e ⟨hu, h2.id⟩
      exact ⟨id', h1, h2.id, by rw [upd_other _ _ hne]; exact h2.tx, by rw [upd_other _ _ hne]; exact h2.ln, h2.pn, by rw [upd_other _ _ hne]; exact h2.si⟩
  · by_cases e : i = j
    · subst e; rw [hat] at hu; rw [hh.1] at hu; cases hu
    · rw [hsame i e] at hu ⊢; exact h.un i hi hu
  · have c1 : (F i).has id' := by
      by_cases e : i = j
      · subst e; rw [hat] at h1; exact h1
      · rw [hsame i e] at h1; exact h1
    have c2 : (F i').has id' := by
      by_cases e : i' = j
      · subst e; rw [hat] at h2; exact h2
      · rw [hsame i' e] at h2; exact h2
    exact h.ds i i' id' hi hi' c1 c2
  · by_cases e : id' = id
    · subst e
      have := h2 j hj (by rw [hat]; exact hh)
      rw [hat] at this
      dsimp only at this
      omega
    · rw [upd_other _ _ e]
      refine h.cl id' h1 (fun i hi hh' => ?_)
      have hij : i ≠ j := fun e2 => by subst e2; have a1 := hh'.2; have a2 := hh.2; omega
      have := h2 i hi (by rw [hsame i hij]; exact hh')
      rw [hsame i hij] at this
      exact this
  · obtain ⟨r0, e1, e2⟩ := h.pl id' h1 k h2
    by_cases e : id' = id
    · subst e
      exact ⟨r, upd_same _ _ _, Nat.le_trans e2 (hst id' h1 r0 e1)⟩
    · exact ⟨r0, by rw [upd_other _ _ e]; exact e1, e2⟩
  · by_cases e : id' = id
    · subst e; rw [upd_same] at h2; cases h2; exact hr
    · rw [upd_other _ _ e] at h2; exact h.sl id' h1 r' h2
  · obtain ⟨i, hi, hh'⟩ := h.np id' h1 h2
    refine ⟨i, hi, ?_⟩
    by_cases e : i = j
    · subst e; rw [hat]; exact hh'
    · rw [hsame i e]; exact hh'
/-- A page in a frame is pinned so often. -/
theorem Iv.pin (h : Iv cs n F st pn pg) {j id : Nat} (hj : j < n) (hh : (F j).has (id : Int)) (x : Nat) : Iv cs n (upd F j { F j with pn := (x : Int) }) st (upd pn id x) pg := by
  obtain ⟨hid, hf⟩ := h.fat hj hh
  have hsame : ∀ i, i ≠ j → upd F j ({ F j with pn := (x : Int) } : Fm) i = F i := fun i hi => upd_other _ _ hi
  have hat : upd F j ({ F j with pn := (x : Int) } : Fm) j = { F j with pn := (x : Int) } := upd_same _ _ _
  have hoth : ∀ i, i < n → i ≠ j → ¬ (F i).has (id : Int) := fun i hi e h2 => e (h.ds i j _ hi hj h2 hh)
  have hhas : ∀ i id', (upd F j ({ F j with pn := (x : Int) } : Fm) i).has id' ↔ (F i).has id' := fun i id' => by
    by_cases e : i = j
    · subst e; rw [hat]; exact Iff.rfl
    · rw [hsame i e]
  refine ⟨fun i hi hu => ?_, fun i hi hu => ?_, fun i i' id' hi hi' h1 h2 => h.ds i i' id' hi hi' ((hhas _ _).1 h1) ((hhas _ _).1 h2), fun id' h1 h2 => ?_, h.pl, h.sl, fun id' h1 h2 => ?_⟩
  · by_cases e : i = j
    · subst e
      rw [hat]
      exact ⟨id, hid, hf.id, hf.tx, hf.ln, by rw [upd_same], hf.si⟩
    · rw [hsame i e] at hu ⊢
      obtain ⟨id', h1, h2⟩ := h.us i hi hu
      have hne : id' ≠ id := fun e2 => by subst e2; exact hoth i hi e ⟨hu, h2.id⟩
      exact ⟨id', h1, h2.id, h2.tx, h2.ln, by rw [upd_other _ _ hne]; exact h2.pn, h2.si⟩
  · by_cases e : i = j
    · subst e; rw [hat] at hu; rw [hh.1] at hu; cases hu
    · rw [hsame i e] at hu ⊢; exact h.un i hi hu
  · refine h.cl id' h1 (fun i hi hh' => ?_)
    have := h2 i hi ((hhas _ _).2 hh')
    by_cases e : i = j
    · subst e; rw [hat] at this; exact this
    · rw [hsame i e] at this; exact this
  · by_cases e : id' = id
    · subst e; exact ⟨j, hj, (hhas _ _).2 hh⟩
    · rw [upd_other _ _ e] at h2
      obtain ⟨i, hi, hh'⟩ := h.np id' h1 h2
      exact ⟨i, hi, (hhas _ _).2 hh'⟩
/-- A new pool. -/
theorem Iv.new (n : Nat) : Iv [] n (fun _ => zF) (fun _ => none) (fun _ => 0) (fun _ => none) :=
  ⟨(fun j hj hu => by cases hu), fun j hj hu => ⟨rfl, rfl⟩, (fun i j id hi hj h1 h2 => by cases h1.1), fun id h1 h2 => rfl, (fun id h1 k h2 => by cases h2), (fun id h1 r h2 => by cases h2), fun id h1 h2 => absurd rfl h2⟩
/-- A pool, and what was set. -/
structure Pv (B : Nat) (w : World) (X : Ad) (k : Nat) (S : Dk) (cs : List Nat) (sure : Nat) (G : Gp) (st : Nat → Option Nat) (pn : Nat → Nat) (pg : Nat → Option Nat) : Prop where
  q : Pq B w X k S cs sure G
  p : Sp S cs sure pg
  v : Iv cs X.n G.F st pn pg
theorem Pv.below (h : Pv B w X k S cs sure G st pn pg) (hb : Below w.heap.size w w') : Pv B w' X k S cs sure G st pn pg := ⟨h.q.below hb, h.p, h.v⟩
theorem Pv.mono (h : Pv B w X k S cs sure G st pn pg) (hk : k ≤ k') : Pv B w X k' S cs sure G st pn pg := ⟨h.q.mono hk, h.p, h.v⟩
theorem Pv.saved {sv : Int} (h : Pv B w X k S cs sure G st pn pg) (hs : SvO B w w' X k' S cs sure G st pg js ds S' sure1 sv) : Pv B w' X k' S' cs sure1 { cln G ds with sv := sv } st pn (pgw G st pg ds) := ⟨hs.q, hs.p, h.v.saved ds⟩
theorem Pv.rdP (h : Pv B w X k S cs sure G st pn pg) {id : Nat} (hid : id < 8) : rdP S (id : Int) = (txO cs (pg id), lnO (pg id), 0) := by
  have hs := h.q.sl
  have hl := h.q.len
  unfold Go.Proofs.YtgodjnbbocnckaaGreat.rdP
  rw [h.p.rd (by omega) hid]
  cases hp : pg id with
  | none => simp [txO, lnO]
  | some r => simp
theorem Pv.rdOutP (h : Pv B w X k S cs sure G st pn pg) {id : Int} (hid : ¬ (0 ≤ id ∧ id < 8)) : Go.Proofs.YtgodjnbbocnckaaGreat.rdP S id = (⟨#[]⟩, 0, 6) := by
  unfold Go.Proofs.YtgodjnbbocnckaaGreat.rdP
  rw [rd_out S hid]
  simp
end
end Go.Proofs.YtgodjnbbocnckaaGreat
