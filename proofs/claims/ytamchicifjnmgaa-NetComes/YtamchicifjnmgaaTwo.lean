/- The net and the document's beside it. -/
import Derived.Test.YtamchicifjnmgaaWout
import Derived.Test.YtamchicifjnmgaaSwp
import Derived.Test.YtamchicifjnmgaaAwk
namespace Go.Proofs.Ytamchicifjnmgaa
open Go.RowKit
set_option linter.unusedVariables false
set_option linter.unusedSimpArgs false
set_option maxRecDepth 100000

/-- Both lie behind B, apart; the net has Sn, the document's Sp. -/
structure Duo (B : Nat) (w0 w : World) (nb pb : Nat) (a : Option Addr) (cap : Nat) (Sn : Nt) (b : Option Addr) (capb : Nat) (Sp : Nt) : Prop where
  n : NtIs w 49 nb a cap Sn
  p : NtIs w 28 pb b capb Sp
  ap : ∀ k, netB nb a k → ¬ netB pb b k
  bel : Below B w0 w
  nB : ∀ k, netB nb a k → B ≤ k
  pB : ∀ k, netB pb b k → B ≤ k
  B0 : B ≤ w0.heap.size
section
variable {B : Nat} {w0 w w' : World} {nb pb : Nat} {a : Option Addr} {cap : Nat} {Sn : Nt} {b : Option Addr} {capb : Nat} {Sp : Nt}
theorem Duo.le (h : Duo B w0 w nb pb a cap Sn b capb Sp) : B ≤ w.heap.size := Nat.le_trans h.B0 h.bel.size
theorem Duo.below (h : Duo B w0 w nb pb a cap Sn b capb Sp) (hb : Below w.heap.size w w') : Duo B w0 w' nb pb a cap Sn b capb Sp :=
  ⟨h.n.below hb, h.p.below hb, h.ap, h.bel.trans (hb.mono h.le), h.nB, h.pB, h.B0⟩
theorem Duo.alloc (h : Duo B w0 w nb pb a cap Sn b capb Sp) (o : Obj) : Duo B w0 (w.alloc o) nb pb a cap Sn b capb Sp := h.below ((Below.refl _ _).alloc (Nat.le_refl _) o)
theorem Duo.drewN (h : Duo B w0 w nb pb a cap Sn b capb Sp) (n : Nat) : Duo B w0 (w.drewN n) nb pb a cap Sn b capb Sp := h.below (below_drewN (Below.refl _ _) _)
theorem Duo.drew (h : Duo B w0 w nb pb a cap Sn b capb Sp) : Duo B w0 w.drew nb pb a cap Sn b capb Sp := h.below (Below.refl _ _).drew
theorem Duo.net {a' : Option Addr} {cap' : Nat} {Sn' : Nt} (h : Duo B w0 w nb pb a cap Sn b capb Sp) (hn : NtIs w' 49 nb a' cap' Sn') (ht : Turn w w' nb a a') : Duo B w0 w' nb pb a' cap' Sn' b capb Sp := by
  refine ⟨hn, h.p.off ht.off (fun k hk hk' => h.ap k hk' hk), fun k hk hk' => ?_, h.bel.trans (ht.off.below h.nB h.le), fun k hk => ?_, h.pB, h.B0⟩
  · rcases hk with e | e
    · exact h.ap k (Or.inl e) hk'
    · rcases ht.near k e with e | e
      · exact h.ap k (Or.inr e) hk'
      · have := h.p.mem_lt hk'; omega
  · rcases hk with e | e
    · exact h.nB k (Or.inl e)
    · rcases ht.near k e with e | e
      · exact h.nB k (Or.inr e)
      · have := h.le; omega
theorem Duo.doc {b' : Option Addr} {capb' : Nat} {Sp' : Nt} (h : Duo B w0 w nb pb a cap Sn b capb Sp) (hp : NtIs w' 28 pb b' capb' Sp') (ht : Turn w w' pb b b') : Duo B w0 w' nb pb a cap Sn b' capb' Sp' := by
  refine ⟨h.n.off ht.off (fun k hk hk' => h.ap k hk hk'), hp, fun k hk hk' => ?_, h.bel.trans (ht.off.below h.pB h.le), h.nB, fun k hk => ?_, h.B0⟩
  · rcases hk' with e | e
    · exact h.ap k hk (Or.inl e)
    · rcases ht.near k e with e | e
      · exact h.ap k hk (Or.inr e)
      · have := h.n.mem_lt hk; omega
  · rcases hk with e | e
    · exact h.pB k (Or.inl e)
    · rcases ht.near k e with e | e
      · exact h.pB k (Or.inr e)
      · have := h.le; omega
end
/-- With an Op in block ob. -/
structure Both (B : Nat) (w0 w : World) (nb pb : Nat) (Sn : Nt) (b : Option Addr) (capb : Nat) (Sp : Nt) (ob : Nat) (oc : Array Value) : Prop where
  ex : ∃ a cap, Duo B w0 w nb pb a cap Sn b capb Sp
  op : w.heap[ob]? = some (.cells oc 31)
def Pair (B : Nat) (w0 w : World) (nb pb : Nat) (S : Nt) : Prop := ∃ a cap b capb, Duo B w0 w nb pb a cap S b capb S
section
variable {B : Nat} {w0 w w' : World} {nb pb : Nat} {Sn : Nt} {b : Option Addr} {capb : Nat} {Sp : Nt} {ob : Nat} {oc : Array Value}
theorem Both.p (h : Both B w0 w nb pb Sn b capb Sp ob oc) : NtIs w 28 pb b capb Sp := by obtain ⟨⟨a, cap, h1⟩, h2⟩ := h; exact h1.p
theorem Both.c (h : Both B w0 w nb pb Sn b capb Sp ob oc) (i : Nat) : w.cell? ⟨ob, i, none⟩ = oc[i]? := Joins.cell_of_block h.op i
theorem Both.olt (h : Both B w0 w nb pb Sn b capb Sp ob oc) : ob < w.heap.size := (Array.getElem?_eq_some_iff.1 h.op).1
theorem Both.one (h : Both B w0 w nb pb Sn b capb Sp ob oc) : ob ≠ pb := fun e => by
  have h1 := h.op
  rw [e, h.p.blk] at h1
  simp at h1
theorem off_tag {w : World} {t nb : Nat} {a : Option Addr} {cap : Nat} {S : Nt} (h : NtIs w t nb a cap S) (ht : t ≠ 31) {oc : Array Value} {ob : Nat} (ho : w.heap[ob]? = some (.cells oc 31)) : ¬ netB nb a ob := by
  rintro (rfl | e)
  · rw [h.blk] at ho; simp only [Option.some.injEq, Obj.cells.injEq] at ho; exact ht ho.2.1
  · exact h.row.tag ho (by decide) e
theorem Both.pair {S : Nt} (h : Both B w0 w nb pb S b capb S ob oc) : Pair B w0 w nb pb S := by obtain ⟨⟨a, cap, h1⟩, h2⟩ := h; exact ⟨a, cap, b, capb, h1⟩
theorem Both.below (h : Both B w0 w nb pb Sn b capb Sp ob oc) (hb : Below w.heap.size w w') : Both B w0 w' nb pb Sn b capb Sp ob oc := by
  obtain ⟨⟨a, cap, h1⟩, h2⟩ := h
  exact ⟨⟨a, cap, h1.below hb⟩, (hb.block ob (Array.getElem?_eq_some_iff.1 h2).1).trans h2⟩
theorem Both.drewN (h : Both B w0 w nb pb Sn b capb Sp ob oc) (n : Nat) : Both B w0 (w.drewN n) nb pb Sn b capb Sp ob oc := h.below (below_drewN (Below.refl _ _) _)
theorem Both.drew (h : Both B w0 w nb pb Sn b capb Sp ob oc) : Both B w0 w.drew nb pb Sn b capb Sp ob oc := h.below (Below.refl _ _).drew
theorem Both.alloc (h : Both B w0 w nb pb Sn b capb Sp ob oc) (o : Obj) : Both B w0 (w.alloc o) nb pb Sn b capb Sp ob oc := h.below ((Below.refl _ _).alloc (Nat.le_refl _) o)
theorem Both.doc {b' : Option Addr} {capb' : Nat} {Sp' : Nt} (h : Both B w0 w nb pb Sn b capb Sp ob oc) (hp : NtIs w' 28 pb b' capb' Sp') (ht : Turn w w' pb b b') : Both B w0 w' nb pb Sn b' capb' Sp' ob oc := by
  obtain ⟨⟨a, cap, h1⟩, h2⟩ := h
  exact ⟨⟨a, cap, h1.doc hp ht⟩, (ht.off.block ob (Array.getElem?_eq_some_iff.1 h2).1 (off_tag h1.p (by decide) h2)).trans h2⟩
theorem Both.net (h : Both B w0 w nb pb Sn b capb Sp ob oc) {f : Nat} {args : Array Value} {r : Ending} {Sn' : Nt} (hc : ∀ a cap, NtIs w 49 nb a cap Sn → Calls Try.prog f args w fun e w' => e = r ∧ Got w w' 49 nb a Sn') :
    Calls Try.prog f args w fun e w' => e = r ∧ Both B w0 w' nb pb Sn' b capb Sp ob oc := by
  obtain ⟨⟨a, cap, h1⟩, h2⟩ := h
  refine (hc a cap h1.n).mono fun e w' ⟨he, a', cap', hn, ht⟩ => ⟨he, ⟨a', cap', h1.net hn ht⟩, ?_⟩
  exact (ht.off.block ob (Array.getElem?_eq_some_iff.1 h2).1 (off_tag h1.n (by decide) h2)).trans h2
theorem Both.same (h : Both B w0 w nb pb Sn b capb Sp ob oc) {f : Nat} {args : Array Value} {r : Ending} (hc : ∀ a cap, NtIs w 49 nb a cap Sn → Calls Try.prog f args w fun e w' => e = r ∧ w' = w) :
    Calls Try.prog f args w fun e w' => e = r ∧ Both B w0 w' nb pb Sn b capb Sp ob oc :=
  h.net (fun a cap hn => (hc a cap hn).mono fun e w' ⟨he, hw⟩ => ⟨he, by rw [hw]; exact hn.got⟩)
/-- The document's sent, its lost, its list, one of its texts. -/
theorem Both.set1 (h : Both B w0 w nb pb Sn b capb Sp ob oc) (x : Int) : Both B w0 (w.setCell ⟨pb, 1, none⟩ (.int .i64 x)) nb pb Sn b capb { Sp with sent := x } ob oc := h.doc (h.p.set1 x) ((Turn.refl _ _ _).set _ _)
theorem Both.set2 (h : Both B w0 w nb pb Sn b capb Sp ob oc) (x : Int) : Both B w0 (w.setCell ⟨pb, 2, none⟩ (.int .i64 x)) nb pb Sn b capb { Sp with lost := x } ob oc := h.doc (h.p.set2 x) ((Turn.refl _ _ _).set _ _)
theorem Both.app (h : Both B w0 w nb pb Sn b capb Sp ob oc) {b' : Option Addr} {capb' n : Nat} {xs : List ByteArray} (hG : w.grownBy w' (own b)) (hO : own b' = own b ∨ own b' = some w.heap.size) (hR : Row w' b' capb' xs) (hn : n = xs.length) :
    Both B w0 (w'.setCell ⟨pb, 0, none⟩ (.slice b' n capb')) nb pb Sn b' capb' { Sp with way := xs } ob oc :=
  h.doc (h.p.own0 hG hR hn) ((Turn.grow (Off.refl _ _) hG hO).set _ _)
theorem Both.fresh (h : Both B w0 w nb pb Sn b capb Sp ob oc) {b' : Option Addr} {capb' n : Nat} {xs : List ByteArray} (hb : Below w.heap.size w w') (hF : Fresh w.heap.size b') (hR : Row w' b' capb' xs) (hn : n = xs.length) :
    Both B w0 (w'.setCell ⟨pb, 0, none⟩ (.slice b' n capb')) nb pb Sn b' capb' { Sp with way := xs } ob oc := by
  refine h.doc (h.p.set0 (row := none) ⟨hb.os, hb.tape, hb.output, hb.size, fun k hk _ => hb.block k hk⟩ (by simp) hR hn) (Turn.set ⟨Off.of_below hb, fun k hk => Or.inr (hF k hk)⟩ _ _)
theorem Both.put {g : Nat} (h : Both B w0 w nb pb Sn (some ⟨g, 0, none⟩) capb Sp ob oc) (i : Nat) (hi : i < Sp.way.length) (s : ByteArray) : Both B w0 (w.setCell ⟨g, i, none⟩ (.string s)) nb pb Sn (some ⟨g, 0, none⟩) capb { Sp with way := Sp.way.set i s } ob oc :=
  h.doc (h.p.setRow i hi s) ⟨(Off.refl _ _).setCell (Or.inr rfl) _ _, fun k hk => Or.inl hk⟩
end
theorem Pair.box {B : Nat} {w0 w : World} {nb pb : Nat} {S : Nt} (h : Pair B w0 w nb pb S) : ∃ b capb, NtIs w 28 pb b capb S ∧ ∀ oc, Both B w0 (w.alloc (.cells oc 31)) nb pb S b capb S w.heap.size oc := by
  obtain ⟨a, cap, b, capb, h1⟩ := h
  exact ⟨b, capb, h1.p, fun oc => ⟨⟨a, cap, h1.alloc _⟩, heap_alloc_new w _⟩⟩
/-- One call more. -/
structure Nx (S S' : Nt) : Prop where
  len : S'.way.length ≤ 128
  s0 : S.sent ≤ S'.sent
  s1 : S'.sent ≤ S.sent + 1
  l0 : S.lost ≤ S'.lost
  l1 : S'.lost ≤ S.lost + 1
theorem Nx.refl {S : Nt} (h : S.Ok) : Nx S S := ⟨h.len, by omega, by omega, by omega, by omega⟩
def Next (B : Nat) (w0 w : World) (nb pb : Nat) (S : Nt) : Prop := ∃ S', Nx S S' ∧ Pair B w0 w nb pb S'
theorem Next.mk {B : Nat} {w0 w : World} {nb pb : Nat} {S S' : Nt} {b : Option Addr} {capb ob : Nat} {oc : Array Value} (h : Both B w0 w nb pb S' b capb S' ob oc) (hn : Nx S S') : Next B w0 w nb pb S := ⟨S', hn, h.pair⟩
/-- An Op's cells. -/
def opC (kd i k : Int) (s : ByteArray) : Array Value := #[.int .i64 kd, .int .i64 i, .int .i64 k, .string s]
end Go.Proofs.Ytamchicifjnmgaa
