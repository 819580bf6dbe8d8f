/- The net beside the list of what was sent: what is on its way was sent. -/
import Derived.Test.YtamchicifjnmgaaTwo
namespace Go.Proofs.Ytamchicifjnmgaa
open Go.RowKit
set_option linter.unusedVariables false
set_option linter.unusedSimpArgs false
set_option maxRecDepth 100000

/-- A net whose counts are small. -/
structure Sml (m : Nat) (S : Nt) : Prop where
  len : S.way.length ≤ 128
  s0 : 0 ≤ S.sent
  s1 : S.sent ≤ m
  l0 : 0 ≤ S.lost
  l1 : S.lost ≤ m
theorem Sml.ok {m : Nat} {S : Nt} (h : Sml m S) (hm : m ≤ 1000) : S.Ok := ⟨h.len, h.s0, by have := h.s1; omega, h.l0, by have := h.l1; omega⟩
theorem Sml.next {m : Nat} {S S' : Nt} (h : Sml m S) (hx : Nx S S') : Sml (m + 1) S' :=
  ⟨hx.len, by have := hx.s0; have := h.s0; omega, by have := hx.s1; have := h.s1; omega, by have := hx.l0; have := h.l0; omega, by have := hx.l1; have := h.l1; omega⟩
structure CmD (B : Nat) (w0 w : World) (nb m : Nat) (a : Option Addr) (cap : Nat) (S : Nt) (c : Option Addr) (capc : Nat) (L M : List ByteArray) : Prop where
  n : NtIs w 49 nb a cap S
  r : Row w c capc L
  ap : ∀ k, netB nb a k → own c ≠ some k
  bel : Below B w0 w
  nB : ∀ k, netB nb a k → B ≤ k
  cB : Fresh B c
  B0 : B ≤ w0.heap.size
  sub : ∀ t ∈ S.way, t ∈ M
  sm : Sml m S
/-- The net has texts of M; the list at c bears L. -/
structure Cm (B : Nat) (w0 w : World) (nb m : Nat) (c : Option Addr) (capc : Nat) (L M : List ByteArray) : Prop where
  ex : ∃ a cap S, CmD B w0 w nb m a cap S c capc L M
structure Com (B : Nat) (w0 w : World) (nb m : Nat) (c : Option Addr) (capc : Nat) (L M : List ByteArray) (ob : Nat) (oc : Array Value) : Prop where
  cm : Cm B w0 w nb m c capc L M
  op : w.heap[ob]? = some (.cells oc 31)
section
variable {B : Nat} {w0 w w' : World} {nb m : Nat} {a : Option Addr} {cap : Nat} {S : Nt} {c : Option Addr} {capc : Nat} {L M : List ByteArray} {ob : Nat} {oc : Array Value}
theorem CmD.le (h : CmD B w0 w nb m a cap S c capc L M) : B ≤ w.heap.size := Nat.le_trans h.B0 h.bel.size
theorem CmD.below (h : CmD B w0 w nb m a cap S c capc L M) (hb : Below w.heap.size w w') : CmD B w0 w' nb m a cap S c capc L M :=
  ⟨h.n.below hb, h.r.kept (fun k hk => hb.block k (h.r.lt k hk)), h.ap, h.bel.trans (hb.mono h.le), h.nB, h.cB, h.B0, h.sub, h.sm⟩
theorem CmD.net {a' : Option Addr} {cap' m' : Nat} {S' : Nt} {M' : List ByteArray} (h : CmD B w0 w nb m a cap S c capc L M) (hn : NtIs w' 49 nb a' cap' S') (ht : Turn w w' nb a a') (hs : ∀ t ∈ S'.way, t ∈ M') (hm : Sml m' S') : CmD B w0 w' nb m' a' cap' S' c capc L M' := by
  refine ⟨hn, h.r.kept (fun k hk => ht.off.block k (h.r.lt k hk) (fun e => h.ap k e hk)), fun k hk e => ?_, h.bel.trans (ht.off.below h.nB h.le), fun k hk => ?_, h.cB, h.B0, hs, hm⟩
  · rcases hk with e' | e'
    · exact h.ap k (Or.inl e') e
    · rcases ht.near k e' with e' | e'
      · exact h.ap k (Or.inr e') e
      · have := h.r.lt k e; omega
  · rcases hk with e' | e'
    · exact h.nB k (Or.inl e')
    · rcases ht.near k e' with e' | e'
      · exact h.nB k (Or.inr e')
      · have := h.le; omega
theorem Com.oc_ (h : Com B w0 w nb m c capc L M ob oc) (i : Nat) : w.cell? ⟨ob, i, none⟩ = oc[i]? := Joins.cell_of_block h.op i
theorem Com.row (h : Com B w0 w nb m c capc L M ob oc) : Row w c capc L := by obtain ⟨⟨a, cap, S, hD⟩⟩ := h.cm; exact hD.r
theorem Cm.box (h : Cm B w0 w nb m c capc L M) (oc : Array Value) : Com B w0 (w.alloc (.cells oc 31)) nb m c capc L M w.heap.size oc := by
  obtain ⟨⟨a, cap, S, hD⟩⟩ := h
  exact ⟨⟨a, cap, S, hD.below ((Below.refl _ _).alloc (Nat.le_refl _) _)⟩, heap_alloc_new w _⟩
theorem Cm.bel (h : Cm B w0 w nb m c capc L M) : Below B w0 w ∧ B ≤ w.heap.size := by
  obtain ⟨⟨a, cap, S, hD⟩⟩ := h
  exact ⟨hD.bel, hD.le⟩
theorem Com.alloc (h : Com B w0 w nb m c capc L M ob oc) (o : Obj) : Com B w0 (w.alloc o) nb m c capc L M ob oc := by
  obtain ⟨⟨a, cap, S, hD⟩⟩ := h.cm
  exact ⟨⟨a, cap, S, hD.below ((Below.refl _ _).alloc (Nat.le_refl _) _)⟩, (heap_alloc_old w o (Array.getElem?_eq_some_iff.1 h.op).1).trans h.op⟩
/-- A text more in the list. -/
theorem Com.app (h : Com B w0 w nb m c capc L M ob oc) {c' : Option Addr} {capc' : Nat} {L' : List ByteArray} (hG : w.grownBy w' (own c)) (hO : own c' = own c ∨ own c' = some w.heap.size) (hR : Row w' c' capc' L') : Cm B w0 w' nb m c' capc' L' M := by
  obtain ⟨⟨a, cap, S, hD⟩⟩ := h.cm
  have hB := hD.le
  refine ⟨a, cap, S, hD.n.keep (fun k hk => hG.block k (hD.n.mem_lt hk) (fun e => hD.ap k hk e.symm)), hR, fun k hk e => ?_, below_grow hD.bel hB hD.cB hG, hD.nB, hD.cB.grow hB hO, hD.B0, hD.sub, hD.sm⟩
  rcases hO with e' | e'
  · exact hD.ap k hk (e' ▸ e)
  · rw [e'] at e; cases e
    have := hD.n.mem_lt hk; omega
/-- A call of the net. -/
theorem Com.net {m' : Nat} {M' : List ByteArray} {Q : Value → Prop} (h : Com B w0 w nb m c capc L M ob oc) {f : Nat} {args : Array Value}
    (hc : ∀ a cap S, NtIs w 49 nb a cap S → Sml m S → (∀ t ∈ S.way, t ∈ M) → Calls Try.prog f args w fun e w' => ∃ v S', e = .returned v ∧ Q v ∧ Got w w' 49 nb a S' ∧ Sml m' S' ∧ (∀ t ∈ S'.way, t ∈ M')) :
    Calls Try.prog f args w fun e w' => ∃ v, e = .returned v ∧ Q v ∧ Com B w0 w' nb m' c capc L M' ob oc := by
  obtain ⟨⟨a, cap, S, hD⟩⟩ := h.cm
  refine (hc a cap S hD.n hD.sm hD.sub).mono fun e w' ⟨v, S', he, hq, ⟨a', cap', hn, ht⟩, hm, hs⟩ => ⟨v, he, hq, ⟨⟨a', cap', S', hD.net hn ht hs hm⟩⟩, ?_⟩
  exact (ht.off.block ob (Array.getElem?_eq_some_iff.1 h.op).1 (off_tag hD.n (by decide) h.op)).trans h.op
end
theorem Nx.cut {S : Nt} (h : S.way.length ≤ 128) (i : Nat) : Nx S (cutS S i) := ⟨by simp [cutS]; omega, by simp only [cutS]; omega, by simp only [cutS]; omega, by simp only [cutS]; omega, by simp only [cutS]; omega⟩
theorem Nx.drop {S : Nt} (h : S.way.length ≤ 128) (i : Nat) : Nx S (dropS S i) := ⟨by simp [dropS, cutS]; omega, by simp only [dropS, cutS]; omega, by simp only [dropS, cutS]; omega, by simp only [dropS]; omega, by simp only [dropS]; omega⟩
theorem Nx.put {S : Nt} (h : S.way.length ≤ 128) (s : ByteArray) : Nx S (putS S s) := by
  unfold putS
  split
  · exact ⟨h, by simp only; omega, by simp only; omega, by simp only; omega, by simp only; omega⟩
  · exact ⟨by simp; omega, by simp only; omega, by simp only; omega, by simp only; omega, by simp only; omega⟩
theorem Nx.send {S : Nt} (h : S.way.length ≤ 128) (s : ByteArray) : Nx S (sendS S s) := by
  unfold sendS putS
  split
  · exact ⟨h, by simp only; omega, by simp only; omega, by simp only; omega, by simp only; omega⟩
  · rename_i h1
    exact ⟨by simp at h1 ⊢; omega, by simp only; omega, by simp only; omega, by simp only; omega, by simp only; omega⟩
theorem sub_cut {S : Nt} {M : List ByteArray} (h : ∀ t ∈ S.way, t ∈ M) (i : Nat) : ∀ t ∈ (cutS S i).way, t ∈ M := fun t ht => by
  rcases List.mem_append.1 ht with e | e
  · exact h t (List.mem_of_mem_take e)
  · exact h t (List.mem_of_mem_drop e)
theorem sub_put {S : Nt} {M : List ByteArray} (h : ∀ t ∈ S.way, t ∈ M) {s : ByteArray} (hs : s ∈ M) : ∀ t ∈ (putS S s).way, t ∈ M := fun t ht => by
  unfold putS at ht
  split at ht
  · exact h t ht
  · rcases List.mem_append.1 ht with e | e
    · exact h t e
    · rw [List.mem_singleton.1 e]; exact hs
section
variable {B : Nat} {w0 w w' : World} {nb m : Nat} {c : Option Addr} {capc : Nat} {L M : List ByteArray} {ob : Nat} {oc : Array Value}
theorem Com.send (h : Com B w0 w nb m c capc L M ob oc) (hm : m < 1000) (s : ByteArray) : Calls Try.prog 11 #[.pointer (some ⟨nb, 0, none⟩), .string s] w fun e w' => ∃ v, e = .returned v ∧ True ∧ Com B w0 w' nb (m + 1) c capc L (M ++ [s]) ob oc :=
  h.net (fun a cap S hn hs hsub => (Send_any w hn (hs.ok (by omega)) s (by have := hs.s1; omega)).mono fun e w' ⟨he, hg⟩ => ⟨_, _, he, trivial, hg, hs.next (Nx.send hs.len s), fun t ht => by
    refine sub_put (S := { S with sent := S.sent + 1 }) (M := M ++ [s]) (s := s) (fun t ht => List.mem_append_left _ (hsub t ht)) (by simp) t ht⟩)
theorem Com.dropc (h : Com B w0 w nb m c capc L M ob oc) (hm : m < 1000) (i : Int) : Calls Try.prog 12 #[.pointer (some ⟨nb, 0, none⟩), .int .i64 i] w fun e w' => ∃ v, e = .returned v ∧ True ∧ Com B w0 w' nb (m + 1) c capc L M ob oc :=
  h.net (fun a cap S hn hs hsub => by
    by_cases hi : i < 0 ∨ (S.way.length : Int) ≤ i
    · exact (Drop_bad w hn i hi).mono fun e w' ⟨he, hw⟩ => ⟨_, S, he, trivial, by rw [hw]; exact hn.got, hs.next (Nx.refl (hs.ok (by omega))), hsub⟩
    · obtain ⟨n, rfl⟩ : ∃ n : Nat, i = (n : Int) := ⟨i.toNat, by omega⟩
      exact (Drop_ok w hn (hs.ok (by omega)) n (by omega)).mono fun e w' ⟨he, hg⟩ => ⟨_, _, he, trivial, hg, hs.next (Nx.drop hs.len n), sub_cut hsub n⟩)
theorem Com.copyc (h : Com B w0 w nb m c capc L M ob oc) (hm : m < 1000) (i : Int) : Calls Try.prog 13 #[.pointer (some ⟨nb, 0, none⟩), .int .i64 i] w fun e w' => ∃ v, e = .returned v ∧ True ∧ Com B w0 w' nb (m + 1) c capc L M ob oc :=
  h.net (fun a cap S hn hs hsub => by
    by_cases hi : i < 0 ∨ (S.way.length : Int) ≤ i
    · exact (Copy_bad w hn i hi).mono fun e w' ⟨he, hw⟩ => ⟨_, S, he, trivial, by rw [hw]; exact hn.got, hs.next (Nx.refl (hs.ok (by omega))), hsub⟩
    · obtain ⟨n, rfl⟩ : ∃ n : Nat, i = (n : Int) := ⟨i.toNat, by omega⟩
      exact (Copy_ok w hn (hs.ok (by omega)) n (by omega)).mono fun e w' ⟨he, hg⟩ => ⟨_, _, he, trivial, hg, hs.next (Nx.put hs.len _), sub_put hsub (hsub _ (List.getElem_mem _))⟩)
theorem Com.swapc (h : Com B w0 w nb m c capc L M ob oc) (hm : m < 1000) (i k : Int) : Calls Try.prog 14 #[.pointer (some ⟨nb, 0, none⟩), .int .i64 i, .int .i64 k] w fun e w' => ∃ v, e = .returned v ∧ True ∧ Com B w0 w' nb (m + 1) c capc L M ob oc :=
  h.net (fun a cap S hn hs hsub => by
    by_cases hi : (i < 0 ∨ (S.way.length : Int) ≤ i) ∨ (k < 0 ∨ (S.way.length : Int) ≤ k)
    · exact (Swap_bad w hn i k hi).mono fun e w' ⟨he, hw⟩ => ⟨_, S, he, trivial, by rw [hw]; exact hn.got, hs.next (Nx.refl (hs.ok (by omega))), hsub⟩
    · obtain ⟨n, rfl⟩ : ∃ n : Nat, i = (n : Int) := ⟨i.toNat, by omega⟩
      obtain ⟨q, rfl⟩ : ∃ q : Nat, k = (q : Int) := ⟨k.toNat, by omega⟩
      have h1 : n < S.way.length := by omega
      have h2 : q < S.way.length := by omega
      refine (Swap_ok w hn n q h1 h2).mono fun e w' ⟨he, hg⟩ => ⟨_, _, he, trivial, hg, hs.next ⟨by have := hs.len; simp [swapS]; omega, by simp only [swapS]; omega, by simp only [swapS]; omega, by simp only [swapS]; omega, by simp only [swapS]; omega⟩, fun t ht => ?_⟩
      rcases List.mem_or_eq_of_mem_set ht with e | e
      · rcases List.mem_or_eq_of_mem_set e with e | e
        · exact hsub t e
        · rw [e]; exact hsub _ (List.getElem_mem _)
      · rw [e]; exact hsub _ (List.getElem_mem _))
theorem Com.takec (h : Com B w0 w nb m c capc L M ob oc) (hm : m < 1000) (i : Int) : Calls Try.prog 15 #[.pointer (some ⟨nb, 0, none⟩), .int .i64 i] w fun e w' => ∃ v, e = .returned v ∧ (∃ s x, v = .tuple #[.string s, .int .i64 x] ∧ (x = 8 ∨ x = 0 ∧ s ∈ M)) ∧ Com B w0 w' nb (m + 1) c capc L M ob oc :=
  h.net (fun a cap S hn hs hsub => by
    by_cases hi : i < 0 ∨ (S.way.length : Int) ≤ i
    · exact (Take_bad w hn i hi).mono fun e w' ⟨he, hw⟩ => ⟨_, S, he, ⟨_, _, rfl, Or.inl rfl⟩, by rw [hw]; exact hn.got, hs.next (Nx.refl (hs.ok (by omega))), hsub⟩
    · obtain ⟨n, rfl⟩ : ∃ n : Nat, i = (n : Int) := ⟨i.toNat, by omega⟩
      exact (Take_ok w hn (hs.ok (by omega)) n (by omega)).mono fun e w' ⟨he, hg⟩ => ⟨_, _, he, ⟨_, _, rfl, Or.inr ⟨rfl, hsub _ (List.getElem_mem _)⟩⟩, hg, hs.next (Nx.cut hs.len n), sub_cut hsub n⟩)
end
theorem Cm.new (w : World) : Cm w.heap.size w (w.alloc (.cells #[.slice none 0 0, .int .i64 0, .int .i64 0] 49)) w.heap.size 0 none 0 [] [] :=
  ⟨none, 0, newNt, nt_new w 49 (by decide), Row.nil _, (fun k _ e => by cases e), (Below.refl _ _).alloc (Nat.le_refl _) _, (fun k hk => by (rcases hk with rfl | e; exact Nat.le_refl _; cases e)), (fun k e => by cases e), Nat.le_refl _, (fun t ht => by cases ht), ⟨Nat.zero_le _, Int.le_refl _, Int.le_refl _, Int.le_refl _, Int.le_refl _⟩⟩
end Go.Proofs.Ytamchicifjnmgaa
