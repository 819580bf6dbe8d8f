/- The law's own past in memory: find. -/
import Derived.Test.YtcpbekamabooaaaPaM
namespace Go.Proofs.Ytcpbekamabooaaa.Pa
open Go.RowKit Gm
set_option linter.unusedVariables false
set_option linter.unusedSimpArgs false
set_option maxRecDepth 100000
/-- One that goes on, with its two rows. -/
structure Gv where
  txn : Int
  last : Int
  kl : List ByteArray
  wl : List Ws
  kv : Value
  wv : Value
  deriving Inhabited
def Gv.c (x : Gv) : List Value := [.int .i64 x.txn, .int .i64 x.last, x.kv, x.wv]
def Gv.g (x : Gv) : Gn := ⟨x.txn, x.last, x.kl.zip x.wl⟩
def kC (l : List ByteArray) : List (List Value) := l.map fun k => [.string k]
def wC (l : List Ws) : List (List Value) := l.map Ws.c
/-- The law's past, whose blocks are among W. -/
structure PlI (W : Nat → Prop) (w : World) (pb : Nat) (v : Value) (L : List Gv) : Prop where
  is : At w pb 28 #[v]
  row : Row w 62 4 v (L.map Gv.c)
  ks : ∀ i (hi : i < L.length), Row w 9 1 L[i].kv (kC L[i].kl)
  ws : ∀ i (hi : i < L.length), Row w 39 2 L[i].wv (wC L[i].wl)
  dk : ∀ i j (hi : i < L.length) (hj : j < L.length), i ≠ j → ∀ g, L[i].kv.ownBlock = some g → L[j].kv.ownBlock ≠ some g
  dw : ∀ i j (hi : i < L.length) (hj : j < L.length), i ≠ j → ∀ g, L[i].wv.ownBlock = some g → L[j].wv.ownBlock ≠ some g
  w1 : W pb
  w2 : ∀ g, v.ownBlock = some g → W g
  w3 : ∀ i (hi : i < L.length), ∀ g, L[i].kv.ownBlock = some g → W g
  w4 : ∀ i (hi : i < L.length), ∀ g, L[i].wv.ownBlock = some g → W g
structure Pl (W : Nat → Prop) (w : World) (pb : Nat) (P : List Gn) : Prop where
  ex : ∃ v L, PlI W w pb v L ∧ L.map Gv.g = P ∧ ∀ i (hi : i < L.length), L[i].kl.length = L[i].wl.length
  lt : ∀ j, W j → j < w.heap.size
section
variable {W W' : Nat → Prop} {w w' : World} {pb : Nat} {v v' : Value} {L L' : List Gv} {P : List Gn}
theorem PlI.keep (h : PlI W w pb v L) (hb : ∀ j, W j → w'.heap[j]? = w.heap[j]?) : PlI W w' pb v L :=
  ⟨h.is.keep (hb _ h.w1), h.row.keep fun g e => hb g (h.w2 g e), fun i hi => (h.ks i hi).keep fun g e => hb g (h.w3 i hi g e), fun i hi => (h.ws i hi).keep fun g e => hb g (h.w4 i hi g e), h.dk, h.dw, h.w1, h.w2, h.w3, h.w4⟩
theorem Pl.keep (h : Pl W w pb P) (hb : ∀ j, W j → w'.heap[j]? = w.heap[j]?) (hs : w.heap.size ≤ w'.heap.size) : Pl W w' pb P := by obtain ⟨v, L, h1, h2⟩ := h.ex; exact ⟨⟨v, L, h1.keep hb, h2⟩, fun j hj => Nat.lt_of_lt_of_le (h.lt j hj) hs⟩
theorem Pl.bel (h : Pl W w pb P) (hb : Below w.heap.size w w') : Pl W w' pb P := h.keep (fun j hj => hb.block j (h.lt j hj)) hb.size
theorem PlI.at_ {a : Option Addr} {n c : Nat} (h : PlI W w pb (.slice a n c) L) {i : Nat} (hi : i < L.length) : ∃ g, a = some ⟨g, 0, none⟩ ∧ w.cell? ⟨g, i * 4, none⟩ = some (.int .i64 L[i].txn) ∧ w.cell? ⟨g, i * 4 + 1, none⟩ = some (.int .i64 L[i].last) ∧ w.cell? ⟨g, i * 4 + 2, none⟩ = some L[i].kv ∧ w.cell? ⟨g, i * 4 + 3, none⟩ = some L[i].wv ∧ ∀ j, w.frozen? ⟨g, j, none⟩ = false := by
  obtain ⟨g, e, hg, hr⟩ := h.row.at_ (i := i) (by simpa using hi)
  obtain ⟨r, f⟩ := hr w rfl
  rw [List.getElem_map] at r
  exact ⟨g, e, r 0 _ rfl, r 1 _ rfl, r 2 _ rfl, r 3 _ rfl, f⟩
/-- One of them is turned. -/
theorem PlI.turn (h : PlI W w pb v L) {i : Nat} (hi : i < L.length) {y : Gv} (hW : ∀ j, W j → W' j) (hpb : w'.heap[pb]? = w.heap[pb]?) (hrow : Row w' 62 4 v ((L.set i y).map Gv.c))
    (hk : Row w' 9 1 y.kv (kC y.kl)) (hw : Row w' 39 2 y.wv (wC y.wl)) (hko : y.kv.ownBlock = L[i].kv.ownBlock ∨ ∀ g, y.kv.ownBlock = some g → w.heap.size ≤ g ∧ W' g) (hwo : y.wv.ownBlock = L[i].wv.ownBlock ∨ ∀ g, y.wv.ownBlock = some g → w.heap.size ≤ g ∧ W' g)
    (ho : ∀ j (hj : j < L.length), j ≠ i → (∀ g, L[j].kv.ownBlock = some g → w'.heap[g]? = w.heap[g]?) ∧ ∀ g, L[j].wv.ownBlock = some g → w'.heap[g]? = w.heap[g]?) : PlI W' w' pb v (L.set i y) := by
  have hd : ∀ j (hj : j < (L.set i y).length), (L.set i y)[j] = if i = j then y else L[j]'(by simpa using hj) := fun j hj => by rw [List.getElem_set]
  refine ⟨h.is.keep hpb, hrow, fun j hj => ?_, fun j hj => ?_, fun j k hj hk' hne g e e2 => ?_, fun j k hj hk' hne g e e2 => ?_, hW _ h.w1, fun g e => hW g (h.w2 g e), fun j hj g e => ?_, fun j hj g e => ?_⟩
  · rw [hd j hj]
    split
    · exact hk
    · exact (h.ks j (by simpa using hj)).keep (ho j (by simpa using hj) (by omega)).1
  · rw [hd j hj]
    split
    · exact hw
    · exact (h.ws j (by simpa using hj)).keep (ho j (by simpa using hj) (by omega)).2
  · rw [hd j hj] at e
    rw [hd k hk'] at e2
    simp only [List.length_set] at hj hk'
    split at e <;> split at e2
    · omega
    · rcases hko with e3 | e3
      · exact h.dk i k hi hk' (by omega) g (e3.symm.trans e) e2
      · have := (h.ks k hk').lt e2
        have := (e3 g e).1
        omega
    · rcases hko with e3 | e3
      · exact h.dk j i hj hi (by omega) g e (e3.symm.trans e2)
      · have := (h.ks j hj).lt e
        have := (e3 g e2).1
        omega
    · exact h.dk j k hj hk' hne g e e2
  · rw [hd j hj] at e
    rw [hd k hk'] at e2
    simp only [List.length_set] at hj hk'
    split at e <;> split at e2
    · omega
    · rcases hwo with e3 | e3
      · exact h.dw i k hi hk' (by omega) g (e3.symm.trans e) e2
      · have := (h.ws k hk').lt e2
        have := (e3 g e).1
        omega
    · rcases hwo with e3 | e3
      · exact h.dw j i hj hi (by omega) g e (e3.symm.trans e2)
      · have := (h.ws j hj).lt e
        have := (e3 g e2).1
        omega
    · exact h.dw j k hj hk' hne g e e2
  · rw [hd j hj] at e
    split at e
    · rcases hko with e3 | e3
      · exact hW g (h.w3 i hi g (e3.symm.trans e))
      · exact (e3 g e).2
    · exact hW g (h.w3 j (by simpa using hj) g e)
  · rw [hd j hj] at e
    split at e
    · rcases hwo with e3 | e3
      · exact hW g (h.w4 i hi g (e3.symm.trans e))
      · exact (e3 g e).2
    · exact hW g (h.w4 j (by simpa using hj) g e)
/-- Some of them, in another row. -/
theorem PlI.part (h : PlI W w pb v L) (f : Nat → Nat) (hf : ∀ j, j < L'.length → f j < L.length) (hl : ∀ j (hj : j < L'.length), L'[j] = L[f j]'(hf j hj)) (hi : ∀ j k, j < L'.length → k < L'.length → f j = f k → j = k)
    (hW : ∀ j, W j → W' j) (hb : ∀ j, W j → j ≠ pb → w'.heap[j]? = w.heap[j]?) (his : At w' pb 28 #[v']) (hrow : Row w' 62 4 v' (L'.map Gv.c)) (hv : ∀ g, v'.ownBlock = some g → W' g) : PlI W' w' pb v' L' := by
  have hp : ∀ {t : TypeId} {k : Nat} {u : Value} {M : List (List Value)} (r : Row w t k u M) (ht : t ≠ 28) (g : Nat) (e : u.ownBlock = some g), g ≠ pb := fun r ht g e e2 => r.ne (g := g) h.is ht (e2 ▸ e)
  refine ⟨his, hrow, fun j hj => ?_, fun j hj => ?_, fun j k hj hk hne g e e2 => ?_, fun j k hj hk hne g e e2 => ?_, hW _ h.w1, hv, fun j hj g e => ?_, fun j hj g e => ?_⟩
  · rw [hl j hj]
    have r := h.ks (f j) (hf j hj)
    exact r.keep fun g e => hb g (h.w3 _ _ g e) (hp r (by decide) g e)
  · rw [hl j hj]
    have r := h.ws (f j) (hf j hj)
    exact r.keep fun g e => hb g (h.w4 _ _ g e) (hp r (by decide) g e)
  · rw [hl j hj] at e
    rw [hl k hk] at e2
    exact h.dk (f j) (f k) (hf j hj) (hf k hk) (fun e3 => hne (hi j k hj hk e3)) g e e2
  · rw [hl j hj] at e
    rw [hl k hk] at e2
    exact h.dw (f j) (f k) (hf j hj) (hf k hk) (fun e3 => hne (hi j k hj hk e3)) g e e2
  · rw [hl j hj] at e
    exact hW g (h.w3 _ _ g e)
  · rw [hl j hj] at e
    exact hW g (h.w4 _ _ g e)
end
theorem fnd_le (P : List Gn) (t : Int) : fnd P t ≤ P.length := List.findIdx_le_length
theorem fnd_of {P : List Gn} {t : Int} {i : Nat} (hi : i < P.length) (h : P[i].txn = t) (hn : ∀ j (hj : j < i), (P[j]'(by omega)).txn ≠ t) : fnd P t = i := by
  refine (List.findIdx_eq hi).2 ⟨by simp [h], fun j hj => by simpa using hn j hj⟩
theorem fnd_no {P : List Gn} {t : Int} (hn : ∀ j (hj : j < P.length), P[j].txn ≠ t) : fnd P t = P.length := by
  refine List.findIdx_eq_length.2 fun x hx => ?_
  obtain ⟨j, hj, rfl⟩ := List.getElem_of_mem hx
  simpa using hn j hj
/-- find's answer. -/
def fI (P : List Gn) (t : Int) : Int := if fnd P t < P.length then (fnd P t : Int) else -1
section
variable {W W' : Nat → Prop} {w w' : World} {pb : Nat} {v : Value} {L : List Gv} {P : List Gn}
theorem find_any (hP : Pl W w pb P) (t : Int) (hl : P.length ≤ 1000) : Calls Try.prog 20 #[.pointer (some ⟨pb, 0, none⟩), .int .i64 t] w fun e w' => e = .returned (.int .i64 (fI P t)) ∧ w' = w := by
  obtain ⟨v, L, h, rfl, _⟩ := hP.ex
  clear hP
  obtain ⟨a, c, e, _⟩ := h.row.sl
  rw [List.length_map] at e hl
  subst e
  have c0 := h.is.c 0
  have HC : Hid (∀ i (hi : i < L.length), ∃ g, a = some ⟨g, 0, none⟩ ∧ w.cell? ⟨g, i * 4, none⟩ = some (.int .i64 L[i].txn)) := fun i hi => by
    obtain ⟨g, e, h1, _⟩ := h.at_ hi
    exact ⟨g, e, h1⟩
  clear h
  go_enter Try.func20, Try.ntmps20
  go_wp2
  go_loopw [4, 5] (fun s4 s5 wr => ∃ i : Nat, s5 = .int .i64 (i : Int) ∧ i ≤ L.length ∧ wr = w ∧ ∀ j (hj : j < i) (hj2 : j < L.length), L[j].txn ≠ t) (fun s4 s5 _ => L.length - (intOf s5).toNat)
  case atStart => exact ⟨0, rfl, Nat.zero_le _, rfl, fun j hj => absurd hj (Nat.not_lt_zero _)⟩
  case round =>
    obtain ⟨i, rfl, hi, rfl, hno⟩ := hrel
    have HN : Hid (∀ j (hj : j < i) (hj2 : j < L.length), L[j].txn ≠ t) := hno
    clear hno
    by_cases hlt : i < L.length
    · have hltI : (i : Int) < (L.length : Int) := by omega
      obtain ⟨g, ea, h1⟩ := HC.out i hlt
      subst ea
      by_cases ht : L[i].txn = t
      · have HF : Hid (fI (L.map Gv.g) t = (i : Int)) := (by
          have : fnd (L.map Gv.g) t = i := fnd_of (by simpa using hlt) (by simpa [Gv.g] using ht) (fun j hj => by simpa [Gv.g] using HN.out j hj (by omega))
          unfold fI
          rw [this, if_pos (by simpa using hlt)] : fI (L.map Gv.g) t = (i : Int))
        rw [ht] at h1
        go_wp2
        go_ret
        exact ⟨by rw [HF.out]; rfl, rfl⟩
      · have HR : Hid (∀ j (hj : j < i + 1) (hj2 : j < L.length), L[j].txn ≠ t) := fun j hj hj2 => (Nat.lt_succ_iff_lt_or_eq.1 hj).elim (fun h => HN.out j h hj2) (fun h => by subst h; exact ht)
        generalize L[i].txn = y at *
        go_wp2
        go_roundw
        case rel => exact ⟨i + 1, by rfl, by omega, by trivial, HR.out⟩
        case measure => simp [intOf]; omega
    · have hltI : ¬ (i : Int) < (L.length : Int) := by omega
      have HF : Hid (fI (L.map Gv.g) t = -1) := (by
        have : fnd (L.map Gv.g) t = (L.map Gv.g).length := fnd_no (fun j hj => by simpa [Gv.g] using HN.out j (by simp at hj; omega) (by simpa using hj))
        unfold fI
        rw [this, if_neg (by omega)] : fI (L.map Gv.g) t = -1)
      go_wp2
      go_ret
      exact ⟨by rw [HF.out]; rfl, rfl⟩
end
end Go.Proofs.Ytcpbekamabooaaa.Pa
