/- The law's own past: what note's stores leave. -/
import Derived.Test.YtcpbekamabooaaaPaG
namespace Go.Proofs.Ytcpbekamabooaaa.Pa
open Go.RowKit Gm
set_option linter.unusedVariables false
set_option linter.unusedSimpArgs false
set_option maxRecDepth 100000
section
variable {W W' : Nat → Prop} {w w' w1 w2 : World} {pb g n c i : Nat} {v v' : Value} {L : List Gv} {P : List Gn}
theorem kv_ne (h : PlI W w pb (.slice (some ⟨g, 0, none⟩) n c) L) (hi : i < L.length) : L[i].kv.ownBlock ≠ some g := fun e => by
  obtain ⟨cur, hc⟩ := (h.ks i hi).blkAt e
  obtain ⟨cur', hc'⟩ := h.row.blkAt (g := g) rfl
  rw [hc] at hc'; simp at hc'
theorem wv_ne (h : PlI W w pb (.slice (some ⟨g, 0, none⟩) n c) L) (hi : i < L.length) : L[i].wv.ownBlock ≠ some g := fun e => by
  obtain ⟨cur, hc⟩ := (h.ws i hi).blkAt e
  obtain ⟨cur', hc'⟩ := h.row.blkAt (g := g) rfl
  rw [hc] at hc'; simp at hc'
theorem kw_ne (h : PlI W w pb v L) {j : Nat} (hi : i < L.length) (hj : j < L.length) {b : Nat} (e : L[i].kv.ownBlock = some b) : L[j].wv.ownBlock ≠ some b := fun e2 => by
  obtain ⟨cur, hc⟩ := (h.ks i hi).blkAt e
  obtain ⟨cur', hc'⟩ := (h.ws j hj).blkAt e2
  rw [hc] at hc'; simp at hc'
theorem pb_ne (h : PlI W w pb (.slice (some ⟨g, 0, none⟩) n c) L) : pb ≠ g := fun e => by
  obtain ⟨cur', hc'⟩ := h.row.blkAt (g := g) rfl
  subst e
  rw [h.is.blk] at hc'; simp at hc'
theorem pk_ne (h : PlI W w pb v L) (hi : i < L.length) : L[i].kv.ownBlock ≠ some pb := (h.ks i hi).ne (g := 0) h.is (by decide)
theorem pw_ne (h : PlI W w pb v L) (hi : i < L.length) : L[i].wv.ownBlock ≠ some pb := (h.ws i hi).ne (g := 0) h.is (by decide)
/-- One cell of a row of those that go on is stored, behind what turned other rows of the one in question. -/
theorem PlI.put (h : PlI W w pb (.slice (some ⟨g, 0, none⟩) n c) L) (hi : i < L.length) {y : Gv} {j : Nat} {u : Value} (hj : j < 4) (hy : y.c = L[i].c.set j u) (hW : ∀ j, W j → W' j)
    (hr : w2.heap[g]? = w.heap[g]?) (hp : w2.heap[pb]? = w.heap[pb]?) (hk : Row w2 9 1 y.kv (kC y.kl)) (hw : Row w2 39 2 y.wv (wC y.wl)) (hko : y.kv.ownBlock = L[i].kv.ownBlock ∨ ∀ b, y.kv.ownBlock = some b → w.heap.size ≤ b ∧ W' b) (hwo : y.wv.ownBlock = L[i].wv.ownBlock ∨ ∀ b, y.wv.ownBlock = some b → w.heap.size ≤ b ∧ W' b)
    (ho : ∀ j (hj : j < L.length), j ≠ i → (∀ b, L[j].kv.ownBlock = some b → w2.heap[b]? = w.heap[b]?) ∧ ∀ b, L[j].wv.ownBlock = some b → w2.heap[b]? = w.heap[b]?) : PlI W' (w2.setCell ⟨g, i * 4 + j, none⟩ u) pb (.slice (some ⟨g, 0, none⟩) n c) (L.set i y) := by
  have hs : ∀ b, b ≠ g → (w2.setCell ⟨g, i * 4 + j, none⟩ u).heap[b]? = w2.heap[b]? := fun b hb => Below.heap_setCell w2 _ u b hb
  have hgl : g < w.heap.size := h.row.lt rfl
  have kn : ∀ b, y.kv.ownBlock = some b → b ≠ g := fun b e => by
    rcases hko with e2 | e2
    · intro e3; subst e3; exact kv_ne h hi (e2.symm.trans e)
    · have := (e2 b e).1; omega
  have wn : ∀ b, y.wv.ownBlock = some b → b ≠ g := fun b e => by
    rcases hwo with e2 | e2
    · intro e3; subst e3; exact wv_ne h hi (e2.symm.trans e)
    · have := (e2 b e).1; omega
  refine h.turn hi hW ((hs pb (pb_ne h)).trans hp) ?_ (hk.keep fun b e => hs b (kn b e)) (hw.keep fun b e => hs b (wn b e)) hko hwo fun k hk' hne => ⟨fun b e => ?_, fun b e => ?_⟩
  · have q := (h.row.keep (w' := w2) fun b e => by cases e; exact hr).set (i := i) (j := j) (by simpa using hi) hj u
    rw [List.getElem_map, ← hy, ← List.map_set] at q
    exact q
  · exact (hs b (fun e2 => kv_ne h hk' (e2 ▸ e))).trans ((ho k hk' hne).1 b e)
  · exact (hs b (fun e2 => wv_ne h hk' (e2 ▸ e))).trans ((ho k hk' hne).2 b e)
theorem PlI.last (h : PlI W w pb (.slice (some ⟨g, 0, none⟩) n c) L) (hi : i < L.length) (u : Int) : PlI W (w.setCell ⟨g, i * 4 + 1, none⟩ (.int .i64 u)) pb (.slice (some ⟨g, 0, none⟩) n c) (L.set i { L[i] with last := u }) :=
  h.put hi (by omega) rfl (fun _ h => h) rfl rfl (h.ks i hi) (h.ws i hi) (Or.inl rfl) (Or.inl rfl) fun _ _ _ => ⟨fun _ _ => rfl, fun _ _ => rfl⟩
theorem PlI.key (h : PlI W w pb (.slice (some ⟨g, 0, none⟩) n c) L) (hlt : ∀ j, W j → j < w.heap.size) (hi : i < L.length) {key : ByteArray} (hb : Below w.heap.size w w1) (A : App w1 w2 9 1 L[i].kv v' (kC L[i].kl ++ [[.string key]])) :
    PlI (fun j => W j ∨ v'.ownBlock = some j) (w2.setCell ⟨g, i * 4 + 2, none⟩ v') pb (.slice (some ⟨g, 0, none⟩) n c) (L.set i { L[i] with kl := L[i].kl ++ [key], kv := v' }) := by
  have hk : ∀ b, b < w.heap.size → L[i].kv.ownBlock ≠ some b → w2.heap[b]? = w.heap[b]? := fun b hl hn => (A.grow.block b (Nat.lt_of_lt_of_le hl hb.size) (fun e => hn e.symm)).trans (hb.block b hl)
  refine h.put hi (y := { L[i] with kl := L[i].kl ++ [key], kv := v' }) (by omega) rfl (fun _ h => Or.inl h) (hk g (h.row.lt rfl) (kv_ne h hi)) (hk pb h.is.lt (pk_ne h hi)) (by simpa [kC] using A.row) ((h.ws i hi).keep fun b e => hk b ((h.ws i hi).lt e) (fun e2 => kw_ne h hi hi e2 e)) ?_ (Or.inl rfl) fun j hj hne => ⟨fun b e => hk b ((h.ks j hj).lt e) (fun e2 => h.dk j i hj hi hne b e e2), fun b e => hk b ((h.ws j hj).lt e) (fun e2 => kw_ne h hi hj e2 e)⟩
  rcases A.own with e | e
  · exact Or.inl e
  · exact Or.inr fun b e2 => by
      have e3 : v'.ownBlock = some b := e2
      rw [e] at e3
      cases e3
      exact ⟨hb.size, Or.inr e2⟩
theorem PlI.was (h : PlI W w pb (.slice (some ⟨g, 0, none⟩) n c) L) (hlt : ∀ j, W j → j < w.heap.size) (hi : i < L.length) {x : Ws} (hb : Below w.heap.size w w1) (A : App w1 w2 39 2 L[i].wv v' (wC L[i].wl ++ [x.c])) :
    PlI (fun j => W j ∨ v'.ownBlock = some j) (w2.setCell ⟨g, i * 4 + 3, none⟩ v') pb (.slice (some ⟨g, 0, none⟩) n c) (L.set i { L[i] with wl := L[i].wl ++ [x], wv := v' }) := by
  have hk : ∀ b, b < w.heap.size → L[i].wv.ownBlock ≠ some b → w2.heap[b]? = w.heap[b]? := fun b hl hn => (A.grow.block b (Nat.lt_of_lt_of_le hl hb.size) (fun e => hn e.symm)).trans (hb.block b hl)
  refine h.put hi (y := { L[i] with wl := L[i].wl ++ [x], wv := v' }) (by omega) rfl (fun _ h => Or.inl h) (hk g (h.row.lt rfl) (wv_ne h hi)) (hk pb h.is.lt (pw_ne h hi)) ((h.ks i hi).keep fun b e => hk b ((h.ks i hi).lt e) (fun e2 => kw_ne h hi hi e e2)) (by simpa [wC] using A.row) (Or.inl rfl) ?_ fun j hj hne => ⟨fun b e => hk b ((h.ks j hj).lt e) (fun e2 => kw_ne h hj hi e e2), fun b e => hk b ((h.ws j hj).lt e) (fun e2 => h.dw j i hj hi hne b e e2)⟩
  rcases A.own with e | e
  · exact Or.inl e
  · exact Or.inr fun b e2 => by
      have e3 : v'.ownBlock = some b := e2
      rw [e] at e3
      cases e3
      exact ⟨hb.size, Or.inr e2⟩
end
end Go.Proofs.Ytcpbekamabooaaa.Pa
