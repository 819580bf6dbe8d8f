/- The law's own past: one more goes on. -/
import Derived.Test.YtcpbekamabooaaaPaK
namespace Go.Proofs.Ytcpbekamabooaaa.Pa
open Go.RowKit Gm
set_option linter.unusedVariables false
set_option linter.unusedSimpArgs false
set_option maxRecDepth 100000
def nilS : Value := .slice none 0 0
def newG (t : Int) : Gv := ⟨t, 0, [], [], .slice none 0 0, .slice none 0 0⟩
section
variable {W W' : Nat → Prop} {w w' w1 w2 : World} {pb g n c i : Nat} {v v' : Value} {L : List Gv} {P : List Gn}
theorem PlI.push (h : PlI W w pb v L) (hlt : ∀ j, W j → j < w.heap.size) {t : Int} (hb : Below w.heap.size w w1) (A : App w1 w2 62 4 v v' (L.map Gv.c ++ [(newG t).c])) :
    PlI (fun j => W j ∨ v'.ownBlock = some j) (w2.setCell ⟨pb, 0, none⟩ v') pb v' (L ++ [newG t]) := by
  have hvp : v.ownBlock ≠ some pb := h.row.ne (g := 0) h.is (by decide)
  have hk : ∀ b, b < w.heap.size → v.ownBlock ≠ some b → w2.heap[b]? = w.heap[b]? := fun b hl hn => (A.grow.block b (Nat.lt_of_lt_of_le hl hb.size) (fun e => hn e.symm)).trans (hb.block b hl)
  have hs : ∀ b, b ≠ pb → (w2.setCell ⟨pb, 0, none⟩ v').heap[b]? = w2.heap[b]? := fun b hb => Below.heap_setCell w2 _ v' b hb
  have hvk : ∀ i (hi : i < L.length) b, L[i].kv.ownBlock = some b → v.ownBlock ≠ some b := fun i hi b e e2 => by
    obtain ⟨cur, hc⟩ := (h.ks i hi).blkAt e
    obtain ⟨cur', hc'⟩ := h.row.blkAt e2
    rw [hc] at hc'; simp at hc'
  have hvw : ∀ i (hi : i < L.length) b, L[i].wv.ownBlock = some b → v.ownBlock ≠ some b := fun i hi b e e2 => by
    obtain ⟨cur, hc⟩ := (h.ws i hi).blkAt e
    obtain ⟨cur', hc'⟩ := h.row.blkAt e2
    rw [hc] at hc'; simp at hc'
  have hg : ∀ j (hj : j < (L ++ [newG t]).length), (∃ hl : j < L.length, (L ++ [newG t])[j] = L[j]) ∨ (j = L.length ∧ (L ++ [newG t])[j] = newG t) := fun j hj => by
    rw [List.length_append, List.length_singleton] at hj
    rcases Nat.lt_or_ge j L.length with hl | hl
    · exact Or.inl ⟨hl, List.getElem_append_left hl⟩
    · have : j = L.length := by omega
      subst this
      exact Or.inr ⟨rfl, by simp⟩
  have nb : ∀ b, (newG t).kv.ownBlock ≠ some b ∧ (newG t).wv.ownBlock ≠ some b := fun b => ⟨(fun e => by cases e), (fun e => by cases e)⟩
  have his : At (w2.setCell ⟨pb, 0, none⟩ v') pb 28 #[v'] := by
    have := (h.is.keep (w' := w2) (hk pb h.is.lt hvp)).set 0 v'
    exact this
  have hnp : ∀ b, v'.ownBlock = some b → b ≠ pb := fun b e => by
    rcases A.own with e2 | e2
    · intro e3; subst e3; exact hvp (e2.symm.trans e)
    · rw [e2] at e; cases e; have := h.is.lt; have := hb.size; omega
  refine ⟨his, ?_, fun j hj => ?_, fun j hj => ?_, fun j k hj hk' hne b e e2 => ?_, fun j k hj hk' hne b e e2 => ?_, Or.inl h.w1, fun b e => Or.inr e, fun j hj b e => ?_, fun j hj b e => ?_⟩
  · rw [List.map_append, List.map_singleton]
    exact A.row.keep fun b e => hs b (hnp b e)
  · rcases hg j hj with ⟨hl, e⟩ | ⟨_, e⟩
    · rw [e]
      exact (h.ks j hl).keep fun b e => (hs b (fun e2 => pk_ne h hl (e2 ▸ e))).trans (hk b ((h.ks j hl).lt e) (hvk j hl b e))
    · rw [e]; exact Row.nil _ _ _
  · rcases hg j hj with ⟨hl, e⟩ | ⟨_, e⟩
    · rw [e]
      exact (h.ws j hl).keep fun b e => (hs b (fun e2 => pw_ne h hl (e2 ▸ e))).trans (hk b ((h.ws j hl).lt e) (hvw j hl b e))
    · rw [e]; exact Row.nil _ _ _
  · rcases hg j hj with ⟨hl, e3⟩ | ⟨_, e3⟩ <;> rcases hg k hk' with ⟨hl', e4⟩ | ⟨_, e4⟩
    · rw [e3] at e; rw [e4] at e2; exact h.dk j k hl hl' hne b e e2
    · rw [e4] at e2; exact (nb b).1 e2
    · rw [e3] at e; exact (nb b).1 e
    · rw [e3] at e; exact (nb b).1 e
  · rcases hg j hj with ⟨hl, e3⟩ | ⟨_, e3⟩ <;> rcases hg k hk' with ⟨hl', e4⟩ | ⟨_, e4⟩
    · rw [e3] at e; rw [e4] at e2; exact h.dw j k hl hl' hne b e e2
    · rw [e4] at e2; exact (nb b).2 e2
    · rw [e3] at e; exact (nb b).2 e
    · rw [e3] at e; exact (nb b).2 e
  · rcases hg j hj with ⟨hl, e3⟩ | ⟨_, e3⟩
    · rw [e3] at e; exact Or.inl (h.w3 j hl b e)
    · rw [e3] at e; exact absurd e (nb b).1
  · rcases hg j hj with ⟨hl, e3⟩ | ⟨_, e3⟩
    · rw [e3] at e; exact Or.inl (h.w4 j hl b e)
    · rw [e3] at e; exact absurd e (nb b).2
end
end Go.Proofs.Ytcpbekamabooaaa.Pa
