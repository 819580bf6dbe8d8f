/- The law's own past: note of one that goes on and turned this key ahead, or not. -/
import Derived.Test.YtcpbekamabooaaaPaQ
import Derived.Deep.RegionLaw
namespace Go.Proofs.Ytcpbekamabooaaa.Pa
open Go.RowKit Gm
set_option linter.unusedVariables false
set_option linter.unusedSimpArgs false
set_option maxRecDepth 100000
theorem load_ss {w : World} {b k n c : Nat} {a : Option Addr} (h : w.cell? ⟨b, k, none⟩ = some (.slice a n c)) : (Instr.loadAt 53 (.pointer (some ⟨b, k, none⟩))).run Try.prog w = .ok (.slice a n c) w := by
  go_simp
theorem load_sw {w : World} {b k n c : Nat} {a : Option Addr} (h : w.cell? ⟨b, k, none⟩ = some (.slice a n c)) : (Instr.loadAt 60 (.pointer (some ⟨b, k, none⟩))).run Try.prog w = .ok (.slice a n c) w := by
  go_simp
theorem any_succ {α : Type} {l : List α} {p : α → Bool} {i : Nat} (hi : i < l.length) : (l.take (i + 1)).any p = ((l.take i).any p || p l[i]) := by
  rw [List.take_succ_eq_append_getElem hi, List.any_append]
  simp
theorem has_zip {x : Gv} (hz : x.kl.length = x.wl.length) (k : ByteArray) : x.g.has k = x.kl.any (fun a => eqB a k) := by
  have : x.g.ks.map Prod.fst = x.kl := by
    show (x.kl.zip x.wl).map Prod.fst = _
    rw [List.map_fst_zip (by omega)]
  unfold Gn.has
  rw [← this, List.any_map]
  rfl
section
variable {W W' : Nat → Prop} {w w' w3 : World} {pb g c i : Nat} {v : Value} {L : List Gv} {P : List Gn} {r : Rc} {I T : Value}
/-- The keys of the one in question, as they lie. -/
theorem Mid.keys (h : Mid W w w3 pb g c i L) (hi : i < L.length) : ∃ ak ck, L[i].kv = .slice ak L[i].kl.length ck ∧ ∀ k (hk : k < L[i].kl.length), ∃ gk, ak = some ⟨gk, 0, none⟩ ∧ ∀ wx, Mid W w wx pb g c i L → wx.cell? ⟨gk, k, none⟩ = some (.string L[i].kl[k]) := by
  obtain ⟨W3, h1, h2, h3⟩ := h.ex
  obtain ⟨ak, ck, e, _⟩ := (h1.ks i hi).sl
  rw [show (kC L[i].kl).length = L[i].kl.length by simp [kC]] at e
  refine ⟨ak, ck, e, fun k hk => ?_⟩
  have r1 := h1.ks i hi
  rw [e] at r1
  obtain ⟨gk, ek, _, _⟩ := r1.at_ (i := k) (by simpa [kC] using hk)
  refine ⟨gk, ek, fun wx hx => ?_⟩
  obtain ⟨W4, g1, _⟩ := hx.ex
  have r2 := g1.ks i hi
  rw [e, ek] at r2
  obtain ⟨gk2, ek2, _, q⟩ := r2.at_ (i := k) (by simpa [kC] using hk)
  cases ek2
  have := (q wx rfl).1
  simp only [kC, List.getElem_map] at this
  have := this 0 _ rfl
  rwa [Nat.mul_one] at this
theorem Mid.ne1 (h : Mid W w w3 pb g c i L) : pb ≠ w3.heap.size := by
  obtain ⟨W3, h1, h2, h3⟩ := h.ex
  exact Nat.ne_of_lt h1.is.lt
theorem Mid.ne2 (h : Mid W w w3 pb g c i L) : g ≠ w3.heap.size := by
  obtain ⟨W3, h1, h2, h3⟩ := h.ex
  exact Nat.ne_of_lt (h1.row.lt rfl)
theorem Mid.rowK (h : Mid W w w3 pb g c i L) (hi : i < L.length) : Row w3 9 1 L[i].kv (kC L[i].kl) := by
  obtain ⟨W3, h1, h2, h3⟩ := h.ex
  exact h1.ks i hi
theorem Mid.rowW (h : Mid W w w3 pb g c i L) (hi : i < L.length) : Row w3 39 2 L[i].wv (wC L[i].wl) := by
  obtain ⟨W3, h1, h2, h3⟩ := h.ex
  exact h1.ws i hi
/-- Behind an append to the keys, ahead of its store. -/
theorem Mid.midK (h : Mid W w w3 pb g c i L) (hi : i < L.length) {w1 w2 : World} {v' : Value} {key : ByteArray} (hb : Below w3.heap.size w3 w1) (A : App w1 w2 9 1 L[i].kv v' (kC L[i].kl ++ [[.string key]])) : w2.cell? ⟨pb, 0, none⟩ = some (.slice (some ⟨g, 0, none⟩) L.length c) ∧ w2.cell? ⟨g, i * 4 + 2, none⟩ = some L[i].kv ∧ w2.frozen? ⟨g, i * 4 + 2, none⟩ = false := by
  obtain ⟨z0, _, z2, _, zf⟩ := h.cells hi
  obtain ⟨W3, h1, h2, h3⟩ := h.ex
  have hk : ∀ b, b < w3.heap.size → L[i].kv.ownBlock ≠ some b → w2.heap[b]? = w3.heap[b]? := fun b hl hn => (A.grow.block b (Nat.lt_of_lt_of_le hl hb.size) (fun e => hn e.symm)).trans (hb.block b hl)
  have e1 := hk pb h1.is.lt (pk_ne h1 hi)
  have e2 := hk g (h1.row.lt rfl) (kv_ne h1 hi)
  exact ⟨(World.cell?_of_block e1).trans z0, (World.cell?_of_block e2).trans z2, (World.frozen?_of_block e2).trans (zf _)⟩
theorem Mid.pbc (h : Mid W w w3 pb g c i L) : w3.cell? ⟨pb, 0, none⟩ = some (.slice (some ⟨g, 0, none⟩) L.length c) := by
  obtain ⟨W3, h1, h2, h3⟩ := h.ex
  exact h1.is.c 0
/-- What is no part of it, behind an append to the keys and its store. -/
theorem Mid.offK (h : Mid W w w3 pb g c i L) (hi : i < L.length) {w1 w2 : World} {v' : Value} {M : List (List Value)} {b : Nat} {t : TypeId} {B : Array Value} (hb : Below w3.heap.size w3 w1) (A : App w1 w2 9 1 L[i].kv v' M) (hA : At w3 b t B) (ht : t ≠ 9) (ht2 : t ≠ 62) : At w2 b t B ∧ ∀ k u, At (w2.setCell ⟨g, k, none⟩ u) b t B := by
  obtain ⟨W3, h1, h2, h3⟩ := h.ex
  have hne : b ≠ g := fun e => by
    obtain ⟨cur, hc⟩ := h1.row.blkAt (g := g) rfl
    subst e
    exact ht2 (hA.tag hc).symm
  have hk : L[i].kv.ownBlock ≠ some b := (h1.ks i hi).ne (g := 0) hA (fun e => ht e.symm)
  have e : w2.heap[b]? = w3.heap[b]? := (A.grow.block b (Nat.lt_of_lt_of_le hA.lt hb.size) (fun e => hk e.symm)).trans (hb.block b hA.lt)
  have h2 : At w2 b t B := hA.keep e
  exact ⟨h2, fun k u => h2.keep (Below.heap_setCell w2 _ u b hne)⟩
/-- Behind the store of the keys, in plain words. -/
theorem Mid.key2 (h : Mid W w w3 pb g c i L) (hi : i < L.length) {y : Gv} (hy : L[i] = y) {w1 w2 wC : World} {v' : Value} {key : ByteArray} (hb : Below w3.heap.size w3 w1) (A : App w1 w2 9 1 y.kv v' (kC y.kl ++ [[.string key]])) (eC : wC = w2.setCell ⟨g, i * 4 + 2, none⟩ v') :
    ∃ L2, Mid W w wC pb g c i L2 ∧ (∃ h : i < L2.length, L2[i] = ⟨y.txn, y.last, y.kl ++ [key], y.wl, v', y.wv⟩) ∧ L2.length = L.length ∧ L2 = L.set i ⟨y.txn, y.last, y.kl ++ [key], y.wl, v', y.wv⟩ := by
  subst hy eC
  exact ⟨_, h.key hi hb A, ⟨by simpa using hi, List.getElem_set_self _⟩, by simp, rfl⟩
theorem Mid.wvs (h : Mid W w w3 pb g c i L) (hi : i < L.length) {y : Gv} (hy : L[i] = y) : ∃ aw cw, y.wv = .slice aw y.wl.length cw := by
  obtain ⟨aw, cw, e, _⟩ := (h.rowW hi).sl
  subst hy
  exact ⟨aw, cw, by rw [e]; simp [wC]⟩
/-- All that region 21 asks of the worlds behind it. -/
theorem Mid.was2 (h : Mid W w w3 pb g c i L) (hi : i < L.length) {y : Gv} (hy : L[i] = y) {w1 w2 wD : World} {v' : Value} {x : Ws} (hb : Below w3.heap.size w3 w1) (A : App w1 w2 39 2 y.wv v' (wC y.wl ++ [x.c])) (eD : wD = w2.setCell ⟨g, i * 4 + 3, none⟩ v') (hz : y.kl.length = y.wl.length + 1) : NtO W w wD pb ((L.set i ⟨y.txn, y.last, y.kl, y.wl ++ [x], y.kv, v'⟩).map Gv.g) := by
  subst hy eD
  exact (h.was hi hb A).done (by simpa using hi) (by rw [List.getElem_set_self]; simpa using hz)
theorem Mid.midW (h : Mid W w w3 pb g c i L) (hi : i < L.length) {w1 w2 : World} {v' : Value} {x : Ws} (hb : Below w3.heap.size w3 w1) (A : App w1 w2 39 2 L[i].wv v' (wC L[i].wl ++ [x.c])) : w2.cell? ⟨pb, 0, none⟩ = some (.slice (some ⟨g, 0, none⟩) L.length c) ∧ w2.cell? ⟨g, i * 4 + 3, none⟩ = some L[i].wv ∧ w2.frozen? ⟨g, i * 4 + 3, none⟩ = false := by
  obtain ⟨z0, _, _, z3, zf⟩ := h.cells hi
  obtain ⟨W3, h1, h2, h3⟩ := h.ex
  have hk : ∀ b, b < w3.heap.size → L[i].wv.ownBlock ≠ some b → w2.heap[b]? = w3.heap[b]? := fun b hl hn => (A.grow.block b (Nat.lt_of_lt_of_le hl hb.size) (fun e => hn e.symm)).trans (hb.block b hl)
  have e1 := hk pb h1.is.lt (pw_ne h1 hi)
  have e2 := hk g (h1.row.lt rfl) (wv_ne h1 hi)
  exact ⟨(World.cell?_of_block e1).trans z0, (World.cell?_of_block e2).trans z3, (World.frozen?_of_block e2).trans (zf _)⟩
theorem Mid.offD (h : Mid W w w3 pb g c i L) (hi : i < L.length) {y : Gv} (hy : L[i] = y) {w1 w2 wD : World} {v' : Value} {M : List (List Value)} {b : Nat} {t : TypeId} {B : Array Value} (hb : Below w3.heap.size w3 w1) (A : App w1 w2 39 2 y.wv v' M) (hA : At w2 b t B) (ht2 : t ≠ 62) (eD : wD = w2.setCell ⟨g, i * 4 + 3, none⟩ v') : wD.cell? ⟨pb, 0, none⟩ = some (.slice (some ⟨g, 0, none⟩) L.length c) ∧ At wD b t B := by
  subst hy eD
  obtain ⟨W3, h1, h2, h3⟩ := h.ex
  have hk : ∀ b, b < w3.heap.size → L[i].wv.ownBlock ≠ some b → w2.heap[b]? = w3.heap[b]? := fun b hl hn => (A.grow.block b (Nat.lt_of_lt_of_le hl hb.size) (fun e => hn e.symm)).trans (hb.block b hl)
  have eg := hk g (h1.row.lt rfl) (wv_ne h1 hi)
  have ep := hk pb h1.is.lt (pw_ne h1 hi)
  have hne : b ≠ g := fun e => by
    obtain ⟨cur, hc⟩ := h1.row.blkAt (g := g) rfl
    subst e
    exact ht2 (hA.tag (eg.trans hc)).symm
  exact ⟨(World.cell?_of_block ((Below.heap_setCell w2 _ v' pb (pb_ne h1)).trans ep)).trans h.pbc, hA.keep (Below.heap_setCell w2 _ v' b hne)⟩
theorem Mid.midW2 (h : Mid W w w3 pb g c i L) (hi : i < L.length) {y : Gv} (hy : L[i] = y) {w1 w2 : World} {v' : Value} {x : Ws} (hb : Below w3.heap.size w3 w1) (A : App w1 w2 39 2 y.wv v' (wC y.wl ++ [x.c])) : w2.cell? ⟨pb, 0, none⟩ = some (.slice (some ⟨g, 0, none⟩) L.length c) ∧ w2.cell? ⟨g, i * 4 + 3, none⟩ = some y.wv ∧ w2.frozen? ⟨g, i * 4 + 3, none⟩ = false := by
  subst hy
  exact h.midW hi hb A
end
end Go.Proofs.Ytcpbekamabooaaa.Pa
