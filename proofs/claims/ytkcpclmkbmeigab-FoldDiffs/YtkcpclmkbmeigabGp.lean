/- Maps of any keys and values in memory. -/
import Derived.Test.YtkcpclmkbmeigabGm
import Derived.Maps.RangeWalk
import Derived.Maps.OwnSet
import Derived.Maps.Ext
namespace Go.Proofs.Ytkcpclmkbmeigab.Gm
open Go.RowKit Go.Maps Go.ChangeMaps
set_option linter.unusedVariables false
set_option linter.unusedSimpArgs false
set_option maxRecDepth 100000
/-- Every value is read as itself. -/
def hdR (v : Value) : Option (DataW Value × List MemPlace) := some (.held v, [])
def updL (f : Lit → Option Value) (l : Lit) (x : Option Value) : Lit → Option Value := fun j => if j.sameKey l then x else f j
theorem updL_same (f : Lit → Option Value) {l : Lit} (hl : WideAt.IsKeyLit l) (x : Option Value) : updL f l x l = x := by simp [updL, WideAt.sameKey_self hl]
theorem updL_other (f : Lit → Option Value) {l j : Lit} (x : Option Value) (h : j ≠ l) : updL f l x j = f j := by simp [updL, sameKey_ne h]
/-- What a datum holds. -/
structure MpV (D : DataW Value) (f : Lit → Option Value) : Prop where
  has : ∀ l, Maps.has D l = (f l).isSome
  at_ : ∀ l v, f l = some v → ∀ z, D.atKey l z = .held v
/-- A map of n keys with the contents f. -/
structure Mp (w : World) (kt : TypeId) (b n : Nat) (f : Lit → Option Value) : Prop where
  ex : ∃ D, w.ownsMap Try.prog kt hdR b n D ∧ Maps.size D = n ∧ MpV D f
/-- A map that is ranged over: left are still to come. -/
structure Mr (w : World) (kt : TypeId) (b r n : Nat) (f : Lit → Option Value) (left : Lit → Bool) (cnt : Nat) : Prop where
  ex : ∃ D, w.ranges Try.prog kt hdR b r n D left cnt ∧ Maps.size D = n ∧ MpV D f
section
variable {w w' : World} {kt t e : TypeId} {b n r cnt : Nat} {f g : Lit → Option Value} {left : Lit → Bool} {W W' : Nat → Prop}
theorem MpV.ext {D : DataW Value} (h : MpV D f) (he : ∀ l, g l = f l) : MpV D g := by
  have : g = f := funext he
  rw [this]; exact h
theorem Mp.ext (h : Mp w kt b n f) (he : ∀ l, g l = f l) : Mp w kt b n g := by
  have : g = f := funext he
  rw [this]; exact h
theorem MpV.put {D : DataW Value} (h : MpV D f) (hD : IsMap D) {l : Lit} (hl : WideAt.IsKeyLit l) (v : Value) : MpV (D.put l (.held v)) (updL f l (some v)) := by
  refine ⟨fun j => ?_, fun j c hj z => ?_⟩
  · by_cases e : j = l
    · subst e; rw [updL_same _ hl, has_put_same hD hl]; rfl
    · rw [updL_other _ _ e, has_put_other e, h.has]
  · by_cases e : j = l
    · subst e; rw [updL_same _ hl] at hj; cases hj; rw [atKey_put_same hD hl]
    · rw [updL_other _ _ e] at hj; rw [atKey_put_other e]; exact h.at_ j c hj z
theorem MpV.del {D : DataW Value} (h : MpV D f) {l : Lit} (hl : WideAt.IsKeyLit l) : MpV (D.del l) (updL f l none) := by
  refine ⟨fun j => ?_, fun j c hj z => ?_⟩
  · by_cases e : j = l
    · subst e; rw [updL_same _ hl, has_del_same]; rfl
    · rw [updL_other _ _ e, has_del_other e, h.has]
  · by_cases e : j = l
    · subst e; rw [updL_same _ hl] at hj; cases hj
    · rw [updL_other _ _ e] at hj; rw [atKey_del_other e]; exact h.at_ j c hj z
/-- The bound is the size. -/
theorem owns_exact {m : Nat} {D : DataW Value} (h : w.ownsMap Try.prog kt hdR b m D) : w.ownsMap Try.prog kt hdR b (Maps.size D) D := by
  obtain ⟨es, cl, h1, h2, h3, rfl⟩ := h
  refine ⟨es, cl, h1, h2, ?_, rfl⟩
  simp [Maps.size, length_sorted]
theorem Mp.of {m : Nat} {D : DataW Value} (h : w.ownsMap Try.prog kt hdR b m D) (hf : MpV D f) (hn : Maps.size D = n) : Mp w kt b n f := by
  subst hn; exact ⟨D, owns_exact h, rfl, hf⟩
theorem Mp.lt (h : Mp w kt b n f) : b < w.heap.size := by obtain ⟨D, h, _⟩ := h.ex; exact h.lt
theorem Mp.keep (h : Mp w kt b n f) (hb : w'.heap[b]? = w.heap[b]?) : Mp w' kt b n f := by
  obtain ⟨D, ⟨es, cl, h1, h2, h3, h4⟩, hv⟩ := h.ex
  exact ⟨D, ⟨es, cl, hb.trans h1, h2, h3, h4⟩, hv⟩
theorem Mp.bel (h : Mp w kt b n f) (hb : Below w.heap.size w w') : Mp w' kt b n f := h.keep (hb.block b h.lt)
theorem Mp.fr (h : Mp w kt b n f) (hf : Fr W W' w w') (hn : ¬ W b) : Mp w' kt b n f := h.keep (hf.blk b h.lt hn)
theorem Mp.made (w : World) (kt : TypeId) : Mp (w.alloc (.map #[] 0)) kt w.heap.size 0 (fun _ => none) := ⟨_, World.ownsMap_made _ _ _ _, rfl, fun l => rfl, fun l v h => by cases h⟩
theorem Mp.blk (h : Mp w kt b n f) : ∃ es cl, w.heap[b]? = some (.map es cl) := by obtain ⟨D, ⟨es, cl, h1, _⟩, _⟩ := h.ex; exact ⟨es, cl, h1⟩
theorem Mp.ne {A : Array Value} {c : Nat} (h : Mp w kt b n f) (hc : At w c t A) : b ≠ c := fun e2 => by
  obtain ⟨es, cl, h1⟩ := h.blk
  rw [e2, hc.blk] at h1
  cases h1
theorem turned_off {b : Nat} (h : w.mapTurned w' b) : ∀ j, j ≠ b → w'.heap[j]? = w.heap[j]? := fun j hj => by
  obtain ⟨es, cl, es', cl', h1, rfl⟩ := h
  exact heap_setBlock_other h1 _ hj
theorem turned_size {b : Nat} (h : w.mapTurned w' b) : w'.heap.size = w.heap.size := by
  obtain ⟨es, cl, es', cl', h1, rfl⟩ := h
  simp [setBlock]
theorem turned_fr (h : w.mapTurned w' b) (hW : W b) : Fr W W w w' := Fr.grown h.grown fun g e => by cases e; exact hW
/-- Look-ups. -/
theorem Mp.look (h : Mp w kt b n f) (K : Keyed Try.prog kt) (ht : Try.prog.underlying t = some (.map kt e)) {z : Value} (hz : (zeroValue e).run Try.prog w = .ok z w) {key : Value} {l : Lit} (hk : keyOf Try.prog kt key = some l) :
    (Instr.lookup t (.map (some b)) key true).run Try.prog w = .ok (.tuple #[(f l).getD z, .bool (f l).isSome]) w := by
  obtain ⟨D, ho, _, hv⟩ := h.ex
  obtain ⟨v, ps, hrun, hR⟩ := ho.look_ok K ht hz (show hdR z = some (.held z, []) from rfl) hk
  rw [hrun, hv.has]
  simp only [hdR, Option.some.injEq, Prod.mk.injEq] at hR
  cases hf : f l with
  | none =>
    rw [atKey_of_not_has (by rw [hv.has, hf]; rfl)] at hR
    injection hR.1 with h1
    rw [h1]; rfl
  | some c =>
    rw [hv.at_ l c hf] at hR
    injection hR.1 with h1
    rw [h1]; rfl
theorem Mp.look1 (h : Mp w kt b n f) (K : Keyed Try.prog kt) (ht : Try.prog.underlying t = some (.map kt e)) {z : Value} (hz : (zeroValue e).run Try.prog w = .ok z w) {key : Value} {l : Lit} (hk : keyOf Try.prog kt key = some l) :
    (Instr.lookup t (.map (some b)) key false).run Try.prog w = .ok ((f l).getD z) w := by
  obtain ⟨D, ho, _, hv⟩ := h.ex
  obtain ⟨v, ps, hrun, hR⟩ := ho.lookup K ht hz (show hdR z = some (.held z, []) from rfl) hk
  rw [hrun]
  simp only [hdR, Option.some.injEq, Prod.mk.injEq] at hR
  cases hf : f l with
  | none =>
    rw [atKey_of_not_has (by rw [hv.has, hf]; rfl)] at hR
    injection hR.1 with h1
    rw [h1]; rfl
  | some c =>
    rw [hv.at_ l c hf] at hR
    injection hR.1 with h1
    rw [h1]; rfl
theorem Mp.tidy (h : Mp w kt b n f) (K : Keyed Try.prog kt) : ∃ D, w.ownsMap Try.prog kt hdR b n D ∧ Maps.size D = n ∧ MpV D f ∧ Tidy D := by
  obtain ⟨D, ho, hn, hv⟩ := h.ex
  exact ⟨D, ho, hn, hv, ho.tidy K⟩
/-- 'm[k] = v'. -/
theorem Mp.store (h : Mp w kt b n f) (K : Keyed Try.prog kt) (ht : Try.prog.underlying t = some (.map kt e)) (hn : n < 10000000000000) {key : Value} {l : Lit} (hk : keyOf Try.prog kt key = some l) (v : Value) :
    ∃ w', (Instr.mapUpdate t (.map (some b)) key v).run Try.prog w = .ok () w' ∧ Mp w' kt b (if (f l).isSome then n else n + 1) (updL f l (some v)) ∧ w.mapTurned w' b := by
  obtain ⟨D, ho, hs, hv, hd⟩ := h.tidy K
  obtain ⟨w', h1, h2, h3⟩ := ho.store K ht (by unfold maxLen; omega) hk (show hdR v = some (.held v, []) from rfl)
  refine ⟨w', h1, Mp.of h2 (hv.put ho.isMap (K.key hk) v) ?_, h3⟩
  rw [size_put hd, hv.has, hs]
/-- 'delete(m, k)'. -/
theorem Mp.drop (h : Mp w kt b n f) (K : Keyed Try.prog kt) (ht : Try.prog.underlying t = some (.map kt e)) {key : Value} {l : Lit} (hk : keyOf Try.prog kt key = some l) (ty : TypeId) :
    ∃ w', (Builtin.delete_ #[t, kt] ty #[.map (some b), key]).run Try.prog w = .ok (.tuple #[]) w' ∧ Mp w' kt b (if (f l).isSome then n - 1 else n) (updL f l none) ∧ w.mapTurned w' b := by
  obtain ⟨D, ho, hs, hv, hd⟩ := h.tidy K
  obtain ⟨w', h1, h2, h3⟩ := ho.drop K ht hk ty
  refine ⟨w', h1, Mp.of h2 (hv.del (K.key hk)) ?_, h3⟩
  have := size_del (k := l) hd
  rw [hv.has, hs] at this
  split at this <;> split <;> first | omega | simp_all
theorem Mp.len (h : Mp w kt b n f) (ht : Try.prog.underlying t = some (.map kt e)) (ty : TypeId) : (Builtin.len_ #[t] ty #[.map (some b)]).run Try.prog w = .ok (.int .i64 n) w := by
  obtain ⟨D, ho, hs, hv⟩ := h.ex
  rw [ho.len ht ty, hs]
/-- What is ranged over. -/
theorem Mr.mp (h : Mr w kt b r n f left cnt) : Mp w kt b n f := by obtain ⟨D, h1, h2⟩ := h.ex; exact ⟨D, h1.owns, h2⟩
theorem Mr.lt (h : Mr w kt b r n f left cnt) : r < w.heap.size := by obtain ⟨D, h1, h2⟩ := h.ex; exact h1.lt
theorem Mr.ne (h : Mr w kt b r n f left cnt) : r ≠ b := by obtain ⟨D, h1, h2⟩ := h.ex; exact h1.ne
theorem Mr.left_eq (h : Mr w kt b r n f left cnt) : w.rangeLeft b r = cnt := by obtain ⟨D, h1, h2⟩ := h.ex; exact h1.left_eq
theorem Mr.keep (h : Mr w kt b r n f left cnt) (hb : w'.heap[b]? = w.heap[b]?) (hr : w'.heap[r]? = w.heap[r]?) : Mr w' kt b r n f left cnt := by
  obtain ⟨D, ⟨es, cl, si, se, c0, h1, h2, h3, h4, h5, h6⟩, hv⟩ := h.ex
  exact ⟨D, ⟨es, cl, si, se, c0, hb.trans h1, h2, h3, h4, hr.trans h5, h6⟩, hv⟩
theorem Mr.bel (h : Mr w kt b r n f left cnt) (hb : Below w.heap.size w w') : Mr w' kt b r n f left cnt := h.keep (hb.block b h.mp.lt) (hb.block r h.lt)
end
section
variable {ops : Array Oper} {rest : List Oper} {o : Oper} {a : Act} {Q : Exit → Act → World → Prop} {kt t e : TypeId} {b n r cnt : Nat} {f : Lit → Option Value} {left : Lit → Bool}
theorem wpList_range_mp (w : World) (hg : o.guard = none) (m : Operand) (hop : o.op = Op.range t m) (K : Keyed Try.prog kt) (ht : Try.prog.underlying t = some (.map kt e)) (hm : a.eval m = .map (some b)) (h : Mp w kt b n f)
    (hK : ∀ w' r, r = w.heap.size → Mr w' kt b r n f (fun l => (f l).isSome) n → Below w.heap.size w w' → wpList Try.prog ops Q rest (a.put o.dst (.pointer (some ⟨r, 0, none⟩))) w') :
    wpList Try.prog ops Q (o :: rest) a w := by
  obtain ⟨D, ho, hs, hv⟩ := h.ex
  refine wpList_range_own w hg m t hop kt e K ht hdR b n D hm ho ?_
  intro w' h1 h2 h3
  refine hK w' _ rfl ⟨D, ?_, hs, hv⟩ ⟨h2.os, h2.tape, h2.output, h2.size, fun k hk => h2.block k hk (by simp)⟩
  have : (fun l => (f l).isSome) = Maps.has D := funext fun l => (hv.has l).symm
  rw [this, ← hs]
  rw [hs]
  rw [← hs] at h1 ⊢
  exact h1
theorem wpList_next_mp {α : Type} (mkK : α → Value) (mkL : α → Lit) (w : World) (hg : o.guard = none) (it : Operand) (hop : o.op = Op.next it false) (K : Keyed Try.prog kt) (hinv : ∀ key l, keyOf Try.prog kt key = some l → ∃ x, key = mkK x ∧ l = mkL x) (hit : a.eval it = .pointer (some ⟨r, 0, none⟩)) (h : Mr w kt b r n f left cnt)
    (hDone : cnt = 0 → (∀ l, left l = false) → wpList Try.prog ops Q rest (a.put o.dst (.tuple #[.bool false])) w)
    (hMore : ∀ (x : α) (v : Value) (w' : World) (cnt' : Nat), keyOf Try.prog kt (mkK x) = some (mkL x) → left (mkL x) = true → f (mkL x) = some v → Mr w' kt b r n f (fun z => left z && !z.sameKey (mkL x)) cnt' → cnt' < cnt → (∀ j, j ≠ r → w'.heap[j]? = w.heap[j]?) →
      Fr (· = r) (· = r) w w' → (Instr.entry (.pointer (some ⟨r, 0, none⟩))).run Try.prog w' = .ok (.tuple #[mkK x, v]) w' → wpList Try.prog ops Q rest (a.put o.dst (.tuple #[.bool true, mkK x, v])) w') :
    wpList Try.prog ops Q (o :: rest) a w := by
  obtain ⟨D, ho, hs, hv⟩ := h.ex
  refine wpList_next_ranges w hg it hop kt K hdR id id (fun key _ _ => ⟨key, rfl⟩) (fun v _ _ => ⟨v, rfl⟩) b r n D left cnt hit ho hDone ?_
  intro key v l y w' cnt' hkey hl hR hat hrg hlt hgr hsz hen
  obtain ⟨x, e1, rfl⟩ := hinv key l hkey
  simp only [id] at *
  subst e1
  simp only [hdR, Option.some.injEq] at hR
  subst hR
  have hf : f (mkL x) = some v := by
    have h1 : Maps.has D (mkL x) = true := has_true_of_atKey hat
    rw [hv.has] at h1
    obtain ⟨v', e2⟩ := Option.isSome_iff_exists.1 h1
    have := (hv.at_ _ _ e2 .nil).symm.trans (hat .nil)
    injection this with this
    rw [e2, this]
  have hgrf : Fr (· = r) (· = r) w w' := Fr.grown hgr fun g e => by cases e; rfl
  refine hMore x v w' cnt' hkey hl hf ⟨D, hrg, hs, hv⟩ hlt (fun j hj => ?_) hgrf hen
  rcases Nat.lt_or_ge j w.heap.size with h1 | h1
  · exact hgrf.blk j h1 hj
  · rw [Array.getElem?_eq_none h1, Array.getElem?_eq_none (by rw [hsz]; exact h1)]
theorem wpList_store_mp (w : World) (hg : o.guard = none) (m x v : Operand) (hop : o.op = Op.mapUpdate t m x v) (K : Keyed Try.prog kt) (ht : Try.prog.underlying t = some (.map kt e)) (hn : n < 10000000000000) (hm : a.eval m = .map (some b)) (h : Mp w kt b n f) {key u : Value} {l : Lit} (hx : a.eval x = key) (hv : a.eval v = u) (hk : keyOf Try.prog kt key = some l)
    (hK : ∀ w', Mp w' kt b (if (f l).isSome then n else n + 1) (updL f l (some u)) → w.mapTurned w' b → wpList Try.prog ops Q rest (a.put o.dst undef) w') : wpList Try.prog ops Q (o :: rest) a w := by
  refine wpList_plain hg fun K' hK' => ?_
  obtain ⟨w', hrun, r1, r2⟩ := h.store K ht hn hk u
  unfold Oper.wp
  simp [execOp, hop, hm, hx, hv, hrun, Result.andThen]
  exact hK' _ _ (hK w' r1 r2)
theorem wpList_drop_mp (w : World) (hg : o.guard = none) (m x : Operand) (hop : o.op = Op.call { callee := Callee.builtin Builtin.delete, args := #[m, x], argTypes := #[t, kt] }) (K : Keyed Try.prog kt) (ht : Try.prog.underlying t = some (.map kt e)) (hm : a.eval m = .map (some b)) (h : Mp w kt b n f) {key : Value} {l : Lit} (hx : a.eval x = key) (hk : keyOf Try.prog kt key = some l)
    (hK : ∀ w', Mp w' kt b (if (f l).isSome then n - 1 else n) (updL f l none) → w.mapTurned w' b → wpList Try.prog ops Q rest (a.put o.dst (.tuple #[])) w') : wpList Try.prog ops Q (o :: rest) a w := by
  refine wpList_plain hg fun K' hK' => ?_
  obtain ⟨w', hrun, r1, r2⟩ := h.drop K ht hk o.type
  unfold Oper.wp
  simp [execOp, hop, resolve, invoke, builtin, hm, hx, hrun, Result.andThen]
  exact hK' _ _ (hK w' r1 r2)
theorem wpList_make_mp (w : World) (hg : o.guard = none) (hop : o.op = Op.makeMap t none) (hK : ∀ w' b, Mp w' kt b 0 (fun _ => none) → b = w.heap.size → Below w.heap.size w w' → wpList Try.prog ops Q rest (a.put o.dst (.map (some b))) w') : wpList Try.prog ops Q (o :: rest) a w := by
  refine wpList_plain hg fun K' hK' => ?_
  unfold Oper.wp
  simp [execOp, hop, Result.andThen]
  exact hK' _ _ (hK _ _ (Mp.made w kt) rfl (bl1 _))
/-- 'delete' within a region that draws its order. -/
theorem step_drop_mp {K : Act → World → Prop} {E : Prop} {w : World} (hgd : o.guard = none) (m x : Operand) (hop : o.op = Op.call { callee := Callee.builtin Builtin.delete, args := #[m, x], argTypes := #[t, kt] }) (K0 : Keyed Try.prog kt) (ht : Try.prog.underlying t = some (.map kt e)) (hm : a.eval m = .map (some b)) (h : Mp w kt b n f) {key : Value} {l : Lit} (hx : a.eval x = key) (hk : keyOf Try.prog kt key = some l)
    (hK : ∀ w', Mp w' kt b (if (f l).isSome then n - 1 else n) (updL f l none) → w.mapTurned w' b → K (a.put o.dst (.tuple #[])) w') :
    if Region.wanted o (yielded ops a.tmps) = true then Oper.wp Try.prog o a w K Q else E := by
  have hw : Region.wanted o (yielded ops a.tmps) = true := by simp [Region.wanted, hgd]
  rw [if_pos hw]
  obtain ⟨w', hrun, r1, r2⟩ := h.drop K0 ht hk o.type
  unfold Oper.wp
  simp [execOp, hop, resolve, invoke, builtin, hm, hx, hrun, Result.andThen]
  exact hK w' r1 r2
end
end Go.Proofs.Ytkcpclmkbmeigab.Gm
