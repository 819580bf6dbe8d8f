/- The disk in memory: its struct, its row of sectors, its map of what waits; what stays as it was. -/
import Derived.Test.YtljedbakdlhlbaaProg
import Derived.WalkKit
import Derived.ProofKit
import Derived.WalkSpells
import Derived.WalkLawsBesides
import Derived.Deep.QuietTactic
import Derived.BigQuiet
import Derived.Deep.MidRow
import Derived.Lib.SmallJoins
import Derived.Lib.SlBytesRow
import Derived.Lib.BufferWrite
import Derived.Maps.RangeWalk
import Derived.Maps.OwnSet
import Derived.Maps.Ext
namespace Go.Proofs.Ytljedbakdlhlbaa
open Go.RowKit Go.Maps Go.ChangeMaps
set_option linter.unusedVariables false
set_option linter.unusedSimpArgs false
set_option maxRecDepth 100000

/-- All blocks but those of B are as they were; new ones may have come. -/
structure Off (B : Nat → Prop) (w w' : World) : Prop where
  os : w'.os = w.os
  tape : w'.tape = w.tape
  output : w'.output = w.output
  size : w.heap.size ≤ w'.heap.size
  block : ∀ k, k < w.heap.size → ¬ B k → w'.heap[k]? = w.heap[k]?
theorem Off.refl (B : Nat → Prop) (w : World) : Off B w w := ⟨rfl, rfl, rfl, Nat.le_refl _, fun _ _ _ => rfl⟩
theorem Off.trans {B : Nat → Prop} {a b c : World} (h : Off B a b) (k : Off B b c) : Off B a c :=
  ⟨k.os.trans h.os, k.tape.trans h.tape, k.output.trans h.output, Nat.le_trans h.size k.size, fun i hi hn => (k.block i (Nat.lt_of_lt_of_le hi h.size) hn).trans (h.block i hi hn)⟩
theorem Off.mono {B B' : Nat → Prop} {a b : World} (h : Off B a b) (hB : ∀ k, B k → B' k) : Off B' a b :=
  ⟨h.os, h.tape, h.output, h.size, fun k hk hn => h.block k hk (fun x => hn (hB k x))⟩
theorem Off.of_below {B : Nat → Prop} {w w' : World} (h : Below w.heap.size w w') : Off B w w' := ⟨h.os, h.tape, h.output, h.size, fun k hk _ => h.block k hk⟩
theorem Off.below {B : Nat → Prop} {b : Nat} {w w' : World} (h : Off B w w') (hb : ∀ k, B k → b ≤ k) (hB : b ≤ w.heap.size) : Below b w w' :=
  ⟨h.os, h.tape, h.output, h.size, fun k hk => h.block k (Nat.lt_of_lt_of_le hk hB) (fun x => by have := hb k x; omega)⟩
theorem Off.alloc {B : Nat → Prop} {a w : World} (h : Off B a w) (o : Obj) : Off B a (w.alloc o) :=
  h.trans (Off.of_below ((Below.refl _ _).alloc (Nat.le_refl _) o))
theorem Off.drew {B : Nat → Prop} {a w : World} (h : Off B a w) : Off B a w.drew := ⟨h.os, h.tape, h.output, h.size, h.block⟩
theorem Off.setCell {B : Nat → Prop} {a w : World} (h : Off B a w) {b : Nat} (hb : B b) (i : Nat) (v : Value) : Off B a (w.setCell ⟨b, i, none⟩ v) := by
  refine h.trans ⟨rfl, rfl, rfl, ?_, fun k _ hk => Below.heap_setCell w _ v k (fun e => hk (by rw [e]; exact hb))⟩
  simp [go_sem]
theorem setCells_facts (b : Nat) : ∀ (vs : List Value) (o : Nat) (w : World), (w.setCells b o vs).os = w.os ∧ (w.setCells b o vs).tape = w.tape ∧ (w.setCells b o vs).output = w.output ∧ (w.setCells b o vs).heap.size = w.heap.size ∧ ∀ k, k ≠ b → (w.setCells b o vs).heap[k]? = w.heap[k]?
  | [], _, _ => ⟨rfl, rfl, rfl, rfl, fun _ _ => rfl⟩
  | v :: r, o, w => by
    obtain ⟨h1, h2, h3, h4, h5⟩ := setCells_facts b r (o + 1) (w.setCell ⟨b, o, none⟩ v)
    rw [World.setCells]
    refine ⟨h1.trans rfl, h2.trans rfl, h3.trans rfl, h4.trans (by simp [go_sem]), fun k hk => (h5 k hk).trans (Below.heap_setCell w _ v k hk)⟩
theorem Off.setCells {B : Nat → Prop} {a w : World} (h : Off B a w) {b : Nat} (hb : B b) (o : Nat) (vs : List Value) : Off B a (w.setCells b o vs) := by
  obtain ⟨h1, h2, h3, h4, h5⟩ := setCells_facts b vs o w
  exact h.trans ⟨h1, h2, h3, by rw [h4]; exact Nat.le_refl _, fun k _ hk => h5 k (fun e => hk (by rw [e]; exact hb))⟩
theorem Off.grown {B : Nat → Prop} {a w w' : World} {row : Option Nat} (h : Off B a w) (hg : w.grownBy w' row) (hr : ∀ k, row = some k → k < a.heap.size → B k) : Off B a w' :=
  ⟨hg.os.trans h.os, hg.tape.trans h.tape, hg.output.trans h.output, Nat.le_trans h.size hg.size, fun k hk hn => (hg.block k (Nat.lt_of_lt_of_le hk h.size) (fun e => hn (hr k e.symm hk))).trans (h.block k hk hn)⟩
theorem Off.cell {B : Nat → Prop} {w w' : World} (h : Off B w w') {p : Addr} (hp : p.block < w.heap.size) (hn : ¬ B p.block) : w'.cell? p = w.cell? p := World.cell?_of_block (h.block _ hp hn)
theorem Off.frozen {B : Nat → Prop} {w w' : World} (h : Off B w w') {p : Addr} (hp : p.block < w.heap.size) (hn : ¬ B p.block) : w'.frozen? p = w.frozen? p := World.frozen?_of_block (h.block _ hp hn)

/-! ### A sector's bytes -/
def secL (c : ByteArray) : List Value := Lib.byteCells c.data.toList
def secV (c : ByteArray) : Value := .agg (secL c).toArray
theorem secL_length (c : ByteArray) : (secL c).length = c.size := by rw [secL, Lib.byteCells_length]; rfl
theorem secL_one (c : ByteArray) : ∀ v ∈ secL c, v.oneCell' = true := Lib.byteCells_one _
theorem secL_get (c : ByteArray) (j : Nat) (hj : j < c.size) : (secL c)[j]? = some (.int .u8 (c[j]).toNat) := by
  simp only [secL, Lib.byteCells, List.getElem?_map, Array.getElem?_toList]
  rw [Array.getElem?_eq_getElem (by exact hj)]
  rfl
/-- 64 noughts. -/
def zs64 : ByteArray := ⟨Array.replicate 64 0⟩
theorem zs64_size : zs64.size = 64 := by simp [zs64, ByteArray.size]
theorem zero64 (w : World) : (zeroValue 65).run Try.prog w = .ok (secV zs64) w := by kernel_rfl
theorem info64 : (Try.prog.info? 65).map (·.size) = some 64 := by kernel_rfl
theorem row64 : Try.prog.underlying 65 = some (.array 64 5) := by kernel_rfl

/-! ### The map of what waits -/
def secD : Value → DataW Unit
  | .int q a => .lit (.int q a)
  | _ => .lit (.bool false)
def secR : Value → Option (DataW Unit × List MemPlace)
  | .agg cs => some (.agg (cs.toList.map secD), [])
  | _ => none
def secDat (c : ByteArray) : DataW Unit := .agg ((secL c).map secD)
theorem secR_sec (c : ByteArray) : secR (secV c) = some (secDat c, []) := by simp [secR, secV, secDat]
theorem secD_inj : ∀ (cs : List Value) (l : List UInt8), cs.map secD = (Lib.byteCells l).map secD → cs = Lib.byteCells l
  | [], [], _ => rfl
  | [], _ :: _, h => by simp [Lib.byteCells] at h
  | _ :: _, [], h => by simp [Lib.byteCells] at h
  | v :: cs, x :: l, h => by
    simp only [Lib.byteCells, List.map_cons, List.cons.injEq] at h ⊢
    obtain ⟨h1, h2⟩ := h
    refine ⟨?_, secD_inj cs l h2⟩
    cases v <;> simp_all [secD]
theorem secR_inv {v : Value} {c : ByteArray} {ps : List MemPlace} (h : secR v = some (secDat c, ps)) : v = secV c := by
  cases v <;> simp [secR] at h
  rename_i cs
  obtain ⟨h1, _⟩ := h
  simp only [secDat, DataW.agg.injEq] at h1
  have := secD_inj cs.toList c.data.toList h1
  rw [secV, secL, ← this]
theorem secR_agg {v : Value} {y : DataW Unit × List MemPlace} (h : secR v = some y) : ∃ cs : Array Value, v = .agg cs := by
  cases v <;> simp [secR] at h
  exact ⟨_, rfl⟩

/-- The datum of a map, by its keys. -/
structure MapV (D : DataW Unit) (f : Nat → Option ByteArray) : Prop where
  has : ∀ i : Nat, Maps.has D (.int .i64 (i : Int)) = (f i).isSome
  at_ : ∀ (i : Nat) c, f i = some c → ∀ z, D.atKey (.int .i64 (i : Int)) z = secDat c
  keys : ∀ kl, Maps.has D kl = true → ∃ i : Nat, kl = .int .i64 (i : Int)
def upd {α : Type} (f : Nat → α) (i : Nat) (x : α) : Nat → α := fun j => if j = i then x else f j
theorem upd_same {α : Type} (f : Nat → α) (i : Nat) (x : α) : upd f i x i = x := by simp [upd]
theorem upd_other {α : Type} (f : Nat → α) {i j : Nat} (x : α) (h : j ≠ i) : upd f i x j = f j := by simp [upd, h]
theorem MapV.empty : MapV (.map []) (fun _ => none) := ⟨fun i => rfl, fun i c h => (by cases h), fun kl h => (by cases h)⟩
theorem key_ne {i j : Nat} (h : j ≠ i) : (Lit.int .i64 (j : Int)) ≠ .int .i64 (i : Int) := fun e => by
  simp only [Lit.int.injEq, true_and] at e
  omega
theorem MapV.put {D : DataW Unit} {f : Nat → Option ByteArray} (h : MapV D f) (hD : IsMap D) (i : Nat) (c : ByteArray) : MapV (D.put (.int .i64 (i : Int)) (secDat c)) (upd f i (some c)) := by
  refine ⟨fun j => ?_, fun j c' hj z => ?_, fun kl hk => ?_⟩
  · by_cases e : j = i
    · subst e; rw [upd_same, has_put_same hD (show WideAt.IsKeyLit (.int .i64 (j : Int)) from trivial)]; rfl
    · rw [upd_other _ _ e, has_put_other (key_ne e), h.has]
  · by_cases e : j = i
    · subst e; rw [upd_same] at hj; cases hj; rw [atKey_put_same hD (show WideAt.IsKeyLit (.int .i64 (j : Int)) from trivial)]
    · rw [upd_other _ _ e] at hj; rw [atKey_put_other (key_ne e)]; exact h.at_ j c' hj z
  · by_cases e : kl = .int .i64 (i : Int)
    · exact ⟨i, e⟩
    · rw [has_put_other e] at hk; exact h.keys kl hk

theorem law3 : Keyed Try.prog 3 := int_keyed Try.underlying3
theorem under51 : Try.prog.underlying 50 = some (.map 3 65) := Try.underlying50
def MapIs (w : World) (b m : Nat) (f : Nat → Option ByteArray) : Prop := ∃ D, w.ownsMap Try.prog 3 secR b m D ∧ MapV D f
theorem wfI {i : Nat} (h : i < 8192) : (Lit.int .i64 (i : Int)).wf = true := WalkArith.wf_i64 (by omega)
theorem MapIs.lt {w : World} {b m : Nat} {f : Nat → Option ByteArray} (h : MapIs w b m f) : b < w.heap.size := by obtain ⟨D, h, _⟩ := h; exact h.lt
theorem MapIs.of_block {w w' : World} {b m : Nat} {f : Nat → Option ByteArray} (h : MapIs w b m f) (hb : w'.heap[b]? = w.heap[b]?) : MapIs w' b m f := by
  obtain ⟨D, ⟨es, cl, h1, h2, h3, h4⟩, hv⟩ := h
  exact ⟨D, ⟨es, cl, hb.trans h1, h2, h3, h4⟩, hv⟩
theorem MapIs.mono {w : World} {b m m' : Nat} {f : Nat → Option ByteArray} (h : MapIs w b m f) (hm : m ≤ m') : MapIs w b m' f := by
  obtain ⟨D, h, hv⟩ := h; exact ⟨D, h.mono hm, hv⟩
/-- A new map. -/
theorem MapIs.made (w : World) : MapIs (w.alloc (.map #[] 0)) w.heap.size 0 (fun _ => none) := ⟨_, World.ownsMap_made _ _ _ _, MapV.empty⟩
/-- A look-up, with and without its ok. -/
theorem MapIs.look {w : World} {b m : Nat} {f : Nat → Option ByteArray} (h : MapIs w b m f) {i : Nat} (hi : i < 8192) :
    (Instr.lookup 50 (.map (some b)) (.int .i64 (i : Int)) true).run Try.prog w = .ok (.tuple #[secV ((f i).getD zs64), .bool (f i).isSome]) w := by
  obtain ⟨D, h, hv⟩ := h
  obtain ⟨v, ps, hrun, hR⟩ := h.look_ok law3 under51 (zero64 w) (secR_sec zs64) (keyOf_int_mk Try.underlying3 (wfI hi))
  rw [hrun, hv.has]
  cases hf : f i with
  | none =>
    rw [atKey_of_not_has (by rw [hv.has, hf]; rfl)] at hR
    rw [secR_inv hR]; rfl
  | some c =>
    rw [hv.at_ i c hf] at hR
    rw [secR_inv hR]; rfl
theorem MapIs.look1 {w : World} {b m : Nat} {f : Nat → Option ByteArray} (h : MapIs w b m f) {i : Nat} (hi : i < 8192) {c : ByteArray} (hc : f i = some c) :
    (Instr.lookup 50 (.map (some b)) (.int .i64 (i : Int)) false).run Try.prog w = .ok (secV c) w := by
  obtain ⟨D, h, hv⟩ := h
  obtain ⟨v, ps, hrun, hR⟩ := h.lookup law3 under51 (zero64 w) (secR_sec zs64) (keyOf_int_mk Try.underlying3 (wfI hi))
  rw [hv.at_ i c hc] at hR
  rw [hrun, secR_inv hR]
theorem MapIs.store {w : World} {b m : Nat} {f : Nat → Option ByteArray} (h : MapIs w b m f) {i : Nat} (hi : i < 8192) (hm : m < 1000000) (c : ByteArray) :
    ∃ w', (Instr.mapUpdate 50 (.map (some b)) (.int .i64 (i : Int)) (secV c)).run Try.prog w = .ok () w' ∧ MapIs w' b (m + 1) (upd f i (some c)) ∧ w.mapTurned w' b := by
  obtain ⟨D, h, hv⟩ := h
  obtain ⟨w', h1, h2, h3⟩ := h.store law3 under51 (by unfold maxLen; omega) (keyOf_int_mk Try.underlying3 (wfI hi)) (secR_sec c)
  exact ⟨w', h1, ⟨_, h2, hv.put h.isMap i c⟩, h3⟩
theorem MapIs.clear {w : World} {b m : Nat} {f : Nat → Option ByteArray} (h : MapIs w b m f) :
    ∃ w', (∀ ty, (Builtin.clear_ #[50] ty #[.map (some b)]).run Try.prog w = .ok (.tuple #[]) w') ∧ MapIs w' b 0 (fun _ => none) ∧ w.mapTurned w' b := by
  obtain ⟨D, ⟨es, cl, h1, h2, h3, h4⟩, hv⟩ := h
  refine ⟨setBlock w b (.map #[] cl), fun ty => ?_, ⟨.map [], ⟨#[], cl, heap_setBlock_same h1 _, ⟨by simp, ⟨by simp, by simp⟩, by simp⟩, by simp, by simp⟩, MapV.empty⟩, ⟨es, cl, #[], cl, h1, rfl⟩⟩
  have hs : (setObj b (.map #[] cl)).run Try.prog w = .ok () (setBlock w b (.map #[] cl)) := by
    exact MapKept.run_setObj_map _ h1
  simp [Builtin.clear_, run_underlying under51, MapKept.run_getObj_map h1, hs, Result.andThen]
theorem Off.turned {B : Nat → Prop} {a w w' : World} {b : Nat} (h : Off B a w) (ht : w.mapTurned w' b) (hb : b < a.heap.size → B b) : Off B a w' :=
  h.grown ht.grown (fun k e hk => by cases e; exact hb hk)

/-! ### The row of sectors -/
structure SecRow (w : World) (lb n : Nat) (f : Nat → ByteArray) : Prop where
  lt : lb < w.heap.size
  at_ : ∀ i, i < n → w.rangeAt lb (i * 64) (secL (f i))
  there : ∀ i, i < n → w.there lb (i * 64) 64
  size : ∀ i, i < n → (f i).size = 64
  ty : ∃ cur fz, w.heap[lb]? = some (.cells cur 65 fz)
theorem SecRow.of_block {w w' : World} {lb n : Nat} {f : Nat → ByteArray} (h : SecRow w lb n f) (hb : w'.heap[lb]? = w.heap[lb]?) (hs : w.heap.size ≤ w'.heap.size) : SecRow w' lb n f :=
  ⟨Nat.lt_of_lt_of_le h.lt hs, fun i hi j v hv => (World.cell?_of_block (w := w) (by exact hb)).trans (h.at_ i hi j v hv),
    fun i hi j hj => ⟨by rw [World.cell?_of_block (w := w) (w' := w') (by exact hb)]; exact (h.there i hi j hj).1, by rw [World.frozen?_of_block (w := w) (w' := w') (by exact hb)]; exact (h.there i hi j hj).2⟩, h.size, by obtain ⟨cur, fz, e⟩ := h.ty; exact ⟨cur, fz, hb.trans e⟩⟩
theorem setCells_ty (b : Nat) (t : TypeId) : ∀ (vs : List Value) (o : Nat) (w : World), (∃ cur fz, w.heap[b]? = some (.cells cur t fz)) → ∃ cur fz, (w.setCells b o vs).heap[b]? = some (.cells cur t fz)
  | [], _, _, h => h
  | v :: r, o, w, h => by
    refine setCells_ty b t r (o + 1) _ ?_
    obtain ⟨cur, fz, e⟩ := h
    exact ⟨_, fz, by simp [World.setCell, Array.getElem?_modify, e]; rfl⟩
theorem SecRow.put {w : World} {lb n : Nat} {f : Nat → ByteArray} (h : SecRow w lb n f) {i : Nat} (hi : i < n) {c : ByteArray} (hc : c.size = 64) : SecRow (w.setCells lb (i * 64) (secL c)) lb n (upd f i c) := by
  have hl : (secL c).length = 64 := by rw [secL_length, hc]
  refine ⟨by rw [(setCells_facts lb (secL c) (i * 64) w).2.2.2.1]; exact h.lt, fun j hj => ?_, fun j hj => World.there_setCells (h.there j hj) _ _ _, fun j hj => ?_, setCells_ty _ _ _ _ _ h.ty⟩
  · by_cases e : j = i
    · subst e; rw [upd_same]; exact World.rangeAt_setCells_same _ _ _ _ (by rw [hl]; exact h.there j hj)
    · rw [upd_other _ _ e]
      refine World.rangeAt_setCells_apart (h.at_ j hj) _ _ _ (Or.inr ?_)
      rw [secL_length, h.size j hj, hl]
      omega
  · by_cases e : j = i
    · subst e; rw [upd_same]; exact hc
    · rw [upd_other _ _ e]; exact h.size j hj

/-! ### The disk -/
structure Dk where
  n : Nat
  sure : Nat → ByteArray
  wait : Nat → Option ByteArray
  up : Bool
  set : Bool
  left : Int
  keep : Int
  acts : Int
  downs : Int
def Dk.cells (S : Dk) (lb mb : Nat) : Array Value :=
  #[.slice (some ⟨lb, 0, none⟩) S.n S.n, .map (some mb), .bool S.up, .bool S.set, .int .i64 S.left, .int .u64 S.keep, .int .i64 S.acts, .int .i64 S.downs]
/-- What holds of every disk that New gave. -/
structure Dk.Ok (S : Dk) : Prop where
  n1 : 1 ≤ S.n
  n2 : S.n ≤ 8192
  wait : ∀ i c, S.wait i = some c → i < S.n ∧ c.size = 64
  l0 : 0 ≤ S.left
  l1 : S.left ≤ 9223372036854775807
  k0 : 0 ≤ S.keep
  k1 : S.keep ≤ 18446744073709551615
  a0 : 0 ≤ S.acts
  a1 : S.acts ≤ 1000000
  d0 : 0 ≤ S.downs
  d1 : S.downs ≤ 1000000
structure DkIs (w : World) (db lb mb m : Nat) (S : Dk) : Prop where
  blk : w.heap[db]? = some (.cells (S.cells lb mb) 54)
  row : SecRow w lb S.n S.sure
  map : MapIs w mb m S.wait
  ne : db ≠ lb
def disk3 (db lb mb : Nat) : Nat → Prop := fun k => k = db ∨ k = lb ∨ k = mb
theorem d3a (db lb mb : Nat) : disk3 db lb mb db := Or.inl rfl
theorem d3b (db lb mb : Nat) : disk3 db lb mb lb := Or.inr (Or.inl rfl)
theorem d3_not {db lb mb g n : Nat} (h1 : db < n) (h2 : lb < n) (h3 : mb < n) (hg : n ≤ g) : ¬ disk3 db lb mb g := by
  rintro (e | e | e) <;> omega
theorem d3c (db lb mb : Nat) : disk3 db lb mb mb := Or.inr (Or.inr rfl)
end Go.Proofs.Ytljedbakdlhlbaa
