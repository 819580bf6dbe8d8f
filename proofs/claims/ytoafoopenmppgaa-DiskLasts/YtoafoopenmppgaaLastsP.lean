/- The law DiskLasts, walked. -/
import Derived.Test.YtoafoopenmppgaaMostW
import Derived.Deep.Slices
namespace Go.Proofs.Ytoafoopenmppgaa
open Go.RowKit Go.Maps Go.ChangeMaps Go.Sort
set_option linter.unusedVariables false
set_option linter.unusedSimpArgs false
set_option maxRecDepth 100000
variable {w w' : World} {db lb mb m : Nat} {S : Dk}

/-- What is known of a list of texts. -/
def IsStrs (w : World) (a : Option Addr) (len : Nat) (f : Nat → ByteArray) : Prop :=
  ∀ i, i < len → ∃ b off, a = some ⟨b, off, none⟩ ∧ b < w.heap.size ∧ w.cell? ⟨b, off + i, none⟩ = some (.string (f i))
theorem open_strs {H : Type} {enc : TypeId × Value → H} {w : World} {fuel : Nat} {a : Option Addr} {len cap : Nat} {x : DataW H × List MemPlace}
    (h : DataW.trod enc Try.prog w 0 (fun _ => true) true fuel 42 [.slice a len cap] = some x) : ∃ f, IsStrs w a len f := by
  rcases Go.Deep.open_slice Try.underlying42 h with ⟨hcs, _⟩ | ⟨ad, l, c, m, n, D, Pl, hcs, _, hl, hm, hmm, _, hall⟩
  · simp at hcs
    obtain ⟨rfl, rfl, rfl⟩ := hcs
    exact ⟨fun _ => ⟨#[]⟩, fun i hi => absurd hi (by omega)⟩
  · simp at hcs
    obtain ⟨rfl, rfl, rfl⟩ := hcs
    rw [if_pos rfl] at hmm
    subst hmm
    have h9 : Try.prog.cellsOf 9 = 1 := by kernel_rfl
    have each : ∀ i, i < len → ∃ q : ByteArray, w.cell? (ad.add i) = some (.string q) := by
      intro i hi
      obtain ⟨cs', g1, g2⟩ := hall i (by omega)
      rw [h9, Nat.mul_one] at g1
      obtain ⟨_, hlen, hcell⟩ := World.cells?_some g1
      match cs', hlen with
      | [v0], _ =>
        have e0 := hcell 0 (by omega)
        obtain ⟨s, i0, _, _⟩ := DataW.trod_string Try.underlying9 g2
        simp at i0
        subst i0
        exact ⟨s, by rw [Go.Deep.add_add] at e0; simpa using e0⟩
    obtain ⟨q, hq⟩ := Go.Deep.choose_lt each
    refine ⟨q, fun i hi => ?_⟩
    obtain ⟨b, off, spot⟩ := ad
    have g0 := hq 0 (by omega)
    have hspot : spot = none := by simpa [Addr.add] using World.cell?_spot g0
    subst hspot
    have hadd : ∀ k, (⟨b, off, none⟩ : Addr).add k = ⟨b, off + k, none⟩ := fun k => by unfold Addr.add; split <;> simp_all
    have g1 := hq i hi
    rw [hadd] at g1
    exact ⟨b, off, rfl, World.block_lt_of_cell? _ _ g1, g1⟩

theorem now_wr (S : Dk) (i j : Nat) (s : ByteArray) : (wrDk S i s).now j = if j = i then pad s else S.now j := by
  by_cases h : j = i
  · subst h; simp [Dk.now, wrDk, upd_same]
  · simp [Dk.now, wrDk, upd_other _ _ h, h]
def baseF (f : Nat → ByteArray) (len i : Nat) : ByteArray := if i < len ∧ (f i).size ≤ 64 then pad (f i) else zs64
def st1 (f : Nat → ByteArray) (len k i : Nat) : ByteArray := if i < k ∧ i < len ∧ (f i).size ≤ 64 then pad (f i) else zs64
theorem st1_write {f : Nat → ByteArray} {len k : Nat} (h1 : k < len) (h2 : (f k).size ≤ 64) (i : Nat) : st1 f len (k + 1) i = if i = k then pad (f k) else st1 f len k i := by
  by_cases h : i = k
  · subst h; simp [st1, h1, h2]
  · have : i < k + 1 ↔ i < k := by omega
    simp [st1, h, this]
theorem st1_skip {f : Nat → ByteArray} {len k : Nat} (h2 : ¬ (f k).size ≤ 64) (i : Nat) : st1 f len (k + 1) i = st1 f len k i := by
  by_cases h : i = k
  · subst h; simp [st1, h2]
  · have : i < k + 1 ↔ i < k := by omega
    simp [st1, this]
theorem st1_end {f : Nat → ByteArray} {len k : Nat} (h : len ≤ k ∨ 40 ≤ k) (i : Nat) (hi : i < 40) : st1 f len k i = baseF f len i := by
  by_cases h1 : i < len
  · have : i < k := by omega
    simp [st1, baseF, h1, this]
  · simp [st1, baseF, h1]
/-- Behind the sync, and what waits then. -/
structure Sec2 (fl fm : Nat → ByteArray) (ll lm : Nat) (S : Dk) : Prop where
  n : S.n = 40
  sure : ∀ i, i < 40 → S.sure i = baseF fl ll i
  wait : ∀ i c, S.wait i = some c → i < lm ∧ (fm i).size ≤ 64 ∧ c = pad (fm i)
theorem Sec2.wr {fl fm : Nat → ByteArray} {ll lm : Nat} (h : Sec2 fl fm ll lm S) {k : Nat} (h1 : k < lm) (h2 : (fm k).size ≤ 64) : Sec2 fl fm ll lm (wrDk S k (fm k)) := by
  refine ⟨h.n, h.sure, fun i c hc => ?_⟩
  by_cases e : i = k
  · subst e
    simp only [wrDk, upd_same, Option.some.injEq] at hc
    exact ⟨h1, h2, hc.symm⟩
  · simp only [wrDk, upd_other _ _ e] at hc
    exact h.wait i c hc
theorem Sec2.loss {fl fm : Nat → ByteArray} {ll lm : Nat} (h : Sec2 fl fm ll lm S) (x : Int) (i : Nat) (hi : i < 40) : (upOff S x).now i = baseF fl ll i ∨ (i < lm ∧ (fm i).size ≤ 64 ∧ (upOff S x).now i = pad (fm i)) := by
  have e : (upOff S x).now i = lossF S.sure S.wait x i := rfl
  rw [e, lossF]
  cases hw : S.wait i with
  | none => exact Or.inl (h.sure i hi)
  | some c =>
    obtain ⟨h1, h2, h3⟩ := h.wait i c hw
    simp only
    split
    · exact Or.inr ⟨h1, h2, h3⟩
    · exact Or.inl (h.sure i hi)
def synDk (S : Dk) : Dk := { S with acts := S.acts + 1, sure := S.now, wait := fun _ => none }
theorem G.syn {k : Int} (h : G k true S) (hk : k ≤ 1000) : G (k + 1) true (synDk S) :=
  ⟨⟨h.ok.n1, h.ok.n2, fun i c h => (by cases h), h.ok.l0, h.ok.l1, h.ok.k0, h.ok.k1, by have := h.ok.a0; simp only [synDk]; omega, by have := h.acts; simp only [synDk]; omega, h.ok.d0, h.ok.d1⟩, h.up, h.set, by have := h.acts; simp only [synDk]; omega, by have := h.downs; simp only [synDk]; omega⟩
theorem Sync_calm {k : Int} (w : World) (h : DkIs w db lb mb m S) (g : G k true S) (hm : m ≤ 1000) : Calls Try.prog 17 #[.pointer (some ⟨db, 0, none⟩)] w fun e w' =>
    e = .returned (.int .i64 0) ∧ DkIs w' db lb mb m (synDk S) ∧ Off (disk3 db lb mb) w w' := by
  have := Sync_any w h g.ok (by omega)
  have ha : actE S = 0 := by simp [actE, g.set]
  have e1 : syncE S = 0 := by simp [syncE, g.up, ha]
  have e2 : syncDk S = synDk S := by simp [syncDk, g.up, ha, synDk, actDk, g.set]
  rwa [e1, e2] at this

end Go.Proofs.Ytoafoopenmppgaa
