/- The law's own list, read; both pasts side by side. -/
import Derived.Test.YtcpbekamabooaaaPtC
import Derived.Test.YtcpbekamabooaaaPaG
import Derived.Deep.RegionHeldLaw
namespace Go.Proofs.Ytcpbekamabooaaa.Pa
open Go.RowKit Gm Go.Maps
set_option linter.unusedVariables false
set_option linter.unusedSimpArgs false
set_option maxRecDepth 100000
section
variable {W V : Nat → Prop} {w w' : World} {xb pb : Nat} {P : List Gn}
/-- The list's cells. -/
structure PlC (w : World) (pb : Nat) (a : Option Addr) (c : Nat) (P : List Gn) : Prop where
  top : w.cell? ⟨pb, 0, none⟩ = some (.slice a P.length c)
  at_ : ∀ i (hi : i < P.length), ∃ g ak ck, a = some ⟨g, 0, none⟩ ∧ w.cell? ⟨g, i * 4, none⟩ = some (.int .i64 P[i].txn) ∧ w.cell? ⟨g, i * 4 + 1, none⟩ = some (.int .i64 P[i].last) ∧ w.cell? ⟨g, i * 4 + 2, none⟩ = some (.slice ak P[i].ks.length ck) ∧
    ∀ k (hk : k < P[i].ks.length), ∃ gk, ak = some ⟨gk, 0, none⟩ ∧ w.cell? ⟨gk, k, none⟩ = some (.string P[i].ks[k].1)
theorem Pl.cells (h : Pl V w pb P) : ∃ a c, ∀ wx, Below w.heap.size w wx → PlC wx pb a c P := by
  have hlt := h.lt
  obtain ⟨v, L, h1, rfl, hz⟩ := h.ex
  obtain ⟨a, c, e, _⟩ := h1.row.sl
  rw [List.length_map] at e
  subst e
  refine ⟨a, c, fun wx hb => ?_⟩
  have h2 := h1.keep (w' := wx) fun j hj => hb.block j (hlt j hj)
  refine ⟨by rw [List.length_map]; exact h2.is.c 0, fun i hi => ?_⟩
  rw [List.length_map] at hi
  obtain ⟨g, ak, ck, aw, cw, ea, q0, q2, q3, hin⟩ := h2.in_ hi (hz i hi)
  obtain ⟨g', ea', _, q1, _⟩ := h2.at_ hi
  rw [ea] at ea'
  cases ea'
  have e1 : (L.map Gv.g)[i]'(by simpa using hi) = L[i].g := by simp
  rw [e1]
  exact ⟨g, ak, ck, ea, q0, q1, q2, fun k hk => by
    obtain ⟨gk, gw, r1, r2, r3, _⟩ := hin k hk
    exact ⟨gk, r1, r3⟩⟩
/-- Both. -/
structure Bt (w : World) (xb pb : Nat) (P : List Gn) : Prop where
  x : ∃ W, Dp W w xb P
  p : ∃ V, Pl V w pb P
theorem Bt.bel (h : Bt w xb pb P) (hb : Below w.heap.size w w') : Bt w' xb pb P := by
  obtain ⟨W, h1⟩ := h.x
  obtain ⟨V, h2⟩ := h.p
  exact ⟨⟨W, h1.bel hb⟩, ⟨V, h2.bel hb⟩⟩
theorem Bt.table (h : Bt w xb pb P) (hi : Pi P) : Calls Try.prog 15 #[.pointer (some ⟨xb, 0, none⟩)] w fun e w' => RwK w w' 64 2 e (tabP P) := by
  obtain ⟨W, h1⟩ := h.x
  exact Table_P h1 hi
theorem Bt.keys (h : Bt w xb pb P) (hi : Pi P) : Calls Try.prog 16 #[.pointer (some ⟨xb, 0, none⟩)] w fun e w' => KyR w P e w' := by
  obtain ⟨W, h1⟩ := h.x
  exact Keys_P h1 hi
structure GtW (w : World) (P : List Gn) (key : ByteArray) (e : Ending) (w' : World) : Prop where
  ex : ∃ x is, e = .returned (.tuple #[.agg (Ws.A x), .bool is]) ∧ GtO P key.data.toList x is ∧ (gF key x P).1 = is ∧ (is = true → (gF key x P).2.2 = true)
  bel : Below w.heap.size w w'
theorem Bt.get (h : Bt w xb pb P) (hi : Pi P) {key : ByteArray} (hs : key.size ≤ 9223372036854775807) : Calls Try.prog 11 #[.pointer (some ⟨xb, 0, none⟩), .string key] w fun e w' => GtW w P key e w' := by
  obtain ⟨W, h1⟩ := h.x
  refine (Get_any h1 key hs).mono ?_
  rintro e w' ⟨⟨x, is, rfl, ho⟩, hb⟩
  obtain ⟨g1, g2⟩ := get_both hi ho
  exact ⟨⟨x, is, rfl, ho, g1, g2⟩, hb⟩
theorem Bt.acts (h : Bt w xb pb P) (hi : Pi P) : Calls Try.prog 17 #[.pointer (some ⟨xb, 0, none⟩)] w fun e w' => e = .returned (.int .i64 (actsM P)) ∧ Below w.heap.size w w' := by
  obtain ⟨W, h1⟩ := h.x
  exact Acts_any h1 (by have := hi.le; omega) (fun g hg => by have := hi.kl g hg; omega)
theorem Bt.find (h : Bt w xb pb P) (hi : Pi P) (t : Int) : Calls Try.prog 20 #[.pointer (some ⟨pb, 0, none⟩), .int .i64 t] w fun e w' => e = .returned (.int .i64 (fI P t)) ∧ w' = w := by
  obtain ⟨V, h2⟩ := h.p
  exact find_any h2 t (by have := hi.le; omega)
theorem Bt.lget (h : Bt w xb pb P) (hi : Pi P) (key : ByteArray) (x : Ws) : Calls Try.prog 21 #[.pointer (some ⟨pb, 0, none⟩), .string key, .agg x.A] w fun e w' => e = .returned (.tuple #[.bool (gF key x P).1, .bool (gF key x P).2.2]) ∧ Below w.heap.size w w' := by
  obtain ⟨V, h2⟩ := h.p
  exact lget_any h2 key x (by have := hi.le; omega) (fun g hg => by have := hi.kl g hg; omega)
theorem Bt.cells (h : Bt w xb pb P) : ∃ a c, ∀ wx, Below w.heap.size w wx → PlC wx pb a c P := by
  obtain ⟨V, h2⟩ := h.p
  exact h2.cells
end
end Go.Proofs.Ytcpbekamabooaaa.Pa
