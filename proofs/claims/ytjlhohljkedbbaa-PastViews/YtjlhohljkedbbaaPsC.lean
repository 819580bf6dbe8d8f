/- The developers' past: what a note of one that goes on makes of its maps. -/
import Derived.Test.YtjlhohljkedbbaaPsN
namespace Go.Proofs.Ytjlhohljkedbbaa.Pa
open Go.RowKit Gm Go.Maps
set_option linter.unusedVariables false
set_option linter.unusedSimpArgs false
set_option maxRecDepth 100000
/-- A transaction's keys behind a record. -/
def tks (ks : List (ByteArray × Ws)) (r : Rc) : List (ByteArray × Ws) :=
  match tellsM r, lkK ks r.ky.data.toList with
  | some x, none => ks ++ [(r.ky, x)]
  | _, _ => ks
section
variable {W W' : Nat → Prop} {w w' : World} {pb bl bw : Nat} {L : List Dv} {P : List Gn} {r : Rc} {I T : Value} {n : Int}
theorem turn_ks (g : Gn) : (g.turn r n).ks = tks g.ks r := by
  unfold Gn.turn tks
  cases tellsM r with
  | none => rfl
  | some x =>
    simp only [has_lk]
    cases lkK g.ks r.ky.data.toList <;> rfl
theorem lkK_none {ks : List (ByteArray × Ws)} {k : List UInt8} : lkK ks k = none ↔ ∀ p ∈ ks, p.1.data.toList ≠ k := by simp [lkK]
theorem tks_kn {ks : List (ByteArray × Ws)} (h : ks.Pairwise fun a b => a.1.data.toList ≠ b.1.data.toList) : (tks ks r).Pairwise fun a b => a.1.data.toList ≠ b.1.data.toList := by
  unfold tks
  split
  · rename_i x h1 h2
    rw [List.pairwise_append]
    refine ⟨h, by simp, fun a ha b hb => ?_⟩
    rw [List.mem_singleton] at hb
    subst hb
    exact lkK_none.1 h2 a ha
  · exact h
theorem nd_b (hn : L.Pairwise fun a b => a.g.txn ≠ b.g.txn ∧ a.b ≠ b.b) {a b : Dv} (ha : a ∈ L) (hb : b ∈ L) (h : a.g.txn ≠ b.g.txn) : a.b ≠ b.b := by
  induction L with
  | nil => cases ha
  | cons x L ih =>
    rw [List.pairwise_cons] at hn
    rcases List.mem_cons.1 ha with rfl | h1 <;> rcases List.mem_cons.1 hb with rfl | h2
    · exact absurd rfl h
    · exact (hn.1 b h2).2
    · exact Ne.symm (hn.1 a h1).2
    · exact ih hn.2 h1 h2
theorem DpI.on (H : DpI W w pb bl bw L) (HL : ∀ j, W j → j < w.heap.size) {d : Dv} (hd : lkD L r.tx = some d) (o : ∀ j, j < w.heap.size → j ≠ bl → j ≠ d.b → w'.heap[j]? = w.heap[j]?)
    (M1 : Mp w' 3 bl L.length (updL (fL L) (.int .i64 r.tx) (some (.int .i64 n)))) (MK : Mp w' 9 d.b (tks d.g.ks r).length (fK (tks d.g.ks r))) : DpI W w' pb bl bw (L.map (tnD r n)) := by
  obtain ⟨hm, ht⟩ := lkD_mem hd
  have hne := H.ne
  have at_ : ∀ x ∈ L, (x = d ∧ (tnD r n x).g.ks = tks d.g.ks r) ∨ (x.b ≠ d.b ∧ (tnD r n x).g = x.g) := fun x hx => by
    by_cases e : x.g.txn = r.tx
    · have e2 := lkD_of H.nd hx
      rw [e, hd] at e2
      cases e2
      exact Or.inl ⟨rfl, by simp only [tnD, tnG]; rw [if_pos e, turn_ks]⟩
    · exact Or.inr ⟨nd_b H.nd hx hm (fun e2 => e (e2.trans ht)), by simp only [tnD, tnG]; rw [if_neg e]⟩
  refine ⟨H.is.keep (o pb (HL _ H.w1.1) (H.la.ne H.is).symm ((H.ks d hm).ne H.is).symm), ?_, ?_, fun y hy => ?_, ?_, fun y hy => ?_, ⟨hne.1, fun y hy => ?_⟩, H.w1, fun y hy => ?_⟩
  · rw [List.length_map]
    exact M1.ext (fL_turn hd)
  · rw [List.length_map]
    exact (H.wa.keep (o bw (HL _ H.w1.2.2) hne.1.symm (hne.2 d hm).2.symm)).ext (fW_turn r n)
  · obtain ⟨x, hx, rfl⟩ := List.mem_map.1 hy
    rcases at_ x hx with ⟨rfl, e⟩ | ⟨e1, e2⟩
    · rw [e]; exact MK
    · rw [e2]; exact (H.ks x hx).keep (o x.b (HL _ (H.w2 x hx)) (hne.2 x hx).1 e1)
  · exact List.pairwise_map.2 (H.nd.imp fun h => ⟨by simp only [tnD, tnG_txn]; exact h.1, h.2⟩)
  · obtain ⟨x, hx, rfl⟩ := List.mem_map.1 hy
    rcases at_ x hx with ⟨rfl, e⟩ | ⟨e1, e2⟩
    · rw [e]; exact tks_kn (H.kn x hx)
    · rw [e2]; exact H.kn x hx
  · obtain ⟨x, hx, rfl⟩ := List.mem_map.1 hy
    exact hne.2 x hx
  · obtain ⟨x, hx, rfl⟩ := List.mem_map.1 hy
    exact H.w2 x hx
theorem DpI.snoc (H : DpI W w pb bl bw L) (HL : ∀ j, W j → j < w.heap.size) {t : Int} (hn : lkD L r.tx = none) {nb : Nat} (hb : w.heap.size ≤ nb) (o : ∀ j, j < w.heap.size → j ≠ bl → j ≠ bw → w'.heap[j]? = w.heap[j]?)
    (M1 : Mp w' 3 bl (L.length + 1) (updL (fL L) (.int .i64 r.tx) (some (.int .i64 n)))) (M2 : Mp w' 3 bw (L.length + 1) (updL (fW L) (.int .i64 r.tx) (some (.map (some nb))))) (MK : Mp w' 9 nb (tks [] r).length (fK (tks [] r))) :
    DpI (fun j => W j ∨ j = nb) w' pb bl bw (L ++ [⟨(zG r.tx).turn r n, nb⟩]) := by
  have hne := H.ne
  have et : ((zG r.tx).turn r n).txn = r.tx := turn_txn ..
  have el : ((zG r.tx).turn r n).last = n := turn_last ..
  have ek : ((zG r.tx).turn r n).ks = tks [] r := turn_ks ..
  have lt : ∀ j, W j → j ≠ nb := fun j hj => by have := HL j hj; omega
  refine ⟨H.is.keep (o pb (HL _ H.w1.1) (H.la.ne H.is).symm (H.wa.ne H.is).symm), ?_, ?_, fun y hy => ?_, ?_, fun y hy => ?_, ⟨hne.1, fun y hy => ?_⟩, ⟨Or.inl H.w1.1, Or.inl H.w1.2.1, Or.inl H.w1.2.2⟩, fun y hy => ?_⟩
  · rw [List.length_append]
    refine M1.ext fun l => ?_
    rw [fL_snoc (by rw [et]; exact hn)]
    simp only [et, el]
  · rw [List.length_append]
    refine M2.ext fun l => ?_
    rw [fW_snoc (by rw [et]; exact hn)]
    simp only [et]
  · rcases List.mem_append.1 hy with h | h
    · exact (H.ks y h).keep (o y.b (HL _ (H.w2 y h)) (hne.2 y h).1 (hne.2 y h).2)
    · rw [List.mem_singleton] at h
      subst h
      rw [ek]; exact MK
  · rw [List.pairwise_append]
    refine ⟨H.nd, by simp, fun a ha b hb2 => ?_⟩
    rw [List.mem_singleton] at hb2
    subst hb2
    exact ⟨by rw [et]; exact lkD_none.1 hn a ha, lt _ (H.w2 a ha)⟩
  · rcases List.mem_append.1 hy with h | h
    · exact H.kn y h
    · rw [List.mem_singleton] at h
      subst h
      rw [ek]; exact tks_kn List.Pairwise.nil
  · rcases List.mem_append.1 hy with h | h
    · exact hne.2 y h
    · rw [List.mem_singleton] at h
      subst h
      exact ⟨Ne.symm (lt _ H.w1.2.1), Ne.symm (lt _ H.w1.2.2)⟩
  · rcases List.mem_append.1 hy with h | h
    · exact Or.inl (H.w2 y h)
    · rw [List.mem_singleton] at h
      subst h
      exact Or.inr rfl
theorem noteM_on (hx : r.tx ≠ 0) (hk : ¬ (r.kd = 7 ∨ r.kd = 8)) (hn : L.Pairwise fun a b => a.g.txn ≠ b.g.txn ∧ a.b ≠ b.b) {d : Dv} (hd : lkD L r.tx = some d) : noteM (L.map (·.g)) r n = (L.map (tnD r n)).map (·.g) := by
  obtain ⟨hm, ht⟩ := lkD_mem hd
  unfold noteM
  rw [if_neg hx, if_neg hk, if_pos (fnd_lt.2 ⟨d.g, List.mem_map.2 ⟨d, hm, rfl⟩, ht⟩), modify_fnd (List.pairwise_map.2 (hn.imp fun h => h.1)), List.map_map, List.map_map]
  rfl
theorem noteM_new (hx : r.tx ≠ 0) (hk : ¬ (r.kd = 7 ∨ r.kd = 8)) (hd : lkD L r.tx = none) (nb : Nat) : noteM (L.map (·.g)) r n = (L ++ [(⟨(zG r.tx).turn r n, nb⟩ : Dv)]).map (·.g) := by
  unfold noteM
  rw [if_neg hx, if_neg hk, if_neg (lkD_some hd), List.map_append]
  rfl
end
end Go.Proofs.Ytjlhohljkedbbaa.Pa
