/- The law's own past: note of one that goes on and tells nothing of a key. -/
import Derived.Test.YtcpbekamabooaaaPaO
namespace Go.Proofs.Ytcpbekamabooaaa.Pa
open Go.RowKit Gm
set_option linter.unusedVariables false
set_option linter.unusedSimpArgs false
set_option maxRecDepth 100000
theorem turn_none {g : Gn} {r : Rc} {lsn : Int} (h : tellsM r = none) : g.turn r lsn = { g with last := lsn } := by unfold Gn.turn; rw [h]
theorem turn_has {g : Gn} {r : Rc} {lsn : Int} {x : Ws} (h : tellsM r = some x) (hk : g.has r.ky = true) : g.turn r lsn = { g with last := lsn } := by unfold Gn.turn; rw [h]; simp [hk]
theorem turn_new {g : Gn} {r : Rc} {lsn : Int} {x : Ws} (h : tellsM r = some x) (hk : g.has r.ky = false) : g.turn r lsn = ⟨g.txn, lsn, g.ks ++ [(r.ky, x)]⟩ := by unfold Gn.turn; rw [h]; simp [hk]
theorem note_old {P : List Gn} {r : Rc} {lsn : Int} (hx : r.tx ≠ 0) (h7 : r.kd ≠ 7) (h8 : r.kd ≠ 8) (hf : fnd P r.tx < P.length) : noteM P r lsn = P.modify (fnd P r.tx) (·.turn r lsn) := by
  unfold noteM
  rw [if_neg hx, if_neg (by omega), if_pos hf]
theorem note_more {P : List Gn} {r : Rc} {lsn : Int} (hx : r.tx ≠ 0) (h7 : r.kd ≠ 7) (h8 : r.kd ≠ 8) (hf : ¬ fnd P r.tx < P.length) : noteM P r lsn = P ++ [(zG r.tx).turn r lsn] := by
  unfold noteM
  rw [if_neg hx, if_neg (by omega), if_neg hf]
theorem map_modify {L : List Gv} {i : Nat} (hi : i < L.length) (f : Gn → Gn) {y : Gv} (hy : y.g = f L[i].g) : (L.map Gv.g).modify i f = (L.set i y).map Gv.g := by
  refine List.ext_getElem (by simp) fun j h1 h2 => ?_
  simp only [List.getElem_modify, List.getElem_map, List.getElem_set]
  split
  · rename_i e; subst e; rw [hy]
  · rfl
section
variable {W W' : Nat → Prop} {w w' : World} {pb : Nat} {v : Value} {L : List Gv} {P : List Gn} {r : Rc} {I T : Value}
/-- One that goes on is found, in note's own words. -/
theorem Pl.mid (h : Pl W w pb P) {i : Nat} (hi : i < P.length) : ∃ g c L, L.map Gv.g = P ∧ (∀ wx, Below w.heap.size w wx → Mid W w wx pb g c i L) ∧ ∀ j (hj : j < L.length), L[j].kl.length = L[j].wl.length := by
  obtain ⟨v, L, h1, rfl, hz⟩ := h.ex
  rw [List.length_map] at hi
  obtain ⟨g, c, rfl, _⟩ := h1.some (by omega)
  exact ⟨g, c, L, rfl, fun wx hb => ⟨⟨W, h1.keep fun j hj => hb.block j (h.lt j hj), fun j hj => Nat.lt_of_lt_of_le (h.lt j hj) hb.size, Fr.of_below hb W⟩, hi, fun j hj _ => hz j hj⟩, hz⟩
set_option maxHeartbeats 2000000 in
theorem note_old0 (h : Pl W w pb P) (hl : P.length ≤ 1000) (hx : r.tx ≠ 0) (h7 : r.kd ≠ 7) (h8 : r.kd ≠ 8) (ht : tellsM r = none) (hf : fnd P r.tx < P.length) (lsn : Int) : Calls Try.prog 8 #[.pointer (some ⟨pb, 0, none⟩), .agg (r.A I T), .int .i64 lsn] w fun e w' => e = .returned (.tuple #[]) ∧ NtO W w w' pb (noteM P r lsn) := by
  rw [note_old hx h7 h8 hf]
  obtain ⟨g, c, L, rfl, hM, hz⟩ := h.mid hf
  have hfl : fnd (L.map Gv.g) r.tx < L.length := by simpa using hf
  rw [map_modify hfl (·.turn r lsn) (y := { L[fnd (L.map Gv.g) r.tx] with last := lsn }) (by show _ = Gn.turn _ _ _; rw [turn_none ht]; rfl)]
  have CF : Hid (∀ wx, Below w.heap.size w wx → Calls Try.prog 20 #[.pointer (some ⟨pb, 0, none⟩), .int .i64 r.tx] wx fun e w' => e = .returned (.int .i64 (fnd (L.map Gv.g) r.tx : Int)) ∧ w' = wx) := fun wx hb => by
    have := find_any (h.bel hb) r.tx hl
    have e : fI (L.map Gv.g) r.tx = fnd (L.map Gv.g) r.tx := if_pos hf
    rw [e] at this
    exact this
  have k3 : (r.kd != 3) = true := by
    unfold tellsM at ht
    split at ht
    · cases ht
    · simpa using ‹_›
  have k4 : (r.kd != 4) = true ∧ (r.kd != 5) = true := by
    unfold tellsM at ht
    split at ht
    · cases ht
    · split at ht
      · cases ht
      · simp only [bne_iff_ne, ne_eq]; omega
  obtain ⟨kd, tx, pv, pg, ac, ky, ol, nw, nx, ep, nd⟩ := r
  obtain ⟨k4, k5⟩ := k4
  have hx : ¬ tx = 0 := hx
  have e7 : (kd == 7) = false := by simpa using h7
  have e8 : (kd == 8) = false := by simpa using h8
  simp only at k3 k4 k5 CF hf hfl ⊢
  generalize fnd (L.map Gv.g) tx = i at *
  have hiI : (i : Int) < (L.length : Int) := by omega
  have hi0 : ¬ (i : Int) < 0 := by omega
  have HM : Hid (∀ wx, Below w.heap.size w wx → Mid W w wx pb g c i L) := hM
  have HZ : Hid (L[i].kl.length = L[i].wl.length) := hz i hfl
  have HF : Hid (i < L.length) := hfl
  clear h hM hz ht h7 h8 hf
  go_enter Try.func8, Try.ntmps8
  go_wp2_with (first
    | (refine wpList_box_at (A := Rc.A ⟨kd, tx, pv, pg, ac, ky, ol, nw, nx, ep, nd⟩ I T) _ rfl _ rfl rfl ?_; intro w1 b1 N1; have c1 : w1.cell? ⟨b1, 1, none⟩ = some (.int .i64 tx) := N1.is.c 1; have c0 : w1.cell? ⟨b1, 0, none⟩ = some (.int .i64 kd) := N1.is.c 0; obtain ⟨p0, q1, q2, q3, qf⟩ := (HM.out _ N1.bel).cells HF.out; have f1 := qf (i * 4 + 1))
    | (go_at_call 20; refine (CF.out _ N1.bel).mono ?_; rintro e w2 ⟨rfl, rfl⟩)
    | (refine wpList_set1 (v := .int .i64 lsn) _ rfl 3 (.tmp 74) (.tmp 72) rfl rfl rfl q1 f1 rfl (by kernel_rfl) ?_; intro w4 e4; have M4 : Hid _ := (HM.out _ N1.bel).last HF.out lsn; have r4 : Hid _ := (HM.out _ N1.bel).off N1.is (by decide) (i * 4 + 1) (.int .i64 lsn); rw [← e4] at M4 r4; have d0 : w4.cell? ⟨b1, 0, none⟩ = some (.int .i64 kd) := r4.out.c 0; clear e4))
  refine bodyPost_ret (results_none rfl _ _ _) rfl ?_
  have q := M4.out.done M4.out.hi (by rw [List.getElem_set_self]; exact HZ.out)
  rw [List.map_set] at q
  exact ⟨rfl, q⟩
end
end Go.Proofs.Ytcpbekamabooaaa.Pa
