/- The law's own past: note. -/
import Derived.Test.YtcpbekamabooaaaPaG
import Derived.Deep.RegionLaw
namespace Go.Proofs.Ytcpbekamabooaaa.Pa
open Go.RowKit Gm
set_option linter.unusedVariables false
set_option linter.unusedSimpArgs false
set_option maxRecDepth 100000
theorem elG : El 26 62 4 (.agg #[.int .i64 0, .int .i64 0, .slice none 0 0, .slice none 0 0]) := ⟨Try.underlying26, by
  obtain ⟨i, h1, h2, h3, h4⟩ := info_parts (show (Try.prog.info? 62).map (fun i => (i.zero, i.size, i.bytes)) = some (some (.agg #[.int .i64 0, .int .i64 0, .slice none 0 0, .slice none 0 0]), 4, 64) by kernel_rfl)
  exact ⟨i, h1, h2, h3, by omega⟩, rfl, by omega⟩
theorem elS : El 53 9 1 (.string ⟨#[]⟩) := ⟨Try.underlying53, by
  obtain ⟨i, h1, h2, h3, h4⟩ := info_parts (show (Try.prog.info? 9).map (fun i => (i.zero, i.size, i.bytes)) = some (some (.string ⟨#[]⟩), 1, 16) by kernel_rfl)
  exact ⟨i, h1, h2, h3, by omega⟩, rfl, by omega⟩
theorem elW : El 60 39 2 (.agg zW.A) := ⟨Try.underlying60, by
  obtain ⟨i, h1, h2, h3, h4⟩ := info_parts (show (Try.prog.info? 39).map (fun i => (i.zero, i.size, i.bytes)) = some (some (.agg zW.A), 2, 24) by kernel_rfl)
  exact ⟨i, h1, h2, h3, by omega⟩, rfl, by omega⟩
theorem bG (t : Int) (w : World) : (Instr.buildSlice 26 1 #[(0, .agg #[.int .i64 t, .int .i64 0, .slice none 0 0, .slice none 0 0])]).run Try.prog w = .ok (.slice (some ⟨w.heap.size, 0, none⟩) 1 1) (w.alloc (.cells #[.int .i64 t, .int .i64 0, .slice none 0 0, .slice none 0 0] 62)) := by kernel_rfl
theorem bG0 (w : World) : (Instr.buildSlice 26 0 #[]).run Try.prog w = .ok (.slice (some ⟨w.heap.size, 0, none⟩) 0 0) (w.alloc (.cells #[] 62)) := by kernel_rfl
theorem bS (k : ByteArray) (w : World) : (Instr.buildSlice 53 1 #[(0, .string k)]).run Try.prog w = .ok (.slice (some ⟨w.heap.size, 0, none⟩) 1 1) (w.alloc (.cells #[.string k] 9)) := by kernel_rfl
theorem bW (x : Ws) (w : World) : (Instr.buildSlice 60 1 #[(0, .agg x.A)]).run Try.prog w = .ok (.slice (some ⟨w.heap.size, 0, none⟩) 1 1) (w.alloc (.cells x.A 39)) := by kernel_rfl
/-- What note leaves. -/
structure NtO (W : Nat → Prop) (w w' : World) (pb : Nat) (P : List Gn) : Prop where
  ex : ∃ W', Pl W' w' pb P ∧ Fr W W' w w'
section
variable {W W' : Nat → Prop} {w w' : World} {pb : Nat} {v : Value} {L : List Gv} {P : List Gn} {r : Rc} {I T : Value}
theorem note_zero (h : Pl W w pb P) (hx : r.tx = 0) (lsn : Int) : Calls Try.prog 8 #[.pointer (some ⟨pb, 0, none⟩), .agg (r.A I T), .int .i64 lsn] w fun e w' => e = .returned (.tuple #[]) ∧ NtO W w w' pb P := by
  have H : Hid (Pl W w pb P) := h
  obtain ⟨kd, tx, pv, pg, ac, ky, ol, nw, nx, ep, nd⟩ := r
  obtain rfl : tx = 0 := hx
  clear h
  go_enter Try.func8, Try.ntmps8
  go_wp2_with (refine wpList_box_at (A := Rc.A ⟨kd, 0, pv, pg, ac, ky, ol, nw, nx, ep, nd⟩ I T) _ rfl _ rfl rfl ?_; intro w1 b1 N1; have c1 : w1.cell? ⟨b1, 1, none⟩ = some (.int .i64 0) := N1.is.c 1)
  refine bodyPost_ret (results_none rfl _ _ _) rfl ?_
  exact ⟨rfl, W, H.out.bel N1.bel, Fr.of_below N1.bel W⟩
/-- It went on, and goes on no more; or it did not. -/
theorem note_none (h : Pl W w pb P) (hl : P.length ≤ 1000) (hx : r.tx ≠ 0) (hk : r.kd = 7 ∨ r.kd = 8) (hf : ¬ fnd P r.tx < P.length) (lsn : Int) : Calls Try.prog 8 #[.pointer (some ⟨pb, 0, none⟩), .agg (r.A I T), .int .i64 lsn] w fun e w' => e = .returned (.tuple #[]) ∧ NtO W w w' pb P := by
  have H : Hid (Pl W w pb P) := h
  obtain ⟨kd, tx, pv, pg, ac, ky, ol, nw, nx, ep, nd⟩ := r
  have CF : Hid (∀ wx, Below w.heap.size w wx → Calls Try.prog 20 #[.pointer (some ⟨pb, 0, none⟩), .int .i64 tx] wx fun e w' => e = .returned (.int .i64 (-1)) ∧ w' = wx) := fun wx hb => by
    have := find_any (h.bel hb) tx hl
    have e : fI P tx = -1 := if_neg hf
    rw [e] at this
    exact this
  have hx : ¬ tx = 0 := hx
  have hk : kd = 7 ∨ kd = 8 := hk
  clear h hf
  rcases hk with rfl | rfl
  all_goals
    go_enter Try.func8, Try.ntmps8
    go_wp2_with (first
      | (refine wpList_box_at (A := Rc.A ⟨_, tx, pv, pg, ac, ky, ol, nw, nx, ep, nd⟩ I T) _ rfl _ rfl rfl ?_; intro w1 b1 N1; have c1 : w1.cell? ⟨b1, 1, none⟩ = some (.int .i64 tx) := N1.is.c 1; have c0 := N1.is.c 0; simp only [Rc.A] at c0)
      | (go_at_call 20; refine (CF.out _ N1.bel).mono ?_; rintro e w2 ⟨rfl, rfl⟩))
    refine bodyPost_ret (results_none rfl _ _ _) rfl ?_
    exact ⟨rfl, W, H.out.bel N1.bel, Fr.of_below N1.bel W⟩
theorem PlI.some (h : PlI W w pb v L) (hl : 0 < L.length) : ∃ g c, v = .slice (some ⟨g, 0, none⟩) L.length c ∧ L.length ≤ c := by
  obtain ⟨a, c, e, hc⟩ := h.row.sl
  rw [List.length_map] at e hc
  subst e
  obtain ⟨g, rfl, _⟩ := h.at_ hl
  exact ⟨g, c, rfl, hc⟩
end
end Go.Proofs.Ytcpbekamabooaaa.Pa
