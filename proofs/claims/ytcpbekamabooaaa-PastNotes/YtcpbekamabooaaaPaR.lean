/- The law's own past: note of one that goes on no more. -/
import Derived.Test.YtcpbekamabooaaaPaN
namespace Go.Proofs.Ytcpbekamabooaaa.Pa
open Go.RowKit Gm
set_option linter.unusedVariables false
set_option linter.unusedSimpArgs false
set_option maxRecDepth 100000
section
variable {W W' : Nat → Prop} {w w' : World} {pb : Nat} {v : Value} {L : List Gv} {P : List Gn} {r : Rc} {I T : Value}
theorem PlI.ones (h : PlI W w pb v L) (M : List Gv) (hM : ∀ x ∈ M, x ∈ L) : (∀ d ∈ M.map Gv.c, d.length = 4) ∧ ∀ u ∈ (M.map Gv.c).flatten, u.oneCell' = true := by
  refine ⟨fun d hd => ?_, fun u hu => ?_⟩
  · obtain ⟨x, _, rfl⟩ := List.mem_map.1 hd
    rfl
  · obtain ⟨d, hd, hu⟩ := List.mem_flatten.1 hu
    obtain ⟨x, hx, rfl⟩ := List.mem_map.1 hd
    obtain ⟨i, hi, rfl⟩ := List.getElem_of_mem (hM x hx)
    simp [Gv.c] at hu
    rcases hu with rfl | rfl | rfl | rfl
    · rfl
    · rfl
    · exact (h.ks i hi).one
    · exact (h.ws i hi).one
theorem gone_done {w5 : World} {v5 : Value} {i : Nat} (h : PlI W w pb v L) (hlt : ∀ j, W j → j < w.heap.size) (hz : ∀ i (hi : i < L.length), L[i].kl.length = L[i].wl.length) (hi : i < L.length) (hb : Below w.heap.size w w5) (hr : Row w5 62 4 v5 ((L.eraseIdx i).map Gv.c)) (hv : ∀ g, v5.ownBlock = some g → w.heap.size ≤ g) :
    NtO W w (w5.setCell ⟨pb, 0, none⟩ v5) pb ((L.map Gv.g).eraseIdx i) := by
  have hp : pb < w.heap.size := hlt _ h.w1
  have ho : ∀ j, j ≠ pb → (w5.setCell ⟨pb, 0, none⟩ v5).heap[j]? = w5.heap[j]? := fun j hj => Below.heap_setCell w5 _ v5 j hj
  have hlen : (L.eraseIdx i).length = L.length - 1 := List.length_eraseIdx_of_lt hi
  have hs : (w5.setCell ⟨pb, 0, none⟩ v5).heap.size = w5.heap.size := by simp [World.setCell]
  have hget : ∀ j (hj : j < (L.eraseIdx i).length), (L.eraseIdx i)[j] = L[if j < i then j else j + 1]'(by split <;> omega) := fun j hj => by
    rw [List.getElem_eraseIdx]
    split <;> rfl
  refine ⟨fun j => W j ∨ v5.ownBlock = some j, ⟨⟨v5, L.eraseIdx i, h.part (fun j => if j < i then j else j + 1) (fun j hj => by split <;> omega) hget (fun j k hj hk e => by split at e <;> split at e <;> omega) (fun j hj => Or.inl hj) (fun j hj hne => (ho j hne).trans (hb.block j (hlt j hj))) ?_ (hr.keep fun g e => ho g (by have := hv g e; omega)) (fun g e => Or.inr e), ?_, fun j hj => ?_⟩, fun j hj => ?_⟩, ?_⟩
  · have := (h.is.bel hb).set 0 v5
    exact this
  · rw [List.eraseIdx_eq_take_drop_succ, List.eraseIdx_eq_take_drop_succ, List.map_append, List.map_take, List.map_drop]
  · rw [hget j hj]
    exact hz _ _
  · rw [hs]
    rcases hj with hj | hj
    · exact Nat.lt_of_lt_of_le (hlt j hj) hb.size
    · exact hr.lt hj
  · refine ⟨hb.os, hb.tape, hb.output, by rw [hs]; exact hb.size, fun j hj hn => (ho j (fun e => hn (e ▸ h.w1))).trans (hb.block j hj), fun j hj => hj.imp id (hv j)⟩
set_option maxHeartbeats 12000000 in
theorem note_gone (h : Pl W w pb P) (hl : P.length ≤ 1000) (hx : r.tx ≠ 0) (hk : r.kd = 7 ∨ r.kd = 8) (hf : fnd P r.tx < P.length) (lsn : Int) : Calls Try.prog 8 #[.pointer (some ⟨pb, 0, none⟩), .agg (r.A I T), .int .i64 lsn] w fun e w' => e = .returned (.tuple #[]) ∧ NtO W w w' pb (P.eraseIdx (fnd P r.tx)) := by
  obtain ⟨kd, tx, pv, pg, ac, ky, ol, nw, nx, ep, nd⟩ := r
  have hx : ¬ tx = 0 := hx
  have hk : kd = 7 ∨ kd = 8 := hk
  have CF : Hid (∀ wx, Below w.heap.size w wx → Calls Try.prog 20 #[.pointer (some ⟨pb, 0, none⟩), .int .i64 tx] wx fun e w' => e = .returned (.int .i64 (fnd P tx : Int)) ∧ w' = wx) := fun wx hb => by
    have := find_any (h.bel hb) tx hl
    have e : fI P tx = fnd P tx := if_pos hf
    rw [e] at this
    exact this
  have HLT : Hid (∀ j, W j → j < w.heap.size) := h.lt
  obtain ⟨v, L, h1, rfl, hz⟩ := h.ex
  rw [List.length_map] at hf hl
  have hf : fnd (L.map Gv.g) tx < L.length := hf
  generalize fnd (L.map Gv.g) tx = i at *
  obtain ⟨g, c, rfl, hc⟩ := h1.some (by omega)
  have H : Hid (∀ wx, Below w.heap.size w wx → PlI W wx pb (.slice (some ⟨g, 0, none⟩) L.length c) L) := fun wx hb => h1.keep fun j hj => hb.block j (HLT.out j hj)
  have HZ : Hid (∀ i (hi : i < L.length), L[i].kl.length = L[i].wl.length) := hz
  have HI : Hid (((L.take i).map Gv.c).length = i) := (by simp; omega : ((L.take i).map Gv.c).length = i)
  have HJ : Hid (([] : List (List Value)).length + ((L.take i).map Gv.c).length ≤ 100000) := (by simp; omega : ([] : List (List Value)).length + ((L.take i).map Gv.c).length ≤ 100000)
  have HA : Hid (∀ wx, Below w.heap.size w wx → (∀ d ∈ (L.take i).map Gv.c, d.length = 4) ∧ ∀ u ∈ ((L.take i).map Gv.c).flatten, u.oneCell' = true) := fun wx hb => (H.out wx hb).ones _ (fun x hx => List.mem_of_mem_take hx)
  have HC : Hid (∀ wx, Below w.heap.size w wx → ∀ j u, ((L.take i).map Gv.c).flatten[j]? = some u → wx.cell? ⟨g, 0 + j, none⟩ = some u) := fun wx hb j u hu => by
    have := (H.out wx hb).row.seg (A := []) (M := (L.take i).map Gv.c) (R := (L.drop i).map Gv.c) (by rw [List.nil_append, ← List.map_append, List.take_append_drop]) j u hu
    simpa using this
  have HB : Hid (∀ (w3 w4 : World) (b n : Nat) (v' : Value) (M : List (List Value)), Below w.heap.size w w3 → w.heap.size ≤ b → App w3 w4 62 4 (.slice (some ⟨b, 0, none⟩) n n) v' M → Below w.heap.size w w4) := fun w3 w4 b n v' M h1 h2 h3 => h1.trans (h3.bel (fun g e => by cases e; exact h2) h1.size)
  have HV : Hid (∀ (w3 w4 : World) (b n : Nat) (v' : Value) (M : List (List Value)), Below w.heap.size w w3 → w.heap.size ≤ b → App w3 w4 62 4 (.slice (some ⟨b, 0, none⟩) n n) v' M → Hid (∀ g, v'.ownBlock = some g → w.heap.size ≤ g)) := fun w3 w4 b n v' M h1 h2 h3 g e => by
    rcases h3.own with e2 | e2
    · rw [e] at e2; cases e2; exact h2
    · rw [e] at e2; cases e2; exact h1.size
  have HG : Hid (∀ (w4 w5 : World) (v v' : Value) (M : List (List Value)), Below w.heap.size w w4 → (∀ g, v.ownBlock = some g → w.heap.size ≤ g) → App w4 w5 62 4 v v' M → Below w.heap.size w w5 ∧ ∀ g, v'.ownBlock = some g → w.heap.size ≤ g) := fun w4 w5 v v' M h1 h2 h3 => ⟨h1.trans (h3.bel h2 h1.size), fun g e => by
    rcases h3.own with e2 | e2
    · exact h2 g (e2.symm.trans e)
    · rw [e] at e2; cases e2; exact h1.size⟩
  have HI2 : Hid (((L.drop (i + 1)).map Gv.c).length = L.length - (i + 1)) := (by simp : ((L.drop (i + 1)).map Gv.c).length = L.length - (i + 1))
  have HJ2 : Hid (((L.take i).map Gv.c).length + ((L.drop (i + 1)).map Gv.c).length ≤ 100000) := (by simp; omega : ((L.take i).map Gv.c).length + ((L.drop (i + 1)).map Gv.c).length ≤ 100000)
  have HA2 : Hid (∀ wx, Below w.heap.size w wx → (∀ d ∈ (L.drop (i + 1)).map Gv.c, d.length = 4) ∧ ∀ u ∈ ((L.drop (i + 1)).map Gv.c).flatten, u.oneCell' = true) := fun wx hb => (H.out wx hb).ones _ (fun x hx => List.mem_of_mem_drop hx)
  have HC2 : Hid (∀ wx, Below w.heap.size w wx → ∀ j u, ((L.drop (i + 1)).map Gv.c).flatten[j]? = some u → wx.cell? ⟨g, (if c = i + 1 then 0 else (i + 1) * 4) + j, none⟩ = some u) := fun wx hb j u hu => by
    by_cases hcc : c = i + 1
    · have : L.drop (i + 1) = [] := List.drop_eq_nil_of_le (by omega)
      rw [this] at hu
      simp at hu
    · rw [if_neg hcc]
      have := (H.out wx hb).row.seg (A := (L.take (i + 1)).map Gv.c) (M := (L.drop (i + 1)).map Gv.c) (R := []) (by rw [List.append_nil, ← List.map_append, List.take_append_drop]) j u hu
      rw [List.length_map, List.length_take, Nat.min_eq_left (by omega)] at this
      exact this
  have hi0 : (0 : Int) ≤ (i : Int) := by omega
  have hic : (i : Int) ≤ (c : Int) := by omega
  have hw1 : IntKind.i64.wrap ((i : Int) + 1) = (i : Int) + 1 := by rw [IntKind.wrap_i64]; omega
  have hj0 : (0 : Int) ≤ (i : Int) + 1 := by omega
  have hj1 : (i : Int) + 1 ≤ (L.length : Int) := by omega
  clear h h1 hz
  rcases hk with rfl | rfl <;> by_cases hcc : c = i + 1
  all_goals
    first | (subst hcc; rw [if_pos rfl] at HC2; have e0 : L.length - (i + 1) = 0 := (by omega); rw [e0] at HI2; clear e0) | rw [if_neg hcc] at HC2
    go_enter Try.func8, Try.ntmps8
    go_wp2_with (first
      | (refine wpList_box_at (A := Rc.A ⟨_, tx, pv, pg, ac, ky, ol, nw, nx, ep, nd⟩ I T) _ rfl _ rfl rfl ?_; intro w1 b1 N1; have c1 : w1.cell? ⟨b1, 1, none⟩ = some (.int .i64 tx) := N1.is.c 1; have c0 := N1.is.c 0; simp only [Rc.A] at c0)
      | (go_at_call 20; refine (CF.out _ N1.bel).mono ?_; rintro e w2 ⟨rfl, rfl⟩)
      | (refine wpList_build0 _ rfl rfl bG0 ?_; intro w3 b3 N3; have B3 : Hid (Below w.heap.size w w3) := thn N1.bel N3.bel; have p0 := (H.out _ B3.out).is.c 0)
      | (have := A4; refine wpList_append elG (w := w4) rfl (.tmp 35) (.tmp 42) rfl (M := (L.drop (i + 1)).map Gv.c) rfl R4.out rfl HI2.out (HA2.out _ B4.out).1 (HC2.out _ B4.out) (HA2.out _ B4.out).2 HJ2.out ?_; intro a5 c5 w5 a5'; have G5 := HG.out _ _ _ _ _ B4.out V4.out a5'; have p5 := (H.out _ G5.1).is.c 0; have f5 := (H.out _ G5.1).is.f 0; have A5 : Hid _ := a5'.row; have GG : Hid _ := G5; clear a5' G5)
      | (refine wpList_append elG (w := w3) rfl (.tmp 27) (.tmp 33) rfl (M := (L.take i).map Gv.c) rfl (Row.empty N3.is) rfl HI.out (HA.out _ B3.out).1 (HC.out _ B3.out) (HA.out _ B3.out).2 HJ.out ?_; intro a4 c4 w4 a4'; have B4 : Hid (Below w.heap.size w w4) := HB.out _ _ _ _ _ _ B3.out (by rw [N3.eq]; exact N1.bel.size) a4'; have p4 := (H.out _ B4.out).is.c 0; have V4 : Hid (∀ g, (Value.slice a4 i c4).ownBlock = some g → w.heap.size ≤ g) := fun g e => HV.out _ _ _ _ _ _ B3.out (by rw [N3.eq]; exact N1.bel.size) a4' g (by cases a4 <;> exact e); have R4 : Hid (Row w4 62 4 (.slice a4 i c4) ((L.take i).map Gv.c)) := (by have := a4'.row; simpa using this : Row w4 62 4 (.slice a4 i c4) ((L.take i).map Gv.c)); have A4 : Hid True := trivial; clear a4'))
    refine bodyPost_ret (results_none rfl _ _ _) rfl ?_
    refine ⟨rfl, ?_⟩
    have q := A5.out
    rw [← List.map_append, ← List.eraseIdx_eq_take_drop_succ] at q
    simp only [List.length_map, List.length_take, Nat.add_zero] at q
    exact gone_done (H.out w (Below.refl _ _)) HLT.out HZ.out hf GG.out.1 q fun g e => GG.out.2 g (by cases a5 <;> exact e)
end
end Go.Proofs.Ytcpbekamabooaaa.Pa
