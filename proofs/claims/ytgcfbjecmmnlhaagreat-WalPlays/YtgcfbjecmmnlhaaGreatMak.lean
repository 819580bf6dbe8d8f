/- Read, Records. Records: a slice of records of the call's own. Records. A log and what stands on its disk: ONE predicate, and what each call makes of it. The law's few: a record of at most 2 images, and of at most 3 transactions. The law's awake: chapter 8's example. The law's awake is true. Slices of records that a law is handed; what appending one of them comes to. Slices of strings of the law's own, beside a log. WalStale: the law's log and its calls. Read where no frame is whole; behind; From. WalReads: the law's plain record of what was appended, how many bytes it has, and whether From tells what it should. -/
import Derived.Test.YtgcfbjecmmnlhaaGreatMaj
import Derived.Test.YtgcfbjecmmnlhaaGreatMae
namespace Go.Proofs.YtgcfbjecmmnlhaaGreat
open Go.RowKit Go.Maps Go.ChangeMaps
set_option linter.unusedVariables false
set_option linter.unusedSimpArgs false
set_option maxRecDepth 100000

/-- Blocks of records. -/
def isR : Obj → Prop
  | .cells _ t _ => t = 37
  | _ => False
section
variable {B l k db bs sc run dur : Nat} {w w' w0 w1 w2 w5 w6 : World} {S S' : Dk} {fs gs : List ByteArray} {dead : Bool} {R : Lr} {A : Obj → Prop}
theorem Lx.keptR (h : Lx B w l k S R) {B' : Nat} (hb : Kp isR B' w w') : Lx B w' l k S R := by
  obtain ⟨lb, mb, m, d1, d2, d3, d4⟩ := h.d.dsk
  obtain ⟨p, v, pv, h1, h2, h3, h4⟩ := h.g.ex
  have e1 : w'.heap[lb]? = w.heap[lb]? := by
    obtain ⟨cur, fz, e2⟩ := d1.row.ty
    rw [e2]; exact hb.block _ _ e2 (by simp [isR])
  have e3 : w'.heap[mb]? = w.heap[mb]? := by
    obtain ⟨es, c, e2⟩ := d1.map.is
    rw [e2]; exact hb.block _ _ e2 (by simp [isR])
  refine ⟨⟨⟨lb, mb, m, ⟨hb.block _ _ d1.blk (by simp [isR]), d1.row.of_block e1 hb.size, d1.map.of_block e3, d1.ne⟩, d2, d3, d4⟩, h.d.q, h.d.hd, Nat.le_trans h.d.lt hb.size⟩, ?_⟩
  exact ⟨⟨p, v, pv, hb.block l _ h1 (by simp [isR]), h2, ownF_of h3 (fun k cur fz e => hb.block k _ e (by simp [isR])), h4.of_block (fun k cur fz e => hb.block k _ e (by simp [isR]))⟩, h.g.ge, Nat.le_trans h.g.le hb.size⟩
theorem put_kp {b : Nat} {s0 s : Sc} {I0 T0 I T : Value} (hr : RcAt w b s0 I0 T0) (P : PutR w w' b s I T) (hB : B ≤ b) (hw : B ≤ w.heap.size) : Kp isR B w w' := by
  refine ⟨P.below hB hw, fun j o e hn => ?_⟩
  refine (P.off.block j (lt_of_some e) (fun e2 => ?_)).trans e
  subst e2
  rw [hr.blk] at e
  cases e
  exact hn rfl
theorem Kp.putR {b : Nat} {s : Sc} {I T : Value} (h : Kp A B w w5) (P : PutR w5 w6 b s I T) (hb : w.heap.size ≤ b) (hB : B ≤ w.heap.size) : Kp A B w w6 :=
  ⟨h.bel.trans (P.below (Nat.le_trans hB hb) (Nat.le_trans hB h.size)), fun j o e hn => (P.off.block j (lt_of_some (h.block j o e hn)) (fun e2 => by have := lt_of_some e; omega)).trans (h.block j o e hn)⟩
set_option maxHeartbeats 2000000 in
theorem read_ok (h : Lx B w l k S (lgR db bs sc run fs dur dead)) (hf : Fit sc fs) (x : Int) (hx1 : 1 ≤ x) (hx2 : x < ((cat fs).size : Int) + 1) {m : Rm} {n : Int} (ho : openM (cat fs) (x - 1) = (m, n, 0)) (hn0 : 0 ≤ n) (hn1 : n ≤ 1000000) :
    Calls Tryz.prog 34 #[.pointer (some ⟨l, 0, none⟩), .int .i64 x] w fun e w' => (∃ v, e = .returned (.tuple #[v, .int .i64 (x + n), .int .i64 0]) ∧ RecF w' v m w.heap.size) ∧ Lx B w' l k S (lgR db bs sc run fs dur dead) ∧ Kp isL B w w' ∧ Ce w w' := by
  have h1 := hf.sz
  have h2 := hf.s1
  have CI : Hid (∀ wx, Below w.heap.size w wx → Calls Tryz.prog 54 #[.pointer (some ⟨l, 0, none⟩)] wx fun e w' => e = .returned (.bool true) ∧ w' = wx) := fun wx hx => isOpen_any (h.below hx).g
  have CE : Hid (∀ wx, Below w.heap.size w wx → Calls Tryz.prog 24 #[.pointer (some ⟨l, 0, none⟩)] wx fun e w' => e = .returned (.int .i64 (((cat fs).size : Int) + 1)) ∧ w' = wx) := fun wx hx => End_any (h.below hx).g (by show (cat fs).size ≤ 1000000; omega)
  have CS : Hid (∀ wx, Below w.heap.size w wx → Calls Tryz.prog 57 #[.pointer (some ⟨l, 5, none⟩)] wx fun v w' => v = .returned (.string (cat fs)) ∧ Lx B w' l k S (lgR db bs sc run fs dur dead) ∧ Kp isL B wx w' ∧ Ce wx w') := fun wx hx => by
    refine (String_log2 (h.below hx).g).mono ?_
    rintro v w' ⟨hv, g1, k1, q1⟩
    exact ⟨hv, (h.below hx).kept rfl g1 k1, k1, q1⟩
  have CO : Hid (∀ wx, Calls Tryz.prog 31 #[.string (cat fs), .int .i64 (x - 1)] wx fun e w' => (∃ v, e = .returned (.tuple #[v, .int .i64 n, .int .i64 0]) ∧ RecF w' v m wx.heap.size) ∧ Below wx.heap.size wx w') := fun wx => by
    have := Open_any (w := wx) (cat fs) (x - 1) (by omega)
    rw [ho] at this
    exact this
  have hle := h.le
  have t1 : ¬ x < 1 := by omega
  have t2 : ¬ ((cat fs).size : Int) + 1 ≤ x := by omega
  have hxb : x ≤ 1000000 := by omega
  clear h hf h1 h2 ho
  generalize ((cat fs).size : Int) + 1 = E at *
  generalize hT : cat fs = t at CS CO
  clear hT
  obtain ⟨s9, l9, g9⟩ := m
  have hw1 : IntKind.i64.wrap (x - 1) = x - 1 := by rw [IntKind.wrap_i64]; omega
  have hw2 : IntKind.i64.wrap (x + n) = x + n := by rw [IntKind.wrap_i64]; omega
  go_enter Tryz.func34, Tryz.ntmps34
  go_wp2_with (first
    | (have := N1; refine wpList_new_rc _ rfl rfl ?_; intro w4 b7 N7)
    | (refine wpList_new_rc _ rfl rfl ?_; intro w1 b4 N1)
    | (go_at_call 54; refine (CI.out _ N1.below).mono ?_; rintro e w9 ⟨rfl, rfl⟩)
    | (go_at_call 24; refine (CE.out _ N1.below).mono ?_; rintro e w8 ⟨rfl, rfl⟩)
    | (go_at_call 57; refine (CS.out _ N1.below).mono ?_; rintro e w2 ⟨rfl, H2, k2, ce2⟩; have rc2 : RcAt w2 b4 zS nilV nilV := ⟨k2.block _ _ N1.rc.blk (by simp [isL])⟩)
    | (go_at_call 31; refine (CO.out _).mono ?_; rintro e w3 ⟨⟨v, rfl, hv⟩, b3⟩; have rc3 := rc2.below b3; obtain ⟨I, T, rfl, hI, hT⟩ := hv.ex; dsimp only at hI hT)
    | (refine wpList_at (Op.store 37 (.tmp 7) (.tmp 31)) rfl ?_; refine wpList_put_rc (s' := s9) (I' := I) (T' := T) _ rfl (.tmp 7) (.tmp 31) rfl rfl rfl N7.rc hI.slI.one hT.slT.one ?_; intro w5 P7; have b35 : Below w3.heap.size w3 w5 := N7.below.trans (P7.below (by have := N7.eq; omega) N7.below.size); have rc5 := rc3.below b35; have I5 := hI.below b35; have T5 := hT.below b35)
    | (refine wpList_load_rc _ rfl (.tmp 7) rfl rfl P7.rc ?_)
    | (refine wpList_at (Op.store 37 (.tmp 4) (.tmp 38)) rfl ?_; refine wpList_put_rc (s' := s9) (I' := I) (T' := T) _ rfl (.tmp 4) (.tmp 38) rfl rfl rfl rc5 hI.slI.one hT.slT.one ?_; intro w6 P6))
  refine bodyPost_ret (results_rc3 rfl _ _ rfl P6.rc) rfl ?_
  have e4 := N1.eq
  have z4 := N1.rc.lt
  have b25 : Below w2.heap.size w2 w5 := thn b3 b35
  have K5 : Kp isL B w w5 := ((Kp.of_below N1.below hle).trans k2).below b25 hle
  have H5 := H2.below b25
  have hk2 := k2.size
  refine ⟨⟨_, rfl, I, T, rfl, (I5.off P6.off (by omega)).mono (by omega), (T5.off P6.off (by omega)).mono (by omega)⟩, ?_, K5.putR P6 (by omega) hle, ?_⟩
  · exact H5.keptR (put_kp (B := B) rc5 P6 (by omega) H5.le)
  · have c5 : Ce w w5 := ((Ce.of_below N1.below).trans ce2).trans (Ce.of_below b25)
    exact ⟨Nat.le_trans c5.size P6.off.size, fun p hp => (World.cell?_of_block (P6.off.block _ (Nat.lt_of_lt_of_le hp c5.size) (by omega))).trans (c5.cell p hp)⟩
end
end Go.Proofs.YtgcfbjecmmnlhaaGreat

namespace Go.Proofs.YtgcfbjecmmnlhaaGreat
open Go.RowKit Go.Maps Go.ChangeMaps
set_option linter.unusedVariables false
set_option linter.unusedSimpArgs false
set_option maxRecDepth 100000

abbrev E3 := Sc × Value × Value
def E3.A (e : E3) : List Value := (e.1.A e.2.1 e.2.2).toList
theorem E3.len (e : E3) : e.A.length = 13 := rfl
def flat : List E3 → List Value
  | [] => []
  | e :: l => e.A ++ flat l
theorem flat_append (l m : List E3) : flat (l ++ m) = flat l ++ flat m := by
  induction l with
  | nil => rfl
  | cons e l ih => simp only [List.cons_append, flat, ih, List.append_assoc]
theorem flat_length (l : List E3) : (flat l).length = l.length * 13 := by
  induction l with
  | nil => rfl
  | cons e l ih => simp only [flat, List.length_append, E3.len, ih, List.length_cons]; omega
theorem flat_get (l : List E3) : ∀ (i : Nat) (hi : i < l.length) (j : Nat), j < 13 → (flat l)[i * 13 + j]? = (l[i].A)[j]? := by
  induction l with
  | nil => intro i hi; exact absurd hi (Nat.not_lt_zero _)
  | cons e l ih =>
    intro i hi j hj
    cases i with
    | zero => rw [flat, Nat.zero_mul, Nat.zero_add, List.getElem?_append_left (by rw [E3.len]; exact hj)]; rfl
    | succ i =>
      have := ih i (by simpa using hi) j hj
      rw [flat, List.getElem?_append_right (by rw [E3.len]; omega), E3.len, show (i + 1) * 13 + j - 13 = i * 13 + j by omega, this]
      rfl
/-- A slice whose block is another than a row's. -/
def Apart (v u : Value) (L : List P2) : Prop := L ≠ [] → ∀ b off n c, u = .slice (some ⟨b, off, none⟩) n c → v.ownBlock ≠ some b
/-- A slice of records of the call's own; their slices are new, too. -/
structure Rcs (B : Nat) (w : World) (v : Value) (ms : List Rm) : Prop where
  ex : ∃ es : List E3, es.length = ms.length ∧ w.ownsRow B 37 13 v ms.length (flat es) ∧ ∀ i, (h1 : i < es.length) → (h2 : i < ms.length) → es[i].1 = ms[i].s ∧ (Fr w es[i].2.1 (encI ms[i].im) B ∧ Fr w es[i].2.2 (encT ms[i].tb) B) ∧ Apart v es[i].2.1 (encI ms[i].im) ∧ Apart v es[i].2.2 (encT ms[i].tb)
section
variable {B C l k db bs sc run dur : Nat} {w w' w0 w1 w2 w5 w6 : World} {S S' : Dk} {fs gs : List ByteArray} {dead : Bool} {R : Lr} {A : Obj → Prop} {v : Value} {ms : List Rm}
theorem Rcs.nil (B : Nat) (w : World) : Rcs B w (.slice none 0 0) [] := ⟨[], rfl, ⟨rfl, Or.inl ⟨rfl, rfl⟩⟩, fun i h => absurd h (Nat.not_lt_zero _)⟩
theorem Cs.ce {a : Option Addr} {L : List P2} (h : Cs w a L) (hc : Ce w w') : Cs w' a L := ⟨fun i hi => by
  obtain ⟨b, off, e, hb, h1, h2⟩ := h.at_ i hi
  exact ⟨b, off, e, Nat.lt_of_lt_of_le hb hc.size, (hc.cell _ hb).trans h1, (hc.cell _ hb).trans h2⟩⟩
theorem Fr.ce {L : List P2} (h : Fr w v L B) (hc : Ce w w') : Fr w' v L B := by
  obtain ⟨a, c, h0, h1, h2⟩ := h.ex
  exact ⟨a, c, h0, h1.ce hc, h2⟩
theorem rcs_ones (es : List E3) (h : ∀ i, (h1 : i < es.length) → es[i].2.1.oneCell' = true ∧ es[i].2.2.oneCell' = true) : True := trivial
/-- Behind a call that leaves old cells and blocks of records alone. -/
theorem Rcs.kept (h : Rcs B w v ms) (hc : Ce w w') (hk : ∀ (j : Nat) (cur : Array Value) (fz : Nat × Nat), w.heap[j]? = some (Obj.cells cur 37 fz) → w'.heap[j]? = some (Obj.cells cur 37 fz)) : Rcs B w' v ms := by
  obtain ⟨es, h1, ⟨h2, h3⟩, h4⟩ := h.ex
  refine ⟨es, h1, ⟨h2, ?_⟩, fun i a b => ?_⟩
  · rcases h3 with h3 | ⟨g, cap, cur, e, hB, hg, h5⟩
    · exact Or.inl h3
    · exact Or.inr ⟨g, cap, cur, e, hB, hk _ _ _ hg, h5⟩
  · obtain ⟨q1, ⟨q2, q3⟩, q4⟩ := h4 i a b
    exact ⟨q1, ⟨q2.ce hc, q3.ce hc⟩, q4⟩
theorem Rcs.below (h : Rcs B w v ms) (hb : Below w.heap.size w w') : Rcs B w' v ms := h.kept (Ce.of_below hb) (fun j cur fz e => (hb.block j (lt_of_some e)).trans e)
theorem Rcs.slice (h : Rcs B w v ms) : ∃ a c, v = .slice a ms.length c := by
  obtain ⟨es, h1, ⟨h2, h3⟩, h4⟩ := h.ex
  rcases h3 with ⟨rfl, h3⟩ | ⟨g, cap, cur, e, hB, hg, h5⟩
  · exact ⟨none, 0, by rw [h3]⟩
  · exact ⟨_, _, e⟩
/-- A record of the slice: its cells, and what it is. -/
theorem Rcs.at_ {a : Option Addr} {n c : Nat} (h : Rcs B w (.slice a n c) ms) {i : Nat} (hi : i < ms.length) : ∃ g I T, a = some ⟨g, 0, none⟩ ∧ w.rangeAt g (i * 13) ((ms[i].s.A I T).toList) ∧ RecF w (.agg (ms[i].s.A I T)) ms[i] B := by
  obtain ⟨es, h1, ⟨h2, h3⟩, h4⟩ := h.ex
  rcases h3 with ⟨_, h3⟩ | ⟨g, cap, cur, e, hB, hg, h5, h6, h7, h8⟩
  · omega
  · cases e
    have hi1 : i < es.length := by omega
    obtain ⟨q1, ⟨q2, q3⟩, q4⟩ := h4 i hi1 hi
    refine ⟨g, es[i].2.1, es[i].2.2, rfl, ?_, ⟨_, _, rfl, q2, q3⟩⟩
    intro j u hu
    have hj : j < 13 := by
      have := (List.getElem?_eq_some_iff.1 hu).1
      exact this
    rw [Lib.cell_of_heap hg]
    have := flat_get es i hi1 j hj
    rw [← h8, List.getElem?_take, if_pos (by have := flat_length es; have := h2; omega)] at this
    rw [← Array.getElem?_toList, this, ← hu, ← q1]
    rfl
theorem infoRec : ∃ i, Tryz.prog.info? 37 = some i ∧ i.zero = some (.agg (zS.A nilV nilV)) ∧ i.size = 13 ∧ i.bytes = 160 :=
  info_parts (show (Tryz.prog.info? 37).map (fun i => (i.zero, i.size, i.bytes)) = some (some (.agg (zS.A nilV nilV)), 13, 160) by kernel_rfl)
theorem rec_one {m : Rm} {I T : Value} (hI : I.oneCell' = true) (hT : T.oneCell' = true) : ∀ u ∈ (m.s.A I T).toList, u.oneCell' = true := by
  intro u hu
  simp [Sc.A] at hu
  rcases hu with rfl | rfl | rfl | rfl | rfl | rfl | rfl | rfl | rfl | rfl | rfl | rfl | rfl
  all_goals first | rfl | exact hI | exact hT
theorem append_rcs (h : Rcs B w v ms) {g : Nat} {m : Rm} {I T : Value} (hg : RcAt w g m.s I T) (hI : I.oneCell' = true) (hT : T.oneCell' = true) (hB : B ≤ w.heap.size) (hl : ms.length ≤ 100000) (ty : TypeId) (es : List E3) (hrow : w.ownsRow B 37 13 v ms.length (flat es)) :
    ∃ v' w', (Builtin.append_ #[49, 49] ty #[v, .slice (some ⟨g, 0, none⟩) 1 1]).run Tryz.prog w = .ok v' w' ∧ w'.ownsRow B 37 13 v' (ms.length + 1) (flat es ++ E3.A (m.s, I, T)) ∧ w.grownBy w' v.ownBlock ∧ (v'.ownBlock = v.ownBlock ∨ v'.ownBlock = some w.heap.size) := by
  obtain ⟨i, hi, hz0, hz1, hz2⟩ := infoRec
  have hnews : ∀ j u, (E3.A (m.s, I, T))[j]? = some u → w.cell? ((⟨g, 0, none⟩ : Addr).add j) = some u := by
    intro j u hu
    have hadd : (⟨g, 0, none⟩ : Addr).add j = ⟨g, j, none⟩ := by unfold Addr.add; split <;> simp_all
    rw [hadd, Joins.cell_of_block hg.blk, ← Array.getElem?_toList]
    exact hu
  have h1 : ∀ u ∈ E3.A (m.s, I, T), u.oneCell' = true := rec_one (m := m) hI hT
  obtain ⟨v', w', hr, ho, hgr, _⟩ := run_append_own (P := Tryz.prog) w B 49 ty 37 i (.agg (zS.A nilV nilV)) 13 160 Tryz.underlying49 hi hz0 hz1 hz2 rfl (by omega) v ms.length (flat es) hrow ⟨g, 0, none⟩ 1 1 (E3.A (m.s, I, T)) rfl hnews h1 (by unfold maxLen; omega) (by omega) hB
  refine ⟨v', w', hr, ho, hgr, ?_⟩
  have hl1 : (E3.A (m.s, I, T)).length = 1 * i.size := by rw [hz1]; rfl
  rcases hrow.2 with ⟨rfl, hn⟩ | ⟨b, cap, cur, rfl, hbg, hgg, hnc, hcm, hcs, htake⟩
  · have hr2 := run_append_nil (P := Tryz.prog) w 49 ty 37 i (.agg (zS.A nilV nilV)) Tryz.underlying49 hi hz0 ⟨g, 0, none⟩ 1 1 (E3.A (m.s, I, T)) hl1 hnews (by omega) (by omega) (by rw [hz2]; omega)
    rw [hr2] at hr
    injection hr with e1 e2
    subst e1
    exact Or.inr rfl
  · by_cases hroom : ms.length + 1 ≤ cap
    · have hr2 := run_append_room (P := Tryz.prog) w 49 ty 37 i Tryz.underlying49 hi b ms.length cap cur hgg ⟨g, 0, none⟩ 1 1 (E3.A (m.s, I, T)) hl1 hnews h1 hroom (by rw [hz1, hcs, E3.len]; omega)
      rw [hr2] at hr
      injection hr with e1 e2
      subst e1
      exact Or.inl rfl
    · have holds : ∀ j u, (flat es)[j]? = some u → w.cell? ((⟨b, 0, none⟩ : Addr).add j) = some u := by
        intro j u hu
        have hadd : (⟨b, 0, none⟩ : Addr).add j = ⟨b, j, none⟩ := by unfold Addr.add; split <;> simp_all
        rw [hadd, cell_of_row w b j cur 37 (0, 0) hgg]
        rw [← htake, List.getElem?_take] at hu
        split at hu
        · simpa using hu
        · cases hu
      have hr2 := run_append_grow (P := Tryz.prog) w 49 ty 37 i (.agg (zS.A nilV nilV)) Tryz.underlying49 hi hz0 ⟨b, 0, none⟩ ms.length cap (flat es) (by rw [hz1, hrow.1]) holds ⟨g, 0, none⟩ 1 1 (E3.A (m.s, I, T)) hl1 hnews (by omega) (by omega) (by rw [hz2]; exact growslice_fits (by omega) (by omega))
      rw [hr2] at hr
      injection hr with e1 e2
      subst e1
      exact Or.inr rfl
theorem Fr.grown {u : Value} {L : List P2} (h : Fr w u L B) (ha : Apart v u L) (hg : w.grownBy w' v.ownBlock) : Fr w' u L B := by
  obtain ⟨a, c, h0, h1, h2⟩ := h.ex
  refine ⟨a, c, h0, ⟨fun i hi => ?_⟩, h2⟩
  obtain ⟨b, off, e, hb, q1, q2⟩ := h1.at_ i hi
  have hne : L ≠ [] := fun e => by rw [e] at hi; exact absurd hi (Nat.not_lt_zero _)
  have hbk : w'.heap[b]? = w.heap[b]? := hg.block b hb (fun e2 => ha hne b off _ _ (by rw [h0, e]) e2.symm)
  exact ⟨b, off, e, Nat.lt_of_lt_of_le hb hg.size, (World.cell?_of_block (by exact hbk)).trans q1, (World.cell?_of_block (by exact hbk)).trans q2⟩
theorem Fr.lt {u : Value} {L : List P2} (h : Fr w u L B) (hL : L ≠ []) {b off n c : Nat} (e : u = .slice (some ⟨b, off, none⟩) n c) : b < w.heap.size := by
  obtain ⟨a, c', h0, h1, h2⟩ := h.ex
  have hi : 0 < L.length := List.length_pos_iff.2 hL
  obtain ⟨b', off', e', hb, _⟩ := h1.at_ 0 hi
  rw [h0] at e
  injection e with e1 _ _
  rw [e'] at e1
  injection e1 with e1
  injection e1 with e1
  omega
theorem wpList_append_rcs {ops : Array Oper} {rest : List Oper} {o : Oper} {act : Act} {Q : Exit → Act → World → Prop} (hgd : o.guard = none) (s x : Operand)
    (ho : o.op = .call { callee := .builtin .append, args := #[s, x], argTypes := #[49, 49] }) (hs : act.eval s = v) (h : Rcs B w v ms)
    {g : Nat} {m : Rm} {I T : Value} (hx : act.eval x = .slice (some ⟨g, 0, none⟩) 1 1) (hg : RcAt w g m.s I T) (hI : Fr w I (encI m.im) B) (hT : Fr w T (encT m.tb) B) (hA1 : Apart v I (encI m.im)) (hA2 : Apart v T (encT m.tb)) (hB : B ≤ w.heap.size) (hl : ms.length ≤ 100000)
    (K : ∀ v' w', Rcs B w' v' (ms ++ [m]) → Kp isR B w w' → wpList Tryz.prog ops Q rest (act.put o.dst v') w') : wpList Tryz.prog ops Q (o :: rest) act w := by
  refine wpList_plain hgd fun K' hK => ?_
  obtain ⟨es, h1, hrow, h4⟩ := h.ex
  obtain ⟨v', w', hr, h2, hgr, hown⟩ := append_rcs h hg hI.slI.one hT.slT.one hB hl o.type es hrow
  have hC : ∀ j, v.ownBlock = some j → B ≤ j ∧ ∃ cur, w.heap[j]? = some (.cells cur 37 (0, 0)) := by
    intro j e
    rcases hrow.2 with ⟨rfl, _⟩ | ⟨b, cap, cur, rfl, hbg, hgg, _⟩
    · simp [Value.ownBlock] at e
    · simp [Value.ownBlock] at e
      subst e
      exact ⟨hbg, cur, hgg⟩
  have hk : Kp isR B w w' := by
    refine ⟨(Below.refl B w).grown hgr hB (fun j e => (hC j e).1), fun j ob e hnr => (hgr.block j (lt_of_some e) (fun e2 => ?_)).trans e⟩
    obtain ⟨_, cur, e3⟩ := hC j e2.symm
    rw [e] at e3; cases e3; exact hnr rfl
  have hap : ∀ {u : Value} {L : List P2}, Fr w u L B → Apart v u L → Apart v' u L := fun hF hA hne b off n c e => by
    rcases hown with e2 | e2
    · rw [e2]; exact hA hne b off n c e
    · rw [e2]
      intro e3
      injection e3 with e3
      have := hF.lt hne e
      omega
  have hR : Rcs B w' v' (ms ++ [m]) := by
    refine ⟨es ++ [(m.s, I, T)], by simp [h1], ?_, fun i a b => ?_⟩
    · rw [List.length_append, List.length_singleton, flat_append, show flat [(m.s, I, T)] = E3.A (m.s, I, T) from by simp [flat]]
      exact h2
    · rcases Nat.lt_or_ge i ms.length with hi | hi
      · rw [List.getElem_append_left (by omega), List.getElem_append_left hi]
        obtain ⟨q1, ⟨q2, q3⟩, q4, q5⟩ := h4 i (by omega) hi
        exact ⟨q1, ⟨q2.grown q4 hgr, q3.grown q5 hgr⟩, hap q2 q4, hap q3 q5⟩
      · have hi2 : i = ms.length := by rw [List.length_append, List.length_singleton] at b; omega
        subst hi2
        rw [List.getElem_append_right (by omega), List.getElem_append_right (Nat.le_refl _)]
        simp only [h1, Nat.sub_self, List.getElem_singleton]
        exact ⟨trivial, ⟨hI.grown hA1 hgr, hT.grown hA2 hgr⟩, hap hI hA1, hap hT hA2⟩
  unfold Oper.wp execOp
  simp only [ho, resolve, invoke, builtin, Sem.run_bind, Sem.run_pure, Result.andThen_ok, List.map_toArray, List.map_cons, List.map_nil, hs, hx, hr]
  exact hK _ _ (K v' w' hR hk)
theorem run_build_rc (s : Sc) (I T : Value) (w : World) : (Instr.buildSlice 49 1 #[(0, .agg (s.A I T))]).run Tryz.prog w = .ok (.slice (some ⟨w.heap.size, 0, none⟩) 1 1) (w.alloc (.cells (s.A I T) 37)) := by kernel_rfl
theorem wpList_build_rc {ops : Array Oper} {rest : List Oper} {o : Oper} {act : Act} {Q : Exit → Act → World → Prop} {s : Sc} {I T : Value} (w : World) (hg : o.guard = none) (x : Operand) (hop : o.op = Op.buildSlice 49 1 #[(0, x)]) (hx : act.eval x = .agg (s.A I T))
    (h : ∀ w' b, NewR w w' b s I T → wpList Tryz.prog ops Q rest (act.put o.dst (.slice (some ⟨b, 0, none⟩) 1 1)) w') : wpList Tryz.prog ops Q (o :: rest) act w := by
  refine wpList_plain hg fun K' hK' => ?_
  have hr := run_build_rc s I T w
  unfold Oper.wp execOp
  simp only [hop, List.map_toArray, List.map_cons, List.map_nil, hx, Sem.run_bind, Sem.run_pure, Result.andThen_ok, hr]
  exact hK' _ _ (h _ _ ⟨⟨(MapKept.heap_alloc w _).1⟩, (Below.refl _ _).alloc (Nat.le_refl _) _, rfl⟩)
theorem Fr.apart {u : Value} {L : List P2} (h : Fr w u L C) (hs : ∀ j, v.ownBlock = some j → j < C) : Apart v u L := fun _ b off n c e e2 => by
  obtain ⟨a, c', h0, h1, h2, h3, h4, h5⟩ := h.ex
  rw [h0] at e
  injection e with e1 _ _
  have := h5 b off e1
  have := hs b e2
  omega
theorem open_at {fs : List ByteArray} (hF : ∀ f ∈ fs, Frm f) {i : Nat} (hi : i < fs.length) : openM (cat fs) (off fs i : Int) = (recF fs[i], (fs[i].size : Int), 0) := by
  have e : cat fs = cat (fs.take i) ++ fs[i] ++ cat (fs.drop (i + 1)) := by
    have : fs = fs.take i ++ ([fs[i]] ++ fs.drop (i + 1)) := by
      rw [List.singleton_append, List.getElem_cons_drop, List.take_append_drop]
    conv => lhs; rw [this]
    rw [cat_append, cat_append, cat, cat, app_nil, ByteArray.append_assoc]
  rw [e]
  exact (hF fs[i] (List.getElem_mem _)).open_ _ _
theorem clone_any {ps : List Int} (h : OwnI B w v ps) (hl : ps.length ≤ 1000000) : Calls Tryz.prog 63 #[v] w fun e w' => (∃ v', e = .returned v' ∧ OwnI w.heap.size w' v' ps) ∧ Below w.heap.size w w' := by
  rcases h.row.2 with ⟨rfl, hn⟩ | ⟨g, cap, cur, rfl, hbg, hgg, hnc, hcm, hcs, htake⟩
  · have : ps = [] := List.eq_nil_of_length_eq_zero hn
    subst this
    refine (Tryz.slices_Clone_int_nil 0 0 w).mono ?_
    rintro e w' ⟨he, rfl⟩
    exact ⟨⟨_, he, OwnI.nil _ _⟩, Below.refl _ _⟩
  · refine (Tryz.slices_Clone_int g 0 ps.length cap ps w (Nat.le_refl _) (by omega) (fun j hj => by
      rw [Nat.zero_add, Lib.cell_of_heap hgg]
      have : (iv ps)[j]? = some (.int .i64 ps[j]) := by simp [iv, hj]
      rw [← htake, List.getElem?_take, if_pos (by omega)] at this
      rw [List.getD_eq_getElem?_getD, List.getElem?_eq_getElem hj]
      simpa using this)).mono ?_
    rintro e w' ⟨v', he, hr, _, hb⟩
    rw [List.take_length] at hr
    exact ⟨⟨v', he, ⟨hr⟩⟩, hb⟩
end
end Go.Proofs.YtgcfbjecmmnlhaaGreat

namespace Go.Proofs.YtgcfbjecmmnlhaaGreat
open Go.RowKit Go.Maps Go.ChangeMaps
set_option linter.unusedVariables false
set_option linter.unusedSimpArgs false
set_option maxRecDepth 100000

section
variable {B C l k db bs sc run dur : Nat} {w w' w0 w1 w2 w5 w6 : World} {S S' : Dk} {fs gs : List ByteArray} {dead : Bool} {R : Lr} {A : Obj → Prop} {v : Value} {ms : List Rm}
set_option maxHeartbeats 4000000 in
theorem Records_any (h : Lx B w l k S (lgR db bs sc run fs dur dead)) (hf : Fit sc fs) : Calls Tryz.prog 30 #[.pointer (some ⟨l, 0, none⟩)] w fun e w' => (∃ v v2, e = .returned (.tuple #[v, v2]) ∧ Rcs w.heap.size w' v (fs.map recF) ∧ OwnI w.heap.size w' v2 (plc 1 fs)) ∧ Lx B w' l k S (lgR db bs sc run fs dur dead) ∧ Kp isL B w w' := by
  have h1 := hf.sz
  have h2 := hf.s1
  have hl := fit_len hf
  have hlen := plc_length 1 fs
  obtain ⟨a, c, c7, ho⟩ := h.row
  have c7' : w.cell? ⟨l, 7, none⟩ = some (.slice a (plc 1 fs).length c) := c7
  have ho' : OwnI B w (.slice a (plc 1 fs).length c) (plc 1 fs) := ho
  have CI : Hid (Calls Tryz.prog 54 #[.pointer (some ⟨l, 0, none⟩)] w fun e w' => e = .returned (.bool true) ∧ w' = w) := isOpen_any h.g
  have CR : Hid (∀ wx i, (hi : i < fs.length) → Lx B wx l k S (lgR db bs sc run fs dur dead) → Calls Tryz.prog 34 #[.pointer (some ⟨l, 0, none⟩), .int .i64 ((1 + off fs i : Nat) : Int)] wx fun e w' => (∃ v n, e = .returned (.tuple #[v, .int .i64 n, .int .i64 0]) ∧ RecF w' v (recF fs[i]) wx.heap.size) ∧ Lx B w' l k S (lgR db bs sc run fs dur dead) ∧ Kp isL B wx w' ∧ Ce wx w') := fun wx i hi hx => by
    have hoff := off_lt hf.frm hi (Nat.le_refl _)
    rw [off_all] at hoff
    have hz := (hf.frm fs[i] (List.getElem_mem _)).le
    have := read_ok hx hf ((1 + off fs i : Nat) : Int) (by omega) (by omega) (m := recF fs[i]) (n := (fs[i].size : Int)) (by rw [show ((1 + off fs i : Nat) : Int) - 1 = (off fs i : Int) by omega]; exact open_at hf.frm hi) (by omega) (by omega)
    refine this.mono ?_
    rintro e w' ⟨⟨v, he, hr⟩, q⟩
    exact ⟨⟨v, _, he, hr⟩, q⟩
  have HP : Hid (∀ wx i, (hi : i < fs.length) → Ce w wx → ∃ g, a = some ⟨g, 0, none⟩ ∧ wx.cell? ⟨g, i, none⟩ = some (.int .i64 ((1 + off fs i : Nat) : Int))) := fun wx i hi hc => by
    obtain ⟨g, e, hg⟩ := ho'.at_ (i := i) (by rw [hlen]; exact hi)
    have hgc := hg w (Below.refl _ _)
    have hlt : g < w.heap.size := by
      rcases Nat.lt_or_ge g w.heap.size with hh | hh
      · exact hh
      · simp [World.cell?, Array.getElem?_eq_none hh] at hgc
    refine ⟨g, e, (hc.cell ⟨g, i, none⟩ hlt).trans ?_⟩
    rw [hgc]
    have := plc_get 1 fs i hi
    rw [List.getElem?_eq_getElem (by rw [hlen]; exact hi)] at this
    injection this with this
    rw [this]
  have CC : Hid (∀ wx, Ce w wx → Kp isL B w wx → Lx B wx l k S (lgR db bs sc run fs dur dead) → ∃ a2 c2, wx.cell? ⟨l, 7, none⟩ = some (.slice a2 (plc 1 fs).length c2) ∧ Calls Tryz.prog 63 #[.slice a2 (plc 1 fs).length c2] wx fun e w' => (∃ v', e = .returned v' ∧ OwnI wx.heap.size w' v' (plc 1 fs)) ∧ Below wx.heap.size wx w') := fun wx _ _ hx => by
    obtain ⟨a2, c2, q1, q2⟩ := hx.row
    exact ⟨a2, c2, q1, clone_any q2 (by show (plc 1 fs).length ≤ 1000000; omega)⟩
  have hle := h.le
  have H : Hid (Lx B w l k S (lgR db bs sc run fs dur dead)) := h
  have hfl : fs.length ≤ 70000 := by omega
  clear h h1 h2 c7 ho ho' hf hl
  rw [hlen] at CC c7'
  clear hlen
  go_enter Tryz.func30, Tryz.ntmps30
  go_wp2_with (go_at_call 54; refine CI.out.mono ?_; rintro e w0 ⟨rfl, rfl⟩)
  go_loopw [4, 18] (fun sv ix wr => ∃ i : Nat, i ≤ fs.length ∧ ix = .int .i64 (i : Int) ∧ Rcs w0.heap.size wr sv ((fs.take i).map recF) ∧ Lx B wr l k S (lgR db bs sc run fs dur dead) ∧ Kp isL B w0 wr ∧ Ce w0 wr) (fun _ ix _ => fs.length - (intOf ix).toNat)
  case atStart => exact ⟨0, Nat.zero_le _, rfl, Rcs.nil _ _, H.out, Kp.refl _ _ _, Ce.of_below (Below.refl _ _)⟩
  case round =>
    obtain ⟨i, hi, rfl, hR, hL, hK, hC⟩ := hrel
    by_cases hlt : i < fs.length
    · obtain ⟨g, rfl, cg⟩ := HP.out wr i hlt hC
      obtain ⟨a3, c3, rfl⟩ := hR.slice
      have CR1 : Hid (Calls Tryz.prog 34 #[.pointer (some ⟨l, 0, none⟩), .int .i64 ((1 + off fs i : Nat) : Int)] wr fun e w' => (∃ v n, e = .returned (.tuple #[v, .int .i64 n, .int .i64 0]) ∧ RecF w' v (recF fs[i]) wr.heap.size) ∧ Lx B w' l k S (lgR db bs sc run fs dur dead) ∧ Kp isL B wr w' ∧ Ce wr w') := CR.out wr i hlt hL
      have hm : Hid ((fs.take (i + 1)).map recF = (fs.take i).map recF ++ [recF fs[i]]) := (by rw [List.take_succ_eq_append_getElem hlt, List.map_append]; rfl : (fs.take (i + 1)).map recF = (fs.take i).map recF ++ [recF fs[i]])
      obtain ⟨M1, HM1⟩ : ∃ M1, Hid (M1 = (fs.take (i + 1)).map recF) := ⟨_, rfl⟩
      rw [← HM1.out] at hm
      have hll : ((fs.take i).map recF).length ≤ 100000 := by simp; omega
      have hsep : Hid (∀ j, (Value.slice a3 ((fs.take i).map recF).length c3).ownBlock = some j → j < wr.heap.size) := (fun j e => by
        obtain ⟨es, _, hrow, _⟩ := hR.ex
        rcases hrow.2 with ⟨e2, _⟩ | ⟨b, cap, cur, e2, _, hgg, _⟩
        · rw [e2] at e; simp [Value.ownBlock] at e
        · rw [e2] at e
          simp [Value.ownBlock] at e
          subst e
          exact lt_of_some hgg : ∀ j, (Value.slice a3 ((fs.take i).map recF).length c3).ownBlock = some j → j < wr.heap.size)
      have HR : Hid _ := hR
      have HK : Hid _ := hK
      have HC : Hid _ := hC
      have hi2 : (i : Int) < (fs.length : Int) := by omega
      have hz0 := hC.size
      clear hR hK hC hL CR HP CC
      generalize ((1 + off fs i : Nat) : Int) = X at *
      generalize recF fs[i] = m at *
      obtain ⟨s9, l9, g9⟩ := m
      generalize (fs.take i).map recF = ms at *
      go_wp2_with (first
        | (go_at_call 34; refine CR1.out.mono ?_; rintro e w1 ⟨⟨v, n, rfl, hv⟩, L1, k1, q1⟩; have R1 := HR.out.kept q1 (fun j cur fz e => k1.block j _ e (by simp [isL])); have K1 : Hid (Kp isL B w0 w1) := HK.out.trans k1; have C1 : Hid (Ce w0 w1) := HC.out.trans q1; obtain ⟨I, T, rfl, hI, hT⟩ := hv.ex; dsimp only at hI hT; clear HR HK HC)
        | (refine wpList_new_rc _ rfl rfl ?_; intro w2 b7 N2)
        | (refine wpList_at (Op.store 37 (.tmp 7) (.tmp 26)) rfl ?_; refine wpList_put_rc (s' := s9) (I' := I) (T' := T) _ rfl (.tmp 7) (.tmp 26) rfl rfl rfl N2.rc hI.slI.one hT.slT.one ?_; intro w3 P3; have b13 : Below w1.heap.size w1 w3 := N2.below.trans (P3.below (by have := N2.eq; omega) N2.below.size))
        | (refine wpList_load_rc _ rfl (.tmp 7) rfl rfl P3.rc ?_)
        | (refine wpList_build_rc (s := s9) (I := I) (T := T) _ rfl (.tmp 30) rfl rfl ?_; intro w4 b8 N4; have bA : Below w1.heap.size w1 w4 := thn b13 N4.below; have R4 := R1.below bA; have I4 := hI.below bA; have T4 := hT.below bA; have rcA := N4.rc; have L4 := L1.below bA; have K4 : Hid (Kp isL B w0 w4) := K1.out.below bA hle; have C4 : Hid (Ce w0 w4) := C1.out.trans (Ce.of_below bA); have hz4 := C4.out.size)
        | (at_builtin; refine wpList_append_rcs (B := w0.heap.size) (m := ⟨s9, l9, g9⟩) rfl (.tmp 29) (.tmp 31) rfl rfl R4 rfl rcA (I4.mono hz0) (T4.mono hz0) (I4.apart hsep.out) (T4.apart hsep.out) hz4 hll ?_; intro v' w5 R5 k5; rw [← hm.out] at R5; obtain ⟨a5, c5, rfl⟩ := R5.slice; have L5 := L4.keptR k5; have K5 : Hid (Kp isL B w0 w5) := ⟨K4.out.bel.trans (k5.bel.mono hle), fun j o e hn => by
            have e4 := K4.out.block j o e hn
            exact (k5.bel.block j (lt_of_some e)).trans e4⟩; have C5 : Hid (Ce w0 w5) := ⟨Nat.le_trans C4.out.size k5.size, fun p hp => (World.cell?_of_block (k5.bel.block _ hp)).trans (C4.out.cell p hp)⟩))
      go_roundw
      case rel => exact ⟨i + 1, by omega, by go_num, by rw [← HM1.out]; exact R5, L5, K5.out, C5.out⟩
      case measure => simp [intOf]; omega
    · obtain rfl : i = fs.length := by omega
      have hi2 : ¬ (fs.length : Int) < (fs.length : Int) := by omega
      rw [List.take_length] at hR
      obtain ⟨a2, c2, q7, CC1⟩ := CC.out wr hC hK hL
      have HC1 : Hid (Calls Tryz.prog 63 #[.slice a2 fs.length c2] wr fun e w' => (∃ v', e = .returned v' ∧ OwnI wr.heap.size w' v' (plc 1 fs)) ∧ Below wr.heap.size wr w') := CC1
      have HR : Hid _ := hR
      have HK : Hid _ := hK
      have HL : Hid _ := hL
      have hz := hC.size
      obtain ⟨a3, c3, e3⟩ := hR.slice
      subst e3
      clear CC1 CC CR HP hR hK hL hC
      generalize (fs.map recF).length = n3 at *
      go_wp2_with (go_at_call 63; refine HC1.out.mono ?_; rintro e w2 ⟨⟨v', rfl, hO⟩, b2⟩)
      go_ret2
      refine ⟨⟨_, _, rfl, HR.out.below b2, ?_⟩, HL.out.below b2, HK.out.below b2 hle⟩
      obtain ⟨q1, q2⟩ := hO.row
      refine ⟨q1, ?_⟩
      rcases q2 with q2 | ⟨g, cap, cur, e, hB, hg, q3⟩
      · exact Or.inl q2
      · exact Or.inr ⟨g, cap, cur, e, by omega, hg, q3⟩
end
end Go.Proofs.YtgcfbjecmmnlhaaGreat

namespace Go.Proofs.YtgcfbjecmmnlhaaGreat
open Go.RowKit Go.Maps Go.ChangeMaps
set_option linter.unusedVariables false
set_option linter.unusedSimpArgs false
set_option maxRecDepth 100000

/-- The sectors of a disk. -/
structure Qs (S : Dk) (bs sc r : Nat) (Q : Nat → Sec) : Prop where
  now : ∀ i, i < sc → S.now (bs + i) = encQ (Q i)
  run : ∀ i, i < sc → (Q i).1 ≤ r
  sz : ∀ i, i < sc → (Q i).2.size ≤ 58
  wait : ∀ i, S.wait i = none
/-- A log that is open, and what stands of it: so many of its frames last. -/
structure Lv (B : Nat) (w : World) (l k : Nat) (S : Dk) (db bs sc run : Nat) (fs : List ByteArray) (sure : Nat) : Prop where
  lx : Lx B w l k S (lgR db bs sc run fs (off fs sure) false)
  up : S.up = true
  fit : Fit sc fs
  hs : sure ≤ fs.length
  n : bs + sc ≤ S.n
  r2 : run ≤ 4294967295
  q : ∃ Q, Qs S bs sc run Q ∧ Std Q sc run (cat (fs.take sure))
/-- What stands is a beginning of frames, so many of them at least. -/
structure Wt (S : Dk) (bs sc r : Nat) (fs : List ByteArray) (lo : Nat) : Prop where
  q : ∃ Q, Qs S bs sc r Q ∧ ∀ run, r ≤ run → ∃ x, cat fs = stand Q run sc ++ x ∧ off fs lo ≤ (stand Q run sc).size
section
variable {B l k db bs sc run r r' sure lo : Nat} {w w' w0 : World} {S S' : Dk} {fs gs : List ByteArray} {Q : Nat → Sec}
theorem Qs.lasts (h : Qs S bs sc r Q) {i : Nat} (hi : i < sc) : S.sure (bs + i) = encQ (Q i) := by
  have := h.now i hi
  unfold Dk.now at this
  rw [h.wait] at this
  exact this
theorem fs_split (fs : List ByteArray) (i : Nat) : cat fs = cat (fs.take i) ++ cat (fs.drop i) := by rw [← cat_append, List.take_append_drop]
theorem Lv.pos (h : Lv B w l k S db bs sc run fs sure) : 1 ≤ run := by obtain ⟨Q, _, hs⟩ := h.q; exact hs.pos
theorem Lv.below (h : Lv B w l k S db bs sc run fs sure) (hb : Below w.heap.size w w') : Lv B w' l k S db bs sc run fs sure := ⟨h.lx.below hb, h.up, h.fit, h.hs, h.n, h.r2, h.q⟩
theorem Lv.mono {k' : Nat} (h : Lv B w l k S db bs sc run fs sure) (hk : k ≤ k') : Lv B w l k' S db bs sc run fs sure := ⟨h.lx.mono hk, h.up, h.fit, h.hs, h.n, h.r2, h.q⟩
theorem Lv.wt (h : Lv B w l k S db bs sc run fs sure) : Wt S bs sc run fs sure := by
  obtain ⟨Q, hQ, hs⟩ := h.q
  refine ⟨Q, hQ, fun rn hr => ⟨cat (fs.drop sure), ?_, ?_⟩⟩
  · rw [hs.stands hr]; exact fs_split fs sure
  · rw [hs.stands hr]; exact Nat.le_refl _
theorem Wt.eq (h : Wt S bs sc r fs lo) (h1 : S'.sure = S.sure) (h2 : S'.wait = S.wait) : Wt S' bs sc r fs lo := by
  obtain ⟨Q, hQ, hs⟩ := h.q
  exact ⟨Q, ⟨fun i hi => by have := hQ.now i hi; unfold Dk.now at this ⊢; rw [h1, h2]; exact this, hQ.run, hQ.sz, fun i => by rw [h2]; exact hQ.wait i⟩, hs⟩
theorem Wt.crash (h : Wt S bs sc r fs lo) (x : Int) : Wt (crDk S x) bs sc r fs lo := by
  obtain ⟨Q, hQ, hs⟩ := h.q
  unfold crDk
  split
  · refine ⟨Q, ⟨fun i hi => ?_, hQ.run, hQ.sz, fun i => rfl⟩, hs⟩
    show lossF S.sure S.wait x (bs + i) = _
    unfold lossF
    rw [hQ.wait]
    exact hQ.lasts hi
  · exact ⟨Q, hQ, hs⟩
/-- What is laid comes to the disk. -/
theorem Qs.laid (h : Qs S bs sc r Q) {t : ByteArray} {rr a b : Nat} (hr : r ≤ rr) (hL : Laid S S' (nw bs t rr a b) 0) : Qs S' bs sc rr (putQ Q t rr a b) := by
  obtain ⟨hu, hw, hsu⟩ := hL.ok rfl
  refine ⟨fun i hi => ?_, fun i hi => ?_, fun i hi => ?_, hw⟩
  · unfold Dk.now
    rw [hw, hsu]
    show (nw bs t rr a b (bs + i)).getD (S.now (bs + i)) = _
    unfold nw putQ
    by_cases hc : a ≤ i ∧ i < b
    · rw [if_pos (by omega), if_pos hc, show bs + i - bs = i by omega]; rfl
    · rw [if_neg (by omega), if_neg hc]
      exact h.now i hi
  · unfold putQ
    split
    · exact Nat.le_refl _
    · exact Nat.le_trans (h.run i hi) hr
  · unfold putQ
    split
    · exact part_le t i
    · exact h.sz i hi
/-- Of what is laid some came to the disk, and some did not. -/
theorem Qs.lost (h : Qs S bs sc r Q) {t : ByteArray} {rr a b : Nat} {y : Int} (hr : r ≤ rr) (hL : Laid S S' (nw bs t rr a b) y) (hy : y ≠ 0) : ∃ Q', Qs S' bs sc rr Q' ∧ ∀ i, i < sc → Q' i = Q i ∨ (a ≤ i ∧ i < b ∧ Q' i = (rr, part t i)) := by
  obtain ⟨_, hu, hw⟩ := hL.bad hy
  have hA : AllR (fun j c => ∀ i, i < sc → j = bs + i → c = encQ (Q i) ∨ (a ≤ i ∧ i < b ∧ c = encQ (rr, part t i))) S := by
    refine ⟨fun j i hi e => ?_, fun j c hc => by rw [h.wait] at hc; cases hc⟩
    subst e
    exact Or.inl (h.lasts hi)
  have hB := hL.all _ hA (fun j c hc i hi e => by
    subst e
    unfold nw at hc
    split at hc
    · rename_i hc2
      rw [show bs + i - bs = i by omega] at hc
      injection hc with hc
      exact Or.inr ⟨by omega, by omega, hc.symm⟩
    · cases hc)
  refine ⟨fun i => if S'.sure (bs + i) = encQ (Q i) then Q i else (rr, part t i), ⟨fun i hi => ?_, fun i hi => ?_, fun i hi => ?_, hw⟩, fun i hi => ?_⟩
  · unfold Dk.now
    rw [hw]
    show S'.sure (bs + i) = _
    split
    · rename_i e; exact e
    · rename_i e
      rcases hB.sure (bs + i) i hi rfl with e2 | ⟨_, _, e2⟩
      · exact absurd e2 e
      · exact e2
  · split
    · exact Nat.le_trans (h.run i hi) hr
    · exact Nat.le_refl _
  · split
    · exact h.sz i hi
    · exact part_le t i
  · dsimp only
    split
    · exact Or.inl rfl
    · rename_i e
      rcases hB.sure (bs + i) i hi rfl with e2 | ⟨e3, e4, e2⟩
      · exact absurd e2 e
      · exact Or.inr ⟨e3, e4, rfl⟩
theorem off_take {fs : List ByteArray} {i : Nat} : off (fs.take i) (fs.take i).length = off fs i := by rw [off_all]; rfl
/-- Flush. -/
theorem Lv.flush (h : Lv B w l k S db bs sc run fs sure) (hk : k ≤ 30000) : Calls Tryz.prog 21 #[.pointer (some ⟨l, 0, none⟩)] w fun e w' => ∃ y, e = .returned (.int .i64 y) ∧ ∃ S', (Kp isA B w w' ∧ S'.n = S.n ∧ (S.set = false → y = 0 ∧ S'.set = false)) ∧ ((y = 0 ∧ Lv B w' l (k + sc + 1) S' db bs sc run fs fs.length) ∨ (y = 9 ∧ S'.up = false ∧ Ds B w' db (k + sc + 1) S' ∧ Wt S' bs sc run fs sure)) := by
  obtain ⟨Q, hQ, hstd⟩ := h.q
  have hle := h.lx.le
  have hm := off_mono (l := fs) h.hs
  rw [off_all] at hm
  rcases Nat.lt_or_ge (off fs sure) (cat fs).size with hd | hd
  · refine (flush_any h.lx hk h.fit hd (by have := h.r2; omega) h.n h.up).mono ?_
    rintro e w' ⟨S', x, rfl, hF⟩
    refine ⟨x, rfl, S', ⟨hF.kp, hF.ld.n, hF.ld.calm⟩, ?_⟩
    have hlx := hF.lx
    have hL := hF.ld
    have hT := fs_split fs sure
    by_cases hx : x = 0
    · subst hx
      obtain ⟨hu, hw, _⟩ := hL.ok rfl
      left
      refine ⟨rfl, ?_, hu, h.fit, Nat.le_refl _, by rw [hL.n]; exact h.n, h.r2, ?_⟩
      · rw [off_all]; exact hlx
      · refine ⟨_, hQ.laid (Nat.le_refl _) hL, ?_⟩
        rw [List.take_length]
        exact hstd.flush hT hd h.fit.sz
    · obtain ⟨h9, hu, hw⟩ := hL.bad hx
      right
      refine ⟨h9, hu, hlx.d, ?_⟩
      obtain ⟨Q', hQ', hor⟩ := hQ.lost (Nat.le_refl _) hL hx
      refine ⟨Q', hQ', fun rn hr => ?_⟩
      have hsz : (cat (fs.take sure)).size = off fs sure := rfl
      obtain ⟨y, z, e1, e2⟩ := hstd.grow (T := cat fs) (Q' := Q') (r' := run) hT h.fit.sz hr (Nat.le_refl _) (fun i hi => by
        rcases hor i hi with e | ⟨e3, e4, e⟩
        · exact Or.inl e
        · exact Or.inr ⟨by rw [hsz]; omega, e⟩) (Or.inl rfl)
      exact ⟨z, by rw [e1]; exact e2, by rw [e1, bsz, hsz]; omega⟩
  · have hd2 : off fs sure = (cat fs).size := by omega
    refine (flush_same h.lx h.fit hd2).mono ?_
    rintro e w' ⟨rfl, hb⟩
    have he : sure = fs.length := off_inj h.fit.frm h.hs (Nat.le_refl _) (by rw [hd2, off_all])
    refine ⟨0, rfl, S, ⟨Kp.of_below hb hle, rfl, fun hs => ⟨rfl, hs⟩⟩, Or.inl ⟨rfl, ?_⟩⟩
    have := (h.below hb).mono (k' := k + sc + 1) (by omega)
    rw [he] at this
    exact this
theorem Fit.take (h : Fit sc fs) (i : Nat) : Fit sc (fs.take i) := by
  refine ⟨fun f hf => h.frm f (List.mem_of_mem_take hf), ?_, h.s0, h.s1⟩
  have e := fs_split fs i
  have := h.sz
  rw [e, bsz] at this
  omega
theorem Fit.snoc (h : Fit sc fs) {gs : List ByteArray} (hg : ∀ g ∈ gs, Frm g) (hz : (cat fs).size + (cat gs).size ≤ 58 * sc) : Fit sc (fs ++ gs) := ⟨fun f hf => by
  rcases List.mem_append.1 hf with q | q
  · exact h.frm f q
  · exact hg f q, by rw [cat_append, bsz]; exact hz, h.s0, h.s1⟩
theorem take_pre {i j : Nat} (hij : i ≤ j) : cat (fs.take j) = cat (fs.take i) ++ cat ((fs.take j).drop i) := by
  have := List.take_append_drop i (fs.take j)
  rw [List.take_take, Nat.min_eq_left hij] at this
  conv => lhs; rw [← this]
  rw [cat_append]
/-- Frames come behind all others. -/
theorem Lv.grown (h : Lv B w l k S db bs sc run fs sure) {gs : List ByteArray} (hg : ∀ g ∈ gs, Frm g) (hz : (cat fs).size + (cat gs).size ≤ 58 * sc) (hl : Lx B w' l k S (lgR db bs sc run (fs ++ gs) (off fs sure) false)) : Lv B w' l k S db bs sc run (fs ++ gs) sure := by
  have e : (fs ++ gs).take sure = fs.take sure := List.take_append_of_le_length h.hs
  have e2 : off (fs ++ gs) sure = off fs sure := by unfold off; rw [e]
  refine ⟨by rw [e2]; exact hl, h.up, h.fit.snoc hg hz, by rw [List.length_append]; have := h.hs; omega, h.n, h.r2, ?_⟩
  rw [e]
  exact h.q
set_option maxHeartbeats 1000000 in
theorem Lv.cut (h : Lv B w l k S db bs sc run fs sure) (hk : k ≤ 30000) (i : Nat) (hi : i ≤ fs.length) (x : Int) (hx : x = ((off fs i : Nat) : Int) + 1) (hr1 : run < r') (hr2 : r' ≤ 4294967295) : Calls Tryz.prog 36 #[.pointer (some ⟨l, 0, none⟩), .int .i64 x, .int .i64 (r' : Int)] w fun e w' => ∃ y, e = .returned (.int .i64 y) ∧ ∃ S', (Kp isA B w w' ∧ S'.n = S.n ∧ (S.set = false → y = 0 ∧ S'.set = false)) ∧ ((y = 0 ∧ Lv B w' l (k + sc + 1) S' db bs sc r' (fs.take i) i) ∨ (y = 9 ∧ S'.up = false ∧ Ds B w' db (k + sc + 1) S' ∧ Wt S' bs sc r' fs (min sure i))) := by
  obtain ⟨Q, hQ, hstd⟩ := h.q
  have hm := off_mono (l := fs) h.hs
  rw [off_all] at hm
  have hmi := off_mono (l := fs) hi
  rw [off_all] at hmi
  have hz := h.fit.sz
  have hti : (fs.take i).length = i := by rw [List.length_take]; omega
  refine (cut_any h.lx hk h.fit hm i hi x hx r' hr1 hr2 h.n h.up).mono ?_
  rintro e w' ⟨S', y, rfl, hK, hC, hD, hL⟩
  have hts : (cat (fs.take i)).size = off fs i := rfl
  have hbs : (cat (fs.take sure)).size = off fs sure := rfl
  have hLv : y = 0 → S'.up = true → S'.n = S.n → (∃ Q', Qs S' bs sc r' Q' ∧ Std Q' sc r' (cat (fs.take i))) → Lv B w' l (k + sc + 1) S' db bs sc r' (fs.take i) i := fun hy hu hn hq => by
    refine ⟨?_, hu, h.fit.take i, by omega, by rw [hn]; exact h.n, hr2, by rw [List.take_take, Nat.min_self]; exact hq⟩
    have : off (fs.take i) i = off fs i := by unfold off; rw [List.take_take, Nat.min_self]
    rw [this]
    exact hL hy
  rcases hC with ⟨h1, rfl, rfl⟩ | ⟨h1, hLd⟩
  · refine ⟨0, rfl, _, ⟨hK, rfl, fun hs => ⟨rfl, hs⟩⟩, Or.inl ⟨rfl, hLv rfl h.up rfl ⟨Q, ⟨hQ.now, fun j hj => by have := hQ.run j hj; omega, hQ.sz, hQ.wait⟩, ?_⟩⟩⟩
    rw [hts] at h1
    have hei : i = sure := off_inj h.fit.frm hi h.hs (by omega)
    subst hei
    refine ⟨hstd.fit, by omega, fun j hj => by have := hstd.all j hj; omega, hstd.full, hstd.mono, fun kk a b c => ?_, fun j a b => ?_⟩
    · rw [hts] at a b; omega
    · rw [hts] at a; omega
  · have hmin : min (off fs sure) (cat (fs.take i)).size = min (off fs sure) (off fs i) := rfl
    rw [hmin, hts] at h1 hLd
    refine ⟨y, rfl, S', ⟨hK, hLd.n, hLd.calm⟩, ?_⟩
    rcases Nat.le_total sure i with hsi | hsi
    · -- behind what lasts
      have ho := off_mono (l := fs) hsi
      have hT : cat (fs.take i) = cat (fs.take sure) ++ cat ((fs.take i).drop sure) := take_pre hsi
      rw [Nat.min_eq_left ho] at h1 hLd
      by_cases hy : y = 0
      · subst hy
        obtain ⟨hu, _, _⟩ := hLd.ok rfl
        refine Or.inl ⟨rfl, hLv rfl hu hLd.n ⟨_, hQ.laid (Nat.le_of_lt hr1) hLd, ?_⟩⟩
        have := hstd.cutUp (T := cat (fs.take i)) hT (by rw [hts]; omega) hr1
        rw [hbs, hts] at this
        exact this
      · obtain ⟨h9, hu, _⟩ := hLd.bad hy
        obtain ⟨Q', hQ', hor⟩ := hQ.lost (Nat.le_of_lt hr1) hLd hy
        refine Or.inr ⟨h9, hu, hD, Q', hQ', fun rn hr => ?_⟩
        obtain ⟨yy, z, e1, e2⟩ := hstd.grow (T := cat (fs.take i)) (Q' := Q') (r' := r') hT (by rw [hts]; omega) hr (Nat.le_of_lt hr1) (fun j hj => by
          rcases hor j hj with e | ⟨e3, e4, e⟩
          · exact Or.inl e
          · exact Or.inr ⟨by rw [hbs]; omega, e⟩) (Or.inr hr1)
        refine ⟨z ++ cat (fs.drop i), ?_, ?_⟩
        · rw [fs_split fs i, e2, e1, ByteArray.append_assoc]
        · rw [Nat.min_eq_left hsi, e1, bsz, hbs]; omega
    · have ho := off_mono (l := fs) hsi
      have hB : cat (fs.take sure) = cat (fs.take i) ++ cat ((fs.take sure).drop i) := take_pre hsi
      rw [Nat.min_eq_right ho] at h1 hLd
      by_cases hy : y = 0
      · subst hy
        obtain ⟨hu, _, _⟩ := hLd.ok rfl
        refine Or.inl ⟨rfl, hLv rfl hu hLd.n ⟨_, hQ.laid (Nat.le_of_lt hr1) hLd, ?_⟩⟩
        have := hstd.cutDown (T := cat (fs.take i)) hB hr1 hQ.sz
        rw [hts] at this
        exact this
      · obtain ⟨h9, hu, _⟩ := hLd.bad hy
        obtain ⟨Q', hQ', hor⟩ := hQ.lost (Nat.le_of_lt hr1) hLd hy
        refine Or.inr ⟨h9, hu, hD, Q', hQ', fun rn hr => ?_⟩
        have hst := hstd.shrink (T := cat (fs.take i)) (Q' := Q') (r' := r') (run := rn) hB hr hr1 (fun j hj => by
          rcases hor j hj with e | ⟨e3, e4, e⟩
          · exact Or.inl e
          · exact Or.inr ⟨by rw [hts]; omega, by rw [hts]; omega, e⟩)
        rw [Nat.min_eq_right hsi]
        rcases hst with e | e
        · exact ⟨cat (fs.drop i), by rw [e]; exact fs_split fs i, by rw [e, hts]; omega⟩
        · exact ⟨cat (fs.drop sure), by rw [e]; exact fs_split fs sure, by rw [e, hbs]; exact ho⟩
/-- A log is opened in a run that nobody had. -/
theorem Wt.open2 (h : Wt S bs sc r fs lo) (hF : Fit sc fs) (hlo : lo ≤ fs.length) (hd : Ds B w db k S) (hk : k ≤ 30000) (hrun : r < run) (hr2 : run ≤ 4294967295) (hfit : bs + sc ≤ S.n) (hu : S.up = true) (hc : S.set = false) :
    Calls Tryz.prog 10 #[.pointer (some ⟨db, 0, none⟩), .int .i64 (bs : Int), .int .i64 (sc : Int), .int .i64 (run : Int)] w fun e w' =>
      ∃ j S' l, e = .returned (.tuple #[.pointer (some ⟨l, 0, none⟩), .int .i64 0]) ∧ (lo ≤ j ∧ j ≤ fs.length ∧ S'.set = false ∧ S'.n = S.n) ∧ Lv B w' l (k + sc + 1) S' db bs sc run (fs.take j) j ∧ Kp isA B w w' ∧ Opn S S' bs sc run (cat (fs.take j)) := by
  obtain ⟨Q, hQ, hst⟩ := h.q
  refine (Open_calm hd hk bs sc run hF.s0 hF.s1 (by omega) hr2 hfit hu hc Q (fun i hi => ⟨hQ.now i hi, by have := hQ.run i hi; omega, hQ.sz i hi⟩)).mono ?_
  rintro e w' ⟨gs, S', l, rfl, hsp, hop, hlx, hK⟩
  obtain ⟨x, hx, hlow⟩ := hst run (Nat.le_of_lt hrun)
  obtain ⟨j, hj, rfl, hmax⟩ := Spl.take fs gs _ x hF.frm hx hsp
  have hlj : lo ≤ j := hmax lo hlo hlow
  have hjl : (fs.take j).length = j := by rw [List.length_take]; omega
  obtain ⟨y, hy⟩ := hsp.pre
  have hstd := std_new (Q := Q) (secs := sc) (r := run) (T := cat (fs.take j)) (x := y) (fun i hi => by have := hQ.run i hi; omega) hQ.sz hy (hF.take j).sz (by omega)
  have mk : S'.up = true → S'.n = S.n → (∃ Q', Qs S' bs sc run Q' ∧ Std Q' sc run (cat (fs.take j))) → Lv B w' l (k + sc + 1) S' db bs sc run (fs.take j) j := fun hu' hn' hq => by
    refine ⟨?_, hu', hF.take j, by omega, by rw [hn']; exact hfit, hr2, by rw [List.take_take, Nat.min_self]; exact hq⟩
    have : off (fs.take j) j = (cat (fs.take j)).size := by unfold off; rw [List.take_take, Nat.min_self]
    rw [this]
    exact hlx
  have hop2 := hop
  rcases hop with ⟨h1, rfl⟩ | ⟨h1, hLd⟩
  · refine ⟨j, _, l, rfl, ⟨hlj, hj, hc, rfl⟩, mk hu rfl ⟨Q, ⟨hQ.now, fun i hi => by have := hQ.run i hi; omega, hQ.sz, hQ.wait⟩, ?_⟩, hK, hop2⟩
    have e : putQ Q (cat (fs.take j)) run ((cat (fs.take j)).size / 58) (min ((cat (fs.take j)).size / 58 + 1) sc) = Q := by
      funext i
      exact putQ_out (by omega)
    rw [e] at hstd
    exact hstd
  · obtain ⟨hu', _, _⟩ := hLd.ok rfl
    exact ⟨j, S', l, rfl, ⟨hlj, hj, (hLd.calm hc).2, hLd.n⟩, mk hu' hLd.n ⟨_, hQ.laid (Nat.le_of_lt hrun) hLd, hstd⟩, hK, hop2⟩
theorem Wt.open_ (h : Wt S bs sc r fs lo) (hF : Fit sc fs) (hlo : lo ≤ fs.length) (hd : Ds B w db k S) (hk : k ≤ 30000) (hrun : r < run) (hr2 : run ≤ 4294967295) (hfit : bs + sc ≤ S.n) (hu : S.up = true) (hc : S.set = false) :
    Calls Tryz.prog 10 #[.pointer (some ⟨db, 0, none⟩), .int .i64 (bs : Int), .int .i64 (sc : Int), .int .i64 (run : Int)] w fun e w' =>
      ∃ j S' l, e = .returned (.tuple #[.pointer (some ⟨l, 0, none⟩), .int .i64 0]) ∧ (lo ≤ j ∧ j ≤ fs.length ∧ S'.set = false ∧ S'.n = S.n) ∧ Lv B w' l (k + sc + 1) S' db bs sc run (fs.take j) j ∧ Kp isA B w w' := by
  refine (h.open2 hF hlo hd hk hrun hr2 hfit hu hc).mono ?_
  rintro e w' ⟨j, S', l, h1, h2, h3, h4, _⟩
  exact ⟨j, S', l, h1, h2, h3, h4⟩
end
end Go.Proofs.YtgcfbjecmmnlhaaGreat

namespace Go.Proofs.YtgcfbjecmmnlhaaGreat
open Go.RowKit
set_option linter.unusedVariables false
set_option linter.unusedSimpArgs false
set_option maxRecDepth 100000

def few8M (m : Rm) : Rm := ⟨m.s, m.im.take 2, m.tb.take 3⟩
section
variable {w : World} {s : Sc} {a a' : Option Addr} {n n' c c' : Nat}
set_option maxHeartbeats 400000 in
theorem few8_00 (hi : ¬ (2 : Int) < n) (hn : n ≤ 9223372036854775807) (ht : ¬ (3 : Int) < n') (hn' : n' ≤ 9223372036854775807) : Calls Tryz.prog 19 #[.agg (s.A (.slice a n c) (.slice a' n' c'))] w fun e w' => e = .returned (.agg (s.A (.slice a n c) (.slice a' n' c'))) ∧ Below w.heap.size w w' := by
  go_enter Tryz.func19, Tryz.ntmps19
  go_wp2_with (first
    | (refine wpList_box_rc (s := s) (I := _) (T := _) _ rfl _ rfl rfl ?_; intro w0 b0 N0)
    | (refine wpList_new_rc _ rfl rfl ?_; intro w1 b1 N1; have H := Fw.mk' N0 N1; clear N0 N1; have k9 := H.p.c9; have k10 := H.p.c10)
    | (refine wpList_fput (s' := s) (I' := .slice a 2 c) (T' := .slice a' n' c') _ rfl 34 (.tmp 10) (.tmp 9) rfl rfl rfl H.p (by omega) rfl (by kernel_rfl) rfl ?_; intro w4 P4; have H4 := H.put P4; clear H; have H := H4; clear H4 P4; have k9 := H.p.c9; have k10 := H.p.c10)
    | (refine wpList_fput (s' := s) (I' := _) (T' := .slice a' 3 c') _ rfl 35 (.tmp 18) (.tmp 17) rfl rfl rfl H.p (by omega) rfl (by kernel_rfl) rfl ?_; intro w4 P4; have H4 := H.put P4; clear H; have H := H4; clear H4 P4)
    | (refine wpList_load_rc _ rfl (.tmp 1) rfl rfl H.p ?_)
    | (refine wpList_put_rc (s' := s) (I' := _) (T' := _) _ rfl (.tmp 2) (.tmp 19) rfl rfl rfl H.r rfl rfl ?_; intro w9 P9))
  refine bodyPost_ret (results_rc1 rfl _ _ rfl P9.rc) rfl ?_
  exact ⟨rfl, H.bel.trans (P9.below H.l1 H.bel.size)⟩
set_option maxHeartbeats 400000 in
theorem few8_01 (hi : ¬ (2 : Int) < n) (hn : n ≤ 9223372036854775807) (ht : (3 : Int) < n') (hn' : n' ≤ 9223372036854775807) (hc' : n' ≤ c') (hs' : ∀ ad, a' = some ad → ad.spot = none) : Calls Tryz.prog 19 #[.agg (s.A (.slice a n c) (.slice a' n' c'))] w fun e w' => e = .returned (.agg (s.A (.slice a n c) (.slice a' 3 c'))) ∧ Below w.heap.size w w' := by
  have s2 := fun W => sliceT_to (n := n') 3 (show 3 ≤ c' by omega) hs' W
  have hc0' := hc'
  clear hs'
  go_enter Tryz.func19, Tryz.ntmps19
  go_wp2_with (first
    | (refine wpList_box_rc (s := s) (I := _) (T := _) _ rfl _ rfl rfl ?_; intro w0 b0 N0)
    | (refine wpList_new_rc _ rfl rfl ?_; intro w1 b1 N1; have H := Fw.mk' N0 N1; clear N0 N1; have k9 := H.p.c9; have k10 := H.p.c10)
    | (refine wpList_fput (s' := s) (I' := .slice a 2 c) (T' := .slice a' n' c') _ rfl 34 (.tmp 10) (.tmp 9) rfl rfl rfl H.p (by omega) rfl (by kernel_rfl) rfl ?_; intro w4 P4; have H4 := H.put P4; clear H; have H := H4; clear H4 P4; have k9 := H.p.c9; have k10 := H.p.c10)
    | (refine wpList_fput (s' := s) (I' := _) (T' := .slice a' 3 c') _ rfl 35 (.tmp 18) (.tmp 17) rfl rfl rfl H.p (by omega) rfl (by kernel_rfl) rfl ?_; intro w4 P4; have H4 := H.put P4; clear H; have H := H4; clear H4 P4)
    | (refine wpList_load_rc _ rfl (.tmp 1) rfl rfl H.p ?_)
    | (refine wpList_put_rc (s' := s) (I' := _) (T' := _) _ rfl (.tmp 2) (.tmp 19) rfl rfl rfl H.r rfl rfl ?_; intro w9 P9))
  refine bodyPost_ret (results_rc1 rfl _ _ rfl P9.rc) rfl ?_
  exact ⟨rfl, H.bel.trans (P9.below H.l1 H.bel.size)⟩
set_option maxHeartbeats 400000 in
theorem few8_10 (hi : (2 : Int) < n) (hn : n ≤ 9223372036854775807) (hc : n ≤ c) (ht : ¬ (3 : Int) < n') (hn' : n' ≤ 9223372036854775807) (hs : ∀ ad, a = some ad → ad.spot = none) : Calls Tryz.prog 19 #[.agg (s.A (.slice a n c) (.slice a' n' c'))] w fun e w' => e = .returned (.agg (s.A (.slice a 2 c) (.slice a' n' c'))) ∧ Below w.heap.size w w' := by
  have s1 := fun W => sliceI_to (n := n) 2 (show 2 ≤ c by omega) hs W
  have hc0 := hc
  clear hs
  go_enter Tryz.func19, Tryz.ntmps19
  go_wp2_with (first
    | (refine wpList_box_rc (s := s) (I := _) (T := _) _ rfl _ rfl rfl ?_; intro w0 b0 N0)
    | (refine wpList_new_rc _ rfl rfl ?_; intro w1 b1 N1; have H := Fw.mk' N0 N1; clear N0 N1; have k9 := H.p.c9; have k10 := H.p.c10)
    | (refine wpList_fput (s' := s) (I' := .slice a 2 c) (T' := .slice a' n' c') _ rfl 34 (.tmp 10) (.tmp 9) rfl rfl rfl H.p (by omega) rfl (by kernel_rfl) rfl ?_; intro w4 P4; have H4 := H.put P4; clear H; have H := H4; clear H4 P4; have k9 := H.p.c9; have k10 := H.p.c10)
    | (refine wpList_fput (s' := s) (I' := _) (T' := .slice a' 3 c') _ rfl 35 (.tmp 18) (.tmp 17) rfl rfl rfl H.p (by omega) rfl (by kernel_rfl) rfl ?_; intro w4 P4; have H4 := H.put P4; clear H; have H := H4; clear H4 P4)
    | (refine wpList_load_rc _ rfl (.tmp 1) rfl rfl H.p ?_)
    | (refine wpList_put_rc (s' := s) (I' := _) (T' := _) _ rfl (.tmp 2) (.tmp 19) rfl rfl rfl H.r rfl rfl ?_; intro w9 P9))
  refine bodyPost_ret (results_rc1 rfl _ _ rfl P9.rc) rfl ?_
  exact ⟨rfl, H.bel.trans (P9.below H.l1 H.bel.size)⟩
set_option maxHeartbeats 400000 in
theorem few8_11 (hi : (2 : Int) < n) (hn : n ≤ 9223372036854775807) (hc : n ≤ c) (ht : (3 : Int) < n') (hn' : n' ≤ 9223372036854775807) (hc' : n' ≤ c') (hs : ∀ ad, a = some ad → ad.spot = none) (hs' : ∀ ad, a' = some ad → ad.spot = none) : Calls Tryz.prog 19 #[.agg (s.A (.slice a n c) (.slice a' n' c'))] w fun e w' => e = .returned (.agg (s.A (.slice a 2 c) (.slice a' 3 c'))) ∧ Below w.heap.size w w' := by
  have s1 := fun W => sliceI_to (n := n) 2 (show 2 ≤ c by omega) hs W
  have hc0 := hc
  clear hs
  have s2 := fun W => sliceT_to (n := n') 3 (show 3 ≤ c' by omega) hs' W
  have hc0' := hc'
  clear hs'
  go_enter Tryz.func19, Tryz.ntmps19
  go_wp2_with (first
    | (refine wpList_box_rc (s := s) (I := _) (T := _) _ rfl _ rfl rfl ?_; intro w0 b0 N0)
    | (refine wpList_new_rc _ rfl rfl ?_; intro w1 b1 N1; have H := Fw.mk' N0 N1; clear N0 N1; have k9 := H.p.c9; have k10 := H.p.c10)
    | (refine wpList_fput (s' := s) (I' := .slice a 2 c) (T' := .slice a' n' c') _ rfl 34 (.tmp 10) (.tmp 9) rfl rfl rfl H.p (by omega) rfl (by kernel_rfl) rfl ?_; intro w4 P4; have H4 := H.put P4; clear H; have H := H4; clear H4 P4; have k9 := H.p.c9; have k10 := H.p.c10)
    | (refine wpList_fput (s' := s) (I' := _) (T' := .slice a' 3 c') _ rfl 35 (.tmp 18) (.tmp 17) rfl rfl rfl H.p (by omega) rfl (by kernel_rfl) rfl ?_; intro w4 P4; have H4 := H.put P4; clear H; have H := H4; clear H4 P4)
    | (refine wpList_load_rc _ rfl (.tmp 1) rfl rfl H.p ?_)
    | (refine wpList_put_rc (s' := s) (I' := _) (T' := _) _ rfl (.tmp 2) (.tmp 19) rfl rfl rfl H.r rfl rfl ?_; intro w9 P9))
  refine bodyPost_ret (results_rc1 rfl _ _ rfl P9.rc) rfl ?_
  exact ⟨rfl, H.bel.trans (P9.below H.l1 H.bel.size)⟩
end
theorem few8_any {w wx : World} {v : Value} {m : Rm} (h : RecV w v m) (hi : m.im.length ≤ 9223372036854775807) (ht : m.tb.length ≤ 9223372036854775807) : Calls Tryz.prog 19 #[v] wx fun e w' => (∃ v', e = .returned v' ∧ RecV w v' (few8M m)) ∧ Below wx.heap.size wx w' := by
  obtain ⟨s, l, g⟩ := m
  obtain ⟨I, T, rfl, hI, hT⟩ := h.ex
  obtain ⟨a, c, rfl, hcs, hnil, hle, hsp⟩ := hI.ex
  obtain ⟨a', c', rfl, hcs', hnil', hle', hsp'⟩ := hT.ex
  dsimp only at *
  have fI : ∀ k, (l.take 2).length = k → SlI w (.slice a k c) (l.take 2) := fun k hk => by
    refine ⟨a, c, by rw [hk], ?_, hnil, ?_, fun e => hsp (fun e' => e (by rw [e']; rfl))⟩
    · rw [encI_take]; exact hcs.take 2
    · rw [List.length_take]; omega
  have fT : ∀ k, (g.take 3).length = k → SlT w (.slice a' k c') (g.take 3) := fun k hk => by
    refine ⟨a', c', by rw [hk], ?_, hnil', ?_, fun e => hsp' (fun e' => e (by rw [e']; rfl))⟩
    · rw [encT_take]; exact hcs'.take 3
    · rw [List.length_take]; omega
  by_cases h1 : (2 : Int) < l.length
  · have nI : l ≠ [] := fun e => by rw [e] at h1; simp at h1
    by_cases h2 : (3 : Int) < g.length
    · have nT : g ≠ [] := fun e => by rw [e] at h2; simp at h2
      refine (few8_11 h1 hi hle h2 ht hle' (hsp nI) (hsp' nT)).mono ?_
      rintro e w' ⟨he, hb⟩
      exact ⟨⟨_, he, ⟨_, _, rfl, fI 2 (by rw [List.length_take]; omega), fT 3 (by rw [List.length_take]; omega)⟩⟩, hb⟩
    · refine (few8_10 h1 hi hle h2 ht (hsp nI)).mono ?_
      rintro e w' ⟨he, hb⟩
      exact ⟨⟨_, he, ⟨_, _, rfl, fI 2 (by rw [List.length_take]; omega), fT g.length (by rw [List.length_take]; omega)⟩⟩, hb⟩
  · by_cases h2 : (3 : Int) < g.length
    · have nT : g ≠ [] := fun e => by rw [e] at h2; simp at h2
      refine (few8_01 h1 hi h2 ht hle' (hsp' nT)).mono ?_
      rintro e w' ⟨he, hb⟩
      exact ⟨⟨_, he, ⟨_, _, rfl, fI l.length (by rw [List.length_take]; omega), fT 3 (by rw [List.length_take]; omega)⟩⟩, hb⟩
    · refine (few8_00 h1 hi h2 ht).mono ?_
      rintro e w' ⟨he, hb⟩
      exact ⟨⟨_, he, ⟨_, _, rfl, fI l.length (by rw [List.length_take]; omega), fT g.length (by rw [List.length_take]; omega)⟩⟩, hb⟩
theorem Held.few8 {m : Rm} (h : Held m) : Small (few8M m) := by
  refine ⟨?_, ?_, ?_, h.ky, h.ol, h.nw⟩
  · show (m.im.take 2).length ≤ 1000
    rw [List.length_take]; omega
  · show (m.tb.take 3).length ≤ 1000
    rw [List.length_take]; omega
  · intro p hp
    exact h.t p (List.mem_of_mem_take hp)
end Go.Proofs.YtgcfbjecmmnlhaaGreat

namespace Go.Proofs.YtgcfbjecmmnlhaaGreat
open Go.RowKit Go.Maps Go.ChangeMaps
set_option linter.unusedVariables false
set_option linter.unusedSimpArgs false
set_option maxRecDepth 100000

section
variable {B l k db bs sc run r r' sure lo : Nat} {w w' w0 wx : World} {S S' : Dk} {fs gs : List ByteArray} {Q : Nat → Sec}
theorem Lv.wt0 (h : Lv B w l k S db bs sc run fs sure) : Wt S bs sc run (fs.take sure) sure := by
  obtain ⟨Q, hQ, hs⟩ := h.q
  refine ⟨Q, hQ, fun rn hr => ⟨⟨#[]⟩, ?_, ?_⟩⟩
  · rw [hs.stands hr, app_nil]
  · rw [hs.stands hr]; unfold off; rw [List.take_take, Nat.min_self]; exact Nat.le_refl _
theorem new_wt (n bs sc : Nat) (h : 1 ≤ sc) : Wt (newDk n) bs sc 0 [] 0 := by
  refine ⟨fun _ => (0, ⟨#[]⟩), ⟨fun i hi => ?_, fun i hi => Nat.le_refl _, fun i hi => Nat.zero_le _, fun i => rfl⟩, fun rn hr => ⟨⟨#[]⟩, ?_, Nat.zero_le _⟩⟩
  · rw [enc_zero]; rfl
  · obtain ⟨m, rfl⟩ : ∃ m, sc = m + 1 := ⟨sc - 1, by omega⟩
    show cat [] = stK _ rn (m + 1) 0 1 ++ _
    rw [stK, if_pos (Or.inl (by show 0 < 1; omega))]
    rfl
theorem fit_nil (h0 : 1 ≤ sc) (h1 : sc ≤ 8000) : Fit sc [] := ⟨(fun f hf => by cases hf), Nat.zero_le _, h0, h1⟩
/-- Append of a record that has a frame, and room. -/
theorem Lv.append {v : Value} {m : Rm} (h : Lv B w l k S db bs sc run fs sure) (hv : RecV w v m) (hm : Small m) (he : (frameM m).2 = 0) (hn : (cat fs).size + (frameM m).1.size ≤ 58 * sc) :
    Calls Tryz.prog 20 #[.pointer (some ⟨l, 0, none⟩), v] w fun e w' => e = .returned (.tuple #[.int .i64 (((cat fs).size : Int) + 1), .int .i64 0]) ∧ Lv B w' l k S db bs sc run (fs ++ [(frameM m).1]) sure ∧ Kp isL B w w' := by
  refine (append_ok h.lx h.fit hv hm he hn).mono ?_
  rintro e w' ⟨he', h1, k1⟩
  refine ⟨he', h.grown (fun g hg => by rw [List.mem_singleton] at hg; subst hg; exact frm_good he) ?_ h1, k1⟩
  rw [cat, cat, app_nil]; exact hn
/-- A small record. -/
def cmS (n : Int) : Sc := {kS 7 with tx := n, pv := 1}
def cmM (n : Int) : Rm := ⟨cmS n, [], []⟩
theorem cm_body (n : Int) (h0 : 0 ≤ n) (h1 : n < 1000) : bodyM (cleanM (cmM n)) = (⟨#[]⟩ ++ Pk.beS 7 1 ++ Pk.beS n.toNat 6 ++ Pk.beS 1 6, 0) ∧ cleanM (cmM n) = cmM n := by
  have e : cleanM (cmM n) = cmM n := by simp [cleanM, cleanS, cmM, cmS, kS, zS]
  have hl : laidM (cmM n) = (⟨#[]⟩ ++ Pk.beS 7 1 ++ Pk.beS n.toNat 6 ++ Pk.beS 1 6, 0) := by
    show stepW (stepW (stepW (⟨#[]⟩, 0) 7 1) n 6) 1 6 = _
    rw [stepW_good (by omega) (by omega) (by omega) (by rw [Pk.limI_1]; omega), stepW_good (by omega) (by omega) (by omega) (by rw [Pk.limI_6]; omega), stepW_good (by omega) (by omega) (by omega) (by rw [Pk.limI_6]; omega)]
    rfl
  rw [e]
  refine ⟨?_, rfl⟩
  rw [bodyM_good (by simp [refM, formed, cmM, cmS, kS, zS, Pk.size_nil]) (by rw [hl]) (by rw [hl]; simp [ByteArray.size_append, Pk.beS_size, Pk.size_nil]), hl]
theorem cm_frame (n : Int) (h0 : 0 ≤ n) (h1 : n < 1000) : (frameM (cmM n)).2 = 0 ∧ (frameM (cmM n)).1.size = 19 ∧ recF (frameM (cmM n)).1 = cmM n := by
  obtain ⟨hb, hc⟩ := cm_body n h0 h1
  have e : frameM (cmM n) = (frameB (⟨#[]⟩ ++ Pk.beS 7 1 ++ Pk.beS n.toNat 6 ++ Pk.beS 1 6), 0) := by
    unfold frameM
    rw [hb]
    simp
  rw [e]
  refine ⟨rfl, ?_, ?_⟩
  · show (frameB _).size = 19
    rw [frameB_size]
    simp [ByteArray.size_append, Pk.beS_size, Pk.size_nil]
  · have h0 := open_frame hb ⟨#[]⟩ ⟨#[]⟩
    rw [nil_app, app_nil, hc] at h0
    have h1 : openM (frameB (⟨#[]⟩ ++ Pk.beS 7 1 ++ Pk.beS n.toNat 6 ++ Pk.beS 1 6)) 0 = _ := h0
    unfold recF
    rw [h1]
theorem small_cm (n : Int) : Small (cmM n) := ⟨Nat.zero_le _, Nat.zero_le _, (fun p hp => by cases hp), Nat.zero_le _, Nat.zero_le _, Nat.zero_le _⟩
theorem recV_cm (w : World) (n : Int) : RecV w (.agg ((cmS n).A nilV nilV)) (cmM n) := ⟨nilV, nilV, rfl, SlI.nil w, SlT.nil w⟩
theorem commit_any (n : Int) (w : World) : Calls Tryz.prog 49 #[.int .i64 n] w fun e w' => e = .returned (.agg ((cmS n).A nilV nilV)) ∧ Below w.heap.size w w' := by
  have hb : ∀ W, (Instr.build 37 #[(0, .int .i64 7), (1, .int .i64 n), (2, .int .i64 1)]).run Tryz.prog W = .ok (.agg ((cmS n).A nilV nilV)) W := fun W => by kernel_rfl
  go_enter Tryz.func49, Tryz.ntmps49
  go_wp2_with (first
    | (refine wpList_new_rc _ rfl rfl ?_; intro w1 b2 N1)
    | (refine wpList_put_rc (s' := cmS n) (I' := nilV) (T' := nilV) _ rfl (.tmp 2) (.tmp 4) rfl rfl rfl N1.rc rfl rfl ?_; intro w6 P6))
  refine bodyPost_ret (results_rc1 rfl _ _ rfl P6.rc) rfl ?_
  exact ⟨rfl, N1.below.trans (P6.below (by have := N1.eq; omega) N1.below.size)⟩
/-- The example's log. -/
structure AwS (w0 wx : World) (l k : Nat) (S : Dk) (db run : Nat) (fs : List ByteArray) (sure : Nat) : Prop where
  lv : Lv w0.heap.size wx l k S db 1 10 run fs sure
  set : S.set = false
  n : S.n = 20
  bel : Below w0.heap.size w0 wx
  sz : (cat fs).size = 19 * fs.length
/-- Its disk. -/
structure AwD (w0 wx : World) (k : Nat) (S : Dk) (db : Nat) (r : Nat) (fs : List ByteArray) (lo : Nat) : Prop where
  d : Ds w0.heap.size wx db k S
  wt : Wt S 1 10 r fs lo
  fit : Fit 10 fs
  hlo : lo = fs.length
  set : S.set = false
  n : S.n = 20
  bel : Below w0.heap.size w0 wx
  sz : (cat fs).size = 19 * fs.length
theorem AwD.below (h : AwD w0 wx k S db r fs lo) (hb : Below wx.heap.size wx w') : AwD w0 w' k S db r fs lo := ⟨h.d.below hb, h.wt, h.fit, h.hlo, h.set, h.n, thn h.bel hb, h.sz⟩
theorem AwS.below (h : AwS w0 wx l k S db run fs sure) (hb : Below wx.heap.size wx w') : AwS w0 w' l k S db run fs sure := ⟨h.lv.below hb, h.set, h.n, thn h.bel hb, h.sz⟩
theorem AwD.open_ (h : AwD w0 wx k S db r fs lo) (hk : k ≤ 1000) (hu : S.up = true) (hr : r < run) (hr2 : run ≤ 4294967295) : Calls Tryz.prog 10 #[.pointer (some ⟨db, 0, none⟩), .int .i64 1, .int .i64 10, .int .i64 (run : Int)] wx fun e w' => ∃ S' l, e = .returned (.tuple #[.pointer (some ⟨l, 0, none⟩), .int .i64 0]) ∧ AwS w0 w' l (k + 11) S' db run fs fs.length := by
  refine (h.wt.open_ (bs := 1) (sc := 10) h.fit (by rw [h.hlo]; exact Nat.le_refl _) h.d (by omega) hr hr2 (by rw [h.n]; omega) hu h.set).mono ?_
  rintro e w' ⟨j, S', l, he, ⟨h1, h2, h3, h4⟩, hlv, hk'⟩
  have hj : j = fs.length := by have := h.hlo; omega
  subst hj
  rw [List.take_length] at hlv
  exact ⟨S', l, he, hlv, h3, by rw [h4, h.n], h.bel.trans hk'.bel, h.sz⟩
theorem AwS.append (h : AwS w0 wx l k S db run fs sure) (n : Int) (h0 : 0 ≤ n) (h1 : n < 1000) (hl : fs.length ≤ 5) : Calls Tryz.prog 20 #[.pointer (some ⟨l, 0, none⟩), .agg ((cmS n).A nilV nilV)] wx fun e w' => (∃ x, e = .returned (.tuple #[.int .i64 x, .int .i64 0])) ∧ AwS w0 w' l k S db run (fs ++ [(frameM (cmM n)).1]) sure := by
  obtain ⟨e1, e2, _⟩ := cm_frame n h0 h1
  have hz := h.sz
  refine (h.lv.append (recV_cm _ n) (small_cm n) e1 (by rw [e2, hz]; omega)).mono ?_
  rintro e w' ⟨he, h2, k2⟩
  refine ⟨⟨_, he⟩, h2, h.set, h.n, h.bel.trans k2.bel, ?_⟩
  rw [cat_snoc, bsz, e2, hz, List.length_append, List.length_singleton]; omega
theorem AwS.flush (h : AwS w0 wx l k S db run fs sure) (hk : k ≤ 1000) : Calls Tryz.prog 21 #[.pointer (some ⟨l, 0, none⟩)] wx fun e w' => ∃ S', e = .returned (.int .i64 0) ∧ AwS w0 w' l (k + 11) S' db run fs fs.length := by
  refine (h.lv.flush (by omega)).mono ?_
  rintro e w' ⟨y, he, S', ⟨h1, h2, h3⟩, h4⟩
  obtain ⟨rfl, hs⟩ := h3 h.set
  rcases h4 with ⟨_, h4⟩ | ⟨h4, _⟩
  · exact ⟨S', he, h4, hs, by rw [h2, h.n], h.bel.trans h1.bel, h.sz⟩
  · cases h4
theorem sz_take {fs : List ByteArray} (h : ∀ f ∈ fs, f.size = 19) : (cat fs).size = 19 * fs.length := by
  induction fs with
  | nil => rfl
  | cons f l ih =>
    have h1 := h f (List.mem_cons_self ..)
    have h2 := ih (fun g hg => h g (List.mem_cons_of_mem _ hg))
    rw [cat, bsz, h1, h2, List.length_cons]; omega
theorem AwS.crash (h : AwS w0 wx l k S db run fs sure) (hk : k ≤ 1000) (hsz : (cat (fs.take sure)).size = 19 * (fs.take sure).length) (x : Int) (x0 : 0 ≤ x) (x1 : x ≤ 18446744073709551615) : Calls Tryz.prog 45 #[.pointer (some ⟨db, 0, none⟩), .int .u64 x] wx fun e w' => (∃ y, e = .returned (.int .i64 y)) ∧ AwD w0 w' (k + 1) (crDk S x) db run (fs.take sure) sure := by
  refine (h.lv.lx.d.crash (by omega) x x0 x1).mono ?_
  rintro e w' ⟨he, h1, k1⟩
  have hs : (crDk S x).set = false := by unfold crDk; split; rfl; exact h.set
  have hn : (crDk S x).n = S.n := by unfold crDk; split; rfl; rfl
  exact ⟨⟨_, he⟩, h1, h.lv.wt0.crash x, h.lv.fit.take sure, by rw [List.length_take]; have := h.lv.hs; omega, hs, by rw [hn, h.n], h.bel.trans k1.bel, hsz⟩
theorem AwD.start (h : AwD w0 wx k S db r fs lo) : Calls Tryz.prog 47 #[.pointer (some ⟨db, 0, none⟩)] wx fun e w' => (∃ y, e = .returned (.int .i64 y)) ∧ AwD w0 w' k { S with up := true } db r fs lo := by
  refine h.d.start.mono ?_
  rintro e w' ⟨he, h1, k1⟩
  exact ⟨⟨_, he⟩, h1, h.wt.eq rfl rfl, h.fit, h.hlo, h.set, h.n, h.bel.trans k1.bel, h.sz⟩
end
end Go.Proofs.YtgcfbjecmmnlhaaGreat

namespace Go.Proofs.YtgcfbjecmmnlhaaGreat
open Go.RowKit Go.Maps Go.ChangeMaps
set_option linter.unusedVariables false
set_option linter.unusedSimpArgs false
set_option maxRecDepth 100000

theorem aw_new (w : World) : Calls Tryz.prog 9 #[.int .i64 20] w fun e w' => e = .returned (.tuple #[.pointer (some ⟨w.heap.size + 2, 0, none⟩), .int .i64 0]) ∧ AwD w w' 0 (newDk 20) (w.heap.size + 2) 0 [] 0 := by
  refine (Ds.new 20 (by omega) (by omega) w).mono ?_
  rintro e w' ⟨he, h1, h2⟩
  exact ⟨he, h1, new_wt 20 1 10 (by omega), fit_nil (by omega) (by omega), rfl, rfl, rfl, h2, rfl⟩
set_option maxHeartbeats 4000000 in
theorem awake8 (w : World) : Calls Tryz.prog 17 #[] w fun e w' => e = .returned (.bool true) ∧ Below w.heap.size w w' := by
  have CN : Hid (Calls Tryz.prog 9 #[.int .i64 20] w fun e w' => e = .returned (.tuple #[.pointer (some ⟨w.heap.size + 2, 0, none⟩), .int .i64 0]) ∧ AwD w w' 0 (newDk 20) (w.heap.size + 2) 0 [] 0) := aw_new w
  obtain ⟨db, hdb⟩ : ∃ db, db = w.heap.size + 2 := ⟨_, rfl⟩
  rw [← hdb] at CN
  have hw0 : Hid (Below w.heap.size w w) := Below.refl _ _
  clear hdb
  obtain ⟨f1a, f1b, f1c⟩ := cm_frame 1 (by omega) (by omega)
  obtain ⟨f2a, f2b, f2c⟩ := cm_frame 2 (by omega) (by omega)
  obtain ⟨F1, hF1⟩ : ∃ F1, F1 = (frameM (cmM 1)).1 := ⟨_, rfl⟩
  obtain ⟨F2, hF2⟩ : ∃ F2, F2 = (frameM (cmM 2)).1 := ⟨_, rfl⟩
  obtain ⟨F3, hF3⟩ : ∃ F3, F3 = (frameM (cmM 3)).1 := ⟨_, rfl⟩
  rw [← hF1] at f1b
  rw [← hF2] at f2b f2c
  have O1 : Hid (∀ wx S1, AwD w wx 0 S1 db 0 [] 0 → S1.up = true → Calls Tryz.prog 10 #[.pointer (some ⟨db, 0, none⟩), .int .i64 1, .int .i64 10, .int .i64 1] wx fun e w' => ∃ S' l, e = .returned (.tuple #[.pointer (some ⟨l, 0, none⟩), .int .i64 0]) ∧ AwS w w' l 11 S' db 1 [] 0) := fun wx S1 h hu => h.open_ (run := 1) (by omega) hu (by omega) (by omega)
  have C1 : Hid (∀ wx l S1, AwS w wx l 11 S1 db 1 [] 0 → Calls Tryz.prog 20 #[.pointer (some ⟨l, 0, none⟩), .agg ((cmS 1).A nilV nilV)] wx fun e w' => (∃ x, e = .returned (.tuple #[.int .i64 x, .int .i64 0])) ∧ AwS w w' l 11 S1 db 1 [F1] 0) := fun wx l S1 h => by
    rw [hF1]
    exact h.append 1 (by omega) (by omega) (by simp)
  have C2 : Hid (∀ wx l S1, AwS w wx l 11 S1 db 1 [F1] 0 → Calls Tryz.prog 20 #[.pointer (some ⟨l, 0, none⟩), .agg ((cmS 2).A nilV nilV)] wx fun e w' => (∃ x, e = .returned (.tuple #[.int .i64 x, .int .i64 0])) ∧ AwS w w' l 11 S1 db 1 [F1, F2] 0) := fun wx l S1 h => by
    rw [hF2]
    exact h.append 2 (by omega) (by omega) (by simp)
  have CFl : Hid (∀ wx l S1, AwS w wx l 11 S1 db 1 [F1, F2] 0 → Calls Tryz.prog 21 #[.pointer (some ⟨l, 0, none⟩)] wx fun e w' => ∃ S', e = .returned (.int .i64 0) ∧ AwS w w' l 22 S' db 1 [F1, F2] 2) := fun wx l S1 h => h.flush (by omega)
  have C3 : Hid (∀ wx l S1, AwS w wx l 22 S1 db 1 [F1, F2] 2 → Calls Tryz.prog 20 #[.pointer (some ⟨l, 0, none⟩), .agg ((cmS 3).A nilV nilV)] wx fun e w' => (∃ x, e = .returned (.tuple #[.int .i64 x, .int .i64 0])) ∧ AwS w w' l 22 S1 db 1 [F1, F2, F3] 2) := fun wx l S1 h => by
    rw [hF3]
    exact h.append 3 (by omega) (by omega) (by simp)
  have CCr : Hid (∀ wx l S1, AwS w wx l 22 S1 db 1 [F1, F2, F3] 2 → Calls Tryz.prog 45 #[.pointer (some ⟨db, 0, none⟩), .int .u64 0] wx fun e w' => (∃ y, e = .returned (.int .i64 y)) ∧ ∃ S', AwD w w' 23 S' db 1 [F1, F2] 2) := fun wx l S1 h => by
    refine (h.crash (by omega) (sz_take (fun f hf => by
      have hf' : f ∈ [F1, F2] := hf
      simp at hf'
      rcases hf' with rfl | rfl
      · exact f1b
      · exact f2b)) 0 (by omega) (by omega)).mono ?_
    rintro e w' ⟨he, h1⟩
    exact ⟨he, _, h1⟩
  have CSt : Hid (∀ wx S1, AwD w wx 23 S1 db 1 [F1, F2] 2 → Calls Tryz.prog 47 #[.pointer (some ⟨db, 0, none⟩)] wx fun e w' => (∃ y, e = .returned (.int .i64 y)) ∧ ∃ S', S'.up = true ∧ AwD w w' 23 S' db 1 [F1, F2] 2) := fun wx S1 h => by
    refine h.start.mono ?_
    rintro e w' ⟨he, h1⟩
    exact ⟨he, _, rfl, h1⟩
  have O2 : Hid (∀ wx S1, AwD w wx 23 S1 db 1 [F1, F2] 2 → S1.up = true → Calls Tryz.prog 10 #[.pointer (some ⟨db, 0, none⟩), .int .i64 1, .int .i64 10, .int .i64 2] wx fun e w' => ∃ S' l, e = .returned (.tuple #[.pointer (some ⟨l, 0, none⟩), .int .i64 0]) ∧ AwS w w' l 34 S' db 2 [F1, F2] 2) := fun wx S1 h hu => h.open_ (run := 2) (by omega) hu (by omega) (by omega)
  have CR : Hid (∀ wx l S1, AwS w wx l 34 S1 db 2 [F1, F2] 2 → Calls Tryz.prog 30 #[.pointer (some ⟨l, 0, none⟩)] wx fun e w' => ∃ g c v2, e = .returned (.tuple #[.slice (some ⟨g, 0, none⟩) 2 c, v2]) ∧ w'.cell? ⟨g, 14, none⟩ = some (.int .i64 2) ∧ Below w.heap.size w w') := fun wx l S1 h => by
    refine (Records_any h.lv.lx h.lv.fit).mono ?_
    rintro e w' ⟨⟨v, v2, he, hR, _⟩, _, hK⟩
    obtain ⟨a, c, rfl⟩ := hR.slice
    obtain ⟨g, I, T, rfl, hr, _⟩ := hR.at_ (i := 1) (by simp)
    have hm : ([F1, F2].map recF)[1] = cmM 2 := f2c
    have hc := hr 1 (.int .i64 2) (by rw [hm]; rfl)
    exact ⟨g, c, v2, he, hc, h.bel.trans hK.bel⟩
  have CM : Hid (∀ n wx, Calls Tryz.prog 49 #[.int .i64 n] wx fun e w' => e = .returned (.agg ((cmS n).A nilV nilV)) ∧ Below wx.heap.size wx w') := commit_any
  generalize cmS = cs at *
  generalize nilV = nv at *
  clear hF1 hF2 hF3 f1a f1b f1c f2a f2b f2c
  go_enter Tryz.func17, Tryz.ntmps17
  go_wp2_with (first
    | (go_at_call 9; refine CN.out.mono ?_; rintro e w1 ⟨rfl, D1⟩)
    | (go_at_call 10; refine (O1.out _ _ D1 rfl).mono ?_; clear D1; rintro e w2 ⟨S2, l, rfl, A2⟩)
    | (go_at_call 49; refine (CM.out _ _).mono ?_; rintro e w3 ⟨rfl, b3⟩)
    | (go_at_call 20; refine (C1.out _ _ _ (A2.below b3)).mono ?_; clear A2; rintro e w4 ⟨⟨x1, rfl⟩, A4⟩; clear b3)
    | (go_at_call 20; refine (C2.out _ _ _ (A4.below b3)).mono ?_; clear A4; rintro e w5 ⟨⟨x2, rfl⟩, A5⟩; clear b3)
    | (go_at_call 21; refine (CFl.out _ _ _ A5).mono ?_; clear A5; rintro e w6 ⟨S6, rfl, A6⟩)
    | (go_at_call 20; refine (C3.out _ _ _ (A6.below b3)).mono ?_; clear A6; rintro e w7 ⟨⟨x3, rfl⟩, A7⟩; clear b3)
    | (go_at_call 45; refine (CCr.out _ _ _ A7).mono ?_; clear A7; rintro e w8 ⟨⟨x4, rfl⟩, S8, D8⟩)
    | (go_at_call 47; refine (CSt.out _ _ D8).mono ?_; clear D8; rintro e w9 ⟨⟨x5, rfl⟩, S9, u9, D9⟩)
    | (go_at_call 10; refine (O2.out _ _ D9 u9).mono ?_; clear D9; rintro e w10 ⟨S10, l10, rfl, A10⟩)
    | (go_at_call 30; refine (CR.out _ _ _ A10).mono ?_; clear A10; rintro e w11 ⟨g, c, v2, rfl, c14, b11⟩))
  go_ret
  exact ⟨rfl, b11⟩
end Go.Proofs.YtgcfbjecmmnlhaaGreat

namespace Go.Proofs.YtgcfbjecmmnlhaaGreat
open Go.RowKit Go.Maps Go.ChangeMaps
set_option linter.unusedVariables false
set_option linter.unusedSimpArgs false
set_option maxRecDepth 100000

/-- A slice of records that is only read. -/
structure RsV (w : World) (a : Option Addr) (n : Nat) (ms : List Rm) : Prop where
  len : ms.length = n
  at_ : ∀ i, (h : i < ms.length) → ∃ g o I T, a = some ⟨g, o, none⟩ ∧ g < w.heap.size ∧ w.rangeAt g (o + i * 13) ((ms[i].s.A I T).toList) ∧ RecV w (.agg (ms[i].s.A I T)) ms[i] ∧ Held ms[i]
section
variable {H : Type} {enc : TypeId × Value → H} {w w' : World}
theorem open_recs {fuel : Nat} {a0 : Option Addr} {n0 c0 : Nat} {x : DataW H × List MemPlace} (h : DataW.trod enc Tryz.prog w 0 (fun _ => true) true fuel 49 [.slice a0 n0 c0] = some x) :
    ∃ ms, RsV w a0 n0 ms ∧ n0 ≤ 9223372036854775807 := by
  rcases Go.Deep.open_slice Tryz.underlying49 h with ⟨hcs, _⟩ | ⟨ad, len, cap, m, n, D, Pl, hcs, _, hl, hm, hmm, _, hall⟩
  · simp at hcs
    obtain ⟨rfl, rfl, rfl⟩ := hcs
    exact ⟨[], ⟨rfl, fun i hi => absurd hi (Nat.not_lt_zero _)⟩, by omega⟩
  · simp at hcs
    obtain ⟨rfl, rfl, rfl⟩ := hcs
    rw [if_pos rfl] at hmm
    subst hmm
    have h13 : Tryz.prog.cellsOf 37 = 13 := by kernel_rfl
    have each : ∀ i, i < m → ∃ q : Rm, (∃ I T, (∀ j u, ((q.s.A I T).toList)[j]? = some u → w.cell? ((ad.add (i * 13)).add j) = some u) ∧ RecV w (.agg (q.s.A I T)) q) ∧ Held q := by
      intro i hi
      obtain ⟨cs', g1, g2⟩ := hall i hi
      rw [h13] at g1
      obtain ⟨_, hlen, hcell⟩ := World.cells?_some g1
      obtain ⟨q, hv, hh⟩ := open_rec (cs := cs'.toArray) (by rw [h13]; simpa using hlen) (by simpa using g2)
      obtain ⟨I, T, e, hI, hT⟩ := hv.ex
      refine ⟨q, ⟨I, T, fun j u hu => ?_, by rw [← e]; exact hv⟩, hh⟩
      injection e with e
      rw [← e] at hu
      have hj : j < cs'.length := by simpa using (List.getElem?_eq_some_iff.1 hu).1
      have := hcell j (by omega)
      rw [this]
      simpa using hu
    haveI : Inhabited Rm := ⟨zM⟩
    obtain ⟨q, hq⟩ := Go.Deep.choose_lt each
    obtain ⟨b, off, spot⟩ := ad
    refine ⟨(List.range n0).map q, ⟨by simp, fun i hi => ?_⟩, by have : n0 ≤ m := hl; have := hm; unfold maxLen at this; omega⟩
    have hi' : i < n0 := by simpa using hi
    have hlm : n0 ≤ m := hl
    obtain ⟨⟨I, T, hc, hv⟩, hh⟩ := hq i (by omega)
    have hsp : spot = none := by
      obtain ⟨⟨I0, T0, hc0, _⟩, _⟩ := hq 0 (by omega)
      have := hc0 0 (.int .i64 (q 0).s.kd) rfl
      simpa [Addr.add] using World.cell?_spot this
    subst hsp
    have hadd : ∀ k, (⟨b, off, none⟩ : Addr).add k = ⟨b, off + k, none⟩ := fun k => by unfold Addr.add; split <;> simp_all
    have hadd2 : ∀ k j, (⟨b, k, none⟩ : Addr).add j = ⟨b, k + j, none⟩ := fun k j => by unfold Addr.add; split <;> simp_all
    have hget : ((List.range n0).map q)[i] = q i := by simp
    rw [hget]
    refine ⟨b, off, I, T, rfl, ?_, fun j u hu => ?_, hv, hh⟩
    · have := hc 0 (.int .i64 (q i).s.kd) rfl
      rw [hadd, hadd2] at this
      rcases Nat.lt_or_ge b w.heap.size with h' | h'
      · exact h'
      · simp [World.cell?, Array.getElem?_eq_none h'] at this
    · have := hc j u hu
      rw [hadd, hadd2] at this
      exact this
end
section
variable {B l k db bs sc run r r' sure lo : Nat} {w w' w0 wx : World} {S S' : Dk} {fs gs : List ByteArray}
theorem wpList_load_rcs {ops : Array Oper} {rest : List Oper} {o : Oper} {a : Act} {Q : Exit → Act → World → Prop} {g of : Nat} {s : Sc} {I T : Value} (w : World) (hg : o.guard = none) (x : Operand) (hop : o.op = Op.load 37 x) (hx : a.eval x = .pointer (some ⟨g, of, none⟩)) (hr : w.rangeAt g of ((s.A I T).toList))
    (h : wpList Tryz.prog ops Q rest (a.put o.dst (.agg (s.A I T))) w) : wpList Tryz.prog ops Q (o :: rest) a w :=
  wpList_load_mid hg 37 x hop g of hx _ _ hr Tryz.underlying37 rfl (info_rc s I T) h
theorem rangeAt_below {g o : Nat} {L : List Value} (h : w.rangeAt g o L) (hg : g < w.heap.size) (hb : Below w.heap.size w w') : w'.rangeAt g o L := fun j u hu => (World.cell?_of_block (hb.block g hg)).trans (h j u hu)
/-- Append of any record: what becomes of the log. -/
theorem Lv.appendAny {v : Value} {m : Rm} (h : Lv B w l k S db bs sc run fs sure) (hv : RecV w v m) (hm : Small m) :
    Calls Tryz.prog 20 #[.pointer (some ⟨l, 0, none⟩), v] w fun e w' => ∃ x y fs', e = .returned (.tuple #[.int .i64 x, .int .i64 y]) ∧ Lv B w' l k S db bs sc run fs' sure ∧ Kp isL B w w' ∧ ((y = 0 ∧ (frameM m).2 = 0 ∧ fs' = fs ++ [(frameM m).1] ∧ x = ((cat fs).size : Int) + 1 ∧ (cat fs).size + (frameM m).1.size ≤ 58 * sc) ∨ (y ≠ 0 ∧ fs' = fs ∧ x = 0 ∧ (((frameM m).2 ≠ 0 ∧ y = (frameM m).2) ∨ ((frameM m).2 = 0 ∧ y = 7 ∧ ¬ (cat fs).size + (frameM m).1.size ≤ 58 * sc)))) := by
  have hle := h.lx.le
  by_cases he : (frameM m).2 = 0
  · by_cases hn : (cat fs).size + (frameM m).1.size ≤ 58 * sc
    · refine (h.append hv hm he hn).mono ?_
      rintro e w' ⟨he', h1, k1⟩
      exact ⟨_, _, _, he', h1, k1, Or.inl ⟨rfl, he, rfl, rfl, hn⟩⟩
    · refine (append_full h.lx h.fit hv hm he hn).mono ?_
      rintro e w' ⟨he', b1⟩
      exact ⟨_, _, _, he', h.below b1, Kp.of_below b1 hle, Or.inr ⟨by omega, rfl, rfl, Or.inr ⟨he, rfl, hn⟩⟩⟩
  · refine (append_err h.lx h.fit hv hm he).mono ?_
    rintro e w' ⟨he', b1⟩
    exact ⟨_, _, _, he', h.below b1, Kp.of_below b1 hle, Or.inr ⟨he, rfl, rfl, Or.inl ⟨he, rfl⟩⟩⟩
end
end Go.Proofs.YtgcfbjecmmnlhaaGreat

namespace Go.Proofs.YtgcfbjecmmnlhaaGreat
open Go.RowKit Go.Maps Go.ChangeMaps
set_option linter.unusedVariables false
set_option linter.unusedSimpArgs false
set_option maxRecDepth 100000

def sv (ss : List ByteArray) : List Value := ss.map fun s => .string s
/-- Rows of strings. -/
def isS : Obj → Prop
  | .cells _ t _ => t = 9
  | _ => False
structure OwnS (B : Nat) (w : World) (v : Value) (ss : List ByteArray) : Prop where
  row : w.ownsRow B 9 1 v ss.length (sv ss)
section
variable {B l k db bs sc run r r' sure lo : Nat} {w w' w0 wx : World} {S S' : Dk} {fs gs ss : List ByteArray} {v : Value} {R : Lr} {A : Obj → Prop}
theorem OwnS.nil (B : Nat) (w : World) : OwnS B w (.slice none 0 0) [] := ⟨rfl, Or.inl ⟨rfl, rfl⟩⟩
theorem OwnS.of_block (h : OwnS B w v ss) (hb : ∀ (j : Nat) (cur : Array Value) (fz : Nat × Nat), w.heap[j]? = some (Obj.cells cur 9 fz) → w'.heap[j]? = some (Obj.cells cur 9 fz)) : OwnS B w' v ss := by
  obtain ⟨h1, h2⟩ := h.row
  refine ⟨h1, ?_⟩
  rcases h2 with h2 | ⟨g, cap, cur, e, hB, hg, h3⟩
  · exact Or.inl h2
  · exact Or.inr ⟨g, cap, cur, e, hB, hb _ _ _ hg, h3⟩
theorem OwnS.below (h : OwnS B w v ss) (hb : Below w.heap.size w w') : OwnS B w' v ss := h.of_block (fun j cur fz e => (hb.block j (lt_of_some e)).trans e)
theorem OwnS.kept (h : OwnS B w v ss) {B' : Nat} (hb : Kp isA B' w w') : OwnS B w' v ss := h.of_block (fun j cur fz e => hb.block j _ e (by simp [isA, isD, isL]))
theorem OwnS.ex (h : OwnS B w v ss) : ∃ a c, v = .slice a ss.length c := by
  obtain ⟨h1, h2⟩ := h.row
  rcases h2 with ⟨rfl, h2⟩ | ⟨g, cap, cur, e, hB, hg, h3⟩
  · exact ⟨none, 0, by rw [h2]⟩
  · exact ⟨_, _, e⟩
theorem OwnS.at_ {a : Option Addr} {n c : Nat} (h : OwnS B w (.slice a n c) ss) {i : Nat} (hi : i < ss.length) : ∃ g, a = some ⟨g, 0, none⟩ ∧ w.cell? ⟨g, i, none⟩ = some (.string ss[i]) := by
  obtain ⟨h1, h2⟩ := h.row
  rcases h2 with ⟨_, h2⟩ | ⟨g, cap, cur, e, hB, hg, h3, h4, h5, h6⟩
  · omega
  · cases e
    refine ⟨g, rfl, ?_⟩
    rw [cell_of_row w g i cur 9 (0, 0) hg]
    have : (sv ss)[i]? = some (.string ss[i]) := by simp [sv, hi]
    rw [← h6, List.getElem?_take, if_pos (by omega)] at this
    simpa using this
theorem OwnS.take {a : Option Addr} {c : Nat} (h : OwnS B w (.slice a ss.length c) ss) {i : Nat} (hi : i ≤ ss.length) : OwnS B w (.slice a i c) (ss.take i) ∧ i ≤ c ∧ (∀ ad, a = some ad → ad.spot = none) := by
  have hl : (ss.take i).length = i := by rw [List.length_take]; omega
  rcases h.row.2 with ⟨e, hn⟩ | ⟨g, cap, cur, e, hbg, hgg, hnc, hcm, hcs, htake⟩
  · injection e with e1 e2 e3
    subst e1 e3
    have : i = 0 := by omega
    subst this
    refine ⟨⟨?_⟩, by omega, (fun ad e => by cases e)⟩
    rw [List.take_zero]
    exact ⟨rfl, Or.inl ⟨rfl, rfl⟩⟩
  · injection e with e1 e2 e3
    subst e1 e3
    refine ⟨⟨?_⟩, by omega, (fun ad e => by cases e; rfl)⟩
    rw [hl]
    refine ⟨by simp [sv]; omega, Or.inr ⟨g, c, cur, rfl, hbg, hgg, by omega, hcm, hcs, ?_⟩⟩
    have : sv (ss.take i) = (sv ss).take i := by simp [sv, List.map_take]
    rw [this, ← htake, List.take_take]
    congr 1
    omega
theorem sliceS_to {a : Option Addr} {n c : Nat} (i : Nat) (hi : i ≤ c) (hsp : ∀ ad, a = some ad → ad.spot = none) (W : World) : (Instr.slice 31 (.slice a n c) none (some (.int .i64 (i : Int))) none).run Tryz.prog W = .ok (.slice a i c) W := by
  have hr := run_slice_h (P := Tryz.prog) W 31 a n c (by kernel_rfl) .i64 (i : Int) (by omega) (by omega)
  have hz : ∀ w, (Go.sizeOf (Tryz.prog.elem 31)).run Tryz.prog w = .ok 1 w := fun w => by kernel_rfl
  rw [hr, hz]
  simp only [Result.andThen, sliced, Int.toNat_natCast, Nat.sub_zero, Nat.zero_mul]
  cases a with
  | none => split <;> rfl
  | some ad =>
    obtain ⟨b, off, sp⟩ := ad
    have := hsp _ rfl
    dsimp only at this
    subst this
    split
    · rfl
    · simp [Addr.add_mid]
theorem info_str : ∃ i, Tryz.prog.info? 9 = some i ∧ i.zero = some (.string ⟨#[]⟩) ∧ i.size = 1 ∧ i.bytes = 16 :=
  info_parts (show (Tryz.prog.info? 9).map (fun i => (i.zero, i.size, i.bytes)) = some (some (.string ⟨#[]⟩), 1, 16) by kernel_rfl)
theorem wpList_append_str {ops : Array Oper} {rest : List Oper} {o : Oper} {act : Act} {Q : Exit → Act → World → Prop} (hgd : o.guard = none) (s x : Operand)
    (ho : o.op = .call { callee := .builtin .append, args := #[s, x], argTypes := #[31, 31] }) (hs : act.eval s = v) (h : OwnS B w v ss)
    {g : Nat} {p : ByteArray} (hx : act.eval x = .slice (some ⟨g, 0, none⟩) 1 1) (hg : w.cell? ⟨g, 0, none⟩ = some (.string p)) (hB : B ≤ w.heap.size) (hl : ss.length ≤ 100000)
    (K : ∀ v' w', OwnS B w' v' (ss ++ [p]) → Kp isS B w w' → wpList Tryz.prog ops Q rest (act.put o.dst v') w') : wpList Tryz.prog ops Q (o :: rest) act w := by
  obtain ⟨i, hi, hz0, hz1, hz2⟩ := info_str
  refine Go.wpList_append_own (P := Tryz.prog) (w := w) hgd s x 31 ho B 9 i (.string ⟨#[]⟩) 1 16 Tryz.underlying31 hi hz0 hz1 hz2 rfl (by omega) v ss.length (sv ss) hs h.row ⟨g, 0, none⟩ 1 1 [.string p] hx rfl ?_ ?_ (by unfold maxLen; omega) (by omega) hB ?_
  · intro j u hu
    have : j = 0 := by
      have := (List.getElem?_eq_some_iff.1 hu).1
      simpa using this
    subst this
    simp at hu
    subst hu
    have hadd : (⟨g, 0, none⟩ : Addr).add 0 = ⟨g, 0, none⟩ := by unfold Addr.add; split <;> simp_all
    rw [hadd]
    exact hg
  · intro u hu
    simp at hu
    subst hu
    rfl
  · intro v' w' hr hgr hn
    have hC : ∀ j, v.ownBlock = some j → B ≤ j ∧ ∃ cur, w.heap[j]? = some (.cells cur 9 (0, 0)) := by
      intro j e
      rcases h.row.2 with ⟨rfl, _⟩ | ⟨b, cap, cur, rfl, hbg, hgg, _⟩
      · simp [Value.ownBlock] at e
      · simp [Value.ownBlock] at e
        subst e
        exact ⟨hbg, cur, hgg⟩
    refine K v' w' ⟨?_⟩ ⟨(Below.refl B w).grown hgr hB (fun j e => (hC j e).1), fun j ob e hnr => (hgr.block j (lt_of_some e) (fun e2 => ?_)).trans e⟩
    · have e1 : (ss ++ [p]).length = ss.length + 1 := by simp
      have e2 : sv (ss ++ [p]) = sv ss ++ [.string p] := by simp [sv]
      rw [e1, e2]
      exact hr
    · obtain ⟨_, cur, e3⟩ := hC j e2.symm
      rw [e] at e3; cases e3; exact hnr rfl
/-- What turns no block of a log's or a disk's kinds leaves them. -/
theorem Lx.keptBy (h : Lx B w l k S R) {B' : Nat} (hA : ∀ o, isA o → ¬ A o) (hb : Kp A B' w w') : Lx B w' l k S R := by
  obtain ⟨lb, mb, m, d1, d2, d3, d4⟩ := h.d.dsk
  obtain ⟨p, v, pv, h1, h2, h3, h4⟩ := h.g.ex
  have e1 : w'.heap[lb]? = w.heap[lb]? := by
    obtain ⟨cur, fz, e2⟩ := d1.row.ty
    rw [e2]; exact hb.block _ _ e2 (hA _ (Or.inl (Or.inr rfl)))
  have e3 : w'.heap[mb]? = w.heap[mb]? := by
    obtain ⟨es, c, e2⟩ := d1.map.is
    rw [e2]; exact hb.block _ _ e2 (hA _ (Or.inl trivial))
  refine ⟨⟨⟨lb, mb, m, ⟨hb.block _ _ d1.blk (hA _ (Or.inl (Or.inl rfl))), d1.row.of_block e1 hb.size, d1.map.of_block e3, d1.ne⟩, d2, d3, d4⟩, h.d.q, h.d.hd, Nat.le_trans h.d.lt hb.size⟩, ?_⟩
  exact ⟨⟨p, v, pv, hb.block l _ h1 (hA _ (Or.inr (Or.inr (Or.inr rfl)))), h2, ownF_of h3 (fun k cur fz e => hb.block k _ e (hA _ (Or.inr (Or.inr (Or.inl rfl))))), h4.of_block (fun k cur fz e => hb.block k _ e (hA _ (Or.inr (Or.inl rfl))))⟩, h.g.ge, Nat.le_trans h.g.le hb.size⟩
theorem isS_not : ∀ o, isA o → ¬ isS o := by
  intro o ha hs
  cases o with
  | cells cs t fz =>
    have ht : t = 9 := hs
    subst ht
    rcases ha with ha | ha
    · rcases ha with ha | ha <;> exact absurd ha (by decide)
    · rcases ha with ha | ha | ha <;> exact absurd ha (by decide)
  | _ => exact hs
theorem Lv.keptS (h : Lv B w l k S db bs sc run fs sure) {B' : Nat} (hb : Kp isS B' w w') : Lv B w' l k S db bs sc run fs sure := ⟨h.lx.keptBy isS_not hb, h.up, h.fit, h.hs, h.n, h.r2, h.q⟩
theorem small_recF {f : ByteArray} (h : Frm f) : Small (recF f) := by
  obtain ⟨m, Z, hb, rfl⟩ := h.ex
  have h0 := open_frame hb ⟨#[]⟩ ⟨#[]⟩
  rw [nil_app, app_nil] at h0
  have h1 : openM (frameB Z) 0 = (cleanM m, 6 + (Z.size : Int), 0) := h0
  have e : recF (frameB Z) = (rdM Z).1 := by
    unfold recF
    rw [h1, rdM_body (cleanM_twice m) hb]
  rw [e]
  have hz := bodyM_size (cleanM m)
  rw [hb] at hz
  exact rdM_small Z (by dsimp only at hz; omega)
end
end Go.Proofs.YtgcfbjecmmnlhaaGreat

namespace Go.Proofs.YtgcfbjecmmnlhaaGreat
open Go.RowKit Go.Maps Go.ChangeMaps
set_option linter.unusedVariables false
set_option linter.unusedSimpArgs false
set_option maxRecDepth 100000

section
variable {B l k db run sure r' : Nat} {w w' w0 wx : World} {S S' : Dk} {fs gs : List ByteArray}
structure SlS (w0 wx : World) (l k : Nat) (S : Dk) (db run : Nat) (fs : List ByteArray) (sure : Nat) : Prop where
  lv : Lv w0.heap.size wx l k S db 1 30 run fs sure
  set : S.set = false
  n : S.n = 31
  bel : Below w0.heap.size w0 wx
theorem SlS.below (h : SlS w0 wx l k S db run fs sure) (hb : Below wx.heap.size wx w') : SlS w0 w' l k S db run fs sure := ⟨h.lv.below hb, h.set, h.n, thn h.bel hb⟩
theorem SlS.keptS (h : SlS w0 wx l k S db run fs sure) (hb : Kp isS w0.heap.size wx w') : SlS w0 w' l k S db run fs sure := ⟨h.lv.keptS hb, h.set, h.n, h.bel.trans hb.bel⟩
theorem SlS.size (h : SlS w0 wx l k S db run fs sure) : (cat fs).size ≤ 1740 := h.lv.fit.sz
theorem SlS.len (h : SlS w0 wx l k S db run fs sure) : fs.length ≤ 300 := by
  have := h.size
  have := cat_len h.lv.fit.frm
  omega
theorem sl_new (w : World) : Calls Tryz.prog 9 #[.int .i64 31] w fun e w' => ∃ db, e = .returned (.tuple #[.pointer (some ⟨db, 0, none⟩), .int .i64 0]) ∧ Ds w.heap.size w' db 0 (newDk 31) ∧ Below w.heap.size w w' := by
  refine (Ds.new 31 (by omega) (by omega) w).mono ?_
  rintro e w' ⟨he, h1, h2⟩
  exact ⟨_, he, h1, h2⟩
theorem sl_open (h : Ds w0.heap.size wx db 0 (newDk 31)) (hb : Below w0.heap.size w0 wx) : Calls Tryz.prog 10 #[.pointer (some ⟨db, 0, none⟩), .int .i64 1, .int .i64 30, .int .i64 1] wx fun e w' => ∃ S' l, e = .returned (.tuple #[.pointer (some ⟨l, 0, none⟩), .int .i64 0]) ∧ SlS w0 w' l 31 S' db 1 [] 0 := by
  refine ((new_wt 31 1 30 (by omega)).open_ (run := 1) (fit_nil (by omega) (by omega)) (Nat.le_refl _) h (by omega) (by omega) (by omega) (by show 1 + 30 ≤ 31; omega) rfl rfl).mono ?_
  rintro e w' ⟨j, S', l, he, ⟨_, hj, hs, hn⟩, hlv, hK⟩
  have hj0 : j = 0 := by simpa using hj
  subst hj0
  exact ⟨S', l, he, hlv, hs, hn, hb.trans hK.bel⟩
theorem SlS.append {v : Value} {m : Rm} (h : SlS w0 wx l k S db run fs sure) (hv : RecV wx v m) (hm : Small m) : Calls Tryz.prog 20 #[.pointer (some ⟨l, 0, none⟩), v] wx fun e w' => ∃ x y fs', e = .returned (.tuple #[.int .i64 x, .int .i64 y]) ∧ SlS w0 w' l k S db run fs' sure ∧ Kp isA w0.heap.size wx w' ∧ ((y = 0 ∧ (frameM m).2 = 0 ∧ fs' = fs ++ [(frameM m).1]) ∨ (y ≠ 0 ∧ fs' = fs)) := by
  refine (h.lv.appendAny hv hm).mono ?_
  rintro e w' ⟨x, y, fs', he, h1, k1, hor⟩
  refine ⟨x, y, fs', he, ⟨h1, h.set, h.n, h.bel.trans k1.bel⟩, k1.l, ?_⟩
  rcases hor with ⟨a, b, c, _⟩ | ⟨a, b, _⟩
  · exact Or.inl ⟨a, b, c⟩
  · exact Or.inr ⟨a, b⟩
theorem SlS.flush (h : SlS w0 wx l k S db run fs sure) (hk : k ≤ 1000) : Calls Tryz.prog 21 #[.pointer (some ⟨l, 0, none⟩)] wx fun e w' => ∃ S', e = .returned (.int .i64 0) ∧ SlS w0 w' l (k + 31) S' db run fs fs.length ∧ Kp isA w0.heap.size wx w' := by
  refine (h.lv.flush (by omega)).mono ?_
  rintro e w' ⟨y, he, S', ⟨h1, h2, h3⟩, h4⟩
  obtain ⟨rfl, hs⟩ := h3 h.set
  rcases h4 with ⟨_, h4⟩ | ⟨h4, _⟩
  · exact ⟨S', he, ⟨h4, hs, by rw [h2, h.n], h.bel.trans h1.bel⟩, h1⟩
  · cases h4
theorem SlS.cut (h : SlS w0 wx l k S db run fs sure) (hk : k ≤ 1000) (i : Nat) (hi : i ≤ fs.length) (x : Int) (hx : x = ((off fs i : Nat) : Int) + 1) (hr1 : run < r') (hr2 : r' ≤ 4294967295) : Calls Tryz.prog 36 #[.pointer (some ⟨l, 0, none⟩), .int .i64 x, .int .i64 (r' : Int)] wx fun e w' => ∃ S', e = .returned (.int .i64 0) ∧ SlS w0 w' l (k + 31) S' db r' (fs.take i) i ∧ Kp isA w0.heap.size wx w' := by
  refine (h.lv.cut (by omega) i hi x hx hr1 hr2).mono ?_
  rintro e w' ⟨y, he, S', ⟨h1, h2, h3⟩, h4⟩
  obtain ⟨rfl, hs⟩ := h3 h.set
  rcases h4 with ⟨_, h4⟩ | ⟨h4, _⟩
  · exact ⟨S', he, ⟨h4, hs, by rw [h2, h.n], h.bel.trans h1.bel⟩, h1⟩
  · cases h4
theorem SlS.again (h : SlS w0 wx l k S db run fs sure) (hk : k ≤ 1000) (hs : sure = fs.length) (hr1 : run < r') (hr2 : r' ≤ 4294967295) : Calls Tryz.prog 10 #[.pointer (some ⟨db, 0, none⟩), .int .i64 1, .int .i64 30, .int .i64 (r' : Int)] wx fun e w' => ∃ S' l', e = .returned (.tuple #[.pointer (some ⟨l', 0, none⟩), .int .i64 0]) ∧ SlS w0 w' l' (k + 31) S' db r' fs fs.length ∧ Kp isA w0.heap.size wx w' := by
  have hw := h.lv.wt
  rw [hs] at hw
  refine (hw.open_ h.lv.fit (Nat.le_refl _) h.lv.lx.d (by omega) hr1 hr2 (by rw [h.n]; omega) h.lv.up h.set).mono ?_
  rintro e w' ⟨j, S', l', he, ⟨h1, h2, h3, h4⟩, hlv, hK⟩
  have hj : j = fs.length := by omega
  subst hj
  rw [List.take_length] at hlv
  exact ⟨S', l', he, ⟨hlv, h3, by rw [h4, h.n], h.bel.trans hK.bel⟩, hK⟩
theorem SlS.records (h : SlS w0 wx l k S db run fs sure) : Calls Tryz.prog 30 #[.pointer (some ⟨l, 0, none⟩)] wx fun e w' => (∃ a c v2, e = .returned (.tuple #[.slice a fs.length c, v2]) ∧ Rcs wx.heap.size w' (.slice a fs.length c) (fs.map recF)) ∧ SlS w0 w' l k S db run fs sure ∧ Kp isA w0.heap.size wx w' := by
  refine (Records_any h.lv.lx h.lv.fit).mono ?_
  rintro e w' ⟨⟨v, v2, he, hR, _⟩, hL, hK⟩
  obtain ⟨a, c, e2⟩ := hR.slice
  rw [List.length_map] at e2
  subst e2
  exact ⟨⟨a, c, v2, he, hR⟩, ⟨⟨hL, h.lv.up, h.lv.fit, h.lv.hs, h.lv.n, h.lv.r2, h.lv.q⟩, h.set, h.n, h.bel.trans hK.bel⟩, hK.l⟩
end
end Go.Proofs.YtgcfbjecmmnlhaaGreat

namespace Go.Proofs.YtgcfbjecmmnlhaaGreat
open Go.RowKit Go.Maps Go.ChangeMaps
set_option linter.unusedVariables false
set_option linter.unusedSimpArgs false
set_option maxRecDepth 100000

section
variable {B l k db bs sc run dur : Nat} {w w' w0 w1 w2 w5 w6 : World} {S S' : Dk} {fs gs : List ByteArray} {dead : Bool} {R : Lr}
set_option maxHeartbeats 2000000 in
theorem read_bad (h : Lx B w l k S (lgR db bs sc run fs dur dead)) (hf : Fit sc fs) (x : Int) (hx1 : 1 ≤ x) (hx2 : x < ((cat fs).size : Int) + 1) (he : (openM (cat fs) (x - 1)).2.2 ≠ 0) :
    Calls Tryz.prog 34 #[.pointer (some ⟨l, 0, none⟩), .int .i64 x] w fun e w' => (∃ y, e = .returned (.tuple #[.agg (zS.A nilV nilV), .int .i64 0, .int .i64 y])) ∧ Lx B w' l k S (lgR db bs sc run fs dur dead) ∧ Kp isL B w w' := by
  have h1 := hf.sz
  have h2 := hf.s1
  have CI : Hid (∀ wx, Below w.heap.size w wx → Calls Tryz.prog 54 #[.pointer (some ⟨l, 0, none⟩)] wx fun e w' => e = .returned (.bool true) ∧ w' = wx) := fun wx hx => isOpen_any (h.below hx).g
  have CE : Hid (∀ wx, Below w.heap.size w wx → Calls Tryz.prog 24 #[.pointer (some ⟨l, 0, none⟩)] wx fun e w' => e = .returned (.int .i64 (((cat fs).size : Int) + 1)) ∧ w' = wx) := fun wx hx => End_any (h.below hx).g (by show (cat fs).size ≤ 1000000; omega)
  have CS : Hid (∀ wx, Below w.heap.size w wx → Calls Tryz.prog 57 #[.pointer (some ⟨l, 5, none⟩)] wx fun v w' => v = .returned (.string (cat fs)) ∧ Lx B w' l k S (lgR db bs sc run fs dur dead) ∧ Kp isL B wx w') := fun wx hx => by
    refine (String_log (h.below hx).g).mono ?_
    rintro v w' ⟨hv, g1, k1⟩
    exact ⟨hv, (h.below hx).kept rfl g1 k1, k1⟩
  have CO : Hid (∀ wx, Calls Tryz.prog 31 #[.string (cat fs), .int .i64 (x - 1)] wx fun e w' => (∃ v, e = .returned (.tuple #[v, .int .i64 (openM (cat fs) (x - 1)).2.1, .int .i64 (openM (cat fs) (x - 1)).2.2]) ∧ RecF w' v (openM (cat fs) (x - 1)).1 wx.heap.size) ∧ Below wx.heap.size wx w') := fun wx => Open_any (w := wx) (cat fs) (x - 1) (by omega)
  have hle := h.le
  have t1 : ¬ x < 1 := by omega
  have t2 : ¬ ((cat fs).size : Int) + 1 ≤ x := by omega
  have hxb : x ≤ 1000000 := by omega
  have he' : ((openM (cat fs) (x - 1)).2.2 != 0) = true := by simpa using he
  clear h hf h1 h2 he
  generalize (openM (cat fs) (x - 1)).2.2 = E2 at *
  generalize (openM (cat fs) (x - 1)).2.1 = E1 at *
  generalize (openM (cat fs) (x - 1)).1 = m at *
  generalize ((cat fs).size : Int) + 1 = E at *
  generalize hT : cat fs = t at CS CO
  clear hT
  obtain ⟨s9, l9, g9⟩ := m
  have hw1 : IntKind.i64.wrap (x - 1) = x - 1 := by rw [IntKind.wrap_i64]; omega
  go_enter Tryz.func34, Tryz.ntmps34
  go_wp2_with (first
    | (have := N1; refine wpList_new_rc _ rfl rfl ?_; intro w4 b7 N7)
    | (refine wpList_new_rc _ rfl rfl ?_; intro w1 b4 N1)
    | (go_at_call 54; refine (CI.out _ N1.below).mono ?_; rintro e w9 ⟨rfl, rfl⟩)
    | (go_at_call 24; refine (CE.out _ N1.below).mono ?_; rintro e w8 ⟨rfl, rfl⟩)
    | (go_at_call 57; refine (CS.out _ N1.below).mono ?_; rintro e w2 ⟨rfl, H2, k2⟩; have rc2 : RcAt w2 b4 zS nilV nilV := ⟨k2.block _ _ N1.rc.blk (by simp [isL])⟩)
    | (go_at_call 31; refine (CO.out _).mono ?_; rintro e w3 ⟨⟨v, rfl, hv⟩, b3⟩; have rc3 := rc2.below b3; obtain ⟨I, T, rfl, hI, hT⟩ := hv.ex; dsimp only at hI hT)
    | (refine wpList_at (Op.store 37 (.tmp 7) (.tmp 31)) rfl ?_; refine wpList_put_rc (s' := s9) (I' := I) (T' := T) _ rfl (.tmp 7) (.tmp 31) rfl rfl rfl N7.rc hI.slI.one hT.slT.one ?_; intro w5 P7; have b35 : Below w3.heap.size w3 w5 := N7.below.trans (P7.below (by have := N7.eq; omega) N7.below.size); have rc5 := rc3.below b35)
    | (refine wpList_at (Op.store 37 (.tmp 4) (.tmp 36)) rfl ?_; refine wpList_put_rc (s' := zS) (I' := nilV) (T' := nilV) _ rfl (.tmp 4) (.tmp 36) rfl rfl rfl rc5 rfl rfl ?_; intro w6 P6))
  refine bodyPost_ret (results_rc3 rfl _ _ rfl P6.rc) rfl ?_
  have e4 := N1.eq
  have b25 : Below w2.heap.size w2 w5 := thn b3 b35
  have K5 : Kp isL B w w5 := ((Kp.of_below N1.below hle).trans k2).below b25 hle
  have H5 := H2.below b25
  exact ⟨⟨_, rfl⟩, H5.keptR (put_kp (B := B) rc5 P6 (by omega) H5.le), K5.putR P6 (by omega) hle⟩
theorem behind_any (h : Lx B w l k S (lgR db bs sc run fs dur dead)) (hf : Fit sc fs) (i : Nat) (hi : i < fs.length) : Calls Tryz.prog 87 #[.pointer (some ⟨l, 0, none⟩), .int .i64 (i : Int)] w fun e w' => e = .returned (.int .i64 (1 + (off fs (i + 1) : Int))) ∧ w' = w := by
  have h1 := hf.sz
  have h2 := hf.s1
  have hlp := fit_len hf
  have hlen := plc_length 1 fs
  obtain ⟨a, c, c7, ho⟩ := h.row
  have c7' : w.cell? ⟨l, 7, none⟩ = some (.slice a fs.length c) := by rw [← hlen]; exact c7
  have hi0 : (0 : Int) ≤ (i : Int) := by omega
  have hi1 : (i : Int) ≤ 70000 := by omega
  by_cases hl : i + 1 = fs.length
  · have CE : Hid (Calls Tryz.prog 24 #[.pointer (some ⟨l, 0, none⟩)] w fun e w' => e = .returned (.int .i64 (((cat fs).size : Int) + 1)) ∧ w' = w) := End_any h.g (by show (cat fs).size ≤ 1000000; omega)
    rw [← off_all, ← hl] at CE
    have t1 : ((i : Int) + 1 == (fs.length : Int)) = true := by simp; omega
    have HQ : Hid (1 + (off fs (i + 1) : Int) = (off fs (i + 1) : Int) + 1) := (by omega : 1 + (off fs (i + 1) : Int) = (off fs (i + 1) : Int) + 1)
    clear h hf ho c7 h1 h2 hlp hlen
    generalize (off fs (i + 1) : Int) + 1 = E at *
    go_enter Tryz.func87, Tryz.ntmps87
    go_wp2_with (go_at_call 24; refine CE.out.mono ?_; rintro e w0 ⟨rfl, rfl⟩)
    go_ret
    rw [HQ.out]
    exact ⟨rfl, rfl⟩
  · have ho' : OwnI B w (.slice a (plc 1 fs).length c) (plc 1 fs) := ho
    obtain ⟨g, ha, hg⟩ := ho'.at_ (i := i + 1) (by rw [hlen]; omega)
    have hgc := hg w (Below.refl _ _)
    subst ha
    have := plc_get 1 fs (i + 1) (by omega)
    rw [List.getElem?_eq_getElem (by rw [hlen]; omega)] at this
    injection this with this
    rw [this] at hgc
    have hgc' : w.cell? ⟨g, i + 1, none⟩ = some (.int .i64 (1 + (off fs (i + 1) : Int))) := by rw [hgc]; simp
    have t1 : ((i : Int) + 1 == (fs.length : Int)) = false := by simp; omega
    have t2 : (i : Int) + 1 < (fs.length : Int) := by omega
    have t3 : i + 1 < fs.length := by omega
    clear h hf ho ho' c7 h1 h2 hlp hlen hg hgc this
    generalize 1 + (off fs (i + 1) : Int) = E at *
    go_enter Tryz.func87, Tryz.ntmps87
    go_wp2
    go_ret
    exact ⟨rfl, rfl⟩
/-- Up to which frame From goes: from the k-th on, so many bytes. -/
structure FrJ (fs : List ByteArray) (sure kk : Nat) (most : Int) (j : Nat) : Prop where
  lo : kk + 1 ≤ j
  hi : j ≤ sure
  on : ∀ q, kk + 1 ≤ q → q < j → (off fs (q + 1) : Int) - (off fs kk : Int) ≤ most
  stop : j < sure → ¬ (off fs (j + 1) : Int) - (off fs kk : Int) ≤ most
theorem FrJ.uniq {sure kk j j' : Nat} {most : Int} (h : FrJ fs sure kk most j) (h' : FrJ fs sure kk most j') : j = j' := by
  rcases Nat.lt_trichotomy j j' with q | q | q
  · exact absurd (h'.on j h.lo q) (h.stop (by have := h'.hi; omega))
  · exact q
  · exact absurd (h.on j' h'.lo q) (h'.stop (by have := h.hi; omega))
def mid (fs : List ByteArray) (a b : Nat) : ByteArray := cat ((fs.take b).drop a)
theorem mid_ext {a b : Nat} (h : a ≤ b) : (cat fs).extract (off fs a) (off fs b) = mid fs a b := by
  have e1 : cat fs = cat (fs.take b) ++ cat (fs.drop b) := by rw [← cat_append, List.take_append_drop]
  have e2 : cat (fs.take b) = cat (fs.take a) ++ mid fs a b := by
    have := List.take_append_drop a (fs.take b)
    rw [List.take_take, Nat.min_eq_left h] at this
    conv => lhs; rw [← this]
    rw [cat_append]; rfl
  rw [e1, ext_app (show off fs b ≤ (cat (fs.take b)).size from Nat.le_refl _)]
  show (cat (fs.take b)).extract (off fs a) (cat (fs.take b)).size = _
  rw [e2]
  exact ext_right _ _
theorem slc_mid (t : ByteArray) (x y : Int) (a b : Nat) (hx : x - 1 = (a : Int)) (hy : y - 1 = (b : Int)) (hab : a ≤ b) (hb : b ≤ t.size) : ∀ W, (Instr.slice 9 (.string t) (some (.int .i64 (x - 1))) (some (.int .i64 (y - 1))) none).run Tryz.prog W = .ok (.string (t.extract a b)) W := by
  intro W
  rw [hx, hy]
  have := run_slice_string (P := Tryz.prog) W 9 t .i64 .i64 (a : Int) (b : Int) Tryz.underlying9 (by omega) (by omega) (by omega)
  rw [Int.toNat_natCast, Int.toNat_natCast] at this
  exact this
theorem from_range (h : Lx B w l k S (lgR db bs sc run fs dur dead)) (x m : Int) (hx : x < 1 ∨ (dur : Int) + 1 < x) : Calls Tryz.prog 66 #[.pointer (some ⟨l, 0, none⟩), .int .i64 x, .int .i64 m] w fun e w' => e = .returned (.tuple #[.string ⟨#[]⟩, .int .i64 6]) ∧ w' = w := by
  have CI : Hid (Calls Tryz.prog 54 #[.pointer (some ⟨l, 0, none⟩)] w fun e w' => e = .returned (.bool true) ∧ w' = w) := isOpen_any h.g
  have c8 : w.cell? ⟨l, 8, none⟩ = some (.int .i64 ((dur : Int) + 1)) := h.g.c8
  clear h
  generalize (dur : Int) + 1 = D at *
  by_cases h1 : x < 1
  · clear hx
    go_enter Tryz.func66, Tryz.ntmps66
    go_wp2_with (go_at_call 54; refine CI.out.mono ?_; rintro e w0 ⟨rfl, rfl⟩)
    go_ret2
    exact ⟨rfl, rfl⟩
  · have h2 : D < x := by omega
    clear hx
    go_enter Tryz.func66, Tryz.ntmps66
    go_wp2_with (go_at_call 54; refine CI.out.mono ?_; rintro e w0 ⟨rfl, rfl⟩)
    go_ret2
    exact ⟨rfl, rfl⟩
theorem from_end (h : Lx B w l k S (lgR db bs sc run fs dur dead)) (x m : Int) (hx1 : ¬ x < 1) (hx : x = (dur : Int) + 1) : Calls Tryz.prog 66 #[.pointer (some ⟨l, 0, none⟩), .int .i64 x, .int .i64 m] w fun e w' => e = .returned (.tuple #[.string ⟨#[]⟩, .int .i64 0]) ∧ w' = w := by
  have CI : Hid (Calls Tryz.prog 54 #[.pointer (some ⟨l, 0, none⟩)] w fun e w' => e = .returned (.bool true) ∧ w' = w) := isOpen_any h.g
  have c8 : w.cell? ⟨l, 8, none⟩ = some (.int .i64 ((dur : Int) + 1)) := h.g.c8
  rw [← hx] at c8
  clear h hx
  go_enter Tryz.func66, Tryz.ntmps66
  go_wp2_with (go_at_call 54; refine CI.out.mono ?_; rintro e w0 ⟨rfl, rfl⟩)
  go_ret2
  exact ⟨rfl, rfl⟩
set_option maxHeartbeats 1000000 in
theorem from_form (h : Lx B w l k S (lgR db bs sc run fs dur dead)) (hf : Fit sc fs) (x m : Int) (hx1 : ¬ x < 1) (hx2 : x < (dur : Int) + 1) (hx : (plc 1 fs).contains x = false) : Calls Tryz.prog 66 #[.pointer (some ⟨l, 0, none⟩), .int .i64 x, .int .i64 m] w fun e w' => e = .returned (.tuple #[.string ⟨#[]⟩, .int .i64 4]) ∧ Below w.heap.size w w' := by
  have hl := fit_len hf
  have CI : Hid (Calls Tryz.prog 54 #[.pointer (some ⟨l, 0, none⟩)] w fun e w' => e = .returned (.bool true) ∧ w' = w) := isOpen_any h.g
  have c8 : w.cell? ⟨l, 8, none⟩ = some (.int .i64 ((dur : Int) + 1)) := h.g.c8
  obtain ⟨a, c, c7, ho⟩ := h.row
  have CB : Hid (Calls Tryz.prog 61 #[.slice a (plc 1 fs).length c, .int .i64 x] w fun e w' => e = .returned (.tuple #[.int .i64 ((plc 1 fs).countP (· < x) : Nat), .bool ((plc 1 fs).contains x)]) ∧ ∃ q, w' = w.drewN q) := search_any ho (plc_sorted 1 fs) (by show (plc 1 fs).length ≤ 1000000; omega) x
  rw [hx] at CB
  have c7' : w.cell? ⟨l, 7, none⟩ = some (.slice a (plc 1 fs).length c) := c7
  have t1 : ¬ (dur : Int) + 1 < x := by omega
  have t2 : (x == (dur : Int) + 1) = false := by simp; omega
  have hbel : ∀ q, Below w.heap.size w (w.drewN q) := fun q => Sm.below_dr (Below.refl _ _) q
  clear h hf hl ho c7 hx hx2
  generalize ((plc 1 fs).countP (· < x) : Nat) = ct at *
  generalize (plc 1 fs).length = n at *
  generalize (dur : Int) + 1 = D at *
  go_enter Tryz.func66, Tryz.ntmps66
  go_wp2_with (first
    | (go_at_call 54; refine CI.out.mono ?_; rintro e w0 ⟨rfl, rfl⟩)
    | (go_at_call 61; refine CB.out.mono ?_; rintro e w1 ⟨rfl, q, rfl⟩))
  go_ret2
  exact ⟨rfl, hbel q⟩
set_option maxHeartbeats 4000000 in
theorem from_ok {sure kk : Nat} (h : Lx B w l k S (lgR db bs sc run fs (off fs sure) dead)) (hf : Fit sc fs) (hs : sure ≤ fs.length) (x m : Int) (hkk : kk < sure) (hx : x = 1 + (off fs kk : Int)) : Calls Tryz.prog 66 #[.pointer (some ⟨l, 0, none⟩), .int .i64 x, .int .i64 m] w fun e w' => ∃ j, e = .returned (.tuple #[.string (mid fs kk j), .int .i64 0]) ∧ FrJ fs sure kk m j ∧ Lx B w' l k S (lgR db bs sc run fs (off fs sure) dead) ∧ Kp isL B w w' := by
  have h1 := hf.sz
  have h2 := hf.s1
  have hl := fit_len hf
  have hfrm := hf.frm
  have hos := off_mono (l := fs) hs
  rw [off_all] at hos
  have CI : Hid (Calls Tryz.prog 54 #[.pointer (some ⟨l, 0, none⟩)] w fun e w' => e = .returned (.bool true) ∧ w' = w) := isOpen_any h.g
  obtain ⟨a, c, c7, ho⟩ := h.row
  have hcount : (plc 1 fs).countP (· < x) = kk := by
    have := plc_count hf.frm (i := kk) (a := 1) (by omega)
    rw [show ((1 + off fs kk : Nat) : Int) = x by omega] at this
    exact this
  have hcont : (plc 1 fs).contains x = true := (plc_has 1 fs x).2 ⟨kk, by omega, by omega⟩
  have CB : Hid (Calls Tryz.prog 61 #[.slice a (plc 1 fs).length c, .int .i64 x] w fun e w' => e = .returned (.tuple #[.int .i64 (kk : Int), .bool true]) ∧ ∃ q, w' = w.drewN q) := by
    have := search_any ho (plc_sorted 1 fs) (by show (plc 1 fs).length ≤ 1000000; omega) x
    rw [show (lgR db bs sc run fs (off fs sure) dead).ps = plc 1 fs from rfl, hcount, hcont] at this
    exact this
  have c7' : w.cell? ⟨l, 7, none⟩ = some (.slice a (plc 1 fs).length c) := c7
  have H : Hid (∀ q, Lx B (w.drewN q) l k S (lgR db bs sc run fs (off fs sure) dead)) := fun q => h.drewN q
  have CBe : Hid (∀ q (i : Nat), i < fs.length → Calls Tryz.prog 87 #[.pointer (some ⟨l, 0, none⟩), .int .i64 (i : Int)] (w.drewN q) fun e w' => e = .returned (.int .i64 (1 + (off fs (i + 1) : Int))) ∧ w' = w.drewN q) := fun q i hi => behind_any (h.drewN q) hf i hi
  have CS : Hid (∀ q, Calls Tryz.prog 57 #[.pointer (some ⟨l, 5, none⟩)] (w.drewN q) fun v w' => v = .returned (.string (cat fs)) ∧ Lx B w' l k S (lgR db bs sc run fs (off fs sure) dead) ∧ Kp isL B w w') := fun q => by
    refine (String_log (h.drewN q).g).mono ?_
    rintro v w' ⟨hv, g1, k1⟩
    exact ⟨hv, (h.drewN q).kept rfl g1 k1, (Kp.of_below (Sm.below_dr (Below.refl _ _) q) h.le).trans k1⟩
  have c8 : ∀ q, (w.drewN q).cell? ⟨l, 8, none⟩ = some (.int .i64 ((off fs sure : Int) + 1)) := fun q => (h.drewN q).g.c8
  have c80 : w.cell? ⟨l, 8, none⟩ = some (.int .i64 ((off fs sure : Int) + 1)) := h.g.c8
  have HSL : Hid (∀ j, kk ≤ j → j ≤ sure → ∀ W, (Instr.slice 9 (.string (cat fs)) (some (.int .i64 (x - 1))) (some (.int .i64 (1 + (off fs j : Int) - 1))) none).run Tryz.prog W = .ok (.string (mid fs kk j)) W) := fun j hj1 hj2 => by
    have hm1 := off_mono (l := fs) hj1
    have hm2 := off_mono (l := fs) hj2
    have := slc_mid (cat fs) x (1 + (off fs j : Int)) (off fs kk) (off fs j) (by omega) (by omega) hm1 (by omega)
    rw [mid_ext hj1] at this
    exact this
  have HLt : Hid (∀ j, j ≤ sure → ((off fs j : Int) < (off fs sure : Int) ↔ j < sure)) := fun j hj => by
    constructor
    · intro q
      rcases Nat.lt_or_ge j sure with q2 | q2
      · exact q2
      · have : j = sure := by omega
        subst this; omega
    · intro q
      have := off_lt hfrm q hs
      omega
  have hokk := off_lt hfrm hkk hs
  have t0 : ¬ x < 1 := by omega
  have t1 : ¬ (off fs sure : Int) + 1 < x := by omega
  have t2 : (x == (off fs sure : Int) + 1) = false := by simp; omega
  have HB : Hid (∀ j, j ≤ sure → (off fs j : Int) ≤ 500000) := fun j hj => by have := off_mono (l := fs) hj; omega
  have hx0 : x ≤ 500001 := by omega
  have hx9 : 1 ≤ x := by omega
  have HX : Hid (x = 1 + (off fs kk : Int)) := hx
  have hkb : (kk : Int) ≤ 70000 := by rw [plc_length] at hl; omega
  have hsb : sure ≤ 70000 := by rw [plc_length] at hl; omega
  have hkf : kk < fs.length := by omega
  clear h hf h1 h2 hl ho c7 hcount hcont hx hos hokk
  generalize (plc 1 fs).length = n at *
  go_enter Tryz.func66, Tryz.ntmps66
  go_wp2_with (first
    | (go_at_call 54; refine CI.out.mono ?_; rintro e w0 ⟨rfl, rfl⟩)
    | (go_at_call 61; refine CB.out.mono ?_; rintro e w1 ⟨rfl, q, rfl⟩; have c8q := c8 q; clear c8)
    | (go_at_call 87; refine (CBe.out q kk hkf).mono ?_; rintro e w2 ⟨rfl, rfl⟩))
  go_loopw [8, 10] (fun iv ev wr => ∃ j : Nat, kk + 1 ≤ j ∧ j ≤ sure ∧ iv = .int .i64 (j : Int) ∧ ev = .int .i64 (1 + (off fs j : Int)) ∧ Hid (∀ q, kk + 1 ≤ q → q < j → (off fs (q + 1) : Int) - (off fs kk : Int) ≤ m) ∧ wr = w0.drewN q) (fun iv _ _ => sure - (intOf iv).toNat)
  case atStart => exact ⟨kk + 1, by omega, by omega, by go_num, rfl, fun r h1 h2 => by omega, rfl⟩
  case round =>
    obtain ⟨j, hj1, hj2, rfl, rfl, hon, rfl⟩ := hrel
    have hjb := HB.out j hj2
    have CS1 := CS.out q
    have hw1 : IntKind.i64.wrap (x - 1) = x - 1 := by rw [IntKind.wrap_i64]; omega
    have hw2 : IntKind.i64.wrap (1 + (off fs j : Int) - 1) = 1 + (off fs j : Int) - 1 := by rw [IntKind.wrap_i64]; omega
    have HS1 := HSL.out j (by omega) hj2
    by_cases hlt : j < sure
    · have hjb2 := HB.out (j + 1) hlt
      have CB1 := CBe.out q j (by omega)
      have t3 : (1 + (off fs j : Int)) < (off fs sure : Int) + 1 := by have := (HLt.out j hj2).2 hlt; omega
      have hw3 : IntKind.i64.wrap (1 + (off fs (j + 1) : Int) - x) = 1 + (off fs (j + 1) : Int) - x := by rw [IntKind.wrap_i64]; omega
      have hw4 : IntKind.i64.wrap ((j : Int) + 1) = (j : Int) + 1 := by rw [IntKind.wrap_i64]; omega
      by_cases hm : (off fs (j + 1) : Int) - (off fs kk : Int) ≤ m
      · have t4 : 1 + (off fs (j + 1) : Int) - x ≤ m := by have := HX.out; omega
        have HM : Hid ((off fs (j + 1) : Int) - (off fs kk : Int) ≤ m) := hm
        clear hm HSL HB HLt CBe CS CI CB CS1
        generalize hE : (1 + (off fs (j + 1) : Int)) = E1 at *
        go_wp2_with (go_at_call 87; refine CB1.mono ?_; rintro e w3 ⟨rfl, rfl⟩)
        go_roundw
        case rel => exact ⟨j + 1, by omega, by omega, by go_num, by rw [hE], fun r h1 h2 => by
            rcases Nat.lt_or_ge r j with q1 | q1
            · exact hon.out r h1 q1
            · have : r = j := by omega
              subst this; exact HM.out, by trivial⟩
        case measure => simp [intOf]; omega
      · have t4 : ¬ 1 + (off fs (j + 1) : Int) - x ≤ m := by have := HX.out; omega
        have HM : Hid (¬ (off fs (j + 1) : Int) - (off fs kk : Int) ≤ m) := hm
        clear hm HSL HB HLt CBe CS CI CB
        generalize hE : (1 + (off fs (j + 1) : Int)) = E1 at *
        generalize hE0 : (1 + (off fs j : Int)) = E0 at *
        go_wp2_with (first
          | (go_at_call 87; refine CB1.mono ?_; rintro e w3 ⟨rfl, rfl⟩)
          | (go_at_call 57; refine CS1.mono ?_; rintro e w4 ⟨rfl, L4, k4⟩))
        go_ret2
        exact ⟨j, rfl, ⟨hj1, hj2, hon.out, fun _ => (by have := HM.out; omega)⟩, L4, k4⟩
    · have t3 : ¬ (1 + (off fs j : Int)) < (off fs sure : Int) + 1 := by have := (HLt.out j hj2).1; omega
      clear HSL HB HLt CBe CS CI CB
      generalize hE0 : (1 + (off fs j : Int)) = E0 at *
      go_wp2_with (go_at_call 57; refine CS1.mono ?_; rintro e w4 ⟨rfl, L4, k4⟩)
      go_ret2
      exact ⟨j, rfl, ⟨hj1, hj2, hon.out, fun q => absurd q hlt⟩, L4, k4⟩
end
end Go.Proofs.YtgcfbjecmmnlhaaGreat

namespace Go.Proofs.YtgcfbjecmmnlhaaGreat
open Go.RowKit Go.Maps Go.ChangeMaps
set_option linter.unusedVariables false
set_option linter.unusedSimpArgs false
set_option maxRecDepth 100000

def isP : Obj → Prop
  | .cells _ t _ => t = 33
  | _ => False
structure Pl (B : Nat) (w : World) (p : Nat) (av : Value) (sure : Nat) : Prop where
  blk : w.heap[p]? = some (.cells #[av, .int .i64 (sure : Int), .int .i64 1, .int .i64 1740] 33)
  ge : B ≤ p
section
variable {B l k db run sure p n : Nat} {w w' w0 wx : World} {S S' : Dk} {fs gs ss : List ByteArray} {v av u : Value} {A : Obj → Prop}
theorem isP_not : ∀ o, isA o → ¬ isP o := by
  intro o ha hs
  cases o with
  | cells cs t fz =>
    have ht : t = 33 := hs
    subst ht
    rcases ha with ha | ha
    · rcases ha with ha | ha <;> exact absurd ha (by decide)
    · rcases ha with ha | ha | ha <;> exact absurd ha (by decide)
  | _ => exact hs
theorem Pl.c0 (h : Pl B w p av sure) : w.cell? ⟨p, 0, none⟩ = some av := by rw [Lib.cell_of_heap h.blk]; rfl
theorem Pl.c1 (h : Pl B w p av sure) : w.cell? ⟨p, 1, none⟩ = some (.int .i64 (sure : Int)) := by rw [Lib.cell_of_heap h.blk]; rfl
theorem Pl.f (h : Pl B w p av sure) (i : Nat) : w.frozen? ⟨p, i, none⟩ = false := Lib.frozen_of_heap h.blk i
theorem Pl.lt (h : Pl B w p av sure) : p < w.heap.size := lt_of_some h.blk
theorem Pl.below (h : Pl B w p av sure) (hb : Below w.heap.size w w') : Pl B w' p av sure := ⟨(hb.block p h.lt).trans h.blk, h.ge⟩
theorem Pl.kept (h : Pl B w p av sure) {B' : Nat} (hb : Kp isA B' w w') : Pl B w' p av sure := ⟨hb.block _ _ h.blk (by simp [isA, isD, isL]), h.ge⟩
theorem Pl.keptS (h : Pl B w p av sure) {B' : Nat} (hb : Kp isS B' w w') : Pl B w' p av sure := ⟨hb.block _ _ h.blk (by simp [isS]), h.ge⟩
theorem Pl.kp (h : Pl B w p av sure) (i : Nat) (u : Value) : Kp isP B w (w.setCell ⟨p, i, none⟩ u) := ⟨(Below.refl B w).setCell (p := ⟨p, i, none⟩) h.ge _, fun j o e hn => by
    by_cases hj : p = j
    · subst hj; rw [h.blk] at e; cases e; exact absurd rfl hn
    · rw [Below.heap_setCell _ _ _ _ (fun e => hj e.symm)]; exact e⟩
theorem Pl.set0 (h : Pl B w p av sure) (u : Value) : Pl B (w.setCell ⟨p, 0, none⟩ u) p u sure := ⟨Joins.block_setCell h.blk _, h.ge⟩
theorem Pl.set1 (h : Pl B w p av sure) (n : Nat) : Pl B (w.setCell ⟨p, 1, none⟩ (.int .i64 (n : Int))) p av n := ⟨Joins.block_setCell h.blk _, h.ge⟩
theorem OwnS.keptP (h : OwnS B w v ss) {B' : Nat} (hb : Kp isP B' w w') : OwnS B w' v ss := h.of_block (fun j cur fz e => hb.block j _ e (by simp [isP]))
theorem SlS.keptP (h : SlS w0 wx l k S db run fs sure) (hb : Kp isP w0.heap.size wx w') : SlS w0 w' l k S db run fs sure := ⟨⟨h.lv.lx.keptBy isP_not hb, h.lv.up, h.lv.fit, h.lv.hs, h.lv.n, h.lv.r2, h.lv.q⟩, h.set, h.n, h.bel.trans hb.bel⟩
set_option maxHeartbeats 4000000 in
theorem psize_any (hp : Pl B w p av sure) (ho : OwnS B w av fs) (hz : (cat fs).size ≤ 1740) (hl : fs.length ≤ 300) (n : Nat) (hn : n ≤ fs.length) : Calls Tryz.prog 33 #[.pointer (some ⟨p, 0, none⟩), .int .i64 (n : Int)] w fun e w' => e = .returned (.int .i64 (off fs n : Int)) ∧ w' = w := by
  obtain ⟨a, c, rfl⟩ := ho.ex
  have c0 := hp.c0
  have HO : Hid _ := ho
  clear hp ho
  go_enter Tryz.func33, Tryz.ntmps33
  go_wp2
  go_loopw [5, 6] (fun ov iv wr => ∃ i : Nat, i ≤ n ∧ iv = .int .i64 (i : Int) ∧ ov = .int .i64 (off fs i : Int) ∧ wr = w) (fun _ iv _ => n - (intOf iv).toNat)
  case atStart => exact ⟨0, Nat.zero_le _, rfl, rfl, rfl⟩
  case round =>
    obtain ⟨i, hi, rfl, rfl, rfl⟩ := hrel
    by_cases hlt : i < n
    · obtain ⟨g, ha, hcell⟩ := HO.out.at_ (i := i) (by omega)
      subst ha
      have hos := off_succ (l := fs) (i := i) (by omega)
      have hom := off_mono (l := fs) (i := i + 1) (j := fs.length) (by omega)
      rw [off_all] at hom
      have hi2 : (i : Int) < (n : Int) := by omega
      have hi3 : (i : Int) < (fs.length : Int) := by omega
      have hi4 : i < fs.length := by omega
      have hq0 : (0 : Int) ≤ (off fs i : Int) := by omega
      have hq1 : (off fs i : Int) + (fs[i].size : Int) ≤ 1740 := by omega
      have HQ : Hid ((off fs (i + 1) : Int) = (off fs i : Int) + (fs[i].size : Int)) := (by omega : (off fs (i + 1) : Int) = (off fs i : Int) + (fs[i].size : Int))
      have hik : (i : Int) ≤ 300 := by omega
      clear hos hom
      generalize fs[i] = f at *
      go_wp2
      go_roundw
      case rel => exact ⟨i + 1, by omega, by go_num, by rw [HQ.out], by first | rfl | trivial⟩
      case measure => simp [intOf]; omega
    · obtain rfl : i = n := by omega
      have hi2 : ¬ (i : Int) < (i : Int) := by omega
      clear hlt
      go_wp2
      go_ret
      exact ⟨rfl, rfl⟩
end
end Go.Proofs.YtgcfbjecmmnlhaaGreat
