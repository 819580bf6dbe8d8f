/- The pool's Table and Redo. The pool's Redo. -/
import Derived.Test.YtgodjnbbocnckaaGreatMaw
import Derived.Deep.RegionLaw
import Derived.BigRegion
namespace Go.Proofs.YtgodjnbbocnckaaGreat
open Go.RowKit Go.Maps Go.ChangeMaps
set_option linter.unusedVariables false
set_option linter.unusedSimpArgs false
set_option maxRecDepth 100000

/-- A dirty page's two cells. -/
def drA (G : Gp) (j : Nat) : List Value := [.int .i64 (G.F j).id, .int .i64 (G.F j).si]
structure OwnT (B : Nat) (w : World) (v : Value) (G : Gp) (js : List Nat) : Prop where
  row : w.ownsRow B 78 2 v js.length (js.flatMap (drA G))
/-- The table. -/
structure Tbl (w : World) (a : Option Addr) (G : Gp) (ds : List Nat) : Prop where
  at_ : ∀ i, (h : i < ds.length) → ∃ g, a = some ⟨g, 0, none⟩ ∧ g < w.heap.size ∧ w.cell? ⟨g, i * 2, none⟩ = some (.int .i64 (G.F ds[i]).id) ∧ w.cell? ⟨g, i * 2 + 1, none⟩ = some (.int .i64 (G.F ds[i]).si)
section
variable {B b0 k ww sure : Nat} {w w' wr : World} {X : Ad} {G : Gp} {a : Option Addr} {js ds : List Nat} {v : Value} {S : Dk} {cs : List Nat} {st pg : Nat → Option Nat} {pn : Nat → Nat}
theorem Tbl.below (h : Tbl w a G ds) (hb : Below w.heap.size w w') : Tbl w' a G ds := ⟨fun i hi => by
  obtain ⟨g, h1, h2, h3, h4⟩ := h.at_ i hi
  exact ⟨g, h1, Nat.lt_of_lt_of_le h2 hb.size, (World.cell?_of_block (hb.block g h2)).trans h3, (World.cell?_of_block (hb.block g h2)).trans h4⟩⟩
theorem flat_dl (G : Gp) (js : List Nat) : (js.flatMap (drA G)).length = js.length * 2 := by
  induction js with
  | nil => rfl
  | cons j l ih => rw [List.flatMap_cons, List.length_append, ih]; simp [drA]; omega
theorem flat_dr (G : Gp) : ∀ (js : List Nat) (i : Nat) (hi : i < js.length), (js.flatMap (drA G))[i * 2]? = some (.int .i64 (G.F js[i]).id) ∧ (js.flatMap (drA G))[i * 2 + 1]? = some (.int .i64 (G.F js[i]).si)
  | j :: l, 0, _ => ⟨rfl, rfl⟩
  | j :: l, i + 1, hi => by
    have := flat_dr G l i (by simpa using hi)
    rw [List.flatMap_cons]
    have e1 : (drA G j ++ l.flatMap (drA G))[(i + 1) * 2]? = (l.flatMap (drA G))[i * 2]? := by
      rw [List.getElem?_append_right (by simp [drA]; omega)]
      congr 1
      simp [drA]; omega
    have e2 : (drA G j ++ l.flatMap (drA G))[(i + 1) * 2 + 1]? = (l.flatMap (drA G))[i * 2 + 1]? := by
      rw [List.getElem?_append_right (by simp [drA]; omega)]
      congr 1
      simp [drA]; omega
    rw [e1, e2]
    exact this
theorem OwnT.nil (B : Nat) (w : World) : OwnT B w (.slice none 0 0) G [] := ⟨rfl, Or.inl ⟨rfl, rfl⟩⟩
theorem OwnT.below (h : OwnT b0 w v G js) (hb : Below w.heap.size w w') : OwnT b0 w' v G js := by
  obtain ⟨h1, h2⟩ := h.row
  refine ⟨h1, ?_⟩
  rcases h2 with h2 | ⟨g, cap, cur, e, hB, hg, h3⟩
  · exact Or.inl h2
  · exact Or.inr ⟨g, cap, cur, e, hB, (hb.block _ (lt_of_some hg)).trans hg, h3⟩
theorem OwnT.ex (h : OwnT b0 w v G js) : ∃ a c, v = .slice a js.length c := by
  obtain ⟨h1, h2⟩ := h.row
  rcases h2 with ⟨rfl, h2⟩ | ⟨g, cap, cur, e, hB, hg, h3⟩
  · exact ⟨none, 0, by rw [h2]⟩
  · exact ⟨_, _, e⟩
theorem OwnT.tb {n c : Nat} (h : OwnT b0 w (.slice a n c) G js) : Tbl w a G js := ⟨fun i hi => by
  obtain ⟨h1, h2⟩ := h.row
  rcases h2 with ⟨_, h2⟩ | ⟨g, cap, cur, e, hB, hg, h3, h4, h5, h6⟩
  · omega
  · cases e
    obtain ⟨f1, f2⟩ := flat_dr G js i hi
    refine ⟨g, rfl, lt_of_some hg, ?_, ?_⟩
    · rw [cell_of_row w g _ cur _ (0, 0) hg]
      rw [← h6, List.getElem?_take, if_pos (by omega)] at f1
      simpa using f1
    · rw [cell_of_row w g _ cur _ (0, 0) hg]
      rw [← h6, List.getElem?_take, if_pos (by omega)] at f2
      simpa using f2⟩
theorem info_dr : ∃ i, Tryz.prog.info? 78 = some i ∧ i.zero = some (.agg #[.int .i64 0, .int .i64 0]) ∧ i.size = 2 ∧ i.bytes = 16 :=
  info_parts (show (Tryz.prog.info? 78).map (fun i => (i.zero, i.size, i.bytes)) = some (some (.agg #[.int .i64 0, .int .i64 0]), 2, 16) by kernel_rfl)
theorem two_new (W : World) (x y : Value) (t : TypeId) : ∀ j u, [x, y][j]? = some u → (W.alloc (.cells #[x, y] t)).cell? ((⟨W.heap.size, 0, none⟩ : Addr).add j) = some u := by
  intro j u hu
  have hadd : (⟨W.heap.size, 0, none⟩ : Addr).add j = ⟨W.heap.size, j, none⟩ := by unfold Addr.add; split <;> simp_all
  rw [hadd, Joins.cell_of_block (MapKept.heap_alloc W (.cells #[x, y] t)).1 j]
  have hj : j < 2 := by
    have := (List.getElem?_eq_some_iff.1 hu).1
    simpa using this
  have : j = 0 ∨ j = 1 := by omega
  rcases this with rfl | rfl
  · simpa using hu
  · simpa using hu
theorem step_append_dr {w : World} {ops : Array Oper} {o : Oper} {act : Act} {K : Act → World → Prop} {Q : Exit → Act → World → Prop} {E : Prop} (hgd : o.guard = none) (s x : Operand)
    (ho : o.op = .call { callee := .builtin .append, args := #[s, x], argTypes := #[70, 70] }) (hs : act.eval s = v) (h : OwnT b0 w v G js)
    (ad : Addr) (j : Nat) (hx : act.eval x = .slice (some ad) 1 1) (hn : ∀ i u, (drA G j)[i]? = some u → w.cell? (ad.add i) = some u) (hB : b0 ≤ w.heap.size) (hl : js.length ≤ 100000)
    (hK : ∀ a' c' w', OwnT b0 w' (.slice a' (js.length + 1) c') G (js ++ [j]) → Below b0 w w' → K (act.put o.dst (.slice a' (js.length + 1) c')) w') :
    if Region.wanted o (yielded ops act.tmps) = true then Oper.wp Tryz.prog o act w K Q else E := by
  have hw : Region.wanted o (yielded ops act.tmps) = true := by simp [Region.wanted, hgd]
  rw [if_pos hw]
  obtain ⟨i, hi, hz0, hz1, hz2⟩ := info_dr
  refine Go.wp_append_own (P := Tryz.prog) w s x 70 ho b0 78 i (.agg #[.int .i64 0, .int .i64 0]) 2 16 Tryz.underlying70 hi hz0 hz1 hz2 rfl (by omega) v js.length (js.flatMap (drA G)) hs h.row ad 1 1 (drA G j) hx rfl hn ?_ (by unfold maxLen; omega) (by omega) hB ?_
  · intro u hu
    simp [drA] at hu
    rcases hu with rfl | rfl <;> rfl
  · intro v' w' hr hgr _
    have hC : ∀ k, v.ownBlock = some k → b0 ≤ k := by
      intro k e
      rcases h.row.2 with ⟨rfl, _⟩ | ⟨b, cap, cur, rfl, hbg, hgg, _⟩
      · simp [Value.ownBlock] at e
      · simp [Value.ownBlock] at e
        subst e
        exact hbg
    have ho : OwnT b0 w' v' G (js ++ [j]) := by
      refine ⟨?_⟩
      rw [List.flatMap_append, List.length_append]
      have e : [j].flatMap (drA G) = drA G j := by simp
      rw [e]
      exact hr
    obtain ⟨a', c', rfl⟩ := ho.ex
    rw [List.length_append, List.length_singleton] at ho
    have := hK a' c' w' ho ((Below.refl b0 w).grown hgr hB hC)
    rw [List.length_append, List.length_singleton]
    exact this
/-- What Table gives. -/
structure TbO (w w' : World) (X : Ad) (G : Gp) (e : Ending) (a : Option Addr) (c : Nat) (ds : List Nat) : Prop where
  e : e = .returned (.slice a ds.length c)
  tb : Tbl w' a G ds
  perm : ds.Perm ((List.range X.n).filter (dty G))
  sort : ds.Pairwise (fun i j => (G.F i).id ≤ (G.F j).id)
  below : Below w.heap.size w w'
set_option maxHeartbeats 8000000 in
theorem Table_any (h : PoIs B w X G) : Calls Tryz.prog 35 #[.pointer (some ⟨X.pb, 0, none⟩)] w fun e w' => ∃ a c ds, TbO w w' X G e a c ds := by
  have CM : Hid (Calls Tryz.prog 60 #[.pointer (some ⟨X.pb, 0, none⟩)] w fun e w' => e = .returned (.bool true) ∧ w' = w) := isMade_po h
  have CD : Hid (Calls Tryz.prog 63 #[.slice (some ⟨X.ra, 0, none⟩) X.n X.cp] w fun e w' => ∃ a' c' ds, Dl w w' X G (List.range X.n) e a' c' ds) := by
    have := dirtyOf_po (js := List.range X.n) h (Ps.all h) (by rw [List.length_range]; exact h.n2) X.cp
    rw [List.length_range] at this
    exact this
  have c2 := h.c2
  have H : Hid (PoIs B w X G) := h
  clear h
  go_enter Tryz.func35, Tryz.ntmps35
  go_wp2_with (first
    | (go_at_call 60; refine CM.out.mono ?_; rintro e w1 ⟨rfl, rfl⟩)
    | (go_at_call 63; refine CD.out.mono ?_; rintro e w2 ⟨a2, k2, ds, D2⟩; have he := D2.e; subst he))
  have HD : Hid (Dl w1 w2 X G (List.range X.n) (.returned (.slice a2 ds.length k2)) a2 k2 ds) := D2
  have hl : ds.length ≤ 64 := by
    have h1 := D2.perm.length_eq
    have h2 := List.length_filter_le (dty G) (List.range X.n)
    rw [List.length_range] at h2
    have h3 := H.out.n2
    omega
  clear D2 CD
  go_loopw [3, 15] (fun tv iv wr => ∃ (i : Nat) (at2 : Option Addr) (ct : Nat), i ≤ ds.length ∧ iv = .int .i64 (i : Int) ∧ tv = .slice at2 i ct ∧ OwnT w2.heap.size wr (.slice at2 i ct) G (ds.take i) ∧ Below w2.heap.size w2 wr) (fun _ iv _ => ds.length - (intOf iv).toNat)
  case atStart => exact ⟨0, none, 0, Nat.zero_le _, rfl, rfl, OwnT.nil _ _, Below.refl _ _⟩
  case round =>
    obtain ⟨i, at2, ct, hi, rfl, rfl, ho, hb⟩ := hrel
    have HB : Hid (Below w2.heap.size w2 wr) := hb
    have HO : Hid (OwnT w2.heap.size wr (.slice at2 i ct) G (ds.take i)) := ho
    clear ho hb
    by_cases hlt : i < ds.length
    · have i1 : (i : Int) < (ds.length : Int) := by omega
      have i64 : (i : Int) ≤ 64 := by omega
      obtain ⟨hjn, g, hga, _, _, hgc⟩ := (HD.out.ps.below HB.out).at_ i hlt
      subst hga
      have hpo := (H.out.below HD.out.below).below HB.out
      have f0 := hpo.f0 hjn
      have f4 := hpo.f4 hjn
      have hT : Hid (ds.take (i + 1) = ds.take i ++ [ds[i]]) := List.take_succ_eq_append_getElem hlt
      have hlen : Hid ((ds.take i).length = i) := (by rw [List.length_take]; omega : (ds.take i).length = i)
      have HDr : Hid (drA G ds[i] = [.int .i64 (G.F ds[i]).id, .int .i64 (G.F ds[i]).si]) := rfl
      clear hpo hjn
      unfold ptF at hgc
      generalize hj : ds[i] = j at *
      clear hj
      go_wp2
      have HBA : Hid (∀ o : Obj, Below wr.heap.size wr (wr.drew.alloc o)) := fun o => ((Below.refl _ _).drew).alloc (by exact Nat.le_refl _) _
      go_region_law (refine step_append_dr (b0 := w2.heap.size) (G := G) (js := ds.take i) rfl (.tmp 19) (.tmp 30) rfl (by simp [Act.eval, Act.put]) (HO.out.below (HBA.out _)) ⟨wr.heap.size, 0, none⟩ j (by simp [Act.eval, Act.put]) ?_ ?_ ?_ ?_; exact two_new wr.drew _ _ _; exact Nat.le_trans HB.out.size (by simp); exact (by rw [hlen.out]; omega); intro a3 c3 w3 o3 b3)
      all_goals
        go_wp2
        go_roundw
        · refine ⟨i + 1, a3, c3, hlt, by go_num, by first | rfl | rw [hlen.out], ?_, (HB.out.trans ((Below.refl _ _).drew.alloc HB.out.size _)).trans b3⟩
          rw [hT.out]
          rw [hlen.out] at o3
          exact o3
        · simp [intOf]; omega
    · obtain rfl : i = ds.length := by omega
      have i1 : ¬ (ds.length : Int) < (ds.length : Int) := by omega
      clear hlt hi
      go_wp2
      go_ret
      refine ⟨at2, ct, ds, rfl, ?_, HD.out.perm, HD.out.sort, thn HD.out.below HB.out⟩
      have := HO.out.tb
      rw [List.take_length] at this
      exact this
end
end Go.Proofs.YtgodjnbbocnckaaGreat

namespace Go.Proofs.YtgodjnbbocnckaaGreat
open Go.RowKit Go.Maps Go.ChangeMaps
set_option linter.unusedVariables false
set_option linter.unusedSimpArgs false
set_option maxRecDepth 100000

/-- The least record that made a dirty frame so, of some frames; else the end. -/
structure Lst (E : Int) (n : Nat) (G : Gp) (P : Nat → Prop) (r : Int) : Prop where
  le : r ≤ E
  all : ∀ j, j < n → dty G j = true → P j → r ≤ (G.F j).si
  or : r = E ∨ ∃ j, j < n ∧ dty G j = true ∧ r = (G.F j).si
section
variable {B b0 k ww sure n : Nat} {w w' wr : World} {X : Ad} {G : Gp} {a : Option Addr} {js ds : List Nat} {v : Value} {S : Dk} {cs : List Nat} {st pg : Nat → Option Nat} {pn : Nat → Nat} {E r r' : Int}
theorem Lst.one (h : Lst E n G (fun _ => True) r) (h' : Lst E n G (fun _ => True) r') : r = r' := by
  have h1 := h.le
  have h2 := h'.le
  rcases h.or with e | ⟨j, j1, j2, j3⟩
  · rcases h'.or with e' | ⟨i, i1, i2, i3⟩
    · omega
    · have := h.all i i1 i2 trivial
      omega
  · have a1 := h'.all j j1 j2 trivial
    rcases h'.or with e' | ⟨i, i1, i2, i3⟩
    · omega
    · have := h.all i i1 i2 trivial
      omega
theorem Lst.min {P : Nat → Prop} {j : Nat} (h : Lst E n G P r) (hj : j < n) (hd : dty G j = true) : Lst E n G (fun i => P i ∨ i = j) (if (G.F j).si < r then (G.F j).si else r) := by
  have h1 := h.le
  refine ⟨by split <;> omega, fun i hi hdi hp => ?_, ?_⟩
  · rcases hp with hp | rfl
    · have := h.all i hi hdi hp
      split <;> omega
    · split <;> omega
  · split
    · exact Or.inr ⟨j, hj, hd, rfl⟩
    · exact h.or
theorem Lst.weak {P Q : Nat → Prop} (h : Lst E n G P r) (hq : ∀ j, j < n → dty G j = true → Q j → P j) : Lst E n G Q r := ⟨h.le, fun j hj hd hp => h.all j hj hd (hq j hj hd hp), h.or⟩
theorem TbO.mem {e : Ending} {c : Nat} (h : TbO w w' X G e a c ds) {j : Nat} (hj : j ∈ ds) : j < X.n ∧ dty G j = true := by
  have := h.perm.mem_iff.1 hj
  rw [List.mem_filter, List.mem_range] at this
  exact this
theorem TbO.has {e : Ending} {c : Nat} (h : TbO w w' X G e a c ds) {j : Nat} (hj : j < X.n) (hd : dty G j = true) : j ∈ ds := by
  refine h.perm.mem_iff.2 ?_
  rw [List.mem_filter, List.mem_range]
  exact ⟨hj, hd⟩
theorem Tbl.rg {i : Nat} (h : Tbl w a G ds) (hi : i < ds.length) : ∃ g, a = some ⟨g, 0, none⟩ ∧ w.rangeAt g (i * 2) (drA G ds[i]) := by
  obtain ⟨g, h1, _, h2, h3⟩ := h.at_ i hi
  refine ⟨g, h1, fun j u hu => ?_⟩
  have hj : j < 2 := by
    have := (List.getElem?_eq_some_iff.1 hu).1
    simpa [drA] using this
  have : j = 0 ∨ j = 1 := by omega
  rcases this with rfl | rfl
  · simp [drA] at hu; subst hu; exact h2
  · simp [drA] at hu; subst hu; exact h3
theorem info_drs : (Tryz.prog.info? 78).map (·.size) = some 2 := by kernel_rfl
theorem zero_dr (w : World) : (zeroValue 78).run Tryz.prog w = .ok (.agg #[.int .i64 0, .int .i64 0]) w := by kernel_rfl
theorem wpList_load_dr {ops : Array Oper} {rest : List Oper} {o : Oper} {a : Act} {Q : Exit → Act → World → Prop} {g of : Nat} {x0 y0 : Int} (w : World) (hg : o.guard = none) (x : Operand) (hop : o.op = Op.load 78 x) (hx : a.eval x = .pointer (some ⟨g, of, none⟩)) (hr : w.rangeAt g of [.int .i64 x0, .int .i64 y0])
    (h : wpList Tryz.prog ops Q rest (a.put o.dst (.agg #[.int .i64 x0, .int .i64 y0])) w) : wpList Tryz.prog ops Q (o :: rest) a w :=
  wpList_load_mid hg 78 x hop g of hx [.int .i64 x0, .int .i64 y0] _ hr Tryz.underlying78 rfl info_drs h
/-- The log's end. -/
def edL (cs : List Nat) : Int := ((cat (fsOf cs)).size : Int) + 1
theorem Pq.end_ (h : Pq B w X k S cs sure G) : Calls Tryz.prog 42 #[.pointer (some ⟨X.l, 0, none⟩)] w fun e w' => e = .returned (.int .i64 (edL cs)) ∧ w' = w :=
  End_any h.lv.lx.g (by have := h.lv.fit.sz; show (cat (fsOf cs)).size ≤ 1000000; omega)
theorem Pq.edb (h : Pq B w X k S cs sure G) : 1 ≤ edL cs ∧ edL cs ≤ 10000 := by
  have := h.lv.fit.sz
  unfold edL
  omega
set_option maxHeartbeats 4000000 in
theorem Redo_any (h : Pq B w X k S cs sure G) : Calls Tryz.prog 36 #[.pointer (some ⟨X.pb, 0, none⟩)] w fun e w' => ∃ r, e = .returned (.int .i64 r) ∧ Lst (edL cs) X.n G (fun _ => True) r ∧ Below w.heap.size w w' := by
  have CM : Hid (Calls Tryz.prog 60 #[.pointer (some ⟨X.pb, 0, none⟩)] w fun e w' => e = .returned (.bool true) ∧ w' = w) := isMade_po h.po
  have CE : Hid (Calls Tryz.prog 42 #[.pointer (some ⟨X.l, 0, none⟩)] w fun e w' => e = .returned (.int .i64 (edL cs)) ∧ w' = w) := h.end_
  have CT : Hid (Calls Tryz.prog 35 #[.pointer (some ⟨X.pb, 0, none⟩)] w fun e w' => ∃ a c ds, TbO w w' X G e a c ds) := Table_any h.po
  have c1 := h.po.c1
  have hn2 : Hid (X.n ≤ 64) := h.po.n2
  clear h
  generalize edL cs = ed at *
  go_enter Tryz.func36, Tryz.ntmps36
  go_wp2_with (first
    | (go_at_call 60; refine CM.out.mono ?_; rintro e w1 ⟨rfl, rfl⟩)
    | (go_at_call 42; refine CE.out.mono ?_; rintro e w1 ⟨rfl, rfl⟩)
    | (go_at_call 35; refine CT.out.mono ?_; rintro e w2 ⟨a2, k2, ds, D2⟩; have he := D2.e; subst he))
  have HD : Hid (TbO _ w2 X G (.returned (.slice a2 ds.length k2)) a2 k2 ds) := D2
  have hl : ds.length ≤ 64 := by
    have h1 := D2.perm.length_eq
    have h2 := List.length_filter_le (dty G) (List.range X.n)
    rw [List.length_range] at h2
    have h3 := hn2.out
    omega
  clear D2 CT CE CM
  go_loopw [3, 17] (fun lv iv wr => ∃ (i : Nat) (r : Int), i ≤ ds.length ∧ iv = .int .i64 (i : Int) ∧ lv = .int .i64 r ∧ Lst ed X.n G (fun j => j ∈ ds.take i) r ∧ Below w2.heap.size w2 wr) (fun _ iv _ => ds.length - (intOf iv).toNat)
  case atStart => exact ⟨0, ed, Nat.zero_le _, rfl, rfl, ⟨Int.le_refl _, fun j _ _ hm => by simp at hm, Or.inl rfl⟩, Below.refl _ _⟩
  case round =>
    obtain ⟨i, r, hi, rfl, rfl, hr, hb⟩ := hrel
    have HB : Hid (Below w2.heap.size w2 wr) := hb
    have HR : Hid (Lst ed X.n G (fun j => j ∈ ds.take i) r) := hr
    clear hr hb
    by_cases hlt : i < ds.length
    · have i1 : (i : Int) < (ds.length : Int) := by omega
      obtain ⟨g, hga, hg⟩ := (HD.out.tb.below HB.out).rg hlt
      subst hga
      have hmem := HD.out.mem (List.getElem_mem hlt)
      have hL : Hid (Lst ed X.n G (fun j => j ∈ ds.take (i + 1)) (if (G.F ds[i]).si < r then (G.F ds[i]).si else r)) := (HR.out.min hmem.1 hmem.2).weak (fun j _ _ hj => by
        rw [List.take_succ_eq_append_getElem hlt, List.mem_append, List.mem_singleton] at hj
        exact hj)
      have HG : Hid (wr.rangeAt g (i * 2) [.int .i64 (G.F ds[i]).id, .int .i64 (G.F ds[i]).si]) := hg
      clear hg hmem
      generalize (G.F ds[i]).id = x0 at *
      generalize (G.F ds[i]).si = y0 at *
      go_wp2_with (first
        | (refine wpList_load_dr (x0 := x0) (y0 := y0) _ rfl (.tmp 19) rfl rfl HG.out ?_)
        | (refine wpList_new_o (A := #[.int .i64 0, .int .i64 0]) _ rfl rfl (zero_dr _) ?_; intro w3 b3 N3)
        | (refine wpList_put_o (A' := #[.int .i64 x0, .int .i64 y0]) _ rfl (.tmp 5) (.tmp 20) rfl rfl rfl N3.blk info_drs rfl (by intro v hv; simp at hv; rcases hv with rfl | rfl <;> rfl) ?_; intro w4 P4; have q1 : w4.cell? ⟨b3, 1, none⟩ = some (.int .i64 y0) := Joins.cell_of_block P4.blk 1))
      go_roundw
      case rel =>
        refine ⟨i + 1, if y0 < r then y0 else r, hlt, by go_num, by congr 1; split <;> omega, hL.out, ?_⟩
        exact HB.out.trans ((N3.below.trans (P4.off.below (fun k hk => by have := N3.eq; omega) N3.below.size)).mono HB.out.size)
      case measure => simp [intOf]; omega
    · obtain rfl : i = ds.length := by omega
      have i1 : ¬ (ds.length : Int) < (ds.length : Int) := by omega
      clear hlt hi
      go_wp2
      go_ret
      refine ⟨r, rfl, HR.out.weak (fun j hj hd _ => ?_), thn HD.out.below HB.out⟩
      rw [List.take_length]
      exact HD.out.has hj hd
end
end Go.Proofs.YtgodjnbbocnckaaGreat
