/- The law's lasts. The law's table. -/
import Derived.Test.YtgodjnbbocnckaaGreatMay
import Derived.BigQuiet
namespace Go.Proofs.YtgodjnbbocnckaaGreat
open Go.RowKit Go.Maps Go.ChangeMaps
set_option linter.unusedVariables false
set_option linter.unusedSimpArgs false
set_option maxRecDepth 100000

section
variable {B b0 k ww sure n : Nat} {w w' wr : World} {X : Ad} {G : Gp} {a : Option Addr} {js ds : List Nat} {v : Value} {S : Dk} {cs : List Nat} {st pg : Nat → Option Nat} {pn qn : Nat → Nat} {E r r' : Int}
theorem Pq.dura (h : Pq B w X k S cs sure G) : Calls Tryz.prog 41 #[.pointer (some ⟨X.l, 0, none⟩)] w fun e w' => e = .returned (.int .i64 (19 * (sure : Int) + 1)) ∧ w' = w := by
  have := Durable_any h.lv.lx.g
  have e : (lgR X.db 0 40 1 (fsOf cs) (off (fsOf cs) sure) false).dur = 19 * (sure : Int) + 1 := by
    show ((off (fsOf cs) sure : Nat) : Int) + 1 = _
    rw [h.offs h.sl]
    omega
  rw [e] at this
  exact this
/-- A page that is not on the disk as it was set is dirty. -/
theorem Iv.dirt {F : Nat → Fm} (h : Iv cs n F st pn pg) {d : Nat} (hd : d < 8) (hne : pg d ≠ st d) : dtb F n (d : Int) = true := by
  cases hb : dtb F n (d : Int) with
  | true => rfl
  | false =>
    exfalso
    refine hne (h.cl d hd (fun j hj hh => ?_))
    obtain ⟨_, hf⟩ := h.fat hj hh
    rcases hf.si with e | ⟨k, r, e1, e2, e3⟩
    · exact e
    · have hp := lnO_pos k
      have : dtb F n (d : Int) = true := dtb_iff.2 ⟨j, hj, hh, by omega⟩
      rw [hb] at this
      cases this
set_option maxHeartbeats 8000000 in
theorem lasts_any (h : PW B w ww X k S cs sure G st pn pg qn) : Calls Tryz.prog 12 #[.pointer (some ⟨ww, 0, none⟩)] w fun e w' => e = .returned (.bool true) ∧ Below w.heap.size w w' := by
  have H : Hid (PW B w ww X k S cs sure G st pn pg qn) := h
  clear h
  go_enter Tryz.func12, Tryz.ntmps12
  go_wp2
  go_loopw [3] (fun iv wr => ∃ (d : Nat), d ≤ 8 ∧ iv = .int .i64 (d : Int) ∧ Below w.heap.size w wr) (fun iv _ => 8 - (intOf iv).toNat)
  case atStart => exact ⟨0, Nat.zero_le _, rfl, Below.refl _ _⟩
  case round =>
    obtain ⟨d, hd8, rfl, hb⟩ := hrel
    have HB : Hid (Below w.heap.size w wr) := hb
    clear hb
    by_cases hd : d < 8
    · have d1 : (d : Int) < 8 := by omega
      have d0 : (0 : Int) ≤ (d : Int) := by omega
      have HP : Hid (PW B wr ww X k S cs sure G st pn pg qn) := H.out.below HB.out
      have c1 := HP.out.wb.c1
      have CR : Hid (Calls Tryz.prog 21 #[.pointer (some ⟨X.sb, 0, none⟩), .int .i64 (d : Int)] wr fun e w' => e = .returned (.tuple #[.string (txO cs (pg d)), .int .i64 (lnO (pg d)), .int .i64 (if pg d = none then 8 else 0)]) ∧ Below wr.heap.size wr w') := HP.out.rd d hd
      have CD : Hid (∀ wx, Below wr.heap.size wr wx → Calls Tryz.prog 26 #[.pointer (some ⟨X.pb, 0, none⟩), .int .i64 (d : Int)] wx fun e w' => e = .returned (.bool (dtb G.F X.n (d : Int))) ∧ w' = wx) := fun wx hx => Dirty_any (HP.out.below hx).pv (d : Int)
      have CU : Hid (∀ wx, Below wr.heap.size wr wx → Calls Tryz.prog 41 #[.pointer (some ⟨X.l, 0, none⟩)] wx fun e w' => e = .returned (.int .i64 (19 * (sure : Int) + 1)) ∧ w' = wx) := fun wx hx => (HP.out.below hx).pv.q.dura
      cases hp : pg d with
      | none =>
        rw [hp] at CR
        rw [if_pos rfl] at CR
        generalize txO cs none = t at *
        cases hs : st d with
        | none =>
          have hL : Hid (∀ wx, Below wr.heap.size wr wx → wx.cell? ⟨ww, 12 + d, none⟩ = some (.int .i64 0)) := fun wx hx => by have := (HP.out.below hx).wb.ln hd; rw [hs] at this; exact this
          go_wp2_with (first
            | (go_at_call 21; refine CR.out.mono ?_; rintro e w1 ⟨rfl, b1⟩; have l1 := hL.out _ b1; have HB1 : Hid (Below wr.heap.size wr w1) := b1; clear b1)
            | (go_at_call 26; refine (CD.out _ HB1.out).mono ?_; rintro e w2 ⟨rfl, rfl⟩))
          go_roundw
          case rel => exact ⟨d + 1, hd, by go_num, thn HB.out HB1.out⟩
          case measure => simp [intOf]; omega
        | some r =>
          have hdt := HP.out.pv.v.dirt hd (by rw [hp, hs]; simp)
          rw [hdt] at CD
          have hr0 := lnO_pos r
          have hL : Hid (∀ wx, Below wr.heap.size wr wx → wx.cell? ⟨ww, 12 + d, none⟩ = some (.int .i64 (lnO (some r)))) := fun wx hx => by have := (HP.out.below hx).wb.ln hd; rw [hs] at this; exact this
          have hC3 : Hid (∀ wx, Below wr.heap.size wr wx → wx.cell? ⟨ww, 3, none⟩ = some (.pointer (some ⟨X.pb, 0, none⟩))) := fun wx hx => (HP.out.below hx).wb.c3
          generalize lnO (some r) = lr at *
          have hr1 : 0 < lr := by omega
          go_wp2_with (first
            | (go_at_call 21; refine CR.out.mono ?_; rintro e w1 ⟨rfl, b1⟩; have l1 := hL.out _ b1; have c3 := hC3.out _ b1; have HB1 : Hid (Below wr.heap.size wr w1) := b1; clear b1)
            | (go_at_call 26; refine (CD.out _ HB1.out).mono ?_; rintro e w2 ⟨rfl, rfl⟩))
          go_roundw
          case rel => exact ⟨d + 1, hd, by go_num, thn HB.out HB1.out⟩
          case measure => simp [intOf]; omega
      | some kk =>
        obtain ⟨r, hs, hkr⟩ := HP.out.pv.v.pl d hd kk hp
        have hlt := HP.out.pv.p.lt d kk hd hp
        have hC2 : Hid (∀ wx, Below wr.heap.size wr wx → wx.cell? ⟨ww, 2, none⟩ = some (.pointer (some ⟨X.l, 0, none⟩))) := fun wx hx => (HP.out.below hx).wb.c2
        have hC3 : Hid (∀ wx, Below wr.heap.size wr wx → wx.cell? ⟨ww, 3, none⟩ = some (.pointer (some ⟨X.pb, 0, none⟩))) := fun wx hx => (HP.out.below hx).wb.c3
        have hL : Hid (∀ wx, Below wr.heap.size wr wx → wx.cell? ⟨ww, 12 + d, none⟩ = some (.int .i64 (lnO (some r)))) := fun wx hx => by have := (HP.out.below hx).wb.ln hd; rw [hs] at this; exact this
        have hT : Hid (∀ wx, Below wr.heap.size wr wx → wx.cell? ⟨ww, 4 + d, none⟩ = some (.string (txO cs (some r)))) := fun wx hx => by have := (HP.out.below hx).wb.tx hd; rw [hs] at this; exact this
        rw [hp] at CR
        rw [if_neg (by simp)] at CR
        have k1 : ¬ lnO (some kk) < 1 := by have := lnO_pos kk; omega
        have k2 : ¬ 19 * (sure : Int) + 1 ≤ lnO (some kk) := by simp only [lnO]; omega
        have k3 : ¬ lnO (some r) < lnO (some kk) := by have := lnO_le hkr; omega
        generalize 19 * (sure : Int) + 1 = du at *
        by_cases hkk : kk = r
        · subst hkk
          generalize lnO (some kk) = lr at *
          generalize txO cs (some kk) = tr at *
          clear hkr hlt hs hp
          go_wp2_with (first
            | (go_at_call 21; refine CR.out.mono ?_; rintro e w1 ⟨rfl, b1⟩; have l1 := hL.out _ b1; have t1 := hT.out _ b1; have c2 := hC2.out _ b1; have c3 := hC3.out _ b1; have HB1 : Hid (Below wr.heap.size wr w1) := b1; clear b1)
            | (go_at_call 41; refine (CU.out _ HB1.out).mono ?_; rintro e w2 ⟨rfl, rfl⟩)
            | (go_at_call 26; refine (CD.out _ HB1.out).mono ?_; rintro e w2 ⟨rfl, rfl⟩))
          go_roundw
          case rel => exact ⟨d + 1, hd, by go_num, thn HB.out HB1.out⟩
          case measure => simp [intOf]; omega
        · have hdt := HP.out.pv.v.dirt hd (by rw [hp, hs]; intro e; cases e; exact hkk rfl)
          rw [hdt] at CD
          have k4 : lnO (some kk) ≠ lnO (some r) := fun e => by have := lnO_inj e; cases this; exact hkk rfl
          generalize lnO (some kk) = lk at *
          generalize lnO (some r) = lr at *
          generalize txO cs (some kk) = tk at *
          generalize txO cs (some r) = tr at *
          clear hkr hlt hs hp hkk
          go_wp2_with (first
            | (go_at_call 21; refine CR.out.mono ?_; rintro e w1 ⟨rfl, b1⟩; have l1 := hL.out _ b1; have t1 := hT.out _ b1; have c2 := hC2.out _ b1; have c3 := hC3.out _ b1; have HB1 : Hid (Below wr.heap.size wr w1) := b1; clear b1)
            | (go_at_call 41; refine (CU.out _ HB1.out).mono ?_; rintro e w2 ⟨rfl, rfl⟩)
            | (go_at_call 26; refine (CD.out _ HB1.out).mono ?_; rintro e w2 ⟨rfl, rfl⟩))
          go_roundw
          case rel => exact ⟨d + 1, hd, by go_num, thn HB.out HB1.out⟩
          case measure => simp [intOf]; omega
    · obtain rfl : d = 8 := by omega
      clear hd hd8
      go_wp2
      go_ret
      exact ⟨rfl, HB.out⟩
end
end Go.Proofs.YtgodjnbbocnckaaGreat

namespace Go.Proofs.YtgodjnbbocnckaaGreat
open Go.RowKit Go.Maps Go.ChangeMaps
set_option linter.unusedVariables false
set_option linter.unusedSimpArgs false
set_option maxRecDepth 100000

/-- So many of the table are of pages below one. -/
structure Tb8 (ds : List Nat) (G : Gp) (k d : Nat) : Prop where
  le : k ≤ ds.length
  lo : ∀ i, (h : i < ds.length) → i < k → (G.F ds[i]).id < (d : Int)
  hi : ∀ i, (h : i < ds.length) → k ≤ i → (d : Int) ≤ (G.F ds[i]).id
section
variable {B b0 k ww sure n d : Nat} {w w' wr : World} {X : Ad} {G : Gp} {a : Option Addr} {js ds : List Nat} {v : Value} {S : Dk} {cs : List Nat} {st pg : Nat → Option Nat} {pn qn : Nat → Nat} {E r r' : Int} {e : Ending} {c : Nat}
theorem TbO.lt (h : TbO w w' X G e a c ds) (hv : Iv cs X.n G.F st pn pg) : ds.Pairwise (fun i j => (G.F i).id < (G.F j).id) := by
  have hn : ds.Pairwise (fun i j => i ≠ j) := (h.perm.nodup_iff).2 (List.Pairwise.filter _ List.nodup_range)
  refine List.Pairwise.imp_of_mem (fun {i j} hi hj hR => ?_) (h.sort.and hn)
  obtain ⟨i1, i2⟩ := h.mem hi
  obtain ⟨j1, j2⟩ := h.mem hj
  obtain ⟨id1, _, _, _, _, g1, _⟩ := hv.pos i1 (by simpa [dty] using i2)
  obtain ⟨id2, _, _, _, _, g2, _⟩ := hv.pos j1 (by simpa [dty] using j2)
  have hne : (G.F i).id ≠ (G.F j).id := fun e => hR.2 (hv.ds i j (id1 : Int) i1 j1 g1 ⟨g2.1, by have := g1.2; omega⟩)
  have := hR.1
  omega
theorem Tb8.hit (h : TbO w w' X G e a c ds) (hv : Iv cs X.n G.F st pn pg) (ht : Tb8 ds G k d) (hd : d < 8) (hdt : dtb G.F X.n (d : Int) = true) : ∃ hk : k < ds.length, (ds[k] < X.n ∧ dty G ds[k] = true ∧ (G.F ds[k]).has (d : Int)) ∧ (1 ≤ (G.F ds[k]).si ∧ (G.F ds[k]).si ≤ lnO (st d)) ∧ Tb8 ds G (k + 1) (d + 1) := by
  obtain ⟨j, hj, hh, hs⟩ := dtb_iff.1 hdt
  have hm := h.has hj (show dty G j = true by simpa [dty] using hs)
  obtain ⟨i, hi, rfl⟩ := List.getElem_of_mem hm
  have hki : k ≤ i := by
    rcases Nat.lt_or_ge i k with hlt | hge
    · have := ht.lo i hi hlt
      have := hh.2
      omega
    · exact hge
  have hk : k < ds.length := by omega
  have hP := h.lt hv
  have hik : i = k := by
    rcases Nat.lt_or_ge k i with hlt | hge
    · have h1 := List.pairwise_iff_getElem.1 hP k i hk hi hlt
      have h2 := ht.hi k hk (Nat.le_refl _)
      have := hh.2
      omega
    · omega
  subst hik
  obtain ⟨h8, hf⟩ := hv.fat hj hh
  refine ⟨hi, ⟨hj, by simpa [dty] using hs, hh⟩, ?_, hi, fun i' hi' hlt => ?_, fun i' hi' hge => ?_⟩
  · rcases hf.si with e0 | ⟨x, r, e1, e2, e3⟩
    · omega
    · rw [e1, e3]
      exact ⟨lnO_pos x, lnO_le e2⟩
  · by_cases he : i' = i
    · subst he
      have := hh.2
      omega
    · have := ht.lo i' hi' (by omega)
      omega
  · have h1 := List.pairwise_iff_getElem.1 hP i i' hi hi' (by omega)
    have := hh.2
    omega
theorem Tb8.miss (h : TbO w w' X G e a c ds) (hv : Iv cs X.n G.F st pn pg) (ht : Tb8 ds G k d) (hdt : dtb G.F X.n (d : Int) = false) : Tb8 ds G k (d + 1) := by
  refine ⟨ht.le, fun i hi hlt => by have := ht.lo i hi hlt; omega, fun i hi hge => ?_⟩
  have h1 := ht.hi i hi hge
  obtain ⟨j1, j2⟩ := h.mem (List.getElem_mem hi)
  have hs : 0 < (G.F ds[i]).si := by simpa [dty] using j2
  obtain ⟨id1, _, _, _, _, g1, _⟩ := hv.pos j1 hs
  have hne : (G.F ds[i]).id ≠ (d : Int) := fun e => by
    have := dtb_iff.2 ⟨ds[i], j1, ⟨g1.1, e⟩, hs⟩
    rw [hdt] at this
    cases this
  omega
theorem Tb8.zero (h : TbO w w' X G e a c ds) (hv : Iv cs X.n G.F st pn pg) : Tb8 ds G 0 0 := by
  refine ⟨Nat.zero_le _, (fun i _ hlt => by omega), fun i hi _ => ?_⟩
  obtain ⟨j1, j2⟩ := h.mem (List.getElem_mem hi)
  obtain ⟨id1, _, _, _, _, g1, _⟩ := hv.pos j1 (by simpa [dty] using j2)
  have := g1.2
  omega
theorem Tb8.full (h : TbO w w' X G e a c ds) (hv : Iv cs X.n G.F st pn pg) (ht : Tb8 ds G k 8) : k = ds.length := by
  have := ht.le
  rcases Nat.lt_or_ge k ds.length with hlt | hge
  · have h1 := ht.hi k hlt (Nat.le_refl _)
    obtain ⟨j1, j2⟩ := h.mem (List.getElem_mem hlt)
    obtain ⟨id1, _, _, g8, _, g1, _⟩ := hv.pos j1 (by simpa [dty] using j2)
    have := g1.2
    omega
  · omega
theorem Lst.step {j : Nat} (hv : Iv cs n G.F st pn pg) (h : Lst E n G (fun j => (G.F j).id < (d : Int)) r) (hj : j < n) (hd : dty G j = true) (hh : (G.F j).has (d : Int)) : Lst E n G (fun j => (G.F j).id < ((d + 1 : Nat) : Int)) (if (G.F j).si < r then (G.F j).si else r) :=
  (h.min hj hd).weak (fun i hi hdi hlt => by
    by_cases e : (G.F i).id = (d : Int)
    · right
      obtain ⟨_, _, _, _, _, g1, _⟩ := hv.pos hi (by simpa [dty] using hdi)
      exact hv.ds i j (d : Int) hi hj ⟨g1.1, e⟩ hh
    · left; omega)
theorem Lst.skip (hv : Iv cs n G.F st pn pg) (h : Lst E n G (fun j => (G.F j).id < (d : Int)) r) (hdt : dtb G.F n (d : Int) = false) : Lst E n G (fun j => (G.F j).id < ((d + 1 : Nat) : Int)) r :=
  h.weak (fun i hi hdi hlt => by
    by_cases e : (G.F i).id = (d : Int)
    · exfalso
      have hs : 0 < (G.F i).si := by simpa [dty] using hdi
      obtain ⟨_, _, _, _, _, g1, _⟩ := hv.pos hi hs
      have := dtb_iff.2 ⟨i, hi, ⟨g1.1, e⟩, hs⟩
      rw [hdt] at this
      cases this
    · omega)
theorem Lst.top (hv : Iv cs n G.F st pn pg) (h : Lst E n G (fun j => (G.F j).id < ((8 : Nat) : Int)) r) : Lst E n G (fun _ => True) r :=
  h.weak (fun i hi hdi _ => by
    obtain ⟨id1, _, _, g8, _, g1, _⟩ := hv.pos hi (by simpa [dty] using hdi)
    have := g1.2
    omega)
set_option maxHeartbeats 8000000 in
theorem table_any (h : PW B w ww X k S cs sure G st pn pg qn) : Calls Tryz.prog 13 #[.pointer (some ⟨ww, 0, none⟩)] w fun e w' => e = .returned (.bool true) ∧ Below w.heap.size w w' := by
  have H : Hid (PW B w ww X k S cs sure G st pn pg qn) := h
  have CT : Hid (Calls Tryz.prog 35 #[.pointer (some ⟨X.pb, 0, none⟩)] w fun e w' => ∃ a c ds, TbO w w' X G e a c ds) := Table_any h.pv.q.po
  have CE : Hid (∀ wx, Below w.heap.size w wx → Calls Tryz.prog 42 #[.pointer (some ⟨X.l, 0, none⟩)] wx fun e w' => e = .returned (.int .i64 (edL cs)) ∧ w' = wx) := fun wx hx => (h.below hx).pv.q.end_
  have CR : Hid (∀ wx, Below w.heap.size w wx → Calls Tryz.prog 36 #[.pointer (some ⟨X.pb, 0, none⟩)] wx fun e w' => ∃ r, e = .returned (.int .i64 r) ∧ Lst (edL cs) X.n G (fun _ => True) r ∧ Below wx.heap.size wx w') := fun wx hx => Redo_any (h.below hx).pv.q
  have HV : Hid (Iv cs X.n G.F st pn pg) := h.pv.v
  have hn2 : Hid (X.n ≤ 64) := h.pv.q.po.n2
  have c3 := h.wb.c3
  have C2 : Hid (∀ wx, Below w.heap.size w wx → wx.cell? ⟨ww, 2, none⟩ = some (.pointer (some ⟨X.l, 0, none⟩))) := fun wx hx => (h.below hx).wb.c2
  have C3 : Hid (∀ wx, Below w.heap.size w wx → wx.cell? ⟨ww, 3, none⟩ = some (.pointer (some ⟨X.pb, 0, none⟩))) := fun wx hx => (h.below hx).wb.c3
  clear h
  generalize edL cs = ed at *
  go_enter Tryz.func13, Tryz.ntmps13
  go_wp2_with (first
    | (go_at_call 35; refine CT.out.mono ?_; rintro e w2 ⟨a2, k2, ds, D2⟩; have he := D2.e; subst he; have c2 := C2.out _ D2.below)
    | (go_at_call 42; refine (CE.out _ D2.below).mono ?_; rintro e w3 ⟨rfl, rfl⟩))
  have hl : ds.length ≤ 64 := by
    have h1 := D2.perm.length_eq
    have h2 := List.length_filter_le (dty G) (List.range X.n)
    rw [List.length_range] at h2
    have h3 := hn2.out
    omega
  have HD : Hid (TbO w w3 X G (.returned (.slice a2 ds.length k2)) a2 k2 ds) := D2
  clear D2 CT CE c2 c3 C2
  go_loopw [4, 5, 6] (fun kv lv iv wr => ∃ (d j : Nat) (r : Int), d ≤ 8 ∧ iv = .int .i64 (d : Int) ∧ kv = .int .i64 (j : Int) ∧ lv = .int .i64 r ∧ Tb8 ds G j d ∧ Lst ed X.n G (fun j => (G.F j).id < (d : Int)) r ∧ Below w3.heap.size w3 wr) (fun _ _ iv _ => 8 - (intOf iv).toNat)
  case atStart => exact ⟨0, 0, ed, Nat.zero_le _, rfl, rfl, rfl, Tb8.zero HD.out HV.out, ⟨Int.le_refl _, fun j hj hd hlt => by obtain ⟨id1, _, _, g8, _, g1, _⟩ := HV.out.pos hj (by simpa [dty] using hd); have := g1.2; omega, Or.inl rfl⟩, Below.refl _ _⟩
  case round =>
    obtain ⟨d, j, r, hd8, rfl, rfl, rfl, ht, hr, hb⟩ := hrel
    have HB : Hid (Below w3.heap.size w3 wr) := hb
    have HBw : Hid (Below w.heap.size w wr) := thn HD.out.below hb
    have HT : Hid (Tb8 ds G j d) := ht
    have HR : Hid (Lst ed X.n G (fun j => (G.F j).id < (d : Int)) r) := hr
    have c3 := C3.out _ HBw.out
    clear hb ht hr
    by_cases hd : d < 8
    · have d1 : (d : Int) < 8 := by omega
      have d0 : (0 : Int) ≤ (d : Int) := by omega
      have HP : Hid (PW B wr ww X k S cs sure G st pn pg qn) := H.out.below HBw.out
      have CD : Hid (Calls Tryz.prog 26 #[.pointer (some ⟨X.pb, 0, none⟩), .int .i64 (d : Int)] wr fun e w' => e = .returned (.bool (dtb G.F X.n (d : Int))) ∧ w' = wr) := Dirty_any HP.out.pv (d : Int)
      cases hdt : dtb G.F X.n (d : Int) with
      | false =>
        rw [hdt] at CD
        go_wp2_with (go_at_call 26; refine CD.out.mono ?_; rintro e w4 ⟨rfl, rfl⟩)
        go_roundw
        case rel => exact ⟨d + 1, j, r, hd, by go_num, rfl, rfl, HT.out.miss HD.out HV.out hdt, HR.out.skip HV.out hdt, HB.out⟩
        case measure => simp [intOf]; omega
      | true =>
        rw [hdt] at CD
        obtain ⟨hj, ⟨hm1, hm2, hm3⟩, hsi, hnx⟩ := HT.out.hit HD.out HV.out hd hdt
        obtain ⟨g, hga, _, hg0, hg1⟩ := (HD.out.tb.below HB.out).at_ j hj
        have hls := HP.out.wb.ln hd
        have HL : Hid (Lst ed X.n G (fun j => (G.F j).id < ((d + 1 : Nat) : Int)) (if (G.F ds[j]).si < r then (G.F ds[j]).si else r)) := HR.out.step HV.out hm1 hm2 hm3
        have HN : Hid (Tb8 ds G (j + 1) (d + 1)) := hnx
        rw [hm3.2] at hg0
        subst hga
        have j1 : (j : Int) < (ds.length : Int) := by omega
        have j2 : ¬ (ds.length : Int) ≤ (j : Int) := by omega
        have y1 : ¬ (G.F ds[j]).si < 1 := by omega
        have y2 : ¬ lnO (st d) < (G.F ds[j]).si := by omega
        clear hm1 hm2 hm3 hnx hsi HT HR
        generalize (G.F ds[j]).si = y0 at *
        generalize lnO (st d) = lr at *
        go_wp2_with (go_at_call 26; refine CD.out.mono ?_; rintro e w4 ⟨rfl, rfl⟩)
        go_quiet (fail)
        have hBq : Hid (Below w4.heap.size w4 (w4.drewN nq)) := Sm.below_dr (Below.refl _ _) nq
        have q1 : (w4.drewN nq).cell? ⟨g, j * 2 + 1, none⟩ = some (.int .i64 y0) := hg1
        have j3 : ¬ ds.length ≤ j := by omega
        by_cases hy : y0 < r
        · rw [if_pos hy] at HL
          go_wp2
          go_roundw
          case rel => exact ⟨d + 1, j + 1, y0, hd, by go_num, by go_num, rfl, HN.out, HL.out, thn HB.out hBq.out⟩
          case measure => simp [intOf]; omega
        · rw [if_neg hy] at HL
          go_wp2
          go_roundw
          case rel => exact ⟨d + 1, j + 1, r, hd, by go_num, by go_num, rfl, HN.out, HL.out, thn HB.out hBq.out⟩
          case measure => simp [intOf]; omega
    · obtain rfl : d = 8 := by omega
      have hk := HT.out.full HD.out HV.out
      subst hk
      clear hd hd8
      have HRt := HR.out.top HV.out
      go_wp2_with (go_at_call 36; refine (CR.out _ HBw.out).mono ?_; rintro e w4 ⟨r4, rfl, L4, b4⟩; have e4 := L4.one HRt; subst e4)
      go_ret
      exact ⟨by simp, thn HBw.out b4⟩
end
end Go.Proofs.YtgodjnbbocnckaaGreat
