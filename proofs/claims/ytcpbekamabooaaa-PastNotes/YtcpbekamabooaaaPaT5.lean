/- The law's own past: note of one that goes on, by a record of kind 5. -/
import Derived.Test.YtcpbekamabooaaaPaS
import Derived.Deep.RegionHeld3
namespace Go.Proofs.Ytcpbekamabooaaa.Pa
open Go.RowKit Gm
set_option linter.unusedVariables false
set_option linter.unusedSimpArgs false
set_option maxRecDepth 100000
section
variable {W W' : Nat → Prop} {w w' : World} {pb : Nat} {v : Value} {L : List Gv} {P : List Gn} {I T : Value}
set_option maxHeartbeats 4000000 in
theorem note_old5 (h : Pl W w pb P) (hl : P.length ≤ 1000) (hkl : ∀ g ∈ P, g.ks.length ≤ 1000) (tx pv pg ac nx ep nd : Int) (ky ol nw : ByteArray) (hx : tx ≠ 0) (hf : fnd P tx < P.length) (lsn : Int) : Calls Try.prog 8 #[.pointer (some ⟨pb, 0, none⟩), .agg (Rc.A ⟨5, tx, pv, pg, ac, ky, ol, nw, nx, ep, nd⟩ I T), .int .i64 lsn] w fun e w' => e = .returned (.tuple #[]) ∧ NtO W w w' pb (noteM P ⟨5, tx, pv, pg, ac, ky, ol, nw, nx, ep, nd⟩ lsn) := by
  have ht : tellsM ⟨5, tx, pv, pg, ac, ky, ol, nw, nx, ep, nd⟩ = some ⟨ol, true⟩ := by kernel_rfl
  rw [note_old (r := ⟨5, tx, pv, pg, ac, ky, ol, nw, nx, ep, nd⟩) hx (by show ((5 : Int) ≠ 7); omega) (by show ((5 : Int) ≠ 8); omega) hf]
  obtain ⟨g, c, L, rfl, hM, hz⟩ := h.mid hf
  have CF : Hid (∀ wx, Below w.heap.size w wx → Calls Try.prog 20 #[.pointer (some ⟨pb, 0, none⟩), .int .i64 tx] wx fun e w' => e = .returned (.int .i64 (fnd (L.map Gv.g) tx : Int)) ∧ w' = wx) := fun wx hb => by
    have := find_any (h.bel hb) tx hl
    have e : fI (L.map Gv.g) tx = fnd (L.map Gv.g) tx := if_pos hf
    rw [e] at this
    exact this
  simp only
  have hf : fnd (L.map Gv.g) tx < L.length := by simpa using hf
  generalize fnd (L.map Gv.g) tx = i at *
  have hkz : L[i].kl.length ≤ 1000 := by
    have := hkl L[i].g (List.mem_map.2 ⟨_, List.getElem_mem hf, rfl⟩)
    have hz := hz i hf
    simp only [Gv.g, List.length_zip] at this
    omega
  obtain ⟨Q, hQ⟩ : ∃ Q, Q = (L.map Gv.g).modify i (·.turn ⟨5, tx, pv, pg, ac, ky, ol, nw, nx, ep, nd⟩ lsn) := ⟨_, rfl⟩
  have hh := has_zip (hz i hf) ky
  have HQ1 : Hid (L[i].kl.any (fun a => eqB a ky) = true → Q = (L.set i ⟨L[i].txn, lsn, L[i].kl, L[i].wl, L[i].kv, L[i].wv⟩).map Gv.g) := (fun e => by
    rw [hQ, map_modify hf _ (y := ⟨L[i].txn, lsn, L[i].kl, L[i].wl, L[i].kv, L[i].wv⟩) (by show _ = Gn.turn _ _ _; rw [turn_has ht (hh.trans e)]; rfl)] : L[i].kl.any (fun a => eqB a ky) = true → Q = (L.set i ⟨L[i].txn, lsn, L[i].kl, L[i].wl, L[i].kv, L[i].wv⟩).map Gv.g)
  have HQ2 : Hid (L[i].kl.any (fun a => eqB a ky) = false → ∀ kv wv, Q = (L.set i ⟨L[i].txn, lsn, L[i].kl ++ [ky], L[i].wl ++ [⟨ol, true⟩], kv, wv⟩).map Gv.g) := (fun e kv wv => by
    rw [hQ, map_modify hf _ (y := ⟨L[i].txn, lsn, L[i].kl ++ [ky], L[i].wl ++ [⟨ol, true⟩], kv, wv⟩) (by
      show _ = Gn.turn _ _ _
      rw [turn_new ht (hh.trans e)]
      show Gn.mk _ _ _ = Gn.mk _ _ _
      rw [List.zip_append (hz i hf)]
      rfl)] : L[i].kl.any (fun a => eqB a ky) = false → ∀ kv wv, Q = (L.set i ⟨L[i].txn, lsn, L[i].kl ++ [ky], L[i].wl ++ [⟨ol, true⟩], kv, wv⟩).map Gv.g)
  rw [← hQ]
  clear hQ hh ht
  obtain ⟨L1, eL1⟩ : ∃ L1, L1 = L.set i ⟨L[i].txn, lsn, L[i].kl, L[i].wl, L[i].kv, L[i].wv⟩ := ⟨_, rfl⟩
  have hi1 : i < L1.length := by rw [eL1]; simpa using hf
  have eg : L1[i] = ⟨L[i].txn, lsn, L[i].kl, L[i].wl, L[i].kv, L[i].wv⟩ := by subst eL1; exact List.getElem_set_self _
  have hln : L1.length = L.length := by rw [eL1]; simp
  have HQ3 : Hid (L1[i].kl.any (fun a => eqB a ky) = false → ∀ kv wv, Q = (L1.set i ⟨L1[i].txn, L1[i].last, L1[i].kl ++ [ky], L1[i].wl ++ [⟨ol, true⟩], kv, wv⟩).map Gv.g) := (by
    rw [eg]
    intro e kv wv
    rw [HQ2.out e kv wv, eL1, List.set_set] : L1[i].kl.any (fun a => eqB a ky) = false → ∀ kv wv, Q = (L1.set i ⟨L1[i].txn, L1[i].last, L1[i].kl ++ [ky], L1[i].wl ++ [⟨ol, true⟩], kv, wv⟩).map Gv.g)
  have HQ4 : Hid (L1[i].kl.any (fun a => eqB a ky) = true → Q = L1.map Gv.g) := (by rw [eg, eL1]; exact HQ1.out : L1[i].kl.any (fun a => eqB a ky) = true → Q = L1.map Gv.g)
  have HZ1 : Hid (L1[i].kl.length = L1[i].wl.length) := (by rw [eg]; exact hz i hf : L1[i].kl.length = L1[i].wl.length)
  have hk1 : L1[i].kl.length ≤ 1000 := by rw [eg]; exact hkz
  obtain ⟨ny, hny⟩ : ∃ ny, ny = L1.length := ⟨_, rfl⟩
  obtain ⟨la, hla⟩ : ∃ la, la = L[i].last := ⟨_, rfl⟩
  have HX : Hid (∀ wx, Below w.heap.size w wx → (wx.cell? ⟨pb, 0, none⟩ = some (.slice (some ⟨g, 0, none⟩) ny c) ∧ wx.cell? ⟨g, i * 4 + 1, none⟩ = some (.int .i64 la) ∧ wx.frozen? ⟨g, i * 4 + 1, none⟩ = false) ∧ Mid W w (wx.setCell ⟨g, i * 4 + 1, none⟩ (.int .i64 lsn)) pb g c i L1 ∧ ∀ b A, At wx b 33 A → At (wx.setCell ⟨g, i * 4 + 1, none⟩ (.int .i64 lsn)) b 33 A) := fun wx hb => by
    have M := hM wx hb
    obtain ⟨p0, q1, _, _, qf⟩ := M.cells hf
    refine ⟨⟨by rw [hny, hln]; exact p0, by rw [hla]; exact q1, qf _⟩, ?_, fun b A hA => M.off hA (by decide) _ _⟩
    rw [eL1]
    exact M.last hf lsn
  have hiI : (i : Int) < (ny : Int) := by omega
  have hi0 : ¬ (i : Int) < 0 := by omega
  obtain ⟨y, hy⟩ : ∃ y, L1[i] = y := ⟨_, rfl⟩
  have HY : Hid (∀ h : i < L1.length, L1[i] = y) := fun _ => hy
  rw [hy] at HQ3 HQ4 HZ1 hk1
  have HI1 : Hid (i < L1.length) := hi1
  have HNY : Hid (ny = L1.length) := hny
  clear h hM hkl hy hi1 hny hla eg hln eL1 HQ1 HQ2 hz hkz hf hl
  clear hf
  clear L
  have e7 : ¬ ((5 : Int) = 7) := by omega
  go_enter Try.func8, Try.ntmps8
  go_wp2_with (first
    | (refine wpList_box_at (A := Rc.A ⟨5, tx, pv, pg, ac, ky, ol, nw, nx, ep, nd⟩ I T) _ rfl _ rfl rfl ?_; intro w1 b1 N1; have c1 : w1.cell? ⟨b1, 1, none⟩ = some (.int .i64 tx) := N1.is.c 1; have c0 : w1.cell? ⟨b1, 0, none⟩ = some (.int .i64 5) := N1.is.c 0; obtain ⟨⟨p0, q1, f1⟩, m1, o1⟩ := HX.out _ N1.bel; have o1 := o1 _ _ N1.is)
    | (go_at_call 20; refine (CF.out _ N1.bel).mono ?_; rintro e w2 ⟨rfl, rfl⟩)
    | (refine wpList_set1 (v := .int .i64 lsn) _ rfl 3 (.tmp 74) (.tmp 72) rfl rfl rfl q1 f1 rfl (by kernel_rfl) ?_; intro w4 e4; rw [← e4] at m1 o1; have M4 : Hid _ := m1; have r4 : Hid _ := o1; clear m1 o1; have d0 : w4.cell? ⟨b1, 0, none⟩ = some (.int .i64 5) := r4.out.c 0; clear e4))
  clear q1 f1 p0 CF HX c0 c1
  obtain ⟨ak, ck, ekv, hkeys⟩ := M4.out.keys HI1.out
  rw [HY.out HI1.out] at ekv hkeys
  have HC : Hid (∀ wx, Below w4.heap.size w4 wx → wx.cell? ⟨pb, 0, none⟩ = some (.slice (some ⟨g, 0, none⟩) ny c) ∧ wx.cell? ⟨g, i * 4 + 2, none⟩ = some (.slice ak y.kl.length ck) ∧ wx.cell? ⟨b1, 5, none⟩ = some (.string ky) ∧ ∀ k (hk : k < y.kl.length), ∃ gk, ak = some ⟨gk, 0, none⟩ ∧ wx.cell? ⟨gk, k, none⟩ = some (.string y.kl[k])) := fun wx hb => by
    have M := M4.out.bel hb
    obtain ⟨z0, z1, z2, z3, zf⟩ := M.cells HI1.out
    rw [HY.out HI1.out, ekv] at z2
    rw [HNY.out]
    refine ⟨z0, z2, (r4.out.bel hb).c 5, fun k hk => ?_⟩
    obtain ⟨gk, e1, e2⟩ := hkeys k hk
    exact ⟨gk, e1, e2 wx M⟩
  have EK : Hid (y.kv = .slice ak y.kl.length ck) := ekv
  clear ekv hkeys
  go_loopw [8] (fun s8 wr => ∃ k : Nat, s8 = .int .i64 (k : Int) ∧ k ≤ y.kl.length ∧ Below w4.heap.size w4 wr ∧ (y.kl.take k).any (fun a => eqB a ky) = false) (fun s8 _ => y.kl.length - (intOf s8).toNat)
  case atStart => exact ⟨0, rfl, Nat.zero_le _, Below.refl _ _, by simp⟩
  case round =>
    obtain ⟨k, rfl, hk, hb0, hno⟩ := hrel
    have HB : Hid (Below w4.heap.size w4 wr) := hb0
    have HN : Hid ((y.kl.take k).any (fun a => eqB a ky) = false) := hno
    clear hb0 hno
    obtain ⟨p0, q2, r5, hin⟩ := HC.out wr HB.out
    by_cases hkk : k < y.kl.length
    · have hkI : (k : Int) < (y.kl.length : Int) := by omega
      obtain ⟨gk, e1, z1⟩ := hin k hkk
      subst e1
      have HS : Hid ((y.kl.take (k + 1)).any (fun a => eqB a ky) = ((y.kl.take k).any (fun a => eqB a ky) || eqB y.kl[k] ky)) := any_succ hkk
      have HA : Hid (eqB y.kl[k] ky = true → y.kl.any (fun a => eqB a ky) = true) := (fun e => List.any_eq_true.2 ⟨_, List.getElem_mem hkk, e⟩ : eqB y.kl[k] ky = true → y.kl.any (fun a => eqB a ky) = true)
      clear hin HC
      generalize y.kl[k] = z at *
      cases hz : eqB z ky
      · have hz' : (z.toList == ky.toList) = false := hz
        rw [hz] at HS HA
        go_wp2
        go_quiet (fail)
        go_wp2
        go_roundw
        case rel => exact ⟨k + 1, by rfl, by omega, bdr HB.out _, by rw [HS.out, HN.out]; rfl⟩
        case measure => simp [intOf]; omega
      · have hz' : (z.toList == ky.toList) = true := hz
        have HT : Hid (y.kl.any (fun a => eqB a ky) = true) := HA.out hz
        go_wp2
        go_quiet (fail)
        go_wp2
        refine bodyPost_ret (results_none rfl _ _ _) rfl ?_
        refine ⟨rfl, ?_⟩
        rw [HQ4.out HT.out]
        exact (M4.out.bel (bdr HB.out _)).done HI1.out (by rw [HY.out]; exact HZ1.out)
    · have hkI : ¬ (k : Int) < (y.kl.length : Int) := by omega
      have HT : Hid (y.kl.any (fun a => eqB a ky) = false) := (by have := HN.out; rwa [List.take_of_length_le (by omega)] at this : y.kl.any (fun a => eqB a ky) = false)
      clear hin HN HC HQ4
      have M5 : Hid (Mid W w wr pb g c i L1) := M4.out.bel HB.out
      have r5' : Hid (At wr b1 33 (Rc.A ⟨5, tx, pv, pg, ac, ky, ol, nw, nx, ep, nd⟩ I T)) := r4.out.bel HB.out
      clear M4 r4 HB d0
      have zeroW : ∀ w, (zeroValue 39).run Try.prog w = .ok (.agg zW.A) w := fun w => by kernel_rfl
      have oneW : Hid (∀ x : Ws, ∀ v ∈ x.A.toList, v.oneCell' = true) := (fun x v hv => by
        simp [Ws.A] at hv
        rcases hv with rfl | rfl <;> rfl : ∀ x : Ws, ∀ v ∈ x.A.toList, v.oneCell' = true)
      go_wp2_with (first
        | (refine wpList_new_at (A := zW.A) _ zeroW rfl rfl ?_; intro w6 b9 N6)
        | (refine wpList_at (Op.store 39 (.tmp 9) (.tmp 115)) rfl ?_; refine wpList_put_at stW (A := zW.A) (A' := zW.A) _ rfl (.tmp 9) (.tmp 115) rfl rfl rfl N6.is rfl rfl (oneW.out _) ?_; intro w7 P7; have B7 : Hid (Below wr.heap.size wr w7) := N6.bel.trans ((P7.fr (fun j => j = b9) rfl).bel (fun j hj => by rw [hj, N6.eq]; exact Nat.le_refl _) N6.bel.size); have d7 : w7.cell? ⟨b1, 0, none⟩ = some (.int .i64 5) := (r5'.out.bel B7.out).c 0; have d6 : w7.cell? ⟨b1, 6, none⟩ = some (.string ol) := (r5'.out.bel B7.out).c 6)
        | (refine wpList_at (Op.store 39 (.tmp 9) (.tmp 121)) rfl ?_; refine wpList_put_at stW (A := zW.A) (A' := Ws.A ⟨ol, true⟩) _ rfl (.tmp 9) (.tmp 121) rfl rfl rfl P7.is rfl rfl (oneW.out _) ?_; intro w8 P8))
      have B8 : Hid (Below wr.heap.size wr w8) := B7.out.trans ((P8.fr (fun j => j = b9) rfl).bel (fun j hj => by rw [hj, N6.eq]; exact Nat.le_refl _) B7.out.size)
      have M7 : Hid (Mid W w w8 pb g c i L1) := M5.out.bel B8.out
      have C7 := M7.out.cells HI1.out
      rw [HY.out HI1.out, EK.out, ← HNY.out] at C7
      obtain ⟨p0, _, q2, _, qf⟩ := C7
      have f2 := qf (i * 4 + 2)
      have r7 : w8.cell? ⟨b1, 5, none⟩ = some (.string ky) := (r5'.out.bel B8.out).c 5
      have n1 : pb ≠ w8.heap.size := M7.out.ne1
      have n2 : g ≠ w8.heap.size := M7.out.ne2
      have n3 : b1 ≠ w8.heap.size := Nat.ne_of_lt (r5'.out.bel B8.out).lt
      have RK : Hid (∀ wx, Below w8.heap.size w8 wx → Row wx 9 1 (.slice ak y.kl.length ck) (kC y.kl)) := fun wx hb => by
        have := (M7.out.bel hb).rowK HI1.out
        rw [HY.out HI1.out, EK.out] at this
        exact this
      have BA : Hid (∀ o : Obj, Below w8.heap.size w8 (w8.alloc o).drew) := fun o => ((Below.refl _ _).alloc (by exact Nat.le_refl _) _).drew
      have FA : Hid (∀ w1 wz v', Below w8.heap.size w8 w1 → App w1 wz 9 1 (.slice ak y.kl.length ck) v' (kC y.kl ++ [[.string ky]]) → wz.cell? ⟨pb, 0, none⟩ = some (.slice (some ⟨g, 0, none⟩) ny c) ∧ wz.cell? ⟨g, i * 4 + 2, none⟩ = some (.slice ak y.kl.length ck) ∧ wz.frozen? ⟨g, i * 4 + 2, none⟩ = false) := fun w1 wz v' hb A => by
        have := M7.out.midK HI1.out hb (v' := v') (key := ky) (by rw [HY.out HI1.out, EK.out]; exact A)
        rw [HY.out HI1.out, EK.out, ← HNY.out] at this
        exact this
      have UA : Hid (∀ wx, Below w8.heap.size w8 wx → wx.cell? ⟨pb, 0, none⟩ = some (.slice (some ⟨g, 0, none⟩) ny c) ∧ wx.cell? ⟨g, i * 4 + 2, none⟩ = some (.slice ak y.kl.length ck) ∧ wx.cell? ⟨b1, 5, none⟩ = some (.string ky)) := fun wx hb => by
        have := (M7.out.bel hb).cells HI1.out
        rw [HY.out HI1.out, EK.out, ← HNY.out] at this
        exact ⟨this.1, this.2.2.1, ((r5'.out.bel B8.out).bel hb).c 5⟩
      obtain ⟨u0, u2, u5⟩ := UA.out _ (bl1 (.cells #[.string ky] 9))
      obtain ⟨v0, v2, v5⟩ := UA.out _ (BA.out (.cells #[.string ky] 9))
      clear qf q2 f2 u0 u2 u5 v0 v2 v5 n1 n2 n3 BA
      have one1 : Hid (∀ k : ByteArray, ∀ u ∈ (#[Value.string k] : Array Value).toList, u.oneCell' = true) := (fun k u hu => by simp at hu; rw [hu]; rfl : ∀ k : ByteArray, ∀ u ∈ (#[Value.string k] : Array Value).toList, u.oneCell' = true)
      have klen : Hid ((kC y.kl).length ≤ 90000) := (by simp [kC]; omega : (kC y.kl).length ≤ 90000)
      have NWX : Hid (∀ gq, y.wv.ownBlock = some gq → gq ≠ b9) := (fun gq e e2 => by have h1 := (M5.out.rowW HI1.out).lt (g := gq) (by rw [HY.out HI1.out]; exact e); rw [e2, N6.eq] at h1; omega : ∀ gq, y.wv.ownBlock = some gq → gq ≠ b9)
      have xN : Hid (At w8 b9 39 (Ws.A ⟨ol, true⟩)) := P8.is
      have RC2 : Hid (∀ w1 w2 v' M, Below w8.heap.size w8 w1 → App w1 w2 9 1 (.slice ak y.kl.length ck) v' M → (At w2 b1 33 (Rc.A ⟨5, tx, pv, pg, ac, ky, ol, nw, nx, ep, nd⟩ I T) ∧ ∀ k u, At (w2.setCell ⟨g, k, none⟩ u) b1 33 (Rc.A ⟨5, tx, pv, pg, ac, ky, ol, nw, nx, ep, nd⟩ I T)) ∧ At w2 b9 39 (Ws.A ⟨ol, true⟩) ∧ ∀ k u, At (w2.setCell ⟨g, k, none⟩ u) b9 39 (Ws.A ⟨ol, true⟩)) := fun w1 w2 v' M hb A => by
        have A' : App w1 w2 9 1 (L1[i]'HI1.out).kv v' M := by rw [HY.out HI1.out, EK.out]; exact A
        exact ⟨M7.out.offK HI1.out hb A' (r5'.out.bel B8.out) (by decide) (by decide), M7.out.offK HI1.out hb A' xN.out (by decide) (by decide)⟩
      have KS : Hid (∀ wx, Below w8.heap.size w8 wx → wx.cell? ⟨pb, 0, none⟩ = some (.slice (some ⟨g, 0, none⟩) ny c) ∧ wx.cell? ⟨b1, 5, none⟩ = some (.string ky)) := fun wx hb => ⟨(UA.out wx hb).1, (UA.out wx hb).2.2⟩
      have D7 : Hid (Below w8.heap.size w8 w8.drew) := (Below.refl _ _).drew
      refine wp_region_held_drew (S := fun W : World => W.cell? ⟨pb, 0, none⟩ = some (.slice (some ⟨g, 0, none⟩) ny c) ∧ W.cell? ⟨b1, 5, none⟩ = some (.string ky)) (by kernel_rfl) (KS.out _ D7.out) (fun hHeld => ?_)
      refine wpAnyH_take (i := 0) (oi := _) (v := ?_) rfl (by kernel_rfl) (by kernel_rfl) (by kernel_rfl) (fun _ _ _ h => h) (Or.inl ⟨by rfl, ?_⟩) hHeld ?_
      rotate_left
      · (intro w hSw; (try dsimp only at hSw); go_simp; (try with_reducible rfl))
      try simp only [Act.put, List.setIfInBounds_toArray, List.set_cons_zero, List.set_cons_succ, List.getElem_toArray, List.getElem_cons_succ, List.getElem_cons_zero]
      refine wpAnyH_take (i := 1) (oi := _) (v := ?_) rfl (by kernel_rfl) (by kernel_rfl) (by kernel_rfl) (fun _ _ _ h => h) (Or.inl ⟨by rfl, ?_⟩) hHeld ?_
      rotate_left
      · (intro w hSw; (try dsimp only at hSw); go_simp; (try with_reducible rfl))
      try simp only [Act.put, List.setIfInBounds_toArray, List.set_cons_zero, List.set_cons_succ, List.getElem_toArray, List.getElem_cons_succ, List.getElem_cons_zero]
      refine wpAnyH_take (i := 2) (oi := _) (v := ?_) rfl (by kernel_rfl) (by kernel_rfl) (by kernel_rfl) (fun _ _ _ h => h) (Or.inl ⟨by rfl, ?_⟩) hHeld ?_
      rotate_left
      · (intro w hSw; (try dsimp only at hSw); go_simp; (try with_reducible rfl))
      try simp only [Act.put, List.setIfInBounds_toArray, List.set_cons_zero, List.set_cons_succ, List.getElem_toArray, List.getElem_cons_succ, List.getElem_cons_zero]
      refine wpAnyH_take (i := 3) (oi := _) (v := ?_) rfl (by kernel_rfl) (by kernel_rfl) (by kernel_rfl) (fun _ _ _ h => h) (Or.inl ⟨by rfl, ?_⟩) hHeld ?_
      rotate_left
      · (intro w hSw; (try dsimp only at hSw); go_simp; (try with_reducible rfl))
      try simp only [Act.put, List.setIfInBounds_toArray, List.set_cons_zero, List.set_cons_succ, List.getElem_toArray, List.getElem_cons_succ, List.getElem_cons_zero]
      refine wpAnyH_take (i := 4) (oi := _) (v := ?_) rfl (by kernel_rfl) (by kernel_rfl) (by kernel_rfl) (fun _ _ _ h => h) (Or.inl ⟨by rfl, ?_⟩) hHeld ?_
      rotate_left
      · (intro w hSw; (try dsimp only at hSw); go_simp; (try with_reducible rfl))
      try simp only [Act.put, List.setIfInBounds_toArray, List.set_cons_zero, List.set_cons_succ, List.getElem_toArray, List.getElem_cons_succ, List.getElem_cons_zero]
      refine wpAnyH_take (i := 5) (oi := _) (v := ?_) rfl (by kernel_rfl) (by kernel_rfl) (by kernel_rfl) (fun _ _ _ h => h) (Or.inl ⟨by rfl, ?_⟩) hHeld ?_
      rotate_left
      · (intro w hSw; (try dsimp only at hSw); go_simp; (try with_reducible rfl))
      try simp only [Act.put, List.setIfInBounds_toArray, List.set_cons_zero, List.set_cons_succ, List.getElem_toArray, List.getElem_cons_succ, List.getElem_cons_zero]
      refine wpAnyH_take (i := 6) (oi := _) (v := ?_) rfl (by kernel_rfl) (by kernel_rfl) (by kernel_rfl) (fun _ _ _ h => h) (Or.inl ⟨by rfl, ?_⟩) hHeld ?_
      rotate_left
      · (intro w hSw; (try dsimp only at hSw); go_simp; (try with_reducible rfl))
      try simp only [Act.put, List.setIfInBounds_toArray, List.set_cons_zero, List.set_cons_succ, List.getElem_toArray, List.getElem_cons_succ, List.getElem_cons_zero]
      refine wpAnyH_take (i := 7) (oi := _) (v := ?_) rfl (by kernel_rfl) (by kernel_rfl) (by kernel_rfl) (fun _ _ _ h => h) (Or.inl ⟨by rfl, ?_⟩) hHeld ?_
      rotate_left
      · (intro w hSw; (try dsimp only at hSw); go_simp; (try with_reducible rfl))
      try simp only [Act.put, List.setIfInBounds_toArray, List.set_cons_zero, List.set_cons_succ, List.getElem_toArray, List.getElem_cons_succ, List.getElem_cons_zero]
      refine wpAnyH_take (i := 8) (oi := _) (v := ?_) rfl (by kernel_rfl) (by kernel_rfl) (by kernel_rfl) (fun _ _ _ h => h) (Or.inl ⟨by rfl, ?_⟩) hHeld ?_
      rotate_left
      · (intro w hSw; (try dsimp only at hSw); go_simp; (try with_reducible rfl))
      try simp only [Act.put, List.setIfInBounds_toArray, List.set_cons_zero, List.set_cons_succ, List.getElem_toArray, List.getElem_cons_succ, List.getElem_cons_zero]
      refine wpAnyH_take (i := 9) (oi := _) (v := ?_) rfl (by kernel_rfl) (by kernel_rfl) (by kernel_rfl) (fun _ _ _ h => h) (Or.inl ⟨by rfl, ?_⟩) hHeld ?_
      rotate_left
      · (intro w hSw; (try dsimp only at hSw); go_simp; (try with_reducible rfl))
      try simp only [Act.put, List.setIfInBounds_toArray, List.set_cons_zero, List.set_cons_succ, List.getElem_toArray, List.getElem_cons_succ, List.getElem_cons_zero]
      refine wpAnyH_take (i := 10) (oi := _) (v := ?_) rfl (by kernel_rfl) (by kernel_rfl) (by kernel_rfl) (fun _ _ _ h => h) (Or.inl ⟨by rfl, ?_⟩) hHeld ?_
      rotate_left
      · (intro w hSw; (try dsimp only at hSw); go_simp; (try with_reducible rfl))
      try simp only [Act.put, List.setIfInBounds_toArray, List.set_cons_zero, List.set_cons_succ, List.getElem_toArray, List.getElem_cons_succ, List.getElem_cons_zero]
      refine wpAnyH_take (i := 11) (oi := _) (v := ?_) rfl (by kernel_rfl) (by kernel_rfl) (by kernel_rfl) (fun _ _ _ h => h) (Or.inl ⟨by rfl, ?_⟩) hHeld ?_
      rotate_left
      · (intro w hSw; (try dsimp only at hSw); go_simp; (try with_reducible rfl))
      try simp only [Act.put, List.setIfInBounds_toArray, List.set_cons_zero, List.set_cons_succ, List.getElem_toArray, List.getElem_cons_succ, List.getElem_cons_zero]
      refine wpAnyH_take (i := 13) (oi := _) (v := ?_) rfl (by kernel_rfl) (by kernel_rfl) (by kernel_rfl) (fun _ _ _ h => h) (Or.inl ⟨by rfl, ?_⟩) hHeld ?_
      rotate_left
      · (intro w hSw; (try dsimp only at hSw); go_simp; (try with_reducible rfl))
      try simp only [Act.put, List.setIfInBounds_toArray, List.set_cons_zero, List.set_cons_succ, List.getElem_toArray, List.getElem_cons_succ, List.getElem_cons_zero]
      refine wpAnyH_take (i := 14) (oi := _) (v := ?_) rfl (by kernel_rfl) (by kernel_rfl) (by kernel_rfl) (fun _ _ _ h => h) (Or.inl ⟨by rfl, ?_⟩) hHeld ?_
      rotate_left
      · (intro w hSw; (try dsimp only at hSw); go_simp; (try with_reducible rfl))
      try simp only [Act.put, List.setIfInBounds_toArray, List.set_cons_zero, List.set_cons_succ, List.getElem_toArray, List.getElem_cons_succ, List.getElem_cons_zero]
      refine wpAnyH_ready (rs := [12, 15]) (by kernel_rfl) (by simp) ?_
      refine AllReadyH.cons (o := _) rfl (fun K hK => ?_) (AllReadyH.cons (o := _) rfl (fun K hK => ?_) AllReadyH.nil)
      rw [if_pos (by rfl)]
      refine wp_load1 (v := .slice ak y.kl.length ck) _ (.tmp 133) rfl rfl (load_ss (UA.out _ D7.out).2.1) ?_
      refine hK.out _ _ (KS.out _ D7.out) (fun hHeld => ?_)
      clear hK K
      try simp only [Act.put, List.setIfInBounds_toArray, List.set_cons_zero, List.set_cons_succ, List.getElem_toArray, List.getElem_cons_succ, List.getElem_cons_zero]
      refine wpAnyH_ready (rs := [15]) (by kernel_rfl) (by simp) ?_
      refine AllReadyH.cons (o := _) rfl (fun K hK => ?_) AllReadyH.nil
      rw [if_pos (by rfl)]
      refine wp_build1 _ (.tmp 136) rfl rfl (bS ky) ?_
      intro wB bB NB
      have DB : Hid (Below w8.heap.size w8 wB) := thn D7.out NB.bel
      refine hK.out _ _ (KS.out _ DB.out) (fun hHeld => ?_)
      clear hK K
      try simp only [Act.put, List.setIfInBounds_toArray, List.set_cons_zero, List.set_cons_succ, List.getElem_toArray, List.getElem_cons_succ, List.getElem_cons_zero]
      rotate_left
      rw [if_pos (by rfl)]
      refine wp_build1 _ (.tmp 136) rfl rfl (bS ky) ?_
      intro wB bB NB
      have DB : Hid (Below w8.heap.size w8 wB) := thn D7.out NB.bel
      refine hK.out _ _ (KS.out _ DB.out) (fun hHeld => ?_)
      clear hK K
      try simp only [Act.put, List.setIfInBounds_toArray, List.set_cons_zero, List.set_cons_succ, List.getElem_toArray, List.getElem_cons_succ, List.getElem_cons_zero]
      refine wpAnyH_ready (rs := [12]) (by kernel_rfl) (by simp) ?_
      refine AllReadyH.cons (o := _) rfl (fun K hK => ?_) AllReadyH.nil
      rw [if_pos (by rfl)]
      refine wp_load1 (v := .slice ak y.kl.length ck) _ (.tmp 133) rfl rfl (load_ss (UA.out _ DB.out).2.1) ?_
      refine hK.out _ _ (KS.out _ DB.out) (fun hHeld => ?_)
      clear hK K
      try simp only [Act.put, List.setIfInBounds_toArray, List.set_cons_zero, List.set_cons_succ, List.getElem_toArray, List.getElem_cons_succ, List.getElem_cons_zero]
      all_goals
        refine wpAnyH_ready (rs := [16]) (by kernel_rfl) (by simp) ?_
        refine AllReadyH.cons (o := _) rfl (fun K hK => ?_) AllReadyH.nil
        refine step_push elS (L := kC y.kl) (v := .slice ak y.kl.length ck) (A := #[.string ky]) (c := 1) (b := bB) rfl (.tmp 134) (.tmp 137) rfl rfl (RK.out _ DB.out) rfl NB.is rfl (one1.out _) klen.out ?_
        intro aA cA wA AA
        obtain ⟨s0, s2, sf⟩ := FA.out _ _ _ DB.out AA
        have RC := RC2.out _ _ _ _ DB.out AA
        have s5 := RC.1.1.c 5
        refine hK.out _ _ ⟨s0, s5⟩ (fun hHeld => ?_)
        clear hK K
        try simp only [Act.put, List.setIfInBounds_toArray, List.set_cons_zero, List.set_cons_succ, List.getElem_toArray, List.getElem_cons_succ, List.getElem_cons_zero]
        refine wpAnyH_take (i := 17) (oi := _) (v := ?_) rfl (by kernel_rfl) (by kernel_rfl) (by kernel_rfl) (fun _ _ _ h => h) (Or.inl ⟨by rfl, ?_⟩) hHeld ?_
        rotate_left
        · (intro w hSw; (try dsimp only at hSw); go_simp; (try with_reducible rfl))
        try simp only [Act.put, List.setIfInBounds_toArray, List.set_cons_zero, List.set_cons_succ, List.getElem_toArray, List.getElem_cons_succ, List.getElem_cons_zero]
        refine wpAnyH_take (i := 18) (oi := _) (v := ?_) rfl (by kernel_rfl) (by kernel_rfl) (by kernel_rfl) (fun _ _ _ h => h) (Or.inl ⟨by rfl, ?_⟩) hHeld ?_
        rotate_left
        · (intro w hSw; (try dsimp only at hSw); go_simp; (try with_reducible rfl))
        try simp only [Act.put, List.setIfInBounds_toArray, List.set_cons_zero, List.set_cons_succ, List.getElem_toArray, List.getElem_cons_succ, List.getElem_cons_zero]
        refine wpAnyH_ready (rs := [19]) (by kernel_rfl) (by simp) ?_
        refine AllReadyH.cons (o := _) rfl (fun K hK => ?_) AllReadyH.nil
        rw [if_pos (by rfl)]
        refine wp_set1 (v := .slice aA ((kC y.kl).length + 1) cA) _ 53 (.tmp 140) (.tmp 138) rfl rfl rfl s2 sf rfl (by kernel_rfl) ?_
        intro wcc eC
        have MC := M7.out.key HI1.out DB.out (key := ky) (v' := .slice aA ((kC y.kl).length + 1) cA) (by rw [HY.out HI1.out, EK.out]; exact AA)
        rw [← eC] at MC
        have rC := RC.1.2 (i * 4 + 2) (.slice aA ((kC y.kl).length + 1) cA)
        have xC := RC.2.2 (i * 4 + 2) (.slice aA ((kC y.kl).length + 1) cA)
        rw [← eC] at rC xC
        obtain ⟨L2, m2, ⟨hi2, hy2⟩, hn2, hs2⟩ := M7.out.key2 HI1.out (HY.out HI1.out) DB.out (by rw [EK.out]; exact AA) eC
        clear eC
        refine hK.out _ _ ⟨MC.pbc.trans (by rw [List.length_set, ← HNY.out]), rC.c 5⟩ (fun hHeld => ?_)
        clear hK K
        try simp only [Act.put, List.setIfInBounds_toArray, List.set_cons_zero, List.set_cons_succ, List.getElem_toArray, List.getElem_cons_succ, List.getElem_cons_zero]
        refine wpAnyH_done (by kernel_rfl) ?_ _
        go_wp2
        have M8 : Hid (Mid W w wcc pb g c i L2) := m2
        have HI2 : Hid (i < L2.length) := hi2
        have HY2 : Hid (∀ h : i < L2.length, L2[i] = ⟨y.txn, y.last, y.kl ++ [ky], y.wl, .slice aA ((kC y.kl).length + 1) cA, y.wv⟩) := fun _ => hy2
        have HN2 : Hid (ny = L2.length) := HNY.out.trans hn2.symm
        have HS2 : Hid (L2 = L1.set i ⟨y.txn, y.last, y.kl ++ [ky], y.wl, .slice aA ((kC y.kl).length + 1) cA, y.wv⟩) := hs2
        have XC : Hid (At wcc b9 39 (Ws.A ⟨ol, true⟩)) := xC
        clear m2 hi2 hy2 hn2 hs2 AA s0 s2 sf RC s5 MC rC xC
        obtain ⟨aw, cw, ew⟩ := M8.out.wvs HI2.out (HY2.out HI2.out)
        have EW : Hid (y.wv = .slice aw y.wl.length cw) := ew
        clear ew
        have UB : Hid (∀ wx, Below wcc.heap.size wcc wx → wx.cell? ⟨pb, 0, none⟩ = some (.slice (some ⟨g, 0, none⟩) ny c) ∧ wx.cell? ⟨g, i * 4 + 3, none⟩ = some (.slice aw y.wl.length cw) ∧ (wx.cell? ⟨b9, 0, none⟩ = some (.string (Ws.v ⟨ol, true⟩)) ∧ wx.cell? ⟨b9, 1, none⟩ = some (.bool (Ws.is ⟨ol, true⟩))) ∧ Row wx 39 2 (.slice aw y.wl.length cw) (wC y.wl)) := fun wx hb => by
          have M := M8.out.bel hb
          obtain ⟨z0, _, _, z3, _⟩ := M.cells HI2.out
          have r := M.rowW HI2.out
          rw [HY2.out HI2.out] at z3 r
          simp only [EW.out] at z3 r
          rw [← HN2.out] at z0
          exact ⟨z0, z3, ⟨(XC.out.bel hb).c 0, (XC.out.bel hb).c 1⟩, r⟩
        have LW : Hid (∀ wx, wx.cell? ⟨g, i * 4 + 3, none⟩ = some (.slice aw y.wl.length cw) → (Instr.loadAt 60 (.pointer (some ⟨g, i * 4 + 3, none⟩))).run Try.prog wx = .ok (.slice aw y.wl.length cw) wx) := fun wx h => load_sw h
        have wlen : Hid ((wC y.wl).length ≤ 90000) := (by have := HZ1.out; simp [wC]; omega : (wC y.wl).length ≤ 90000)
        have NW : Hid (∀ gq, y.wv.ownBlock = some gq → gq ≠ b9) := NWX.out
        have XFF : Hid (∀ w1 w2 v' M, Below wcc.heap.size wcc w1 → App w1 w2 39 2 y.wv v' M → At w2 b9 39 (Ws.A ⟨ol, true⟩)) := fun w1 w2 v' M hb A => XC.out.keep ((A.grow.block b9 (Nat.lt_of_lt_of_le XC.out.lt hb.size) (fun e => NW.out b9 e.symm rfl)).trans (hb.block b9 XC.out.lt))
        have XDD : Hid (∀ w1 w2 wD v' M, Below wcc.heap.size wcc w1 → App w1 w2 39 2 y.wv v' M → wD = w2.setCell ⟨g, i * 4 + 3, none⟩ v' → wD.cell? ⟨pb, 0, none⟩ = some (.slice (some ⟨g, 0, none⟩) ny c) ∧ wD.cell? ⟨b9, 0, none⟩ = some (.string (Ws.v ⟨ol, true⟩)) ∧ wD.cell? ⟨b9, 1, none⟩ = some (.bool (Ws.is ⟨ol, true⟩))) := fun w1 w2 wD v' M hb A eD => by
          have q := XFF.out w1 w2 v' M hb A
          have q2 := M8.out.offD HI2.out (HY2.out HI2.out) hb A q (by decide) eD
          rw [← HN2.out] at q2
          exact ⟨q2.1, q2.2.c 0, q2.2.c 1⟩
        have D8 : Hid (Below wcc.heap.size wcc wcc.drew) := (Below.refl _ _).drew
        have KB : Hid (∀ wx, Below wcc.heap.size wcc wx → wx.cell? ⟨pb, 0, none⟩ = some (.slice (some ⟨g, 0, none⟩) ny c) ∧ wx.cell? ⟨b9, 0, none⟩ = some (.string (Ws.v ⟨ol, true⟩)) ∧ wx.cell? ⟨b9, 1, none⟩ = some (.bool (Ws.is ⟨ol, true⟩))) := fun wx hb => ⟨(UB.out wx hb).1, (UB.out wx hb).2.2.1⟩
        refine wp_region_held_drew (S := fun W : World => W.cell? ⟨pb, 0, none⟩ = some (.slice (some ⟨g, 0, none⟩) ny c) ∧ W.cell? ⟨b9, 0, none⟩ = some (.string (Ws.v ⟨ol, true⟩)) ∧ W.cell? ⟨b9, 1, none⟩ = some (.bool (Ws.is ⟨ol, true⟩))) (by kernel_rfl) (KB.out _ D8.out) (fun hHeld => ?_)
        refine wpAnyH_take (i := 0) (oi := _) (v := ?_) rfl (by kernel_rfl) (by kernel_rfl) (by kernel_rfl) (fun _ _ _ h => h) (Or.inl ⟨by rfl, ?_⟩) hHeld ?_
        rotate_left
        · (intro w hSw; (try dsimp only at hSw); go_simp; (try with_reducible rfl))
        try simp only [Act.put, List.setIfInBounds_toArray, List.set_cons_zero, List.set_cons_succ, List.getElem_toArray, List.getElem_cons_succ, List.getElem_cons_zero]
        refine wpAnyH_take (i := 1) (oi := _) (v := ?_) rfl (by kernel_rfl) (by kernel_rfl) (by kernel_rfl) (fun _ _ _ h => h) (Or.inl ⟨by rfl, ?_⟩) hHeld ?_
        rotate_left
        · (intro w hSw; (try dsimp only at hSw); go_simp; (try with_reducible rfl))
        try simp only [Act.put, List.setIfInBounds_toArray, List.set_cons_zero, List.set_cons_succ, List.getElem_toArray, List.getElem_cons_succ, List.getElem_cons_zero]
        refine wpAnyH_take (i := 2) (oi := _) (v := ?_) rfl (by kernel_rfl) (by kernel_rfl) (by kernel_rfl) (fun _ _ _ h => h) (Or.inl ⟨by rfl, ?_⟩) hHeld ?_
        rotate_left
        · (intro w hSw; (try dsimp only at hSw); go_simp; (try with_reducible rfl))
        try simp only [Act.put, List.setIfInBounds_toArray, List.set_cons_zero, List.set_cons_succ, List.getElem_toArray, List.getElem_cons_succ, List.getElem_cons_zero]
        refine wpAnyH_take (i := 3) (oi := _) (v := ?_) rfl (by kernel_rfl) (by kernel_rfl) (by kernel_rfl) (fun _ _ _ h => h) (Or.inl ⟨by rfl, ?_⟩) hHeld ?_
        rotate_left
        · (intro w hSw; (try dsimp only at hSw); go_simp; (try with_reducible rfl))
        try simp only [Act.put, List.setIfInBounds_toArray, List.set_cons_zero, List.set_cons_succ, List.getElem_toArray, List.getElem_cons_succ, List.getElem_cons_zero]
        refine wpAnyH_take (i := 4) (oi := _) (v := ?_) rfl (by kernel_rfl) (by kernel_rfl) (by kernel_rfl) (fun _ _ _ h => h) (Or.inl ⟨by rfl, ?_⟩) hHeld ?_
        rotate_left
        · (intro w hSw; (try dsimp only at hSw); go_simp; (try with_reducible rfl))
        try simp only [Act.put, List.setIfInBounds_toArray, List.set_cons_zero, List.set_cons_succ, List.getElem_toArray, List.getElem_cons_succ, List.getElem_cons_zero]
        refine wpAnyH_take (i := 5) (oi := _) (v := ?_) rfl (by kernel_rfl) (by kernel_rfl) (by kernel_rfl) (fun _ _ _ h => h) (Or.inl ⟨by rfl, ?_⟩) hHeld ?_
        rotate_left
        · (intro w hSw; (try dsimp only at hSw); go_simp; (try with_reducible rfl))
        try simp only [Act.put, List.setIfInBounds_toArray, List.set_cons_zero, List.set_cons_succ, List.getElem_toArray, List.getElem_cons_succ, List.getElem_cons_zero]
        refine wpAnyH_take (i := 6) (oi := _) (v := ?_) rfl (by kernel_rfl) (by kernel_rfl) (by kernel_rfl) (fun _ _ _ h => h) (Or.inl ⟨by rfl, ?_⟩) hHeld ?_
        rotate_left
        · (intro w hSw; (try dsimp only at hSw); go_simp; (try with_reducible rfl))
        try simp only [Act.put, List.setIfInBounds_toArray, List.set_cons_zero, List.set_cons_succ, List.getElem_toArray, List.getElem_cons_succ, List.getElem_cons_zero]
        refine wpAnyH_take (i := 7) (oi := _) (v := ?_) rfl (by kernel_rfl) (by kernel_rfl) (by kernel_rfl) (fun _ _ _ h => h) (Or.inl ⟨by rfl, ?_⟩) hHeld ?_
        rotate_left
        · (intro w hSw; (try dsimp only at hSw); go_simp; (try with_reducible rfl))
        try simp only [Act.put, List.setIfInBounds_toArray, List.set_cons_zero, List.set_cons_succ, List.getElem_toArray, List.getElem_cons_succ, List.getElem_cons_zero]
        refine wpAnyH_take (i := 8) (oi := _) (v := ?_) rfl (by kernel_rfl) (by kernel_rfl) (by kernel_rfl) (fun _ _ _ h => h) (Or.inl ⟨by rfl, ?_⟩) hHeld ?_
        rotate_left
        · (intro w hSw; (try dsimp only at hSw); go_simp; (try with_reducible rfl))
        try simp only [Act.put, List.setIfInBounds_toArray, List.set_cons_zero, List.set_cons_succ, List.getElem_toArray, List.getElem_cons_succ, List.getElem_cons_zero]
        refine wpAnyH_take (i := 9) (oi := _) (v := ?_) rfl (by kernel_rfl) (by kernel_rfl) (by kernel_rfl) (fun _ _ _ h => h) (Or.inl ⟨by rfl, ?_⟩) hHeld ?_
        rotate_left
        · (intro w hSw; (try dsimp only at hSw); go_simp; (try with_reducible rfl))
        try simp only [Act.put, List.setIfInBounds_toArray, List.set_cons_zero, List.set_cons_succ, List.getElem_toArray, List.getElem_cons_succ, List.getElem_cons_zero]
        refine wpAnyH_take (i := 10) (oi := _) (v := ?_) rfl (by kernel_rfl) (by kernel_rfl) (by kernel_rfl) (fun _ _ _ h => h) (Or.inl ⟨by rfl, ?_⟩) hHeld ?_
        rotate_left
        · (intro w hSw; (try dsimp only at hSw); go_simp; (try with_reducible rfl))
        try simp only [Act.put, List.setIfInBounds_toArray, List.set_cons_zero, List.set_cons_succ, List.getElem_toArray, List.getElem_cons_succ, List.getElem_cons_zero]
        refine wpAnyH_take (i := 11) (oi := _) (v := ?_) rfl (by kernel_rfl) (by kernel_rfl) (by kernel_rfl) (fun _ _ _ h => h) (Or.inl ⟨by rfl, ?_⟩) hHeld ?_
        rotate_left
        · (intro w hSw; (try dsimp only at hSw); go_simp; (try with_reducible rfl))
        try simp only [Act.put, List.setIfInBounds_toArray, List.set_cons_zero, List.set_cons_succ, List.getElem_toArray, List.getElem_cons_succ, List.getElem_cons_zero]
        refine wpAnyH_take (i := 13) (oi := _) (v := ?_) rfl (by kernel_rfl) (by kernel_rfl) (by kernel_rfl) (fun _ _ _ h => h) (Or.inl ⟨by rfl, ?_⟩) hHeld ?_
        rotate_left
        · (intro w hSw; (try dsimp only at hSw); go_simp; (try with_reducible rfl))
        try simp only [Act.put, List.setIfInBounds_toArray, List.set_cons_zero, List.set_cons_succ, List.getElem_toArray, List.getElem_cons_succ, List.getElem_cons_zero]
        refine wpAnyH_ready (rs := [12, 14]) (by kernel_rfl) (by simp) ?_
        refine AllReadyH.cons (o := _) rfl (fun K hK => ?_) (AllReadyH.cons (o := _) rfl (fun K hK => ?_) AllReadyH.nil)
        rw [if_pos (by rfl)]
        refine wp_load1 (v := .slice aw y.wl.length cw) _ (.tmp 152) rfl rfl (LW.out _ (UB.out _ D8.out).2.1) ?_
        refine hK.out _ _ (KB.out _ D8.out) (fun hHeld => ?_)
        clear hK K
        try simp only [Act.put, List.setIfInBounds_toArray, List.set_cons_zero, List.set_cons_succ, List.getElem_toArray, List.getElem_cons_succ, List.getElem_cons_zero]
        refine wpAnyH_ready (rs := [14]) (by kernel_rfl) (by simp) ?_
        refine AllReadyH.cons (o := _) rfl (fun K hK => ?_) AllReadyH.nil
        rw [if_pos (by rfl)]
        refine wp_build1 _ (.tmp 154) rfl rfl (bW ⟨ol, true⟩) ?_
        intro wE bE NE
        have DE : Hid (Below wcc.heap.size wcc wE) := thn D8.out NE.bel
        refine hK.out _ _ (KB.out _ DE.out) (fun hHeld => ?_)
        clear hK K
        try simp only [Act.put, List.setIfInBounds_toArray, List.set_cons_zero, List.set_cons_succ, List.getElem_toArray, List.getElem_cons_succ, List.getElem_cons_zero]
        rotate_left
        rw [if_pos (by rfl)]
        refine wp_build1 _ (.tmp 154) rfl rfl (bW ⟨ol, true⟩) ?_
        intro wE bE NE
        have DE : Hid (Below wcc.heap.size wcc wE) := thn D8.out NE.bel
        refine hK.out _ _ (KB.out _ DE.out) (fun hHeld => ?_)
        clear hK K
        try simp only [Act.put, List.setIfInBounds_toArray, List.set_cons_zero, List.set_cons_succ, List.getElem_toArray, List.getElem_cons_succ, List.getElem_cons_zero]
        refine wpAnyH_ready (rs := [12]) (by kernel_rfl) (by simp) ?_
        refine AllReadyH.cons (o := _) rfl (fun K hK => ?_) AllReadyH.nil
        rw [if_pos (by rfl)]
        refine wp_load1 (v := .slice aw y.wl.length cw) _ (.tmp 152) rfl rfl (LW.out _ (UB.out _ DE.out).2.1) ?_
        refine hK.out _ _ (KB.out _ DE.out) (fun hHeld => ?_)
        clear hK K
        try simp only [Act.put, List.setIfInBounds_toArray, List.set_cons_zero, List.set_cons_succ, List.getElem_toArray, List.getElem_cons_succ, List.getElem_cons_zero]
        all_goals
          refine wpAnyH_ready (rs := [15]) (by kernel_rfl) (by simp) ?_
          refine AllReadyH.cons (o := _) rfl (fun K hK => ?_) AllReadyH.nil
          refine step_push elW (L := wC y.wl) (v := .slice aw y.wl.length cw) (A := Ws.A ⟨ol, true⟩) (c := 1) (b := bE) rfl (.tmp 153) (.tmp 155) rfl rfl (UB.out _ DE.out).2.2.2 rfl NE.is rfl (oneW.out _) wlen.out ?_
          intro aF cF wF AF
          have AG : Hid (App wE wF 39 2 y.wv (.slice aF ((wC y.wl).length + 1) cF) (wC y.wl ++ [Ws.c ⟨ol, true⟩])) := (by rw [EW.out]; exact AF : App wE wF 39 2 y.wv (.slice aF ((wC y.wl).length + 1) cF) (wC y.wl ++ [Ws.c ⟨ol, true⟩]))
          obtain ⟨t0, t3, tf⟩ := M8.out.midW2 HI2.out (HY2.out HI2.out) DE.out AG.out
          rw [EW.out] at t3
          rw [← HN2.out] at t0
          have XF := XFF.out _ _ _ _ DE.out AG.out
          refine hK.out _ _ ⟨t0, XF.c 0, XF.c 1⟩ (fun hHeld => ?_)
          clear hK K
          try simp only [Act.put, List.setIfInBounds_toArray, List.set_cons_zero, List.set_cons_succ, List.getElem_toArray, List.getElem_cons_succ, List.getElem_cons_zero]
          refine wpAnyH_take (i := 16) (oi := _) (v := ?_) rfl (by kernel_rfl) (by kernel_rfl) (by kernel_rfl) (fun _ _ _ h => h) (Or.inl ⟨by rfl, ?_⟩) hHeld ?_
          rotate_left
          · (intro w hSw; (try dsimp only at hSw); go_simp; (try with_reducible rfl))
          try simp only [Act.put, List.setIfInBounds_toArray, List.set_cons_zero, List.set_cons_succ, List.getElem_toArray, List.getElem_cons_succ, List.getElem_cons_zero]
          refine wpAnyH_take (i := 17) (oi := _) (v := ?_) rfl (by kernel_rfl) (by kernel_rfl) (by kernel_rfl) (fun _ _ _ h => h) (Or.inl ⟨by rfl, ?_⟩) hHeld ?_
          rotate_left
          · (intro w hSw; (try dsimp only at hSw); go_simp; (try with_reducible rfl))
          try simp only [Act.put, List.setIfInBounds_toArray, List.set_cons_zero, List.set_cons_succ, List.getElem_toArray, List.getElem_cons_succ, List.getElem_cons_zero]
          refine wpAnyH_ready (rs := [18]) (by kernel_rfl) (by simp) ?_
          refine AllReadyH.cons (o := _) rfl (fun K hK => ?_) AllReadyH.nil
          rw [if_pos (by rfl)]
          refine wp_set1 (v := .slice aF ((wC y.wl).length + 1) cF) _ 60 (.tmp 158) (.tmp 156) rfl rfl rfl t3 tf rfl (by kernel_rfl) ?_
          intro wD eD
          have FIN := M8.out.was2 HI2.out (HY2.out HI2.out) DE.out AG.out eD (by have := HZ1.out; simp; omega)
          obtain ⟨o0, o1, o2⟩ := XDD.out _ _ _ _ _ DE.out AG.out eD
          clear eD
          refine hK.out _ _ ⟨o0, o1, o2⟩ (fun hHeld => ?_)
          clear hK K
          try simp only [Act.put, List.setIfInBounds_toArray, List.set_cons_zero, List.set_cons_succ, List.getElem_toArray, List.getElem_cons_succ, List.getElem_cons_zero]
          refine wpAnyH_done (by kernel_rfl) ?_ _
          go_wp2
          go_end0
          refine ⟨rfl, ?_⟩
          rw [HQ3.out HT.out (.slice aA ((kC y.kl).length + 1) cA) (.slice aF ((wC y.wl).length + 1) cF)]
          rw [HS2.out, List.set_set] at FIN
          exact FIN

end
end Go.Proofs.Ytcpbekamabooaaa.Pa
