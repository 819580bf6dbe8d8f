/- WalRaw: the walk, the first loop being ended by the sectors. WalRaw: the walk. -/
import Derived.Test.YtgcfbjecmmnlhaaGreatMao
import Derived.Test.YtgcfbjecmmnlhaaGreatMap
namespace Go.Proofs.YtgcfbjecmmnlhaaGreat
open Go.RowKit Go.Maps Go.ChangeMaps
set_option linter.unusedVariables false
set_option linter.unusedSimpArgs false
set_option maxRecDepth 100000

section
variable {w : World}
set_option maxHeartbeats 16000000 in
theorem raw_d {aa ab : Option Addr} {np ca nr cb : Nat} {ss : List ByteArray} {is : List Int} (hP : SsV w aa np ss) (hnp : np ≤ 9223372036854775807) (hR : NsV w ab nr is) (hnr : nr ≤ 9223372036854775807) (hn : 8 < np) (hn8 : 8 < nr) (run : Nat) (hr1 : 1 ≤ run) (hr2 : run ≤ 4294967295) : Calls Tryz.prog 6 #[.slice aa np ca, .slice ab nr cb, .int .i64 (run : Int)] w fun e w' => e = .returned (.bool true) ∧ Below w.heap.size w w' := by
  have CA : Hid (∀ wx, Calls Tryz.prog 17 #[] wx fun e w' => e = .returned (.bool true) ∧ Below wx.heap.size wx w') := awake8
  have CN : Hid (Calls Tryz.prog 9 #[.int .i64 8] w fun e w' => ∃ db, e = .returned (.tuple #[.pointer (some ⟨db, 0, none⟩), .int .i64 0]) ∧ RwS w w' db run 0 ⟨#[]⟩ 1 true) := rw_new w run
  have CNu : Hid (∀ wx (x : Nat) (k : Nat), k ≤ 6 → x ≤ 281474976710656 → Calls Tryz.prog 23 #[.int .i64 (x : Int), .int .i64 (k : Int)] wx fun e w' => e = .returned (.string (Pk.beS x k)) ∧ Below wx.heap.size wx w') := fun wx x k q1 q2 => Pk.lawnum_any x k wx q1 q2
  have CO : Hid (∀ wx db j acc la on, j ≤ 8 → RwS w wx db run j acc la on → Calls Tryz.prog 10 #[.pointer (some ⟨db, 0, none⟩), .int .i64 0, .int .i64 8, .int .i64 (run : Int)] wx fun e w' => ∃ l fs, e = .returned (.tuple #[.pointer (some ⟨l, 0, none⟩), .int .i64 0]) ∧ RwL w w' l acc fs) := fun wx db j acc la on q1 q2 => q2.open_ q1 hr1 hr2
  have HP : Hid (SsV w aa np ss) := hP
  have HR : Hid (NsV w ab nr is) := hR
  have hlp := hP.len
  have hlr := hR.len
  have t1 : ¬ (run : Int) < 1 := by omega
  have t2 : ¬ (4294967295 : Int) < (run : Int) := by omega
  clear hP hR
  go_enter Tryz.func6, Tryz.ntmps6
  go_wp2_with (go_at_call 9; refine CN.out.mono ?_; rintro e w1 ⟨db, rfl, H1⟩)
  have H0 : Hid _ := H1
  clear CN H1
  go_loopw [9, 10, 11, 12] (fun av lv ov iv wr => ∃ (j la : Nat) (acc : ByteArray) (on : Bool), j ≤ 8 ∧ av = .string acc ∧ lv = .int .i64 (la : Int) ∧ ov = .bool on ∧ iv = .int .i64 (j : Int) ∧ RwS w wr db run j acc la on) (fun _ _ _ iv _ => 8 - (intOf iv).toNat)
  case atStart => exact ⟨0, 1, ⟨#[]⟩, true, Nat.zero_le _, rfl, rfl, rfl, rfl, H0.out⟩
  case round =>
    obtain ⟨j, la, acc, on, hj, rfl, rfl, rfl, rfl, hS⟩ := hrel
    by_cases hlt : j < 8
    · obtain ⟨gp, op, ha, hgp, hcp, hzp⟩ := HP.out.at_ j (by omega)
      subst ha
      obtain ⟨gr, or', ha, hgr, hcr⟩ := HR.out.at_ j (by omega)
      subst ha
      have HC : Hid (∀ wx, Below w.heap.size w wx → wx.cell? ⟨gp, op + j, none⟩ = some (.string ss[j])) := fun wx q => (q.cell (by exact hgp)).trans hcp
      have HCr : Hid (∀ wx, Below w.heap.size w wx → wx.cell? ⟨gr, or' + j, none⟩ = some (.int .i64 is[j])) := fun wx q => (q.cell (by exact hgr)).trans hcr
      have hsz : acc.size ≤ 464 := by have := hS.sz; omega
      have i1 : (j : Int) < (np : Int) := by omega
      have i2 : (j : Int) < (nr : Int) := by omega
      have i3 : (j : Int) < 8 := by omega
      have i4 : j < np := by omega
      have i5 : j < nr := by omega
      have i6 : j < 8 := by omega
      clear hcp hcr hgp hgr
      generalize ss[j] = s at *
      generalize is[j] = r at *
      have q1 := HC.out _ hS.bel
      have q2 := HCr.out _ hS.bel
      by_cases r0 : r < 0
      · go_wp2_with (go_at_call 17; refine (CA.out _).mono ?_; rintro e w9 ⟨rfl, b9⟩)
        go_ret
        exact ⟨rfl, thn hS.bel b9⟩
      by_cases r1 : (4294967295 : Int) < r
      · go_wp2_with (go_at_call 17; refine (CA.out _).mono ?_; rintro e w9 ⟨rfl, b9⟩)
        go_ret
        exact ⟨rfl, thn hS.bel b9⟩
      by_cases r2 : (58 : Int) < (s.size : Int)
      · go_wp2_with (go_at_call 17; refine (CA.out _).mono ?_; rintro e w9 ⟨rfl, b9⟩)
        go_ret
        exact ⟨rfl, thn hS.bel b9⟩
      obtain ⟨rn, rfl⟩ : ∃ rn : Nat, r = (rn : Int) := ⟨r.toNat, by omega⟩
      have hrn : rn < 4294967296 := by omega
      have hs58 : s.size ≤ 58 := by omega
      have hd := hS.below ((Below.refl _ _).drew)
      have CN4 : Hid (∀ wx, Calls Tryz.prog 23 #[.int .i64 (rn : Int), .int .i64 4] wx fun e w' => e = .returned (.string (Pk.beS rn 4)) ∧ Below wx.heap.size wx w') := fun wx => CNu.out wx rn 4 (by omega) (by omega)
      have CN2 : Hid (∀ wx, Calls Tryz.prog 23 #[.int .i64 (s.size : Int), .int .i64 2] wx fun e w' => e = .returned (.string (Pk.beS s.size 2)) ∧ Below wx.heap.size wx w') := fun wx => CNu.out wx s.size 2 (by omega) (by omega)
      have CW : Hid (∀ wx, RwS w wx db run j acc la on → Calls Tryz.prog 29 #[.pointer (some ⟨db, 0, none⟩), .int .i64 (j : Int), .string (Pk.beS rn 4 ++ Pk.beS s.size 2 ++ s)] wx fun e w' => e = .returned (.int .i64 0) ∧ RwT w w' db run j acc la on rn s) := fun wx q => q.write i6 hrn hs58
      clear hS CNu
      have hB4 : (Pk.beS rn 4).size = 4 := Pk.beS_size _ _
      have hB2 : (Pk.beS s.size 2).size = 2 := Pk.beS_size _ _
      obtain ⟨X4, HX4⟩ : ∃ X4, Hid (X4 = Pk.beS rn 4) := ⟨_, rfl⟩
      obtain ⟨X2, HX2⟩ : ∃ X2, Hid (X2 = Pk.beS s.size 2) := ⟨_, rfl⟩
      rw [← HX4.out] at CN4 CW hB4
      rw [← HX2.out] at CN2 CW hB2
      clear HX4 HX2
      have hN4 : ¬ 9223372036854775807 < X4.size + X2.size + s.size := by omega
      have hN5 : ¬ 9223372036854775807 < X4.size + X2.size := by omega
      clear hB4 hB2
      go_wp2
      go_region_held3 (fun W => W.cell? ⟨gp, op + j, none⟩ = some (.string s)) (first | exact HC.out _ hd.bel | exact HC.out _ hT.bel | go_keep) (first
        | (go_at_call_of 23 (rn : Int); refine (CN4.out _).mono ?_; rintro e wA ⟨rfl, bA⟩; have hn := hd.below bA; clear hd bA; have hd := hn; clear hn)
        | (go_at_call_of 23 (s.size : Int); refine (CN2.out _).mono ?_; rintro e wA ⟨rfl, bA⟩; have hn := hd.below bA; clear hd bA; have hd := hn; clear hn)
        | (go_at_call 29; refine (CW.out _ hd).mono ?_; clear hd; rintro e wB ⟨rfl, hT⟩))
      have q9 := HC.out _ hT.bel
      clear q1 q2 CN4 CN2 CW hN4 hN5
      cases on with
      | false =>
        go_wp2
        go_roundw
        case rel => exact ⟨j + 1, la, acc, false, by omega, rfl, rfl, rfl, by go_num, hT.off_ (Or.inl rfl)⟩
        case measure => simp [intOf]; omega
      | true =>
        by_cases h1 : (la : Int) ≤ (rn : Int)
        · by_cases h2 : (rn : Int) ≤ (run : Int)
          · by_cases h3 : (s.size : Int) = 58
            · have h4 : ((s.size : Int) == 58) = true := by simpa using h3
              go_wp2
              go_roundw
              case rel => exact ⟨j + 1, rn, acc ++ s, true, by omega, rfl, rfl, (by first | rfl | simp [h3] | simp [h4]), by go_num, hT.go (by omega) (by omega) (by omega)⟩
              case measure => simp [intOf]; omega
            · have h4 : ((s.size : Int) == 58) = false := by simpa using h3
              go_wp2
              go_roundw
              case rel => exact ⟨j + 1, rn, acc ++ s, false, by omega, rfl, rfl, (by first | rfl | simp [h3] | simp [h4]), by go_num, hT.stop (by omega) (by omega) (by omega)⟩
              case measure => simp [intOf]; omega
          · have h4 : (run : Int) < (rn : Int) := by omega
            go_wp2
            go_roundw
            case rel => exact ⟨j + 1, la, acc, false, by omega, rfl, rfl, rfl, by go_num, hT.off_ (Or.inr (Or.inr (by omega)))⟩
            case measure => simp [intOf]; omega
        · have h4 : (rn : Int) < (la : Int) := by omega
          go_wp2
          go_roundw
          case rel => exact ⟨j + 1, la, acc, false, by omega, rfl, rfl, rfl, by go_num, hT.off_ (Or.inr (Or.inl (by omega)))⟩
          case measure => simp [intOf]; omega
    · obtain rfl : j = 8 := by omega
      have i1 : (8 : Int) < (np : Int) := by omega
      have i2 : (8 : Int) < (nr : Int) := by omega
      have hsz : acc.size ≤ 464 := by have := hS.sz; omega
      have hjj : 8 ≤ 8 := by omega
      have CRe : Hid (∀ wx l fs, RwL w wx l acc fs → Calls Tryz.prog 30 #[.pointer (some ⟨l, 0, none⟩)] wx fun e w' => ∃ a c a2 c2, e = .returned (.tuple #[.slice a fs.length c, .slice a2 fs.length c2]) ∧ RwR w w' l acc fs a c a2 c2) := fun wx l fs q => q.records
      clear hlt HP HR CNu
      go_wp2_with (first
        | (go_at_call 10; refine (CO.out _ _ _ _ _ _ hjj hS).mono ?_; clear hS; rintro e w2 ⟨l, fs, rfl, L2⟩)
        | (go_at_call 30; refine (CRe.out _ _ _ L2).mono ?_; clear L2; rintro e w3 ⟨a1, c1, a2, c2, rfl, R3⟩))
      have HR3 : Hid _ := R3
      obtain ⟨hcz, hfl, hoff⟩ := R3.l.acc_size hsz
      have HOF : Hid (∀ i, i ≤ fs.length → off fs i ≤ 464) := hoff
      clear R3 CO CRe hoff
      go_loopw [18, 19] (fun pv iv wr => ∃ i : Nat, i ≤ fs.length ∧ pv = .int .i64 (off fs i : Int) ∧ iv = .int .i64 (i : Int) ∧ RwR w wr l acc fs a1 c1 a2 c2) (fun _ iv _ => fs.length - (intOf iv).toNat)
      case atStart => exact ⟨0, Nat.zero_le _, rfl, rfl, HR3.out⟩
      case round =>
        obtain ⟨i, hi, rfl, rfl, hR⟩ := hrel
        have hD := HOF.out i hi
        by_cases hlt : i < fs.length
        · obtain ⟨g1, I, T, e1, hrg, hrf⟩ := hR.rcs.at_ (i := i) (by rw [List.length_map]; exact hlt)
          subst e1
          obtain ⟨g2, e2, hat⟩ := hR.own.at_ (i := i) (by rw [plc_length]; exact hlt)
          subst e2
          have hm : (fs.map recF)[i]'(by rw [List.length_map]; exact hlt) = recF fs[i] := by simp
          rw [hm] at hrg hrf
          have hpl : (plc 1 fs)[i]'(by rw [plc_length]; exact hlt) = 1 + (off fs i : Int) := by
            have := plc_get 1 fs i hlt
            rw [List.getElem?_eq_getElem (by rw [plc_length]; exact hlt)] at this
            injection this with this
          rw [hpl] at hat
          have hg1 : g1 < wr.heap.size := by
            have q := hrg 0 _ rfl
            rcases Nat.lt_or_ge g1 wr.heap.size with h' | h'
            · exact h'
            · simp [World.cell?, Array.getElem?_eq_none h'] at q
          have hop := hR.l.open_at hlt
          have hfr := hR.l.spl.frm fs[i] (List.getElem_mem _)
          have hsm := small_recF hfr
          have hos := off_succ (l := fs) (i := i) hlt
          have hD2 := HOF.out (i + 1) hlt
          have CRO : Hid (∀ wx, Calls Tryz.prog 31 #[.string acc, .int .i64 (off fs i : Int)] wx fun e w' => (∃ v, e = .returned (.tuple #[v, .int .i64 (fs[i].size : Int), .int .i64 0]) ∧ RecF w' v (recF fs[i]) wx.heap.size) ∧ Below wx.heap.size wx w') := fun wx => by
            have := Open_any (w := wx) acc (off fs i : Int) (by omega)
            rw [hop] at this
            exact this
          have CSa : Hid (∀ wx v v', RecV wx v (recF fs[i]) → RecV wx v' (recF fs[i]) → Calls Tryz.prog 32 #[v, v'] wx fun e w' => e = .returned (.bool true) ∧ Below wx.heap.size wx w') := fun wx v v' q1 q2 => Same_any q1 q2 hsm.im hsm.tb
          have HRw : Hid (∀ wx, Below wr.heap.size wr wx → (wx.cell? ⟨g1, i * 13, none⟩ = some (.int .i64 (recF fs[i]).s.kd) ∧ wx.cell? ⟨g1, i * 13 + 1, none⟩ = some (.int .i64 (recF fs[i]).s.tx) ∧ wx.cell? ⟨g1, i * 13 + 2, none⟩ = some (.int .i64 (recF fs[i]).s.pv) ∧ wx.cell? ⟨g1, i * 13 + 3, none⟩ = some (.int .i64 (recF fs[i]).s.pg) ∧ wx.cell? ⟨g1, i * 13 + 4, none⟩ = some (.int .i64 (recF fs[i]).s.ac) ∧ wx.cell? ⟨g1, i * 13 + 5, none⟩ = some (.string (recF fs[i]).s.ky) ∧ wx.cell? ⟨g1, i * 13 + 6, none⟩ = some (.string (recF fs[i]).s.ol) ∧ wx.cell? ⟨g1, i * 13 + 7, none⟩ = some (.string (recF fs[i]).s.nw) ∧ wx.cell? ⟨g1, i * 13 + 8, none⟩ = some (.int .i64 (recF fs[i]).s.nx) ∧ wx.cell? ⟨g1, i * 13 + 9, none⟩ = some I ∧ wx.cell? ⟨g1, i * 13 + 10, none⟩ = some T ∧ wx.cell? ⟨g1, i * 13 + 11, none⟩ = some (.int .i64 (recF fs[i]).s.ep) ∧ wx.cell? ⟨g1, i * 13 + 12, none⟩ = some (.int .i64 (recF fs[i]).s.nd)) ∧ wx.cell? ⟨g2, i, none⟩ = some (.int .i64 (1 + (off fs i : Int)))) := fun wx q => by
            have hg := rangeAt_below hrg hg1 q
            exact ⟨⟨hg 0 _ rfl, hg 1 _ rfl, hg 2 _ rfl, hg 3 _ rfl, hg 4 _ rfl, hg 5 _ rfl, hg 6 _ rfl, hg 7 _ rfl, hg 8 _ rfl, hg 9 _ rfl, hg 10 _ rfl, hg 11 _ rfl, hg 12 _ rfl⟩, hat wx q⟩
          have HRF : Hid (∀ wx, Below wr.heap.size wr wx → RecV wx (.agg ((recF fs[i]).s.A I T)) (recF fs[i])) := fun wx q => (hrf.below q).recV
          have HQ : Hid ((off fs (i + 1) : Int) = (off fs i : Int) + (fs[i].size : Int)) := (by omega : (off fs (i + 1) : Int) = (off fs i : Int) + (fs[i].size : Int))
          have hq0 : (0 : Int) ≤ (off fs i : Int) := by omega
          have hq1 : (off fs i : Int) + (fs[i].size : Int) ≤ 464 := by omega
          have hq2 : (0 : Int) ≤ (fs[i].size : Int) := by omega
          have i1 : (i : Int) < (fs.length : Int) := by omega
          have hwD : IntKind.i64.wrap (1 + (off fs i : Int)) = 1 + (off fs i : Int) := by rw [IntKind.wrap_i64]; omega
          have hwE : RowKit.wrap64 (1 + (off fs i : Int)) = 1 + (off fs i : Int) := (IntWalk.i64_left _).symm.trans hwD
          clear hrg hrf hat hm hpl hop hfr hsm hos hD hD2 HOF HR3
          generalize recF fs[i] = rm at *
          obtain ⟨sm, im, tb⟩ := rm
          dsimp only at HRw HRF
          obtain ⟨FZ, HFZ⟩ : ∃ FZ : Int, FZ = (fs[i].size : Int) := ⟨_, rfl⟩
          rw [← HFZ] at CRO HQ hq1 hq2
          generalize (off fs i : Int) = D at *
          clear HFZ
          go_wp2_with (first
            | (go_at_call 31; refine (CRO.out _).mono ?_; rintro e w4 ⟨⟨v4, rfl, h4⟩, b4⟩; obtain ⟨J, U, rfl, hJ, hU⟩ := h4.recV.ex; dsimp only at hJ hU; have R4 := hR.below b4; clear h4)
            | (refine wpList_new_rc _ rfl rfl ?_; intro w5 b20 N5)
            | (refine wpList_at (Op.store 37 (.tmp 20) (.tmp 148)) rfl ?_; refine wpList_put_rc (s' := sm) (I' := J) (T' := U) _ rfl (.tmp 20) (.tmp 148) rfl rfl rfl N5.rc hJ.one hU.one ?_; intro w6 P6; have G := BdS.mk' b4 hJ hU N5 P6; have R6 := R4.below (N5.below.trans (P6.below (Nat.le_of_eq N5.eq.symm) N5.below.size)); clear N5 P6 hJ hU R4))
          have GD : BdS wr w6.drew b20 sm J U im tb := G.below ((Below.refl _ _).drew)
          have RD := R6.below ((Below.refl _ _).drew)
          clear G R6 hR
          have keep0 := And.intro GD.rc.row (HRw.out _ GD.bel)
          go_region_held3 (fun W => (W.cell? ⟨b20, 0, none⟩ = some (.int .i64 sm.kd) ∧ W.cell? ⟨b20, 1, none⟩ = some (.int .i64 sm.tx) ∧ W.cell? ⟨b20, 2, none⟩ = some (.int .i64 sm.pv) ∧ W.cell? ⟨b20, 3, none⟩ = some (.int .i64 sm.pg) ∧ W.cell? ⟨b20, 4, none⟩ = some (.int .i64 sm.ac) ∧ W.cell? ⟨b20, 5, none⟩ = some (.string sm.ky) ∧ W.cell? ⟨b20, 6, none⟩ = some (.string sm.ol) ∧ W.cell? ⟨b20, 7, none⟩ = some (.string sm.nw) ∧ W.cell? ⟨b20, 8, none⟩ = some (.int .i64 sm.nx) ∧ W.cell? ⟨b20, 9, none⟩ = some J ∧ W.cell? ⟨b20, 10, none⟩ = some U ∧ W.cell? ⟨b20, 11, none⟩ = some (.int .i64 sm.ep) ∧ W.cell? ⟨b20, 12, none⟩ = some (.int .i64 sm.nd)) ∧ (W.cell? ⟨g1, i * 13, none⟩ = some (.int .i64 sm.kd) ∧ W.cell? ⟨g1, i * 13 + 1, none⟩ = some (.int .i64 sm.tx) ∧ W.cell? ⟨g1, i * 13 + 2, none⟩ = some (.int .i64 sm.pv) ∧ W.cell? ⟨g1, i * 13 + 3, none⟩ = some (.int .i64 sm.pg) ∧ W.cell? ⟨g1, i * 13 + 4, none⟩ = some (.int .i64 sm.ac) ∧ W.cell? ⟨g1, i * 13 + 5, none⟩ = some (.string sm.ky) ∧ W.cell? ⟨g1, i * 13 + 6, none⟩ = some (.string sm.ol) ∧ W.cell? ⟨g1, i * 13 + 7, none⟩ = some (.string sm.nw) ∧ W.cell? ⟨g1, i * 13 + 8, none⟩ = some (.int .i64 sm.nx) ∧ W.cell? ⟨g1, i * 13 + 9, none⟩ = some I ∧ W.cell? ⟨g1, i * 13 + 10, none⟩ = some T ∧ W.cell? ⟨g1, i * 13 + 11, none⟩ = some (.int .i64 sm.ep) ∧ W.cell? ⟨g1, i * 13 + 12, none⟩ = some (.int .i64 sm.nd)) ∧ W.cell? ⟨g2, i, none⟩ = some (.int .i64 (1 + D))) (first | exact keep1 | exact keep0 | go_keep) ((go_at_call 32; refine (CSa.out _ _ _ ⟨J, U, rfl, GD.im, GD.tb⟩ (HRF.out _ GD.bel)).mono ?_; rintro e w8 ⟨rfl, b8⟩; have G1 := GD.below b8; have R1 := RD.below b8; clear GD RD; have GD := G1; have RD := R1; clear G1 R1; have keep1 := And.intro GD.rc.row (HRw.out _ GD.bel)))
          go_wp2
          go_roundw
          case rel => exact ⟨i + 1, by omega, by rw [HQ.out], by go_num, RD⟩
          case measure => simp [intOf]; omega
        · obtain rfl : i = fs.length := by omega
          have i1 : ¬ (fs.length : Int) < (fs.length : Int) := by omega
          have hst := hR.l.spl.stop
          have hoa := off_all fs
          rw [hoa] at hD ⊢
          have CRO : Hid (∀ wx, Calls Tryz.prog 31 #[.string acc, .int .i64 ((cat fs).size : Int)] wx fun e w' => (∃ v, e = .returned (.tuple #[v, .int .i64 (openM acc ((cat fs).size : Int)).2.1, .int .i64 (openM acc ((cat fs).size : Int)).2.2]) ∧ RecF w' v (openM acc ((cat fs).size : Int)).1 wx.heap.size) ∧ Below wx.heap.size wx w') := fun wx => Open_any (w := wx) acc ((cat fs).size : Int) (by omega)
          have hst2 : ((openM acc ((cat fs).size : Int)).2.2 != 0) = true := by simpa using hst
          generalize openM acc ((cat fs).size : Int) = om at *
          obtain ⟨⟨sm, im, tb⟩, n1, y1⟩ := om
          dsimp only at CRO hst2
          have CE : Hid (∀ wx, RwL w wx l acc fs → Calls Tryz.prog 24 #[.pointer (some ⟨l, 0, none⟩)] wx fun e w' => e = .returned (.int .i64 (((cat fs).size : Int) + 1)) ∧ w' = wx) := fun wx q => q.end_
          have CD : Hid (∀ wx, RwL w wx l acc fs → Calls Tryz.prog 25 #[.pointer (some ⟨l, 0, none⟩)] wx fun e w' => e = .returned (.int .i64 (((cat fs).size : Int) + 1)) ∧ w' = wx) := fun wx q => q.durable
          have hcz2 : ((cat fs).size : Int) ≤ 464 := by omega
          have hcz0 : (0 : Int) ≤ ((cat fs).size : Int) := by omega
          rw [show ((cat fs).size : Int) + 1 = 1 + ((cat fs).size : Int) by omega] at CE CD
          clear hlt hst hoa hD HOF HR3 hcz
          have L0 := hR.l
          clear hR
          generalize ((cat fs).size : Int) = D at *
          go_wp2_with (first
            | (go_at_call 31; refine (CRO.out _).mono ?_; rintro e w4 ⟨⟨v4, rfl, h4⟩, b4⟩; obtain ⟨J, U, rfl, hJ, hU⟩ := h4.recV.ex; dsimp only at hJ hU; have L4 := L0.below b4; clear h4 L0)
            | (refine wpList_new_rc _ rfl rfl ?_; intro w5 b20 N5)
            | (refine wpList_at (Op.store 37 (.tmp 23) (.tmp 178)) rfl ?_; refine wpList_put_rc (s' := sm) (I' := J) (T' := U) _ rfl (.tmp 23) (.tmp 178) rfl rfl rfl N5.rc hJ.one hU.one ?_; intro w6 P6; have L6 := L4.below (N5.below.trans (P6.below (Nat.le_of_eq N5.eq.symm) N5.below.size)); clear N5 P6 hJ hU L4)
            | (go_at_call 24; refine (CE.out _ L6).mono ?_; rintro e w7 ⟨rfl, rfl⟩)
            | (go_at_call 25; refine (CD.out _ L6).mono ?_; rintro e w8 ⟨rfl, rfl⟩)
            | (go_at_call 17; refine (CA.out _).mono ?_; rintro e w9 ⟨rfl, b9⟩))
          go_ret
          exact ⟨rfl, thn L6.bel b9⟩
end
end Go.Proofs.YtgcfbjecmmnlhaaGreat

namespace Go.Proofs.YtgcfbjecmmnlhaaGreat
open Go.RowKit Go.Maps Go.ChangeMaps
set_option linter.unusedVariables false
set_option linter.unusedSimpArgs false
set_option maxRecDepth 100000

section
variable {w : World}
set_option maxHeartbeats 4000000 in
theorem raw8_walk {aa ab : Option Addr} {np ca nr cb : Nat} (hP : ∃ ss, SsV w aa np ss ∧ np ≤ 9223372036854775807) (hR : ∃ is, NsV w ab nr is ∧ nr ≤ 9223372036854775807) (run : Int) : Calls Tryz.prog 6 #[.slice aa np ca, .slice ab nr cb, .int .i64 run] w fun e w' => e = .returned (.bool true) ∧ Below w.heap.size w w' := by
  obtain ⟨ss, hP, hnp⟩ := hP
  obtain ⟨is, hR, hnr⟩ := hR
  have CA : Hid (∀ wx, Calls Tryz.prog 17 #[] wx fun e w' => e = .returned (.bool true) ∧ Below wx.heap.size wx w') := awake8
  by_cases h1 : run < 1
  · clear hP hR
    go_enter Tryz.func6, Tryz.ntmps6
    go_wp2_with (go_at_call 17; refine (CA.out _).mono ?_; rintro e w9 ⟨rfl, b9⟩)
    go_ret
    exact ⟨rfl, b9⟩
  by_cases h2 : (4294967295 : Int) < run
  · clear hP hR
    go_enter Tryz.func6, Tryz.ntmps6
    go_wp2_with (go_at_call 17; refine (CA.out _).mono ?_; rintro e w9 ⟨rfl, b9⟩)
    go_ret
    exact ⟨rfl, b9⟩
  obtain ⟨rn, rfl⟩ : ∃ rn : Nat, run = (rn : Int) := ⟨run.toNat, by omega⟩
  by_cases h3 : np ≤ nr
  · by_cases h4 : np ≤ 8
    · exact raw_b hP hnp hR hnr h3 h4 rn (by omega) (by omega)
    · exact raw_d hP hnp hR hnr (by omega) (by omega) rn (by omega) (by omega)
  · by_cases h4 : nr ≤ 8
    · exact raw_c hP hnp hR hnr (by omega) h4 rn (by omega) (by omega)
    · exact raw_d hP hnp hR hnr (by omega) (by omega) rn (by omega) (by omega)
end
end Go.Proofs.YtgcfbjecmmnlhaaGreat
