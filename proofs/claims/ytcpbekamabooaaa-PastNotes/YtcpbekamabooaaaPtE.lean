/- stands. -/
import Derived.Test.YtcpbekamabooaaaPtD
import Derived.Deep.QuietTactic
import Derived.BigQuiet
import Derived.Laws.Cover1
import Derived.Sort.Walk0
namespace Go.Proofs.Ytcpbekamabooaaa.Pa
open Go.RowKit Gm Go.Maps
set_option linter.unusedVariables false
set_option linter.unusedSimpArgs false
set_option maxRecDepth 100000
section
variable {W V : Nat → Prop} {w w' : World} {xb pb : Nat} {P : List Gn}
theorem up_at {α : Type} {R : α → α → Prop} {l : List α} (h : l.Pairwise R) {i : Nat} (hi : i < l.length) (h0 : 0 < i) : R (l[i - 1]'(by omega)) l[i] := List.pairwise_iff_getElem.1 h (i - 1) i (by omega) hi (by omega)
theorem sum_succ {l : List Int} {f : Int → Nat} {i : Nat} (hi : i < l.length) : ((l.take (i + 1)).map f).sum = ((l.take i).map f).sum + f l[i] := by
  rw [List.take_succ_eq_append_getElem hi, List.map_append, List.sum_append]; simp
theorem sum_le {l : List Int} {f : Int → Nat} (i : Nat) : ((l.take i).map f).sum ≤ (l.map f).sum := by
  conv => rhs; rw [← List.take_append_drop i l, List.map_append, List.sum_append]
  omega
/-- What the first loop reads in a round. -/
structure Rd1 (wo : World) (pb c n : Nat) (a ta : Option Addr) (tc : Nat) (P : List Gn) (i g gt : Nat) (ak : Option Addr) (ck k : Nat) (t la : Int) (cn S : Nat) : Prop where
  ea : a = some ⟨g, 0, none⟩
  et : ta = some ⟨gt, 0, none⟩
  p0 : wo.cell? ⟨pb, 0, none⟩ = some (.slice a P.length c)
  t0 : wo.cell? ⟨gt, i * 2, none⟩ = some (.int .i64 t)
  t1 : wo.cell? ⟨gt, i * 2 + 1, none⟩ = some (.int .i64 la)
  c1 : wo.cell? ⟨g, k * 4 + 1, none⟩ = some (.int .i64 la)
  c2 : wo.cell? ⟨g, k * 4 + 2, none⟩ = some (.slice ak cn ck)
  hk : (k : Int) < (P.length : Int)
  cf : Hid (Calls Try.prog 20 #[.pointer (some ⟨pb, 0, none⟩), .int .i64 t] wo fun e w' => e = .returned (.int .i64 (k : Int)) ∧ w' = wo)
  sm : Hid ((((txs P).take (i + 1)).map (cntP P)).sum = S + cn ∧ (((txs P).take i).map (cntP P)).sum = S)
  le : S + cn ≤ 10000
  up : 0 < i → ∃ tp, tp < t ∧ wo.cell? ⟨gt, (i - 1) * 2, none⟩ = some (.int .i64 tp)
theorem rd1 {wo : World} {c tc i : Nat} {a ta : Option Addr} (hB : Bt wo xb pb P) (hC : PlC wo pb a c P) (hI : Pi P) (hR : Row wo 64 2 (.slice ta P.length tc) (tabP P)) (hlt : i < P.length) : ∃ g gt ak ck k t la cn S, Rd1 wo pb c 0 a ta tc P i g gt ak ck k t la cn S := by
  have hTl : (tabP P).length = P.length := by unfold tabP; rw [List.length_map, txs_len]
  have hit : i < (txs P).length := by rw [txs_len]; exact hlt
  obtain ⟨hk, e1, e2, e3, e4⟩ := fnd_at hI (List.getElem_mem hit)
  obtain ⟨gt, eta, _, hat⟩ := hR.at_ (i := i) (by rw [hTl]; exact hlt)
  obtain ⟨g, ak, ck, ea, c0, c1, c2, _⟩ := hC.at_ _ hk
  rw [e2] at c1
  rw [e3] at c2
  have s1 := sum_succ (f := cntP P) hit
  refine ⟨g, gt, ak, ck, fnd P (txs P)[i], (txs P)[i], lastP P (txs P)[i], cntP P (txs P)[i], _, ea, eta, hC.top, (hat wo rfl).1 0 _ (by simp [tabP]), (hat wo rfl).1 1 _ (by simp [tabP]), c1, c2, by omega, ?_, ⟨s1, rfl⟩, ?_, fun h0 => ⟨_, up_at hI.txs_up hit h0, ?_⟩⟩
  · have := hB.find hI (txs P)[i]
    rw [e4] at this
    exact this
  · rw [← s1]
    have := sum_le (l := txs P) (f := cntP P) (i + 1)
    rw [cnt_sum hI] at this
    exact Nat.le_trans this (acts_le hI)
  · obtain ⟨gt', eta', _, hat'⟩ := hR.at_ (i := i - 1) (by rw [hTl]; omega)
    rw [eta] at eta'
    cases eta'
    exact (hat' wo rfl).1 0 _ (by simp [tabP])
/-- What the second loop reads. -/
structure Rd2 (w2 : World) (P : List Gn) (ka : Option Addr) (i gk : Nat) (x : ByteArray) : Prop where
  ea : ka = some ⟨gk, 0, none⟩
  ca : ∀ wx, Below w2.heap.size w2 wx → wx.cell? ⟨gk, i, none⟩ = some (.string x)
  sz : x.size ≤ 9223372036854775807
  yes : ∀ y is, GtO P x.data.toList y is → is = true
  up : 0 < i → ∃ x', (∀ wx, Below w2.heap.size w2 wx → wx.cell? ⟨gk, i - 1, none⟩ = some (.string x')) ∧ Op.bytesLess x'.toList x.toList = true
theorem yes_of {k : List UInt8} (h : ∃ g ∈ P, lkK g.ks k ≠ none) : ∀ y is, GtO P k y is → is = true := fun y is hg => by
  cases is with
  | true => rfl
  | false =>
    obtain ⟨g, hg1, hg2⟩ := h
    exact absurd ((hg.no rfl).2 g hg1) hg2
theorem rd2 {w2 : World} {ka : Option Addr} {n kc i : Nat} {ks : List (List UInt8)} (hR : Row w2 9 1 (.slice ka n kc) (sC ks)) (hK : KyP P ks) (hi : i < ks.length) : ∃ gk x, Rd2 w2 P ka i gk x := by
  have hl : (sC ks).length = ks.length := by simp [sC]
  obtain ⟨gk, ea, _, _⟩ := hR.at_ (i := i) (by rw [hl]; exact hi)
  have cat : ∀ j (hj : j < ks.length) wx, Below w2.heap.size w2 wx → wx.cell? ⟨gk, j, none⟩ = some (.string ⟨ks[j].toArray⟩) := fun j hj wx hb => by
    obtain ⟨g', e', _, hat⟩ := (hR.bel hb).at_ (i := j) (by rw [hl]; exact hj)
    rw [ea] at e'
    cases e'
    have := (hat wx rfl).1 0 _ (by simp [sC]; rfl)
    simpa using this
  refine ⟨gk, ⟨ks[i].toArray⟩, ea, cat i hi, ?_, yes_of ?_, fun h0 => ⟨⟨(ks[i - 1]'(by omega)).toArray⟩, cat (i - 1) (by omega), ?_⟩⟩
  · have := hK.le _ (List.getElem_mem hi)
    simpa [ByteArray.size] using this
  · simpa using (hK.mem _).1 (List.getElem_mem hi)
  · rw [bytesLess_eq, bytes_list, bytes_list]
    simpa using up_at hK.up hi h0
/-- What the inner loop reads. -/
structure Rd4 (wx : World) (pb c : Nat) (a : Option Addr) (P : List Gn) (i k g gk m : Nat) (ak : Option Addr) (ck : Nat) (x : ByteArray) : Prop where
  ea : a = some ⟨g, 0, none⟩
  p0 : wx.cell? ⟨pb, 0, none⟩ = some (.slice a P.length c)
  c2 : wx.cell? ⟨g, i * 4 + 2, none⟩ = some (.slice ak m ck)
  in_ : k < m → ak = some ⟨gk, 0, none⟩ ∧ wx.cell? ⟨gk, k, none⟩ = some (.string x) ∧ x.size ≤ 9223372036854775807 ∧ ∀ y is, GtO P x.data.toList y is → is = true
theorem rd4 {wx : World} {c i m : Nat} {a : Option Addr} (hC : PlC wx pb a c P) (hI : Pi P) (hi : i < P.length) (hm : m = P[i].ks.length) (k : Nat) : ∃ g gk ak ck x, Rd4 wx pb c a P i k g gk m ak ck x := by
  obtain ⟨g, ak, ck, ea, c0, c1, c2, hin⟩ := hC.at_ i hi
  subst hm
  by_cases hk : k < P[i].ks.length
  · obtain ⟨gk, e1, e2⟩ := hin k hk
    exact ⟨g, gk, ak, ck, _, ea, hC.top, c2, fun _ => ⟨e1, e2, hI.ks _ (List.getElem_mem hi) _ (List.getElem_mem hk), yes_of ⟨P[i], List.getElem_mem hi, fun e => lkK_none.1 e _ (List.getElem_mem hk) rfl⟩⟩⟩
  · exact ⟨g, 0, ak, ck, ⟨#[]⟩, ea, hC.top, c2, fun h => absurd h hk⟩
set_option maxHeartbeats 4000000 in
theorem stands_any (h : Bt w xb pb P) (hi : Pi P) (key : ByteArray) (hs : key.size ≤ 9223372036854775807) : Calls Try.prog 9 #[.pointer (some ⟨xb, 0, none⟩), .pointer (some ⟨pb, 0, none⟩), .string key] w fun e w' => e = .returned (.bool true) ∧ Below w.heap.size w w' := by
  have HB : Hid (∀ wx, Below w.heap.size w wx → Bt wx xb pb P) := fun wx hb => h.bel hb
  obtain ⟨a, c, hc⟩ := h.cells
  have HC : Hid (∀ wx, Below w.heap.size w wx → PlC wx pb a c P) := hc
  have HI : Hid (Pi P) := hi
  have HS : Hid (key.size ≤ 9223372036854775807) := hs
  have h2 := stW
  have hle : P.length ≤ 100 := hi.le
  clear h hc hi hs
  have HTl : Hid ((tabP P).length = P.length) := (by unfold tabP; rw [List.length_map, txs_len] : (tabP P).length = P.length)
  go_enter Try.func9, Try.ntmps9
  go_wp2_with first
    | (go_at_call 15; refine ((HB.out _ (Below.refl _ _)).table HI.out).mono ?_; rintro e w1 ⟨⟨tv, rfl, rt, ot⟩, q1⟩; obtain ⟨ta, tc, ev, hlc⟩ := rt.sl; rw [HTl.out] at ev; subst ev; have p0 := (HC.out _ q1).top)
  have HRT : Hid (Row w1 64 2 (.slice ta P.length tc) (tabP P)) := rt
  have Q1 : Hid (Below w.heap.size w w1) := q1
  clear rt ot q1 hlc p0 HTl
  go_loopw [8, 9] (fun s8 s9 wr => ∃ i : Nat, s9 = .int .i64 (i : Int) ∧ i ≤ P.length ∧ s8 = .int .i64 ((((txs P).take i).map (cntP P)).sum : Nat) ∧ Below w1.heap.size w1 wr) (fun s8 s9 _ => P.length - (intOf s9).toNat)
  case atStart => exact ⟨0, rfl, Nat.zero_le _, rfl, Below.refl _ _⟩
  case round =>
    obtain ⟨i, rfl, hi, rfl, hb⟩ := hrel
    rename World => wo
    have BO : Hid (Below w1.heap.size w1 wo) := hb
    clear hb
    by_cases hlt : i < P.length
    · have hltI : (i : Int) < (P.length : Int) := by omega
      obtain ⟨g, gt, ak, ck, k, t, la, cn, S, ⟨ea, et, p0, t0, t1, c1, c2, hk, CF, SM, hS, hup⟩⟩ := rd1 (HB.out wo (thn Q1.out BO.out)) (HC.out wo (thn Q1.out BO.out)) HI.out (HRT.out.bel BO.out) hlt
      subst ea et
      rw [SM.out.2]
      by_cases h0 : 0 < i
      · obtain ⟨tp, u1, u2⟩ := hup h0
        have hi0 : (0 : Int) < (i : Int) := by omega
        have hk0 : decide ((k : Int) < 0) = false := decide_eq_false (by omega)
        have hge2 : decide (t ≤ tp) = false := decide_eq_false (by omega)
        have hi2 : decide ((0 : Int) < (i : Int)) = true := decide_eq_true (by omega)
        have hge : ¬ t ≤ tp := by omega
        have hw1 : IntKind.i64.wrap ((i : Int) - 1) = (i : Int) - 1 := by rw [IntKind.wrap_i64]; omega
        have hn1 : ((i : Int) - 1).toNat = i - 1 := by omega
        have hn2 : 0 ≤ (i : Int) - 1 := by omega
        have hn3 : (i : Int) - 1 < (P.length : Int) := by omega
        clear hup
        go_wp2_with (go_at_call 20; refine CF.out.mono ?_; rintro e w2 ⟨rfl, rfl⟩)
        go_quiet (fail)
        go_wp2
        go_roundw
        case rel => exact ⟨i + 1, by rfl, by omega, by rw [SM.out.1]; rfl, bdr BO.out _⟩
        case measure => simp [intOf]; omega
      · obtain rfl : i = 0 := by omega
        have hk0 : decide ((k : Int) < 0) = false := decide_eq_false (by omega)
        clear hup
        go_wp2_with (go_at_call 20; refine CF.out.mono ?_; rintro e w2 ⟨rfl, rfl⟩)
        go_quiet (fail)
        go_wp2
        go_roundw
        case rel => exact ⟨0 + 1, by rfl, by omega, by rw [SM.out.1]; rfl, bdr BO.out _⟩
        case measure => simp [intOf]; omega
    · have hltI : ¬ (i : Int) < (P.length : Int) := by omega
      have HE : Hid ((((txs P).take i).map (cntP P)).sum = actsM P) := (by rw [List.take_of_length_le (by rw [txs_len]; omega)]; exact cnt_sum HI.out : (((txs P).take i).map (cntP P)).sum = actsM P)
      rw [HE.out]
      have B0 : Hid (Below w.heap.size w wo) := thn Q1.out BO.out
      clear HE HRT Q1 BO
      obtain ⟨n, hn⟩ : ∃ n, n = actsM P := ⟨_, rfl⟩
      rw [← hn]
      have HN : Hid (n = actsM P) := hn
      clear hn
      go_wp2_with (go_at_call 16; refine ((HB.out _ B0.out).keys HI.out).mono ?_; rintro e w2 ⟨⟨kv, ks, rfl, hk, hr, ho, hl⟩, q2⟩; obtain ⟨ka, kc, ev, hlc⟩ := hr.sl; subst ev)
      have hl9 : (sC ks).length = ks.length := by simp [sC]
      rw [hl9]
      have HR2 : Hid (Row w2 9 1 (.slice ka (sC ks).length kc) (sC ks)) := hr
      have HK2 : Hid (KyP P ks) := hk
      have B2 : Hid (Below w.heap.size w w2) := thn B0.out q2
      clear hr hk ho hlc hl9 q2 B0
      go_loopw [12] (fun s12 wr => ∃ i : Nat, s12 = .int .i64 (i : Int) ∧ i ≤ ks.length ∧ Below w2.heap.size w2 wr) (fun s12 _ => ks.length - (intOf s12).toNat)
      case atStart => exact ⟨0, rfl, Nat.zero_le _, Below.refl _ _⟩
      case round =>
        obtain ⟨i, rfl, hi2, hb⟩ := hrel
        rename World => wp
        have BO : Hid (Below w2.heap.size w2 wp) := hb
        clear hb
        by_cases hlt : i < ks.length
        · have hltI : (i : Int) < (ks.length : Int) := by omega
          obtain ⟨gk, x, ⟨ea, ca, sz, hyes, hup⟩⟩ := rd2 HR2.out HK2.out hlt
          subst ea
          have CA : Hid (∀ wx, Below w2.heap.size w2 wx → wx.cell? ⟨gk, i, none⟩ = some (.string x)) := ca
          have SZ : Hid (x.size ≤ 9223372036854775807) := sz
          have YS : Hid (∀ y is, GtO P x.data.toList y is → is = true) := hyes
          have k0 := ca wp BO.out
          clear ca sz hyes
          by_cases h0 : 0 < i
          · obtain ⟨x', cx, hbl⟩ := hup h0
            have CX : Hid (∀ wx, Below w2.heap.size w2 wx → wx.cell? ⟨gk, i - 1, none⟩ = some (.string x')) := cx
            have hi0 : (0 : Int) < (i : Int) := by omega
            have hi2 : decide ((0 : Int) < (i : Int)) = true := decide_eq_true (by omega)
            have hw1 : IntKind.i64.wrap ((i : Int) - 1) = (i : Int) - 1 := by rw [IntKind.wrap_i64]; omega
            have hn1 : ((i : Int) - 1).toNat = i - 1 := by omega
            have hn2 : 0 ≤ (i : Int) - 1 := by omega
            have hn3 : (i : Int) - 1 < (ks.length : Int) := by omega
            clear hup cx
            go_wp2_with first
              | (go_at_call 11; refine ((HB.out _ (thn B2.out BO.out)).get HI.out SZ.out).mono ?_; rintro e w5 ⟨⟨y, is, rfl, hgo, g1, g2⟩, q5⟩; obtain rfl := YS.out _ _ hgo)
              | (refine wpList_new_at (A := zW.A) _ zKv rfl rfl ?_; intro w6 b6 N6)
              | (refine wpList_put_at (A := zW.A) (A' := Ws.A y) h2 _ rfl _ _ rfl rfl rfl N6.is rfl rfl (oneW _) ?_; intro w7 P7; have B7 : Hid (Below w2.heap.size w2 w7) := thn (thn BO.out q5) (np_bel N6 P7))
            have HY : Hid (∀ wx, Below w7.heap.size w7 wx → wx.cell? ⟨gk, i, none⟩ = some (.string x) ∧ wx.cell? ⟨b6, 0, none⟩ = some (.string y.v) ∧ wx.cell? ⟨b6, 1, none⟩ = some (.bool y.is)) := fun wx hb => ⟨CA.out wx (thn B7.out hb), (P7.is.bel hb).c 0, (P7.is.bel hb).c 1⟩
            have G1 : Hid ((gF x y P).1 = true ∧ (gF x y P).2.2 = true) := ⟨g1, g2 (by first | rfl | trivial)⟩
            clear g1 g2 hgo q5 N6 P7 k0
            have D7 : Hid (Below w7.heap.size w7 w7.drew) := bdr (Below.refl _ _) 1
            go_region_held_law (fun wx => wx.cell? ⟨gk, i, none⟩ = some (.string x) ∧ wx.cell? ⟨b6, 0, none⟩ = some (.string y.v) ∧ wx.cell? ⟨b6, 1, none⟩ = some (.bool y.is)) (first | exact HY.out _ D7.out | exact HY.out _ q8) ((go_at_call 21; refine ((HB.out _ (thn (thn B2.out B7.out) D7.out)).lget HI.out x y).mono ?_; rintro e w8 ⟨rfl, q8'⟩; have q8 := thn D7.out q8'; rw [G1.out.1, G1.out.2]))
            go_wp2
            have B8 : Hid (Below w2.heap.size w2 w8) := thn B7.out q8
            have k8 := CA.out w8 B8.out
            have k9 := CX.out w8 B8.out
            go_quiet (fail)
            go_wp2
            go_roundw
            case rel => exact ⟨i + 1, by rfl, by omega, bdr B8.out _⟩
            case measure => simp [intOf]; omega
          · obtain rfl : i = 0 := by omega
            clear hup
            go_wp2_with first
              | (go_at_call 11; refine ((HB.out _ (thn B2.out BO.out)).get HI.out SZ.out).mono ?_; rintro e w5 ⟨⟨y, is, rfl, hgo, g1, g2⟩, q5⟩; obtain rfl := YS.out _ _ hgo)
              | (refine wpList_new_at (A := zW.A) _ zKv rfl rfl ?_; intro w6 b6 N6)
              | (refine wpList_put_at (A := zW.A) (A' := Ws.A y) h2 _ rfl _ _ rfl rfl rfl N6.is rfl rfl (oneW _) ?_; intro w7 P7; have B7 : Hid (Below w2.heap.size w2 w7) := thn (thn BO.out q5) (np_bel N6 P7))
            have HY : Hid (∀ wx, Below w7.heap.size w7 wx → wx.cell? ⟨gk, 0, none⟩ = some (.string x) ∧ wx.cell? ⟨b6, 0, none⟩ = some (.string y.v) ∧ wx.cell? ⟨b6, 1, none⟩ = some (.bool y.is)) := fun wx hb => ⟨CA.out wx (thn B7.out hb), (P7.is.bel hb).c 0, (P7.is.bel hb).c 1⟩
            have G1 : Hid ((gF x y P).1 = true ∧ (gF x y P).2.2 = true) := ⟨g1, g2 (by first | rfl | trivial)⟩
            clear g1 g2 hgo q5 N6 P7 k0
            have D7 : Hid (Below w7.heap.size w7 w7.drew) := bdr (Below.refl _ _) 1
            go_region_held_law (fun wx => wx.cell? ⟨gk, 0, none⟩ = some (.string x) ∧ wx.cell? ⟨b6, 0, none⟩ = some (.string y.v) ∧ wx.cell? ⟨b6, 1, none⟩ = some (.bool y.is)) (first | exact HY.out _ D7.out | exact HY.out _ q8) ((go_at_call 21; refine ((HB.out _ (thn (thn B2.out B7.out) D7.out)).lget HI.out x y).mono ?_; rintro e w8 ⟨rfl, q8'⟩; have q8 := thn D7.out q8'; rw [G1.out.1, G1.out.2]))
            go_wp2
            have B8 : Hid (Below w2.heap.size w2 w8) := thn B7.out q8
            have k8 := CA.out w8 B8.out
            go_quiet (fail)
            go_wp2
            go_roundw
            case rel => exact ⟨0 + 1, by rfl, by omega, bdr B8.out _⟩
            case measure => simp [intOf]; omega
        · have hltI : ¬ (i : Int) < (ks.length : Int) := by omega
          have B3 : Hid (Below w.heap.size w wp) := thn B2.out BO.out
          clear HR2 HK2 BO B2
          go_wp2
          go_loopw [17] (fun s17 wr => ∃ i : Nat, s17 = .int .i64 (i : Int) ∧ i ≤ P.length ∧ Below w.heap.size w wr) (fun s17 _ => P.length - (intOf s17).toNat)
          case atStart => exact ⟨0, rfl, Nat.zero_le _, B3.out⟩
          case round =>
            obtain ⟨i, rfl, hi3, hb⟩ := hrel
            rename World => wq
            have BQ : Hid (Below w.heap.size w wq) := hb
            clear hb B3
            have p0 := (HC.out wq BQ.out).top
            by_cases hlt : i < P.length
            · have hltI : (i : Int) < (P.length : Int) := by omega
              obtain ⟨m, hm⟩ : ∃ m, m = P[i].ks.length := ⟨_, rfl⟩
              have HM : Hid (m = P[i].ks.length) := hm
              have hm8 : m ≤ 100 := hm ▸ HI.out.kl _ (List.getElem_mem hlt)
              have HLt : Hid (i < P.length) := hlt
              clear hm
              go_wp2
              go_loopw [18] (fun s18 wr => ∃ k : Nat, s18 = .int .i64 (k : Int) ∧ k ≤ m ∧ Below w.heap.size w wr) (fun s18 _ => m - (intOf s18).toNat)
              case atStart => exact ⟨0, rfl, Nat.zero_le _, BQ.out⟩
              case round =>
                obtain ⟨k, rfl, hk3, hb⟩ := hrel
                rename World => wr4
                have BR : Hid (Below w.heap.size w wr4) := hb
                clear hb p0
                obtain ⟨g, gk, ak, ck, x, ⟨ea, p0, c2, hin⟩⟩ := rd4 (HC.out wr4 BR.out) HI.out HLt.out HM.out k
                subst ea
                by_cases hkm : k < m
                · have hkI : (k : Int) < (m : Int) := by omega
                  obtain ⟨e1, e2, SZ0, YS0⟩ := hin hkm
                  subst e1
                  have SZ : Hid (x.size ≤ 9223372036854775807) := SZ0
                  have YS : Hid (∀ y is, GtO P x.data.toList y is → is = true) := YS0
                  clear hin SZ0 YS0
                  go_wp2_with first
                    | (go_at_call 11; refine ((HB.out _ BR.out).get HI.out SZ.out).mono ?_; rintro e w5 ⟨⟨y, is, rfl, hgo, g1, g2⟩, q5⟩; obtain rfl := YS.out _ _ hgo)
                    | (refine wpList_new_at (A := zW.A) _ zKv rfl rfl ?_; intro w6 b6 N6)
                    | (refine wpList_put_at (A := zW.A) (A' := Ws.A y) h2 _ rfl _ _ rfl rfl rfl N6.is rfl rfl (oneW _) ?_; intro w7 P7; have B7 : Hid (Below w.heap.size w w7) := thn (thn BR.out q5) (np_bel N6 P7))
                  go_roundw
                  case rel => exact ⟨k + 1, by rfl, by omega, B7.out⟩
                  case measure => simp [intOf]; omega
                · have hkI : ¬ (k : Int) < (m : Int) := by omega
                  clear hin
                  go_wp2
                  go_roundw
                  case rel => exact ⟨i + 1, by rfl, by omega, BR.out⟩
                  case measure => simp [intOf]; omega
            · have hltI : ¬ (i : Int) < (P.length : Int) := by omega
              have E0 : Hid (∀ wx, (binOp .eql 39 (.agg #[.string zW.v, .bool zW.is]) (.agg #[.string ⟨#[]⟩, .bool false])).run Try.prog wx = .ok (.bool true) wx) := fun wx => by
                have := (eqls wx zW zW).1
                rw [eqW_self] at this
                exact this
              have C0 : Hid (∀ w5 y is, Below w.heap.size w w5 → GtO P key.data.toList y is → (gF key y P).1 = is → (is = true → (gF key y P).2.2 = true) → True) := fun _ _ _ _ _ _ _ => trivial
              go_wp2_with first
                | (go_at_call 11; refine ((HB.out _ BQ.out).get HI.out HS.out).mono ?_; rintro e w5 ⟨⟨y, is, rfl, hgo, g1, g2⟩, q5⟩)
                | (refine wpList_new_at (A := zW.A) _ zKv rfl rfl ?_; intro w6 b6 N6)
                | (refine wpList_put_at (A := zW.A) (A' := Ws.A y) h2 _ rfl _ _ rfl rfl rfl N6.is rfl rfl (oneW _) ?_; intro w7 P7; have B7 : Hid (Below w.heap.size w w7) := thn (thn BQ.out q5) (np_bel N6 P7))
                | (refine wpList_load_at h2 (A := Ws.A y) _ rfl (.tmp 21) rfl rfl P7.is rfl ?_)
                | (go_at_call 21; refine ((HB.out _ B7.out).lget HI.out key y).mono ?_; rintro e w8 ⟨rfl, q8⟩; rw [g1]; have B8 : Hid (Below w.heap.size w w8) := thn B7.out q8; have y0 : w8.cell? ⟨b6, 0, none⟩ = some (.string y.v) := (P7.is.bel q8).c 0; have y1 : w8.cell? ⟨b6, 1, none⟩ = some (.bool y.is) := (P7.is.bel q8).c 1)
              have Y8 : Hid (∀ wx, Below w8.heap.size w8 wx → wx.cell? ⟨b6, 0, none⟩ = some (.string y.v) ∧ wx.cell? ⟨b6, 1, none⟩ = some (.bool y.is)) := fun wx hb => ⟨((P7.is.bel q8).bel hb).c 0, ((P7.is.bel q8).bel hb).c 1⟩
              clear y0 y1 p0 C0
              cases is with
              | true =>
                have e9 : (gF key y P).2.2 = true := g2 (by first | rfl | trivial)
                rw [e9]
                clear g1 g2 hgo e9
                go_wp2_with (go_at_call 17; refine ((HB.out _ B8.out).acts HI.out).mono ?_; rintro e w9 ⟨rfl, q9⟩; rw [← HN.out])
                go_ret
                exact ⟨rfl, thn B8.out q9⟩
              | false =>
                obtain rfl := (hgo.no rfl).1
                clear g1 g2 hgo
                have E1 := E0.out
                generalize (gF key zW P).2.2 = tw at *
                go_wp2_with (go_at_call 17; refine ((HB.out _ B8.out).acts HI.out).mono ?_; rintro e w9 ⟨rfl, q9⟩; rw [← HN.out]; obtain ⟨y0, y1⟩ := Y8.out _ q9)
                go_ret
                exact ⟨rfl, thn B8.out q9⟩
end
end Go.Proofs.Ytcpbekamabooaaa.Pa
