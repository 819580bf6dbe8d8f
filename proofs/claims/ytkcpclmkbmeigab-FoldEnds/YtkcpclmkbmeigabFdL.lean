/- FoldEnds. -/
import Derived.Test.YtkcpclmkbmeigabFdK
namespace Go.Proofs.Ytkcpclmkbmeigab.Fd
open Go.RowKit Gm Go.Maps
set_option linter.unusedVariables false
set_option linter.unusedSimpArgs false
set_option maxRecDepth 100000
def rE (t : Int) : Rc := ⟨8, t, 0, 0, 0, ⟨#[]⟩, ⟨#[]⟩, ⟨#[]⟩, 0, 0, 0⟩
theorem SmE.end_ {t : Int} {A B : Fs} (h : SmE t A B) : noteF A (rE t) = B := by
  obtain ⟨K, G, n⟩ := A
  obtain ⟨K', G', n'⟩ := B
  obtain ⟨h1, h2, h3⟩ := h
  dsimp only at h1 h2 h3
  subst h1 h2 h3
  rfl
theorem sameK_self (K : List CL) : sameK K K = true := by unfold sameK; exact decide_eq_true rfl
theorem int_at {w : World} {a : Option Addr} {n c : Nat} {ts : List Int} (h : Row w 3 1 (.slice a n c) (iC ts)) {i : Nat} (hi : i < ts.length) : ∃ g, a = some ⟨g, 0, none⟩ ∧ g < w.heap.size ∧ w.cell? ⟨g, i, none⟩ = some (.int .i64 ts[i]) := by
  obtain ⟨g, ea, hg, hat⟩ := h.at_ (i := i) (by unfold iC; rw [List.length_map]; exact hi)
  have hra := (hat w rfl).1
  unfold iC at hra
  rw [List.getElem_map] at hra
  exact ⟨g, ea, hg, by have := hra 0 _ rfl; simpa using this⟩
section
variable {w : World} {a0 : Option Addr} {n0 c0 : Nat} {L : List (List Value)} {t : Int} {key : ByteArray}
set_option maxHeartbeats 4000000 in
theorem ends16_walk (hs : Sv w 13 RecS a0 n0 L) (ht : wfT t) (key : ByteArray) : Calls Try.prog 3 #[.slice a0 n0 c0, .int .i64 t, .string key] w fun e w' => e = .returned (.bool true) ∧ Below w.heap.size w w' := by
  have HS : Hid (Sv w 13 RecS a0 n0 L) := hs
  have HLn : Hid (L.length = n0) := hs.len
  have HT : Hid (wfT t) := ht
  have hsz := hs.sz
  obtain ⟨N, hN⟩ : ∃ N, min n0 40 = N := ⟨_, rfl⟩
  have HN : Hid (min n0 40 = N) := hN
  clear hs ht hN
  have cN : ∀ wx, Calls Try.prog 5 #[] wx fun e w' => e = .returned (.pointer (some ⟨wx.heap.size + 1, 0, none⟩)) ∧ NwF wx w' (wx.heap.size + 1) := New_ok
  go_enter Try.func3, Try.ntmps3
  go_wp2_with first
    | (have := NA.out; go_at_call 5; refine (cN _).mono ?_; rintro e w2 ⟨rfl, nb⟩; have NB : Hid (NwF w1 w2 (w1.heap.size + 1)) := nb; clear nb)
    | (go_at_call 5; refine (cN _).mono ?_; rintro e w1 ⟨rfl, na⟩; have NA : Hid (NwF w w1 (w.heap.size + 1)) := na; clear na)
  obtain ⟨fa, hfa⟩ : ∃ fa, fa = w.heap.size + 1 := ⟨_, rfl⟩
  obtain ⟨fb, hfb⟩ : ∃ fb, fb = w1.heap.size + 1 := ⟨_, rfl⟩
  rw [← hfa] at NA ⊢
  rw [← hfb] at NB ⊢
  have E0 : Hid (EnS w w2 fa fb ⟨[], [], 0⟩ ⟨[], [], 0⟩) := en_new NA.out NB.out
  have HX : Hid (∀ j (hj : j < L.length), ∃ g o r i1 i2 i3 t1 t2 t3, a0 = some ⟨g, o, none⟩ ∧ (∀ wx, Below w.heap.size w wx → wx.rangeAt g (o + j * 13) (Rc.A r (.slice i1 i2 i3) (.slice t1 t2 t3)).toList) ∧ wfT r.tx ∧ r.ky.size ≤ 9223372036854775807) := fun j hj => by
    obtain ⟨g, o, e, hg, h1, ⟨r, i1, i2, i3, t1, t2, t3, e2, e3, e4⟩, h3⟩ := HS.out.at_ j hj
    rw [e2] at h3
    exact ⟨g, o, r, i1, i2, i3, t1, t2, t3, e, fun wx hb => range_bel h3 (hb.block g hg), e3, e4⟩
  clear NA NB hfa hfb cN HS
  go_loopw [9] (fun ix wr => ∃ (j : Nat) (A B : Fs), ix = .int .i64 (j : Int) ∧ j ≤ N ∧ EnS w wr fa fb A B ∧ Bd A j ∧ Bd B j ∧ SmE t A B) (fun ix _ => N - (intOf ix).toNat)
  case atStart => exact ⟨0, _, _, rfl, Nat.zero_le _, E0.out, Bd.zero, Bd.zero, ⟨rfl, rfl, rfl⟩⟩
  case round =>
    clear E0
    obtain ⟨j, A, B, rfl, hj, hE, hA, hB, hM⟩ := hrel
    rename World => wo
    have HE : Hid (EnS w wo fa fb A B) := hE
    have HQ : Hid (Bd A j ∧ Bd B j ∧ SmE t A B) := ⟨hA, hB, hM⟩
    clear hE hA hB hM
    have hNe := HN.out
    by_cases hlt : j < N
    · have hj1 : (j : Int) < (n0 : Int) := by omega
      have hj2 : (j : Int) < 40 := by omega
      have hjm : j < L.length := by have := HLn.out; omega
      obtain ⟨g, o, r, i1, i2, i3, t1, t2, t3, rfl, hr0, hw, hk⟩ := HX.out j hjm
      have HR : Hid (∀ wx A' B', EnS w wx fa fb A' B' → wx.rangeAt g (o + j * 13) (Rc.A r (.slice i1 i2 i3) (.slice t1 t2 t3)).toList) := fun wx A' B' hx => hr0 wx hx.bel
      have CA : Hid (∀ wx B', EnS w wx fa fb A B' → Calls Try.prog 6 #[.pointer (some ⟨fa, 0, none⟩), .agg (r.A (.slice i1 i2 i3) (.slice t1 t2 t3))] wx fun e w' => e = .returned (.tuple #[]) ∧ EnS w w' fa fb (noteF A r) B') := fun wx B' hx => hx.noteA HQ.out.1 (by have := HN.out; omega) hw hk
      have CB : Hid (∀ wx A', EnS w wx fa fb A' B → Calls Try.prog 6 #[.pointer (some ⟨fb, 0, none⟩), .agg (r.A (.slice i1 i2 i3) (.slice t1 t2 t3))] wx fun e w' => e = .returned (.tuple #[]) ∧ EnS w w' fa fb A' (noteF B r)) := fun wx A' hx => hx.noteB HQ.out.2.1 (by have := HN.out; omega) hw hk
      have BA : Hid (Bd (noteF A r) (j + 1)) := HQ.out.1.note HE.out.pa r
      have BB : Hid (Bd (noteF B r) (j + 1)) := HQ.out.2.1.note HE.out.pb r
      have BU : Hid (Bd A (j + 1) ∧ Bd B (j + 1)) := ⟨HQ.out.1.up, HQ.out.2.1.up⟩
      have r0 : wo.rangeAt g (o + j * 13) (Rc.A r (.slice i1 i2 i3) (.slice t1 t2 t3)).toList := hr0 wo HE.out.bel
      have k0 : wo.cell? ⟨g, o + j * 13, none⟩ = some (.int .i64 r.kd) := r0 0 _ rfl
      have k1 : wo.cell? ⟨g, o + j * 13 + 1, none⟩ = some (.int .i64 r.tx) := r0 1 _ rfl
      have S1 : Hid (r.tx ≠ t → SmE t (noteF A r) (noteF B r)) := fun h => HQ.out.2.2.both h
      have S2 : Hid (r.tx = t → r.kd ≠ 7 → SmE t (noteF A r) B) := fun h h7 => HQ.out.2.2.one h h7
      have hSt := stRc
      clear hr0 hw hk r0
      by_cases ht : r.tx = t
      · by_cases h7 : r.kd = 7
        · rw [h7] at k0
          rw [ht] at k1
          go_wp2
          go_roundw
          case rel => exact ⟨j + 1, A, B, by go_num, by omega, HE.out, BU.out.1, BU.out.2, HQ.out.2.2⟩
          case measure => simp [intOf]; omega
        · have HS2 : Hid (SmE t (noteF A r) B) := S2.out ht h7
          have h7b : (r.kd == 7) = false := by simpa using h7
          rw [ht] at k1
          clear S1 S2 CB BB
          generalize noteF A r = A2 at *
          have R0 := HR.out _ _ _ HE.out
          clear HR
          have HSz : Hid ((Rc.A r (.slice i1 i2 i3) (.slice t1 t2 t3)).size = 13) := rfl
          generalize Rc.A r (.slice i1 i2 i3) (.slice t1 t2 t3) = RA at *
          generalize r.kd = kd at *
          go_wp2_with first
            | (refine wpList_load_in hSt (A := RA) _ rfl _ rfl rfl R0 HSz.out ?_)
            | (go_at_call 6; refine (CA.out _ _ HE.out).mono ?_; rintro e w5 ⟨rfl, e5⟩; have E5 : Hid (EnS w w5 fa fb A2 B) := e5; clear e5)
          go_roundw
          case rel => exact ⟨j + 1, A2, B, by go_num, by omega, E5.out, BA.out, BU.out.2, HS2.out⟩
          case measure => simp [intOf]; omega
      · have HS1 : Hid (SmE t (noteF A r) (noteF B r)) := S1.out ht
        have htb : (r.tx == t) = false := by simpa using ht
        clear S1 S2 ht
        generalize noteF A r = A2 at *
        generalize noteF B r = B2 at *
        have R0 := HR.out _ _ _ HE.out
        have HSz : Hid ((Rc.A r (.slice i1 i2 i3) (.slice t1 t2 t3)).size = 13) := rfl
        generalize Rc.A r (.slice i1 i2 i3) (.slice t1 t2 t3) = RA at *
        generalize r.kd = kd at *
        generalize r.tx = tx at *
        go_wp2_with first
          | (have := E5.out; refine wpList_load_in hSt (A := RA) _ rfl _ rfl rfl R1 HSz.out ?_)
          | (refine wpList_load_in hSt (A := RA) _ rfl _ rfl rfl R0 HSz.out ?_)
          | (go_at_call 6; refine (CB.out _ _ E5.out).mono ?_; rintro e w6 ⟨rfl, e6⟩; have E6 : Hid (EnS w w6 fa fb A2 B2) := e6; clear e6)
          | (go_at_call 6; refine (CA.out _ _ HE.out).mono ?_; rintro e w5 ⟨rfl, e5⟩; have E5 : Hid (EnS w w5 fa fb A2 B) := e5; clear e5; have R1 := HR.out _ _ _ E5.out)
        go_roundw
        case rel => exact ⟨j + 1, A2, B2, by go_num, by omega, E6.out, BA.out, BB.out, HS1.out⟩
        case measure => simp [intOf]; omega
    · have hj3 : ¬ ((j : Int) < (n0 : Int) ∧ (j : Int) < 40) := by omega
      have CE : Hid (Calls Try.prog 6 #[.pointer (some ⟨fa, 0, none⟩), .agg #[.int .i64 8, .int .i64 t, .int .i64 0, .int .i64 0, .int .i64 0, .string ⟨#[]⟩, .string ⟨#[]⟩, .string ⟨#[]⟩, .int .i64 0, .slice none 0 0, .slice none 0 0, .int .i64 0, .int .i64 0]] wo fun e w' => e = .returned (.tuple #[]) ∧ EnS w w' fa fb B B) := by
        have := HE.out.noteA (r := rE t) (I := .slice none 0 0) (T := .slice none 0 0) HQ.out.1 (by omega) HT.out (show (⟨#[]⟩ : ByteArray).size ≤ 9223372036854775807 by decide)
        rw [HQ.out.2.2.end_] at this
        exact this
      have HB2 : Hid (B.K.length ≤ 1000 ∧ B.G.length ≤ 100000) := ⟨by have := HQ.out.2.1.wt; omega, by have := HQ.out.2.1.gl; omega⟩
      clear HE HQ HX
      obtain ⟨K, G, n⟩ := B
      dsimp only at HB2
      have CGa : Hid (∀ wx, EnS w wx fa fb ⟨K, G, n⟩ ⟨K, G, n⟩ → Calls Try.prog 7 #[.pointer (some ⟨fa, 0, none⟩), .string key] wx fun e w' => e = .returned (.tuple #[.string (getK K key).1, .bool (getK K key).2]) ∧ EnS w w' fa fb ⟨K, G, n⟩ ⟨K, G, n⟩) := fun wx hx => by
        obtain ⟨W, h1⟩ := hx.a
        exact (Get_any h1 key HB2.out.1).mono fun e w' h => ⟨h.1, hx.below h.2⟩
      have CGb : Hid (∀ wx, EnS w wx fa fb ⟨K, G, n⟩ ⟨K, G, n⟩ → Calls Try.prog 7 #[.pointer (some ⟨fb, 0, none⟩), .string key] wx fun e w' => e = .returned (.tuple #[.string (getK K key).1, .bool (getK K key).2]) ∧ EnS w w' fa fb ⟨K, G, n⟩ ⟨K, G, n⟩) := fun wx hx => by
        obtain ⟨W, h1⟩ := hx.b
        exact (Get_any h1 key HB2.out.1).mono fun e w' h => ⟨h.1, hx.below h.2⟩
      have COa : Hid (∀ wx, EnS w wx fa fb ⟨K, G, n⟩ ⟨K, G, n⟩ → Calls Try.prog 8 #[.pointer (some ⟨fa, 0, none⟩)] wx fun e w' => RwI wx e w' (srtF (G.map (·.txn))) ∧ EnS w w' fa fb ⟨K, G, n⟩ ⟨K, G, n⟩) := fun wx hx => by
        obtain ⟨W, h1⟩ := hx.a
        exact (Going_any h1 HB2.out.2).mono fun e w' h => ⟨h, hx.below h.bel⟩
      have COb : Hid (∀ wx, EnS w wx fa fb ⟨K, G, n⟩ ⟨K, G, n⟩ → Calls Try.prog 8 #[.pointer (some ⟨fb, 0, none⟩)] wx fun e w' => RwI wx e w' (srtF (G.map (·.txn))) ∧ EnS w w' fa fb ⟨K, G, n⟩ ⟨K, G, n⟩) := fun wx hx => by
        obtain ⟨W, h1⟩ := hx.b
        exact (Going_any h1 HB2.out.2).mono fun e w' h => ⟨h, hx.below h.bel⟩
      generalize getK K key = gk at *
      have HTS : Hid ((srtF (G.map (·.txn))).length ≤ 100000) := by rw [srtF_len, List.length_map]; exact HB2.out.2
      generalize srtF (G.map (·.txn)) = ts at *
      have hjn : (j : Int) < (n0 : Int) ∨ ¬ (j : Int) < (n0 : Int) := by omega
      rcases hjn with hj1 | hj1
      all_goals
        have hj2 : (j : Int) < (n0 : Int) → ¬ (j : Int) < 40 := by omega
        first | (have hj4 := hj2 hj1) | skip
        go_wp2_with first
          | (go_at_call 6; refine CE.out.mono ?_; rintro e w5 ⟨rfl, e5⟩; have E5 : Hid (EnS w w5 fa fb ⟨K, G, n⟩ ⟨K, G, n⟩) := e5; clear e5)
          | (go_at_call 7; refine (CGb.out _ E6.out).mono ?_; rintro e w7 ⟨rfl, e7⟩; have E7 : Hid (EnS w w7 fa fb ⟨K, G, n⟩ ⟨K, G, n⟩) := e7; clear e7)
          | (go_at_call 7; refine (CGa.out _ E5.out).mono ?_; rintro e w6 ⟨rfl, e6⟩; have E6 : Hid (EnS w w6 fa fb ⟨K, G, n⟩ ⟨K, G, n⟩) := e6; clear e6)
          | (go_at_call 8; refine (COb.out _ E8.out.1).mono ?_; rintro e w9 ⟨⟨⟨v9, rfl, q9, o9⟩, b9⟩, e9⟩; obtain ⟨a9, c9, s9, _⟩ := q9.sl; subst s9; have E9 : Hid (EnS w w9 fa fb ⟨K, G, n⟩ ⟨K, G, n⟩ ∧ Row w9 3 1 (.slice a8 (iC ts).length c8) (iC ts) ∧ Row w9 3 1 (.slice a9 (iC ts).length c9) (iC ts)) := ⟨e9, E8.out.2.bel b9, q9⟩; clear e9 q9 o9 b9)
          | (go_at_call 8; refine (COa.out _ E7.out).mono ?_; rintro e w8 ⟨⟨⟨v8, rfl, q8, o8⟩, b8⟩, e8⟩; obtain ⟨a8, c8, s8, _⟩ := q8.sl; subst s8; have E8 : Hid (EnS w w8 fa fb ⟨K, G, n⟩ ⟨K, G, n⟩ ∧ Row w8 3 1 (.slice a8 (iC ts).length c8) (iC ts)) := ⟨e8, q8⟩; clear e8 q8 o8 b8)
        have HK : Hid (K.length ≤ 1000) := HB2.out.1
        clear E5 E6 E7 E8 CE CGa CGb COa COb
        have hlen : (iC ts).length = ts.length := by unfold iC; exact List.length_map ..
        rw [hlen] at E9 ⊢
        clear hlen
        obtain ⟨m, hm⟩ : ∃ m, ts.length = m := ⟨_, rfl⟩
        have Hm : Hid (ts.length = m) := hm
        have hmb : m ≤ 100000 := by rw [← hm]; exact HTS.out
        rw [hm] at E9 ⊢
        clear hm
        go_loopg [16] m (fun k vi wr => ∃ i : Nat, vi = .int .i64 (i : Int) ∧ m - i ≤ k ∧ i ≤ m ∧ Below w9.heap.size w9 wr)
        case atStart => exact ⟨0, rfl, by omega, by omega, Below.refl _ _⟩
        case round =>
          obtain ⟨i, rfl, hk, him, hB⟩ := hrel
          have HB : Hid (Below w9.heap.size w9 wr) := hB
          clear hB
          by_cases hli : i < m
          · have hltI : (i : Int) < (m : Int) := by omega
            have hi1 : i < ts.length := by have := Hm.out; omega
            obtain ⟨g1, rfl, _, x1⟩ := int_at (E9.out.2.1.bel HB.out) hi1
            obtain ⟨g2, rfl, _, x2⟩ := int_at (E9.out.2.2.bel HB.out) hi1
            have y1 : wr.drew.cell? ⟨g1, i, none⟩ = some (.int .i64 ts[i]) := x1
            have y2 : wr.drew.cell? ⟨g2, i, none⟩ = some (.int .i64 ts[i]) := x2
            generalize ts[i] = z at *
            go_wp2_with fail
            go_big_region
            all_goals go_wp2
            go_roundg (m - (i + 1))
            case measure => omega
            case rel => exact ⟨i + 1, by first | rfl | go_num, Nat.le_refl _, by omega, bdr HB.out 1⟩
          · have hltI : ¬ (i : Int) < (m : Int) := by omega
            have CCa : Hid (∀ wx, EnS w wx fa fb ⟨K, G, n⟩ ⟨K, G, n⟩ → Calls Try.prog 10 #[.pointer (some ⟨fa, 0, none⟩)] wx fun e w' => ClE wx e w' K ∧ EnS w w' fa fb ⟨K, G, n⟩ ⟨K, G, n⟩) := fun wx hx => by
              obtain ⟨W, h1⟩ := hx.a
              exact (Cells_any h1 (by have := HK.out; show K.length ≤ _; omega)).mono fun e w' h => ⟨h, hx.below h.bel⟩
            have CCb : Hid (∀ wx, EnS w wx fa fb ⟨K, G, n⟩ ⟨K, G, n⟩ → Calls Try.prog 10 #[.pointer (some ⟨fb, 0, none⟩)] wx fun e w' => ClE wx e w' K ∧ EnS w w' fa fb ⟨K, G, n⟩ ⟨K, G, n⟩) := fun wx hx => by
              obtain ⟨W, h1⟩ := hx.b
              exact (Cells_any h1 (by have := HK.out; show K.length ≤ _; omega)).mono fun e w' h => ⟨h, hx.below h.bel⟩
            have CNa : Hid (∀ wx, EnS w wx fa fb ⟨K, G, n⟩ ⟨K, G, n⟩ → Calls Try.prog 11 #[.pointer (some ⟨fa, 0, none⟩)] wx fun e w' => e = .returned (.int .i64 n) ∧ w' = wx) := fun wx hx => by
              obtain ⟨W, h1⟩ := hx.a
              exact Count_any h1
            have CNb : Hid (∀ wx, EnS w wx fa fb ⟨K, G, n⟩ ⟨K, G, n⟩ → Calls Try.prog 11 #[.pointer (some ⟨fb, 0, none⟩)] wx fun e w' => e = .returned (.int .i64 n) ∧ w' = wx) := fun wx hx => by
              obtain ⟨W, h1⟩ := hx.b
              exact Count_any h1
            have CS : Hid (∀ wx v1 v2, Row wx 41 2 v1 (K.map encC) → Row wx 41 2 v2 (K.map encC) → Calls Try.prog 9 #[v1, v2] wx fun e w' => e = .returned (.bool true) ∧ Below wx.heap.size wx w') := fun wx v1 v2 r1 r2 => by
              have := same_any (Rv.of_row r1) (Rv.of_row r2) (by have := HK.out; omega) (by have := HK.out; omega)
              rw [sameK_self] at this
              exact this
            have CW : Hid (∀ wx, Calls Try.prog 12 #[] wx fun e w' => e = .returned (.bool true) ∧ Below wx.heap.size wx w') := awake16
            have EX : Hid (EnS w wr fa fb ⟨K, G, n⟩ ⟨K, G, n⟩) := E9.out.1.below HB.out
            clear E9 HB
            go_wp2_with first
              | (go_at_call 10; refine (CCb.out _ X1.out.1).mono ?_; rintro e x2 ⟨⟨⟨v2, rfl, q2, o2⟩, b2⟩, e2⟩; obtain ⟨d2, f2, s2, _⟩ := q2.sl; rw [List.length_map] at s2; subst s2; have X2 : Hid (EnS w x2 fa fb ⟨K, G, n⟩ ⟨K, G, n⟩ ∧ Row x2 41 2 (.slice d1 K.length f1) (K.map encC) ∧ Row x2 41 2 (.slice d2 K.length f2) (K.map encC)) := ⟨e2, X1.out.2.bel b2, q2⟩; clear e2 q2 o2 b2)
              | (go_at_call 10; refine (CCa.out _ EX.out).mono ?_; rintro e x1 ⟨⟨⟨v1, rfl, q1, o1⟩, b1⟩, e1⟩; obtain ⟨d1, f1, s1, _⟩ := q1.sl; rw [List.length_map] at s1; subst s1; have X1 : Hid (EnS w x1 fa fb ⟨K, G, n⟩ ⟨K, G, n⟩ ∧ Row x1 41 2 (.slice d1 K.length f1) (K.map encC)) := ⟨e1, q1⟩; clear e1 q1 o1 b1)
              | (go_at_call 9; refine (CS.out _ _ _ X2.out.2.1 X2.out.2.2).mono ?_; rintro e x3 ⟨rfl, b3⟩; have X3 : Hid (EnS w x3 fa fb ⟨K, G, n⟩ ⟨K, G, n⟩) := X2.out.1.below b3; clear b3)
              | (go_at_call 11; refine (CNa.out _ X3.out).mono ?_; rintro e x4 ⟨rfl, rfl⟩)
              | (go_at_call 11; refine (CNb.out _ X3.out).mono ?_; rintro e x4 ⟨rfl, rfl⟩)
              | (go_at_call 12; refine (CW.out _).mono ?_; rintro e x6 ⟨rfl, b6⟩)
            go_ret
            exact ⟨rfl, thn X3.out.bel b6⟩
end
end Go.Proofs.Ytkcpclmkbmeigab.Fd
