/- PoolNews: the walks, by cases of the frames and of the text and its record. -/
import Derived.Test.YtgodjnbbocnckaaGreatMas
import Derived.Deep.RegionHeld3
namespace Go.Proofs.YtgodjnbbocnckaaGreat
open Go.RowKit Go.Maps Go.ChangeMaps
set_option linter.unusedVariables false
set_option linter.unusedSimpArgs false
set_option maxRecDepth 100000

section
variable {w : World}
theorem dirty_new {B k ww : Nat} {X : Ad} {S : Dk} {G : Gp} (h : PW B w ww X k S [] 0 G (fun _ => none) (fun _ => 0) (fun _ => none) (fun _ => 0)) (hG : G = ⟨0, 0, 0, fun _ => zF⟩) : Calls Tryz.prog 26 #[.pointer (some ⟨X.pb, 0, none⟩), .int .i64 3] w fun e w' => e = .returned (.bool false) ∧ w' = w := by
  have := Dirty_any h.pv 3
  have e : dtb G.F X.n 3 = false := by
    cases hb : dtb G.F X.n 3 with
    | false => rfl
    | true =>
      obtain ⟨i, hi, h1, h2⟩ := dtb_iff.1 hb
      rw [hG] at h1
      cases h1.1
  rw [e] at this
  exact this
set_option maxHeartbeats 4000000 in
theorem news_lo_form (n : Int) (h1 : n < 2) (t : ByteArray) (l : Int) (ht : t.size ≠ 224) (hz : t.size ≤ 140737488351232) : Calls Tryz.prog 7 #[.int .i64 n, .string t, .int .i64 l] w fun e w' => e = .returned (.bool true) ∧ Below w.heap.size w w' := by
  have CA : Hid (∀ wx, Calls Tryz.prog 9 #[] wx fun e w' => e = .returned (.bool true) ∧ Below wx.heap.size wx w') := fun wx => awake10 wx
  have CM : Hid (Calls Tryz.prog 10 #[.int .i64 5] w fun e w' => ∃ ww X S G, MdO w w' 5 e ww X S G) := made_any 5 (by omega) (by omega) w
  have CN : Hid (∀ wx sb l, Calls Tryz.prog 29 #[.pointer (some ⟨sb, 0, none⟩), .pointer (some ⟨l, 0, none⟩), .int .i64 n] wx fun e w' => e = .returned (.tuple #[.pointer none, .int .i64 1]) ∧ Below wx.heap.size wx w') := fun wx sb l => by
    refine (New_out sb l n (by omega) wx).mono ?_
    rintro e w' ⟨he, rfl⟩
    exact ⟨he, Below.refl _ _⟩
  have CN1 : Hid (∀ wx l, Calls Tryz.prog 29 #[.pointer none, .pointer (some ⟨l, 0, none⟩), .int .i64 5] wx fun e w' => e = .returned (.tuple #[.pointer none, .int .i64 1]) ∧ w' = wx) := fun wx l => New_nils _ _ wx
  have CN2 : Hid (∀ wx sb, Calls Tryz.prog 29 #[.pointer (some ⟨sb, 0, none⟩), .pointer none, .int .i64 5] wx fun e w' => e = .returned (.tuple #[.pointer none, .int .i64 1]) ∧ w' = wx) := fun wx sb => New_nill _ _ wx
  have CS : Hid (∀ wx ww X S G, PW w.heap.size wx ww X 41 S [] 0 G (fun _ => none) (fun _ => 0) (fun _ => none) (fun _ => 0) → Calls Tryz.prog 30 #[.pointer (some ⟨X.pb, 0, none⟩), .int .i64 3, .string t, .int .i64 l] wx fun e w' => e = .returned (.int .i64 4) ∧ w' = wx) := fun wx ww X S G h => Set_form h.pv.q.po 3 t ht (by omega) l
  have htI : ((t.size : Int) != 224) = true := by simp; omega
  have n1 : ¬ (2 : Int) ≤ n := by omega
  have HN1 : Hid (∀ wx, Below w.heap.size w wx → True) := fun _ _ => trivial
  clear ht
  go_enter Tryz.func7, Tryz.ntmps7
  go_wp2_with (go_at_call 10; refine CM.out.mono ?_; rintro e w1 ⟨ww, X, S1, G1, M1⟩; have he := M1.e; subst he; have P1 : Hid (PW w.heap.size w1 ww X 41 S1 [] 0 G1 (fun _ => none) (fun _ => 0) (fun _ => none) (fun _ => 0)) := M1.pw; have s1 : Hid (S1.set = false) := M1.set; have g1 : Hid (G1 = ⟨0, 0, 0, fun _ => zF⟩) := M1.G; have b1 : Hid (Below w.heap.size w w1) := M1.bel; clear M1)
  have P1d := P1.out.below ((Below.refl _ _).drew)
  have q1 := P1d.wb.c1
  have q2 := P1d.wb.c2
  have HD1 : Hid (Below w1.heap.size w1 w1.drew) := (Below.refl _ _).drew
  clear P1d
  go_region_held3 (fun W => W.cell? ⟨ww, 1, none⟩ = some (.pointer (some ⟨X.sb, 0, none⟩)) ∧ W.cell? ⟨ww, 2, none⟩ = some (.pointer (some ⟨X.l, 0, none⟩))) (first | exact ⟨keep1, keep2⟩ | exact ⟨q1, q2⟩ | go_keep) (first
    | (go_at_call 29; refine (CN.out _ _ _).mono ?_; rintro e w2 ⟨rfl, b2⟩; have P2 : Hid (PW w.heap.size w2 ww X 41 S1 [] 0 G1 (fun _ => none) (fun _ => 0) (fun _ => none) (fun _ => 0)) := P1.out.below (thn HD1.out b2); have b3 : Hid (Below w.heap.size w w2) := b1.out.trans ((thn HD1.out b2).mono b1.out.size); have keep1 := P2.out.wb.c1; have keep2 := P2.out.wb.c2; clear b2))
  have k3 := P2.out.wb.c3
  have m1 : Hid True := trivial
  go_wp2_with (first
    | (go_at_call 29; have := m1; refine (CN1.out _ _).mono ?_; rintro e w3 ⟨rfl, rfl⟩; clear m1; have m2 : Hid True := trivial)
    | (go_at_call 29; have := m2; refine (CN2.out _ _).mono ?_; rintro e w4 ⟨rfl, rfl⟩)
    | (go_at_call 30; refine (CS.out _ _ _ _ _ P2.out).mono ?_; rintro e w5 ⟨rfl, rfl⟩)
    | (go_at_call 9; refine (CA.out _).mono ?_; rintro e w9 ⟨rfl, b9⟩))
  go_ret
  exact ⟨rfl, b3.out.trans (b9.mono b3.out.size)⟩
set_option maxHeartbeats 4000000 in
theorem news_lo_arg (n : Int) (h1 : n < 2) (t : ByteArray) (l : Int) (ht : t.size = 224) (hl : l < 1) : Calls Tryz.prog 7 #[.int .i64 n, .string t, .int .i64 l] w fun e w' => e = .returned (.bool true) ∧ Below w.heap.size w w' := by
  have CA : Hid (∀ wx, Calls Tryz.prog 9 #[] wx fun e w' => e = .returned (.bool true) ∧ Below wx.heap.size wx w') := fun wx => awake10 wx
  have CM : Hid (Calls Tryz.prog 10 #[.int .i64 5] w fun e w' => ∃ ww X S G, MdO w w' 5 e ww X S G) := made_any 5 (by omega) (by omega) w
  have CN : Hid (∀ wx sb l, Calls Tryz.prog 29 #[.pointer (some ⟨sb, 0, none⟩), .pointer (some ⟨l, 0, none⟩), .int .i64 n] wx fun e w' => e = .returned (.tuple #[.pointer none, .int .i64 1]) ∧ Below wx.heap.size wx w') := fun wx sb l => by
    refine (New_out sb l n (by omega) wx).mono ?_
    rintro e w' ⟨he, rfl⟩
    exact ⟨he, Below.refl _ _⟩
  have CN1 : Hid (∀ wx l, Calls Tryz.prog 29 #[.pointer none, .pointer (some ⟨l, 0, none⟩), .int .i64 5] wx fun e w' => e = .returned (.tuple #[.pointer none, .int .i64 1]) ∧ w' = wx) := fun wx l => New_nils _ _ wx
  have CN2 : Hid (∀ wx sb, Calls Tryz.prog 29 #[.pointer (some ⟨sb, 0, none⟩), .pointer none, .int .i64 5] wx fun e w' => e = .returned (.tuple #[.pointer none, .int .i64 1]) ∧ w' = wx) := fun wx sb => New_nill _ _ wx
  have CS : Hid (∀ wx ww X S G, PW w.heap.size wx ww X 41 S [] 0 G (fun _ => none) (fun _ => 0) (fun _ => none) (fun _ => 0) → Calls Tryz.prog 30 #[.pointer (some ⟨X.pb, 0, none⟩), .int .i64 3, .string t, .int .i64 l] wx fun e w' => e = .returned (.int .i64 1) ∧ w' = wx) := fun wx ww X S G h => Set_arg h.pv.q.po 3 t ht l hl
  have CD : Hid (∀ wx ww X S G, PW w.heap.size wx ww X 41 S [] 0 G (fun _ => none) (fun _ => 0) (fun _ => none) (fun _ => 0) → G = ⟨0, 0, 0, fun _ => zF⟩ → Calls Tryz.prog 26 #[.pointer (some ⟨X.pb, 0, none⟩), .int .i64 3] wx fun e w' => e = .returned (.bool false) ∧ w' = wx) := fun wx ww X S G h hG => dirty_new h hG
  have CG : Hid (∀ wx ww X S G, PW w.heap.size wx ww X 41 S [] 0 G (fun _ => none) (fun _ => 0) (fun _ => none) (fun _ => 0) → Calls Tryz.prog 31 #[.pointer (some ⟨X.pb, 0, none⟩)] wx fun e w' => e = .returned (.int .i64 8) ∧ w' = wx) := fun wx ww X S G h => Pages_po h.pv.q.po h.pv.q.st
  have htI : (t.size : Int) = 224 := by omega
  have l1 : ¬ 1 ≤ l := by omega
  have n1 : ¬ (2 : Int) ≤ n := by omega
  have HN1 : Hid (∀ wx, Below w.heap.size w wx → True) := fun _ _ => trivial
  clear ht
  go_enter Tryz.func7, Tryz.ntmps7
  go_wp2_with (go_at_call 10; refine CM.out.mono ?_; rintro e w1 ⟨ww, X, S1, G1, M1⟩; have he := M1.e; subst he; have P1 : Hid (PW w.heap.size w1 ww X 41 S1 [] 0 G1 (fun _ => none) (fun _ => 0) (fun _ => none) (fun _ => 0)) := M1.pw; have s1 : Hid (S1.set = false) := M1.set; have g1 : Hid (G1 = ⟨0, 0, 0, fun _ => zF⟩) := M1.G; have b1 : Hid (Below w.heap.size w w1) := M1.bel; clear M1)
  have P1d := P1.out.below ((Below.refl _ _).drew)
  have q1 := P1d.wb.c1
  have q2 := P1d.wb.c2
  have HD1 : Hid (Below w1.heap.size w1 w1.drew) := (Below.refl _ _).drew
  clear P1d
  go_region_held3 (fun W => W.cell? ⟨ww, 1, none⟩ = some (.pointer (some ⟨X.sb, 0, none⟩)) ∧ W.cell? ⟨ww, 2, none⟩ = some (.pointer (some ⟨X.l, 0, none⟩))) (first | exact ⟨keep1, keep2⟩ | exact ⟨q1, q2⟩ | go_keep) (first
    | (go_at_call 29; refine (CN.out _ _ _).mono ?_; rintro e w2 ⟨rfl, b2⟩; have P2 : Hid (PW w.heap.size w2 ww X 41 S1 [] 0 G1 (fun _ => none) (fun _ => 0) (fun _ => none) (fun _ => 0)) := P1.out.below (thn HD1.out b2); have b3 : Hid (Below w.heap.size w w2) := b1.out.trans ((thn HD1.out b2).mono b1.out.size); have keep1 := P2.out.wb.c1; have keep2 := P2.out.wb.c2; clear b2))
  have k3 := P2.out.wb.c3
  have m1 : Hid True := trivial
  go_wp2_with (first
    | (go_at_call 29; have := m1; refine (CN1.out _ _).mono ?_; rintro e w3 ⟨rfl, rfl⟩; clear m1; have m2 : Hid True := trivial)
    | (go_at_call 29; have := m2; refine (CN2.out _ _).mono ?_; rintro e w4 ⟨rfl, rfl⟩)
    | (go_at_call 30; refine (CS.out _ _ _ _ _ P2.out).mono ?_; rintro e w5 ⟨rfl, rfl⟩)
    | (go_at_call 26; refine (CD.out _ _ _ _ _ P2.out g1.out).mono ?_; rintro e w6 ⟨rfl, rfl⟩)
    | (go_at_call 31; refine (CG.out _ _ _ _ _ P2.out).mono ?_; rintro e w7 ⟨rfl, rfl⟩)
    | (go_at_call 9; refine (CA.out _).mono ?_; rintro e w9 ⟨rfl, b9⟩))
  go_ret
  exact ⟨by simp [hl, l1], b3.out.trans (b9.mono b3.out.size)⟩
set_option maxHeartbeats 4000000 in
theorem news_lo_set (n : Int) (h1 : n < 2) (t : ByteArray) (l : Int) (ht : t.size = 224) (hl : 1 ≤ l) : Calls Tryz.prog 7 #[.int .i64 n, .string t, .int .i64 l] w fun e w' => e = .returned (.bool true) ∧ Below w.heap.size w w' := by
  have CA : Hid (∀ wx, Calls Tryz.prog 9 #[] wx fun e w' => e = .returned (.bool true) ∧ Below wx.heap.size wx w') := fun wx => awake10 wx
  have CM : Hid (Calls Tryz.prog 10 #[.int .i64 5] w fun e w' => ∃ ww X S G, MdO w w' 5 e ww X S G) := made_any 5 (by omega) (by omega) w
  have CN : Hid (∀ wx sb l, Calls Tryz.prog 29 #[.pointer (some ⟨sb, 0, none⟩), .pointer (some ⟨l, 0, none⟩), .int .i64 n] wx fun e w' => e = .returned (.tuple #[.pointer none, .int .i64 1]) ∧ Below wx.heap.size wx w') := fun wx sb l => by
    refine (New_out sb l n (by omega) wx).mono ?_
    rintro e w' ⟨he, rfl⟩
    exact ⟨he, Below.refl _ _⟩
  have CN1 : Hid (∀ wx l, Calls Tryz.prog 29 #[.pointer none, .pointer (some ⟨l, 0, none⟩), .int .i64 5] wx fun e w' => e = .returned (.tuple #[.pointer none, .int .i64 1]) ∧ w' = wx) := fun wx l => New_nils _ _ wx
  have CN2 : Hid (∀ wx sb, Calls Tryz.prog 29 #[.pointer (some ⟨sb, 0, none⟩), .pointer none, .int .i64 5] wx fun e w' => e = .returned (.tuple #[.pointer none, .int .i64 1]) ∧ w' = wx) := fun wx sb => New_nill _ _ wx
  have CS : Hid (∀ wx ww X S G, PW w.heap.size wx ww X 41 S [] 0 G (fun _ => none) (fun _ => 0) (fun _ => none) (fun _ => 0) → S.set = false → Calls Tryz.prog 30 #[.pointer (some ⟨X.pb, 0, none⟩), .int .i64 3, .string t, .int .i64 l] wx fun e w' => e = .returned (.int .i64 0) ∧ NsO w.heap.size wx w' ww X) := fun wx ww X S G h hs => set_new h hs (by omega) t ht l hl
  have htI : (t.size : Int) = 224 := by omega
  have l1 : ¬ l < 1 := by omega
  have n1 : ¬ (2 : Int) ≤ n := by omega
  have HN1 : Hid (∀ wx, Below w.heap.size w wx → True) := fun _ _ => trivial
  clear ht
  go_enter Tryz.func7, Tryz.ntmps7
  go_wp2_with (go_at_call 10; refine CM.out.mono ?_; rintro e w1 ⟨ww, X, S1, G1, M1⟩; have he := M1.e; subst he; have P1 : Hid (PW w.heap.size w1 ww X 41 S1 [] 0 G1 (fun _ => none) (fun _ => 0) (fun _ => none) (fun _ => 0)) := M1.pw; have s1 : Hid (S1.set = false) := M1.set; have g1 : Hid (G1 = ⟨0, 0, 0, fun _ => zF⟩) := M1.G; have b1 : Hid (Below w.heap.size w w1) := M1.bel; clear M1)
  have P1d := P1.out.below ((Below.refl _ _).drew)
  have q1 := P1d.wb.c1
  have q2 := P1d.wb.c2
  have HD1 : Hid (Below w1.heap.size w1 w1.drew) := (Below.refl _ _).drew
  clear P1d
  go_region_held3 (fun W => W.cell? ⟨ww, 1, none⟩ = some (.pointer (some ⟨X.sb, 0, none⟩)) ∧ W.cell? ⟨ww, 2, none⟩ = some (.pointer (some ⟨X.l, 0, none⟩))) (first | exact ⟨keep1, keep2⟩ | exact ⟨q1, q2⟩ | go_keep) (first
    | (go_at_call 29; refine (CN.out _ _ _).mono ?_; rintro e w2 ⟨rfl, b2⟩; have P2 : Hid (PW w.heap.size w2 ww X 41 S1 [] 0 G1 (fun _ => none) (fun _ => 0) (fun _ => none) (fun _ => 0)) := P1.out.below (thn HD1.out b2); have b3 : Hid (Below w.heap.size w w2) := b1.out.trans ((thn HD1.out b2).mono b1.out.size); have keep1 := P2.out.wb.c1; have keep2 := P2.out.wb.c2; clear b2))
  have k3 := P2.out.wb.c3
  have m1 : Hid True := trivial
  go_wp2_with (first
    | (go_at_call 29; have := m1; refine (CN1.out _ _).mono ?_; rintro e w3 ⟨rfl, rfl⟩; clear m1; have m2 : Hid True := trivial)
    | (go_at_call 29; have := m2; refine (CN2.out _ _).mono ?_; rintro e w4 ⟨rfl, rfl⟩)
    | (go_at_call 30; refine (CS.out _ _ _ _ _ P2.out s1.out).mono ?_; rintro e w5 ⟨rfl, O5⟩; have H5 : Hid (NsO w.heap.size _ w5 ww X) := O5; have k5 := O5.wb.c3; clear O5)
    | (go_at_call 26; refine H5.out.d.mono ?_; rintro e w6 ⟨rfl, rfl⟩)
    | (go_at_call 31; refine H5.out.g.mono ?_; rintro e w7 ⟨rfl, rfl⟩)
    | (go_at_call 9; refine (CA.out _).mono ?_; rintro e w9 ⟨rfl, b9⟩))
  go_ret
  exact ⟨by simp [hl, l1], (b3.out.trans H5.out.bel).trans (b9.mono (b3.out.trans H5.out.bel).size)⟩
set_option maxHeartbeats 4000000 in
theorem news_hi_form (n : Int) (h1 : 64 < n) (t : ByteArray) (l : Int) (ht : t.size ≠ 224) (hz : t.size ≤ 140737488351232) : Calls Tryz.prog 7 #[.int .i64 n, .string t, .int .i64 l] w fun e w' => e = .returned (.bool true) ∧ Below w.heap.size w w' := by
  have CA : Hid (∀ wx, Calls Tryz.prog 9 #[] wx fun e w' => e = .returned (.bool true) ∧ Below wx.heap.size wx w') := fun wx => awake10 wx
  have CM : Hid (Calls Tryz.prog 10 #[.int .i64 5] w fun e w' => ∃ ww X S G, MdO w w' 5 e ww X S G) := made_any 5 (by omega) (by omega) w
  have CN : Hid (∀ wx sb l, Calls Tryz.prog 29 #[.pointer (some ⟨sb, 0, none⟩), .pointer (some ⟨l, 0, none⟩), .int .i64 n] wx fun e w' => e = .returned (.tuple #[.pointer none, .int .i64 1]) ∧ Below wx.heap.size wx w') := fun wx sb l => by
    refine (New_out sb l n (by omega) wx).mono ?_
    rintro e w' ⟨he, rfl⟩
    exact ⟨he, Below.refl _ _⟩
  have CN1 : Hid (∀ wx l, Calls Tryz.prog 29 #[.pointer none, .pointer (some ⟨l, 0, none⟩), .int .i64 5] wx fun e w' => e = .returned (.tuple #[.pointer none, .int .i64 1]) ∧ w' = wx) := fun wx l => New_nils _ _ wx
  have CN2 : Hid (∀ wx sb, Calls Tryz.prog 29 #[.pointer (some ⟨sb, 0, none⟩), .pointer none, .int .i64 5] wx fun e w' => e = .returned (.tuple #[.pointer none, .int .i64 1]) ∧ w' = wx) := fun wx sb => New_nill _ _ wx
  have CS : Hid (∀ wx ww X S G, PW w.heap.size wx ww X 41 S [] 0 G (fun _ => none) (fun _ => 0) (fun _ => none) (fun _ => 0) → Calls Tryz.prog 30 #[.pointer (some ⟨X.pb, 0, none⟩), .int .i64 3, .string t, .int .i64 l] wx fun e w' => e = .returned (.int .i64 4) ∧ w' = wx) := fun wx ww X S G h => Set_form h.pv.q.po 3 t ht (by omega) l
  have htI : ((t.size : Int) != 224) = true := by simp; omega
  have n1 : (2 : Int) ≤ n := by omega
  have n2 : ¬ n ≤ 64 := by omega
  have HN1 : Hid (∀ wx, Below w.heap.size w wx → True) := fun _ _ => trivial
  clear ht
  go_enter Tryz.func7, Tryz.ntmps7
  go_wp2_with (go_at_call 10; refine CM.out.mono ?_; rintro e w1 ⟨ww, X, S1, G1, M1⟩; have he := M1.e; subst he; have P1 : Hid (PW w.heap.size w1 ww X 41 S1 [] 0 G1 (fun _ => none) (fun _ => 0) (fun _ => none) (fun _ => 0)) := M1.pw; have s1 : Hid (S1.set = false) := M1.set; have g1 : Hid (G1 = ⟨0, 0, 0, fun _ => zF⟩) := M1.G; have b1 : Hid (Below w.heap.size w w1) := M1.bel; clear M1)
  have P1d := P1.out.below ((Below.refl _ _).drew)
  have q1 := P1d.wb.c1
  have q2 := P1d.wb.c2
  have HD1 : Hid (Below w1.heap.size w1 w1.drew) := (Below.refl _ _).drew
  clear P1d
  go_region_held3 (fun W => W.cell? ⟨ww, 1, none⟩ = some (.pointer (some ⟨X.sb, 0, none⟩)) ∧ W.cell? ⟨ww, 2, none⟩ = some (.pointer (some ⟨X.l, 0, none⟩))) (first | exact ⟨keep1, keep2⟩ | exact ⟨q1, q2⟩ | go_keep) (first
    | (go_at_call 29; refine (CN.out _ _ _).mono ?_; rintro e w2 ⟨rfl, b2⟩; have P2 : Hid (PW w.heap.size w2 ww X 41 S1 [] 0 G1 (fun _ => none) (fun _ => 0) (fun _ => none) (fun _ => 0)) := P1.out.below (thn HD1.out b2); have b3 : Hid (Below w.heap.size w w2) := b1.out.trans ((thn HD1.out b2).mono b1.out.size); have keep1 := P2.out.wb.c1; have keep2 := P2.out.wb.c2; clear b2))
  have k3 := P2.out.wb.c3
  have m1 : Hid True := trivial
  go_wp2_with (first
    | (go_at_call 29; have := m1; refine (CN1.out _ _).mono ?_; rintro e w3 ⟨rfl, rfl⟩; clear m1; have m2 : Hid True := trivial)
    | (go_at_call 29; have := m2; refine (CN2.out _ _).mono ?_; rintro e w4 ⟨rfl, rfl⟩)
    | (go_at_call 30; refine (CS.out _ _ _ _ _ P2.out).mono ?_; rintro e w5 ⟨rfl, rfl⟩)
    | (go_at_call 9; refine (CA.out _).mono ?_; rintro e w9 ⟨rfl, b9⟩))
  go_ret
  exact ⟨rfl, b3.out.trans (b9.mono b3.out.size)⟩
set_option maxHeartbeats 4000000 in
theorem news_hi_arg (n : Int) (h1 : 64 < n) (t : ByteArray) (l : Int) (ht : t.size = 224) (hl : l < 1) : Calls Tryz.prog 7 #[.int .i64 n, .string t, .int .i64 l] w fun e w' => e = .returned (.bool true) ∧ Below w.heap.size w w' := by
  have CA : Hid (∀ wx, Calls Tryz.prog 9 #[] wx fun e w' => e = .returned (.bool true) ∧ Below wx.heap.size wx w') := fun wx => awake10 wx
  have CM : Hid (Calls Tryz.prog 10 #[.int .i64 5] w fun e w' => ∃ ww X S G, MdO w w' 5 e ww X S G) := made_any 5 (by omega) (by omega) w
  have CN : Hid (∀ wx sb l, Calls Tryz.prog 29 #[.pointer (some ⟨sb, 0, none⟩), .pointer (some ⟨l, 0, none⟩), .int .i64 n] wx fun e w' => e = .returned (.tuple #[.pointer none, .int .i64 1]) ∧ Below wx.heap.size wx w') := fun wx sb l => by
    refine (New_out sb l n (by omega) wx).mono ?_
    rintro e w' ⟨he, rfl⟩
    exact ⟨he, Below.refl _ _⟩
  have CN1 : Hid (∀ wx l, Calls Tryz.prog 29 #[.pointer none, .pointer (some ⟨l, 0, none⟩), .int .i64 5] wx fun e w' => e = .returned (.tuple #[.pointer none, .int .i64 1]) ∧ w' = wx) := fun wx l => New_nils _ _ wx
  have CN2 : Hid (∀ wx sb, Calls Tryz.prog 29 #[.pointer (some ⟨sb, 0, none⟩), .pointer none, .int .i64 5] wx fun e w' => e = .returned (.tuple #[.pointer none, .int .i64 1]) ∧ w' = wx) := fun wx sb => New_nill _ _ wx
  have CS : Hid (∀ wx ww X S G, PW w.heap.size wx ww X 41 S [] 0 G (fun _ => none) (fun _ => 0) (fun _ => none) (fun _ => 0) → Calls Tryz.prog 30 #[.pointer (some ⟨X.pb, 0, none⟩), .int .i64 3, .string t, .int .i64 l] wx fun e w' => e = .returned (.int .i64 1) ∧ w' = wx) := fun wx ww X S G h => Set_arg h.pv.q.po 3 t ht l hl
  have CD : Hid (∀ wx ww X S G, PW w.heap.size wx ww X 41 S [] 0 G (fun _ => none) (fun _ => 0) (fun _ => none) (fun _ => 0) → G = ⟨0, 0, 0, fun _ => zF⟩ → Calls Tryz.prog 26 #[.pointer (some ⟨X.pb, 0, none⟩), .int .i64 3] wx fun e w' => e = .returned (.bool false) ∧ w' = wx) := fun wx ww X S G h hG => dirty_new h hG
  have CG : Hid (∀ wx ww X S G, PW w.heap.size wx ww X 41 S [] 0 G (fun _ => none) (fun _ => 0) (fun _ => none) (fun _ => 0) → Calls Tryz.prog 31 #[.pointer (some ⟨X.pb, 0, none⟩)] wx fun e w' => e = .returned (.int .i64 8) ∧ w' = wx) := fun wx ww X S G h => Pages_po h.pv.q.po h.pv.q.st
  have htI : (t.size : Int) = 224 := by omega
  have l1 : ¬ 1 ≤ l := by omega
  have n1 : (2 : Int) ≤ n := by omega
  have n2 : ¬ n ≤ 64 := by omega
  have HN1 : Hid (∀ wx, Below w.heap.size w wx → True) := fun _ _ => trivial
  clear ht
  go_enter Tryz.func7, Tryz.ntmps7
  go_wp2_with (go_at_call 10; refine CM.out.mono ?_; rintro e w1 ⟨ww, X, S1, G1, M1⟩; have he := M1.e; subst he; have P1 : Hid (PW w.heap.size w1 ww X 41 S1 [] 0 G1 (fun _ => none) (fun _ => 0) (fun _ => none) (fun _ => 0)) := M1.pw; have s1 : Hid (S1.set = false) := M1.set; have g1 : Hid (G1 = ⟨0, 0, 0, fun _ => zF⟩) := M1.G; have b1 : Hid (Below w.heap.size w w1) := M1.bel; clear M1)
  have P1d := P1.out.below ((Below.refl _ _).drew)
  have q1 := P1d.wb.c1
  have q2 := P1d.wb.c2
  have HD1 : Hid (Below w1.heap.size w1 w1.drew) := (Below.refl _ _).drew
  clear P1d
  go_region_held3 (fun W => W.cell? ⟨ww, 1, none⟩ = some (.pointer (some ⟨X.sb, 0, none⟩)) ∧ W.cell? ⟨ww, 2, none⟩ = some (.pointer (some ⟨X.l, 0, none⟩))) (first | exact ⟨keep1, keep2⟩ | exact ⟨q1, q2⟩ | go_keep) (first
    | (go_at_call 29; refine (CN.out _ _ _).mono ?_; rintro e w2 ⟨rfl, b2⟩; have P2 : Hid (PW w.heap.size w2 ww X 41 S1 [] 0 G1 (fun _ => none) (fun _ => 0) (fun _ => none) (fun _ => 0)) := P1.out.below (thn HD1.out b2); have b3 : Hid (Below w.heap.size w w2) := b1.out.trans ((thn HD1.out b2).mono b1.out.size); have keep1 := P2.out.wb.c1; have keep2 := P2.out.wb.c2; clear b2))
  have k3 := P2.out.wb.c3
  have m1 : Hid True := trivial
  go_wp2_with (first
    | (go_at_call 29; have := m1; refine (CN1.out _ _).mono ?_; rintro e w3 ⟨rfl, rfl⟩; clear m1; have m2 : Hid True := trivial)
    | (go_at_call 29; have := m2; refine (CN2.out _ _).mono ?_; rintro e w4 ⟨rfl, rfl⟩)
    | (go_at_call 30; refine (CS.out _ _ _ _ _ P2.out).mono ?_; rintro e w5 ⟨rfl, rfl⟩)
    | (go_at_call 26; refine (CD.out _ _ _ _ _ P2.out g1.out).mono ?_; rintro e w6 ⟨rfl, rfl⟩)
    | (go_at_call 31; refine (CG.out _ _ _ _ _ P2.out).mono ?_; rintro e w7 ⟨rfl, rfl⟩)
    | (go_at_call 9; refine (CA.out _).mono ?_; rintro e w9 ⟨rfl, b9⟩))
  go_ret
  exact ⟨by simp [hl, l1], b3.out.trans (b9.mono b3.out.size)⟩
set_option maxHeartbeats 4000000 in
theorem news_hi_set (n : Int) (h1 : 64 < n) (t : ByteArray) (l : Int) (ht : t.size = 224) (hl : 1 ≤ l) : Calls Tryz.prog 7 #[.int .i64 n, .string t, .int .i64 l] w fun e w' => e = .returned (.bool true) ∧ Below w.heap.size w w' := by
  have CA : Hid (∀ wx, Calls Tryz.prog 9 #[] wx fun e w' => e = .returned (.bool true) ∧ Below wx.heap.size wx w') := fun wx => awake10 wx
  have CM : Hid (Calls Tryz.prog 10 #[.int .i64 5] w fun e w' => ∃ ww X S G, MdO w w' 5 e ww X S G) := made_any 5 (by omega) (by omega) w
  have CN : Hid (∀ wx sb l, Calls Tryz.prog 29 #[.pointer (some ⟨sb, 0, none⟩), .pointer (some ⟨l, 0, none⟩), .int .i64 n] wx fun e w' => e = .returned (.tuple #[.pointer none, .int .i64 1]) ∧ Below wx.heap.size wx w') := fun wx sb l => by
    refine (New_out sb l n (by omega) wx).mono ?_
    rintro e w' ⟨he, rfl⟩
    exact ⟨he, Below.refl _ _⟩
  have CN1 : Hid (∀ wx l, Calls Tryz.prog 29 #[.pointer none, .pointer (some ⟨l, 0, none⟩), .int .i64 5] wx fun e w' => e = .returned (.tuple #[.pointer none, .int .i64 1]) ∧ w' = wx) := fun wx l => New_nils _ _ wx
  have CN2 : Hid (∀ wx sb, Calls Tryz.prog 29 #[.pointer (some ⟨sb, 0, none⟩), .pointer none, .int .i64 5] wx fun e w' => e = .returned (.tuple #[.pointer none, .int .i64 1]) ∧ w' = wx) := fun wx sb => New_nill _ _ wx
  have CS : Hid (∀ wx ww X S G, PW w.heap.size wx ww X 41 S [] 0 G (fun _ => none) (fun _ => 0) (fun _ => none) (fun _ => 0) → S.set = false → Calls Tryz.prog 30 #[.pointer (some ⟨X.pb, 0, none⟩), .int .i64 3, .string t, .int .i64 l] wx fun e w' => e = .returned (.int .i64 0) ∧ NsO w.heap.size wx w' ww X) := fun wx ww X S G h hs => set_new h hs (by omega) t ht l hl
  have htI : (t.size : Int) = 224 := by omega
  have l1 : ¬ l < 1 := by omega
  have n1 : (2 : Int) ≤ n := by omega
  have n2 : ¬ n ≤ 64 := by omega
  have HN1 : Hid (∀ wx, Below w.heap.size w wx → True) := fun _ _ => trivial
  clear ht
  go_enter Tryz.func7, Tryz.ntmps7
  go_wp2_with (go_at_call 10; refine CM.out.mono ?_; rintro e w1 ⟨ww, X, S1, G1, M1⟩; have he := M1.e; subst he; have P1 : Hid (PW w.heap.size w1 ww X 41 S1 [] 0 G1 (fun _ => none) (fun _ => 0) (fun _ => none) (fun _ => 0)) := M1.pw; have s1 : Hid (S1.set = false) := M1.set; have g1 : Hid (G1 = ⟨0, 0, 0, fun _ => zF⟩) := M1.G; have b1 : Hid (Below w.heap.size w w1) := M1.bel; clear M1)
  have P1d := P1.out.below ((Below.refl _ _).drew)
  have q1 := P1d.wb.c1
  have q2 := P1d.wb.c2
  have HD1 : Hid (Below w1.heap.size w1 w1.drew) := (Below.refl _ _).drew
  clear P1d
  go_region_held3 (fun W => W.cell? ⟨ww, 1, none⟩ = some (.pointer (some ⟨X.sb, 0, none⟩)) ∧ W.cell? ⟨ww, 2, none⟩ = some (.pointer (some ⟨X.l, 0, none⟩))) (first | exact ⟨keep1, keep2⟩ | exact ⟨q1, q2⟩ | go_keep) (first
    | (go_at_call 29; refine (CN.out _ _ _).mono ?_; rintro e w2 ⟨rfl, b2⟩; have P2 : Hid (PW w.heap.size w2 ww X 41 S1 [] 0 G1 (fun _ => none) (fun _ => 0) (fun _ => none) (fun _ => 0)) := P1.out.below (thn HD1.out b2); have b3 : Hid (Below w.heap.size w w2) := b1.out.trans ((thn HD1.out b2).mono b1.out.size); have keep1 := P2.out.wb.c1; have keep2 := P2.out.wb.c2; clear b2))
  have k3 := P2.out.wb.c3
  have m1 : Hid True := trivial
  go_wp2_with (first
    | (go_at_call 29; have := m1; refine (CN1.out _ _).mono ?_; rintro e w3 ⟨rfl, rfl⟩; clear m1; have m2 : Hid True := trivial)
    | (go_at_call 29; have := m2; refine (CN2.out _ _).mono ?_; rintro e w4 ⟨rfl, rfl⟩)
    | (go_at_call 30; refine (CS.out _ _ _ _ _ P2.out s1.out).mono ?_; rintro e w5 ⟨rfl, O5⟩; have H5 : Hid (NsO w.heap.size _ w5 ww X) := O5; have k5 := O5.wb.c3; clear O5)
    | (go_at_call 26; refine H5.out.d.mono ?_; rintro e w6 ⟨rfl, rfl⟩)
    | (go_at_call 31; refine H5.out.g.mono ?_; rintro e w7 ⟨rfl, rfl⟩)
    | (go_at_call 9; refine (CA.out _).mono ?_; rintro e w9 ⟨rfl, b9⟩))
  go_ret
  exact ⟨by simp [hl, l1], (b3.out.trans H5.out.bel).trans (b9.mono (b3.out.trans H5.out.bel).size)⟩
set_option maxHeartbeats 4000000 in
theorem news_ok_form (n : Int) (h1 : 2 ≤ n ∧ n ≤ 64) (t : ByteArray) (l : Int) (ht : t.size ≠ 224) (hz : t.size ≤ 140737488351232) : Calls Tryz.prog 7 #[.int .i64 n, .string t, .int .i64 l] w fun e w' => e = .returned (.bool true) ∧ Below w.heap.size w w' := by
  have CA : Hid (∀ wx, Calls Tryz.prog 9 #[] wx fun e w' => e = .returned (.bool true) ∧ Below wx.heap.size wx w') := fun wx => awake10 wx
  have CM : Hid (Calls Tryz.prog 10 #[.int .i64 5] w fun e w' => ∃ ww X S G, MdO w w' 5 e ww X S G) := made_any 5 (by omega) (by omega) w
  have CN : Hid (∀ wx sb l, Calls Tryz.prog 29 #[.pointer (some ⟨sb, 0, none⟩), .pointer (some ⟨l, 0, none⟩), .int .i64 n] wx fun e w' => ∃ b, e = .returned (.tuple #[.pointer (some ⟨b, 0, none⟩), .int .i64 0]) ∧ Below wx.heap.size wx w') := fun wx sb l => by
    refine (New_all 0 sb l n wx).mono ?_
    rintro e w' ⟨p, y, he, hN⟩
    have hy : y = 0 := by rw [hN.ey, if_pos h1]
    rcases hN.ep with ⟨_, b, rfl⟩ | ⟨h2, _⟩
    · subst hy; exact ⟨b, he, hN.bel⟩
    · omega
  have CN1 : Hid (∀ wx l, Calls Tryz.prog 29 #[.pointer none, .pointer (some ⟨l, 0, none⟩), .int .i64 5] wx fun e w' => e = .returned (.tuple #[.pointer none, .int .i64 1]) ∧ w' = wx) := fun wx l => New_nils _ _ wx
  have CN2 : Hid (∀ wx sb, Calls Tryz.prog 29 #[.pointer (some ⟨sb, 0, none⟩), .pointer none, .int .i64 5] wx fun e w' => e = .returned (.tuple #[.pointer none, .int .i64 1]) ∧ w' = wx) := fun wx sb => New_nill _ _ wx
  have CS : Hid (∀ wx ww X S G, PW w.heap.size wx ww X 41 S [] 0 G (fun _ => none) (fun _ => 0) (fun _ => none) (fun _ => 0) → Calls Tryz.prog 30 #[.pointer (some ⟨X.pb, 0, none⟩), .int .i64 3, .string t, .int .i64 l] wx fun e w' => e = .returned (.int .i64 4) ∧ w' = wx) := fun wx ww X S G h => Set_form h.pv.q.po 3 t ht (by omega) l
  have htI : ((t.size : Int) != 224) = true := by simp; omega
  have n1 : (2 : Int) ≤ n := h1.1
  have n2 : n ≤ 64 := h1.2
  have HN1 : Hid (∀ wx, Below w.heap.size w wx → True) := fun _ _ => trivial
  clear ht
  go_enter Tryz.func7, Tryz.ntmps7
  go_wp2_with (go_at_call 10; refine CM.out.mono ?_; rintro e w1 ⟨ww, X, S1, G1, M1⟩; have he := M1.e; subst he; have P1 : Hid (PW w.heap.size w1 ww X 41 S1 [] 0 G1 (fun _ => none) (fun _ => 0) (fun _ => none) (fun _ => 0)) := M1.pw; have s1 : Hid (S1.set = false) := M1.set; have g1 : Hid (G1 = ⟨0, 0, 0, fun _ => zF⟩) := M1.G; have b1 : Hid (Below w.heap.size w w1) := M1.bel; clear M1)
  have P1d := P1.out.below ((Below.refl _ _).drew)
  have q1 := P1d.wb.c1
  have q2 := P1d.wb.c2
  have HD1 : Hid (Below w1.heap.size w1 w1.drew) := (Below.refl _ _).drew
  clear P1d
  go_region_held3 (fun W => W.cell? ⟨ww, 1, none⟩ = some (.pointer (some ⟨X.sb, 0, none⟩)) ∧ W.cell? ⟨ww, 2, none⟩ = some (.pointer (some ⟨X.l, 0, none⟩))) (first | exact ⟨keep1, keep2⟩ | exact ⟨q1, q2⟩ | go_keep) (first
    | (go_at_call 29; refine (CN.out _ _ _).mono ?_; rintro e w2 ⟨pq, rfl, b2⟩; have P2 : Hid (PW w.heap.size w2 ww X 41 S1 [] 0 G1 (fun _ => none) (fun _ => 0) (fun _ => none) (fun _ => 0)) := P1.out.below (thn HD1.out b2); have b3 : Hid (Below w.heap.size w w2) := b1.out.trans ((thn HD1.out b2).mono b1.out.size); have keep1 := P2.out.wb.c1; have keep2 := P2.out.wb.c2; clear b2))
  have k3 := P2.out.wb.c3
  have m1 : Hid True := trivial
  go_wp2_with (first
    | (go_at_call 29; have := m1; refine (CN1.out _ _).mono ?_; rintro e w3 ⟨rfl, rfl⟩; clear m1; have m2 : Hid True := trivial)
    | (go_at_call 29; have := m2; refine (CN2.out _ _).mono ?_; rintro e w4 ⟨rfl, rfl⟩)
    | (go_at_call 30; refine (CS.out _ _ _ _ _ P2.out).mono ?_; rintro e w5 ⟨rfl, rfl⟩)
    | (go_at_call 9; refine (CA.out _).mono ?_; rintro e w9 ⟨rfl, b9⟩))
  go_ret
  exact ⟨rfl, b3.out.trans (b9.mono b3.out.size)⟩
set_option maxHeartbeats 4000000 in
theorem news_ok_arg (n : Int) (h1 : 2 ≤ n ∧ n ≤ 64) (t : ByteArray) (l : Int) (ht : t.size = 224) (hl : l < 1) : Calls Tryz.prog 7 #[.int .i64 n, .string t, .int .i64 l] w fun e w' => e = .returned (.bool true) ∧ Below w.heap.size w w' := by
  have CA : Hid (∀ wx, Calls Tryz.prog 9 #[] wx fun e w' => e = .returned (.bool true) ∧ Below wx.heap.size wx w') := fun wx => awake10 wx
  have CM : Hid (Calls Tryz.prog 10 #[.int .i64 5] w fun e w' => ∃ ww X S G, MdO w w' 5 e ww X S G) := made_any 5 (by omega) (by omega) w
  have CN : Hid (∀ wx sb l, Calls Tryz.prog 29 #[.pointer (some ⟨sb, 0, none⟩), .pointer (some ⟨l, 0, none⟩), .int .i64 n] wx fun e w' => ∃ b, e = .returned (.tuple #[.pointer (some ⟨b, 0, none⟩), .int .i64 0]) ∧ Below wx.heap.size wx w') := fun wx sb l => by
    refine (New_all 0 sb l n wx).mono ?_
    rintro e w' ⟨p, y, he, hN⟩
    have hy : y = 0 := by rw [hN.ey, if_pos h1]
    rcases hN.ep with ⟨_, b, rfl⟩ | ⟨h2, _⟩
    · subst hy; exact ⟨b, he, hN.bel⟩
    · omega
  have CN1 : Hid (∀ wx l, Calls Tryz.prog 29 #[.pointer none, .pointer (some ⟨l, 0, none⟩), .int .i64 5] wx fun e w' => e = .returned (.tuple #[.pointer none, .int .i64 1]) ∧ w' = wx) := fun wx l => New_nils _ _ wx
  have CN2 : Hid (∀ wx sb, Calls Tryz.prog 29 #[.pointer (some ⟨sb, 0, none⟩), .pointer none, .int .i64 5] wx fun e w' => e = .returned (.tuple #[.pointer none, .int .i64 1]) ∧ w' = wx) := fun wx sb => New_nill _ _ wx
  have CS : Hid (∀ wx ww X S G, PW w.heap.size wx ww X 41 S [] 0 G (fun _ => none) (fun _ => 0) (fun _ => none) (fun _ => 0) → Calls Tryz.prog 30 #[.pointer (some ⟨X.pb, 0, none⟩), .int .i64 3, .string t, .int .i64 l] wx fun e w' => e = .returned (.int .i64 1) ∧ w' = wx) := fun wx ww X S G h => Set_arg h.pv.q.po 3 t ht l hl
  have CD : Hid (∀ wx ww X S G, PW w.heap.size wx ww X 41 S [] 0 G (fun _ => none) (fun _ => 0) (fun _ => none) (fun _ => 0) → G = ⟨0, 0, 0, fun _ => zF⟩ → Calls Tryz.prog 26 #[.pointer (some ⟨X.pb, 0, none⟩), .int .i64 3] wx fun e w' => e = .returned (.bool false) ∧ w' = wx) := fun wx ww X S G h hG => dirty_new h hG
  have CG : Hid (∀ wx ww X S G, PW w.heap.size wx ww X 41 S [] 0 G (fun _ => none) (fun _ => 0) (fun _ => none) (fun _ => 0) → Calls Tryz.prog 31 #[.pointer (some ⟨X.pb, 0, none⟩)] wx fun e w' => e = .returned (.int .i64 8) ∧ w' = wx) := fun wx ww X S G h => Pages_po h.pv.q.po h.pv.q.st
  have htI : (t.size : Int) = 224 := by omega
  have l1 : ¬ 1 ≤ l := by omega
  have n1 : (2 : Int) ≤ n := h1.1
  have n2 : n ≤ 64 := h1.2
  have HN1 : Hid (∀ wx, Below w.heap.size w wx → True) := fun _ _ => trivial
  clear ht
  go_enter Tryz.func7, Tryz.ntmps7
  go_wp2_with (go_at_call 10; refine CM.out.mono ?_; rintro e w1 ⟨ww, X, S1, G1, M1⟩; have he := M1.e; subst he; have P1 : Hid (PW w.heap.size w1 ww X 41 S1 [] 0 G1 (fun _ => none) (fun _ => 0) (fun _ => none) (fun _ => 0)) := M1.pw; have s1 : Hid (S1.set = false) := M1.set; have g1 : Hid (G1 = ⟨0, 0, 0, fun _ => zF⟩) := M1.G; have b1 : Hid (Below w.heap.size w w1) := M1.bel; clear M1)
  have P1d := P1.out.below ((Below.refl _ _).drew)
  have q1 := P1d.wb.c1
  have q2 := P1d.wb.c2
  have HD1 : Hid (Below w1.heap.size w1 w1.drew) := (Below.refl _ _).drew
  clear P1d
  go_region_held3 (fun W => W.cell? ⟨ww, 1, none⟩ = some (.pointer (some ⟨X.sb, 0, none⟩)) ∧ W.cell? ⟨ww, 2, none⟩ = some (.pointer (some ⟨X.l, 0, none⟩))) (first | exact ⟨keep1, keep2⟩ | exact ⟨q1, q2⟩ | go_keep) (first
    | (go_at_call 29; refine (CN.out _ _ _).mono ?_; rintro e w2 ⟨pq, rfl, b2⟩; have P2 : Hid (PW w.heap.size w2 ww X 41 S1 [] 0 G1 (fun _ => none) (fun _ => 0) (fun _ => none) (fun _ => 0)) := P1.out.below (thn HD1.out b2); have b3 : Hid (Below w.heap.size w w2) := b1.out.trans ((thn HD1.out b2).mono b1.out.size); have keep1 := P2.out.wb.c1; have keep2 := P2.out.wb.c2; clear b2))
  have k3 := P2.out.wb.c3
  have m1 : Hid True := trivial
  go_wp2_with (first
    | (go_at_call 29; have := m1; refine (CN1.out _ _).mono ?_; rintro e w3 ⟨rfl, rfl⟩; clear m1; have m2 : Hid True := trivial)
    | (go_at_call 29; have := m2; refine (CN2.out _ _).mono ?_; rintro e w4 ⟨rfl, rfl⟩)
    | (go_at_call 30; refine (CS.out _ _ _ _ _ P2.out).mono ?_; rintro e w5 ⟨rfl, rfl⟩)
    | (go_at_call 26; refine (CD.out _ _ _ _ _ P2.out g1.out).mono ?_; rintro e w6 ⟨rfl, rfl⟩)
    | (go_at_call 31; refine (CG.out _ _ _ _ _ P2.out).mono ?_; rintro e w7 ⟨rfl, rfl⟩)
    | (go_at_call 9; refine (CA.out _).mono ?_; rintro e w9 ⟨rfl, b9⟩))
  go_ret
  exact ⟨by simp [hl, l1], b3.out.trans (b9.mono b3.out.size)⟩
set_option maxHeartbeats 4000000 in
theorem news_ok_set (n : Int) (h1 : 2 ≤ n ∧ n ≤ 64) (t : ByteArray) (l : Int) (ht : t.size = 224) (hl : 1 ≤ l) : Calls Tryz.prog 7 #[.int .i64 n, .string t, .int .i64 l] w fun e w' => e = .returned (.bool true) ∧ Below w.heap.size w w' := by
  have CA : Hid (∀ wx, Calls Tryz.prog 9 #[] wx fun e w' => e = .returned (.bool true) ∧ Below wx.heap.size wx w') := fun wx => awake10 wx
  have CM : Hid (Calls Tryz.prog 10 #[.int .i64 5] w fun e w' => ∃ ww X S G, MdO w w' 5 e ww X S G) := made_any 5 (by omega) (by omega) w
  have CN : Hid (∀ wx sb l, Calls Tryz.prog 29 #[.pointer (some ⟨sb, 0, none⟩), .pointer (some ⟨l, 0, none⟩), .int .i64 n] wx fun e w' => ∃ b, e = .returned (.tuple #[.pointer (some ⟨b, 0, none⟩), .int .i64 0]) ∧ Below wx.heap.size wx w') := fun wx sb l => by
    refine (New_all 0 sb l n wx).mono ?_
    rintro e w' ⟨p, y, he, hN⟩
    have hy : y = 0 := by rw [hN.ey, if_pos h1]
    rcases hN.ep with ⟨_, b, rfl⟩ | ⟨h2, _⟩
    · subst hy; exact ⟨b, he, hN.bel⟩
    · omega
  have CN1 : Hid (∀ wx l, Calls Tryz.prog 29 #[.pointer none, .pointer (some ⟨l, 0, none⟩), .int .i64 5] wx fun e w' => e = .returned (.tuple #[.pointer none, .int .i64 1]) ∧ w' = wx) := fun wx l => New_nils _ _ wx
  have CN2 : Hid (∀ wx sb, Calls Tryz.prog 29 #[.pointer (some ⟨sb, 0, none⟩), .pointer none, .int .i64 5] wx fun e w' => e = .returned (.tuple #[.pointer none, .int .i64 1]) ∧ w' = wx) := fun wx sb => New_nill _ _ wx
  have CS : Hid (∀ wx ww X S G, PW w.heap.size wx ww X 41 S [] 0 G (fun _ => none) (fun _ => 0) (fun _ => none) (fun _ => 0) → S.set = false → Calls Tryz.prog 30 #[.pointer (some ⟨X.pb, 0, none⟩), .int .i64 3, .string t, .int .i64 l] wx fun e w' => e = .returned (.int .i64 0) ∧ NsO w.heap.size wx w' ww X) := fun wx ww X S G h hs => set_new h hs (by omega) t ht l hl
  have htI : (t.size : Int) = 224 := by omega
  have l1 : ¬ l < 1 := by omega
  have n1 : (2 : Int) ≤ n := h1.1
  have n2 : n ≤ 64 := h1.2
  have HN1 : Hid (∀ wx, Below w.heap.size w wx → True) := fun _ _ => trivial
  clear ht
  go_enter Tryz.func7, Tryz.ntmps7
  go_wp2_with (go_at_call 10; refine CM.out.mono ?_; rintro e w1 ⟨ww, X, S1, G1, M1⟩; have he := M1.e; subst he; have P1 : Hid (PW w.heap.size w1 ww X 41 S1 [] 0 G1 (fun _ => none) (fun _ => 0) (fun _ => none) (fun _ => 0)) := M1.pw; have s1 : Hid (S1.set = false) := M1.set; have g1 : Hid (G1 = ⟨0, 0, 0, fun _ => zF⟩) := M1.G; have b1 : Hid (Below w.heap.size w w1) := M1.bel; clear M1)
  have P1d := P1.out.below ((Below.refl _ _).drew)
  have q1 := P1d.wb.c1
  have q2 := P1d.wb.c2
  have HD1 : Hid (Below w1.heap.size w1 w1.drew) := (Below.refl _ _).drew
  clear P1d
  go_region_held3 (fun W => W.cell? ⟨ww, 1, none⟩ = some (.pointer (some ⟨X.sb, 0, none⟩)) ∧ W.cell? ⟨ww, 2, none⟩ = some (.pointer (some ⟨X.l, 0, none⟩))) (first | exact ⟨keep1, keep2⟩ | exact ⟨q1, q2⟩ | go_keep) (first
    | (go_at_call 29; refine (CN.out _ _ _).mono ?_; rintro e w2 ⟨pq, rfl, b2⟩; have P2 : Hid (PW w.heap.size w2 ww X 41 S1 [] 0 G1 (fun _ => none) (fun _ => 0) (fun _ => none) (fun _ => 0)) := P1.out.below (thn HD1.out b2); have b3 : Hid (Below w.heap.size w w2) := b1.out.trans ((thn HD1.out b2).mono b1.out.size); have keep1 := P2.out.wb.c1; have keep2 := P2.out.wb.c2; clear b2))
  have k3 := P2.out.wb.c3
  have m1 : Hid True := trivial
  go_wp2_with (first
    | (go_at_call 29; have := m1; refine (CN1.out _ _).mono ?_; rintro e w3 ⟨rfl, rfl⟩; clear m1; have m2 : Hid True := trivial)
    | (go_at_call 29; have := m2; refine (CN2.out _ _).mono ?_; rintro e w4 ⟨rfl, rfl⟩)
    | (go_at_call 30; refine (CS.out _ _ _ _ _ P2.out s1.out).mono ?_; rintro e w5 ⟨rfl, O5⟩; have H5 : Hid (NsO w.heap.size _ w5 ww X) := O5; have k5 := O5.wb.c3; clear O5)
    | (go_at_call 26; refine H5.out.d.mono ?_; rintro e w6 ⟨rfl, rfl⟩)
    | (go_at_call 31; refine H5.out.g.mono ?_; rintro e w7 ⟨rfl, rfl⟩)
    | (go_at_call 9; refine (CA.out _).mono ?_; rintro e w9 ⟨rfl, b9⟩))
  go_ret
  exact ⟨by simp [hl, l1], (b3.out.trans H5.out.bel).trans (b9.mono (b3.out.trans H5.out.bel).size)⟩
theorem news10_walk (n : Int) (t : ByteArray) (hz : t.size ≤ 140737488351232) (l : Int) : Calls Tryz.prog 7 #[.int .i64 n, .string t, .int .i64 l] w fun e w' => e = .returned (.bool true) ∧ Below w.heap.size w w' := by
  by_cases ht : t.size = 224
  · by_cases hl : l < 1
    · by_cases h1 : n < 2
      · exact news_lo_arg n h1 t l ht hl
      · by_cases h2 : 64 < n
        · exact news_hi_arg n h2 t l ht hl
        · exact news_ok_arg n ⟨by omega, by omega⟩ t l ht hl
    · by_cases h1 : n < 2
      · exact news_lo_set n h1 t l ht (by omega)
      · by_cases h2 : 64 < n
        · exact news_hi_set n h2 t l ht (by omega)
        · exact news_ok_set n ⟨by omega, by omega⟩ t l ht (by omega)
  · by_cases h1 : n < 2
    · exact news_lo_form n h1 t l ht hz
    · by_cases h2 : 64 < n
      · exact news_hi_form n h2 t l ht hz
      · exact news_ok_form n ⟨by omega, by omega⟩ t l ht hz
end
end Go.Proofs.YtgodjnbbocnckaaGreat
