/- StoreWhole: behind any loss of power a page is read as it was written whole, or is told to be torn, or not there. -/
import Derived.Test.YtdgnfglghiecpaaWhoP
import Derived.Deep.RegionHeld3
namespace Go.Proofs.Ytdgnfglghiecpaa
open Go.RowKit Go.Maps Go.ChangeMaps
set_option linter.unusedVariables false
set_option linter.unusedSimpArgs false
set_option maxRecDepth 100000

variable {W w w' : World} {db sb k j : Nat} {f : Nat → Wr3}

structure WX (f : Nat → Wr3) (j : Nat) (W w : World) (db sb k : Nat) : Prop where
  ex : ∃ S, Sx W w db sb 3 k S ∧ AllR (RS f j) S
structure WD (f : Nat → Wr3) (j : Nat) (W w : World) (db sb k : Nat) : Prop where
  ex : ∃ S, Sx W w db sb 3 k S ∧ AllR (RS f j) S ∧ S.up = false
theorem WX.bel (h : WX f j W w db sb k) : Below W.heap.size W w := by obtain ⟨S, h, _⟩ := h.ex; exact h.bel
theorem WX.below (h : WX f j W w db sb k) (hb : Below w.heap.size w w') : WX f j W w' db sb k := by obtain ⟨S, h, q⟩ := h.ex; exact ⟨S, h.below hb, q⟩
theorem WX.drew (h : WX f j W w db sb k) : WX f j W w.drew db sb k := h.below ((Below.refl _ _).drew)
theorem WX.mono {k' : Nat} (h : WX f j W w db sb k) (hk : k ≤ k') : WX f j W w db sb k' := by obtain ⟨S, h, q⟩ := h.ex; exact ⟨S, h.mono hk, q⟩
theorem WX.write (h : WX f j W w db sb k) (hk : k ≤ 1000) (id : Int) (t : ByteArray) (l : Int) (hid : id = (f j).id) (ht : t = fillS (f j).c.toNat) (hl : l = (j : Int) + 1) : Calls Try.prog 15 #[.pointer (some ⟨sb, 0, none⟩), .int .i64 id, .string t, .int .i64 l] w fun e w' =>
    (∃ x, e = .returned (.int .i64 x)) ∧ WX f (j + 1) W w' db sb (k + 4) := by
  obtain ⟨S, h, q⟩ := h.ex
  subst hid ht hl
  refine (h.write (by omega) (f j).id (fillS (f j).c.toNat) (by rw [fillS_size]; omega) ((j : Int) + 1)).mono ?_
  rintro e w' ⟨he, hs⟩
  exact ⟨⟨_, he⟩, ⟨_, hs, RS.out q⟩⟩
theorem WX.sync (h : WX f j W w db sb k) (hk : k ≤ 1000) : Calls Try.prog 24 #[.pointer (some ⟨sb, 0, none⟩)] w fun e w' =>
    (∃ x, e = .returned (.int .i64 x)) ∧ WX f j W w' db sb (k + 1) := by
  obtain ⟨S, h, q⟩ := h.ex
  refine (h.sync (by omega)).mono ?_
  rintro e w' ⟨he, hs⟩
  exact ⟨⟨_, he⟩, ⟨_, hs, q.sync⟩⟩
theorem WX.crash (h : WX f j W w db sb k) (hk : k ≤ 1000) (x : Int) (x0 : 0 ≤ x) (x1 : x ≤ 18446744073709551615) : Calls Try.prog 25 #[.pointer (some ⟨db, 0, none⟩), .int .u64 x] w fun e w' =>
    (∃ x, e = .returned (.int .i64 x)) ∧ WD f j W w' db sb (k + 1) := by
  obtain ⟨S, h, q⟩ := h.ex
  refine (h.crash (by omega) x x0 x1).mono ?_
  rintro e w' ⟨he, hs⟩
  exact ⟨⟨_, he⟩, ⟨_, hs, q.crash x, crDk_up S x⟩⟩
theorem WD.calm (h : WD f j W w db sb k) : Calls Try.prog 26 #[.pointer (some ⟨db, 0, none⟩)] w fun e w' =>
    e = .returned (.tuple #[]) ∧ WD f j W w' db sb k := by
  obtain ⟨S, h, q, u⟩ := h.ex
  refine h.calm.mono ?_
  rintro e w' ⟨he, hs⟩
  exact ⟨he, ⟨_, hs, ⟨q.sure, q.wait⟩, u⟩⟩
/-- The power is on again: for each page, what is read. -/
structure WU (f : Nat → Wr3) (j : Nat) (W w : World) (db sb k : Nat) (S : Dk) : Prop where
  sx : Sx W w db sb 3 k S
  up : S.up = true
  all : AllR (RS f j) S
theorem WD.start (h : WD f j W w db sb k) : Calls Try.prog 27 #[.pointer (some ⟨db, 0, none⟩)] w fun e w' =>
    ∃ S, e = .returned (.int .i64 0) ∧ WU f j W w' db sb k S := by
  obtain ⟨S, h, q, u⟩ := h.ex
  have := h.start
  rw [u] at this
  refine this.mono ?_
  rintro e w' ⟨he, hs⟩
  exact ⟨_, he, hs, rfl, q.sure, q.wait⟩
theorem WU.read {S : Dk} (h : WU f j W w db sb k S) (p : Nat) (hp : p < 8) (v : ByteArray × Int × Int) (hv : rdV 3 (fun i => S.now (5 + 4 * p + i)) = v) : Calls Try.prog 19 #[.pointer (some ⟨sb, 0, none⟩), .int .i64 (p : Int)] w fun e w' =>
    e = .returned (.tuple #[.string v.1, .int .i64 v.2.1, .int .i64 v.2.2]) ∧ WU f j W w' db sb k S := by
  have := h.sx.read h.up (p : Int)
  have e : rdOut 5 8 3 S (p : Int) = v := by
    unfold rdOut
    rw [if_neg (by omega), Int.toNat_natCast]; exact hv
  rw [e] at this
  exact this.mono fun e w' ⟨he, hs⟩ => ⟨he, hs, h.up, h.all⟩
theorem WU.below {S : Dk} (h : WU f j W w db sb k S) (hb : Below w.heap.size w w') : WU f j W w' db sb k S := ⟨h.sx.below hb, h.up, h.all⟩
theorem WU.good {S : Dk} (h : WU f j W w db sb k S) (hj : j ≤ 30) (p : Nat) (hp : p < 8) :
    rdV 3 (fun i => S.now (5 + 4 * p + i)) = (⟨#[]⟩, 0, 8) ∨ rdV 3 (fun i => S.now (5 + 4 * p + i)) = (⟨#[]⟩, 0, 10) ∨ ∃ n, n < j ∧ (f n).id = (p : Int) ∧ rdV 3 (fun i => S.now (5 + 4 * p + i)) = (fillS (f n).c.toNat, (n : Int) + 1, 0) :=
  read_good hj (fun q hq => h.all.now (5 + 4 * p + q) p q hp hq rfl)
theorem whole_far (ao : Option Addr) (len cap : Nat) (a x : Int) (h : a < 0 ∨ 200 < a) (w : World) : Calls Try.prog 6 #[.slice ao len cap, .int .i64 a, .int .u64 x] w fun e w' => e = .returned (.bool true) ∧ Below w.heap.size w w' := by
  have CM : Hid (Calls Try.prog 14 #[.int .i64 3] w fun e w' =>
    ∃ sb, e = .returned (.tuple #[.pointer (some ⟨w.heap.size + 2, 0, none⟩), .pointer (some ⟨sb, 0, none⟩)]) ∧ Sx w w' (w.heap.size + 2) sb 3 0 (newDk 40)) := made_any 3 (by omega) (by omega) w
  obtain ⟨S0, hS0⟩ : ∃ S, S = newDk 40 := ⟨_, rfl⟩
  rw [← hS0] at CM
  clear hS0
  have hc : a < 0 ∨ (¬ a < 0 ∧ 200 < a) := by omega
  clear h
  rcases hc with h1 | ⟨h1, h2⟩
  all_goals
    go_enter Try.func6, Try.ntmps6
    go_wp2_with (first
      | (go_at_call 14; refine CM.out.mono ?_; rintro e w1 ⟨sb, rfl, h0⟩)
      | (go_at_call 9; refine (awake_any _).mono ?_; rintro e w8 ⟨rfl, b8⟩))
    go_ret
    exact ⟨rfl, h0.bel.trans (b8.mono h0.bel.size)⟩
set_option maxHeartbeats 4000000 in
theorem whole_in (ao : Option Addr) (len cap : Nat) (f : Nat → Wr3) (a x : Int) (a0 : ¬ a < 0) (a1 : ¬ 200 < a) (x0 : 0 ≤ x) (x1 : x ≤ 18446744073709551615) (w : World) (hw : IsWrs w ao len f) :
    Calls Try.prog 6 #[.slice ao len cap, .int .i64 a, .int .u64 x] w fun e w' => e = .returned (.bool true) ∧ Below w.heap.size w w' := by
  have CM : Hid (Calls Try.prog 14 #[.int .i64 3] w fun e w' =>
    ∃ sb, e = .returned (.tuple #[.pointer (some ⟨w.heap.size + 2, 0, none⟩), .pointer (some ⟨sb, 0, none⟩)]) ∧ Sx w w' (w.heap.size + 2) sb 3 0 (newDk 40)) := made_any 3 (by omega) (by omega) w
  obtain ⟨F, hF⟩ : ∃ F : Int → ByteArray, F = (fun x => fillS x.toNat) := ⟨_, rfl⟩
  have hFF : Hid (∀ n, fillS (f n).c.toNat = F (f n).c) := fun n => by rw [hF]
  have CF : Hid (∀ x w, 0 ≤ x → x ≤ 255 → Calls Try.prog 23 #[.int .u8 x] w fun e w' => e = .returned (.string (F x)) ∧ Below w.heap.size w w') := fun x w h0 h1 => by rw [hF]; exact fill_int x w h0 (by omega)
  obtain ⟨S0, hS0⟩ : ∃ S, S = newDk 40 := ⟨_, rfl⟩
  rw [← hS0] at CM
  have C1 : Hid (∀ w1 sb, Sx w w1 (w.heap.size + 2) sb 3 0 S0 → Calls Try.prog 22 #[.pointer (some ⟨w.heap.size + 2, 0, none⟩), .int .i64 a, .int .u64 x] w1 fun e w' => e = .returned (.int .i64 0) ∧ WX f 0 w w' (w.heap.size + 2) sb 0) := fun w1 sb h => by
    rw [hS0] at h
    have := h.arm a x (by omega) x0 x1
    have e1 : armE (newDk 40).up a = 0 := by simp [armE, newDk, a0]
    rw [e1] at this
    refine this.mono ?_
    rintro e w' ⟨he, hs⟩
    refine ⟨he, ⟨_, hs, ?_⟩⟩
    have q := RS.new f
    unfold armDk
    split
    · exact ⟨q.sure, q.wait⟩
    · exact q
  clear hF hS0
  go_enter Try.func6, Try.ntmps6
  go_wp2_with (first
    | (go_at_call 14; refine CM.out.mono ?_; rintro e w1 ⟨sb, rfl, h0⟩)
    | (go_at_call 22; refine (C1.out _ _ h0).mono ?_; clear h0; rintro e w2 ⟨rfl, hs⟩))
  go_loopw [9] (fun ix wr => ∃ (j : Nat), j ≤ len ∧ j ≤ 30 ∧ ix = .int .i64 j ∧ WX f j w wr (w.heap.size + 2) sb (5 * j)) (fun ix _ => 30 - (intOf ix).toNat)
  case atStart => exact ⟨0, by omega, by omega, rfl, hs⟩
  case round =>
    obtain ⟨j, hj1, hj2, rfl, hs⟩ := hrel
    by_cases hlt : j < len ∧ j < 30
    · obtain ⟨b, off, rfl, hbl, HC0⟩ := hw.on rfl hlt.1
      obtain ⟨hc0, hc1⟩ := hw.c j hlt.1
      have hfe := hFF.out j
      have hfi : ∃ fi, fi = (f j).id := ⟨_, rfl⟩
      have hfc : ∃ fc, fc = (f j).c := ⟨_, rfl⟩
      have hfs : ∃ fs, fs = (f j).sy := ⟨_, rfl⟩
      obtain ⟨fi, hfi⟩ := hfi
      obtain ⟨fc, hfc⟩ := hfc
      obtain ⟨fs, hfs⟩ := hfs
      rw [← hfi, ← hfc, ← hfs] at HC0
      rw [← hfc] at hc0 hc1
      have HI : Hid _ := hfi
      have HT : Hid (F fc = fillS (f j).c.toNat) := by rw [hfc]; exact hfe.symm
      have HC : Hid _ := HC0
      obtain ⟨q0, q1, q2⟩ := HC0 wr hs.bel
      clear HC0 hfi hfc hfs hfe
      have i1 : (j : Int) < (len : Int) := by omega
      have i2 : (j : Int) < 30 := by omega
      have hd := hs.drew
      have hkk : 5 * j ≤ 1000 := by omega
      have y1 : IntKind.i64.wrap ((j : Int) + 1) = (j : Int) + 1 := IntWalk.i64_in _ (by omega)
      have y3 : RowKit.wrap64 ((j : Int) + 1) = (j : Int) + 1 := (IntWalk.i64_left _).symm.trans y1
      clear hs
      go_wp2
      go_region_held3 (fun W => W.cell? ⟨b, off + j * 3, none⟩ = some (.int .i64 fi) ∧ W.cell? ⟨b, off + j * 3 + 1, none⟩ = some (.int .u8 fc)) (first | exact ⟨(HC.out _ hd.bel).1, (HC.out _ hd.bel).2.1⟩ | go_keep) (first
        | (go_at_call 23; refine (CF.out _ _ ?_ ?_).mono ?_; exact hc0; exact hc1; rintro e wA ⟨rfl, bA⟩; have hn := hd.below bA; clear hd bA; have hd := hn; clear hn)
        | (go_at_call 15; refine (hd.write ?_ _ _ _ ?_ ?_ ?_).mono ?_; exact hkk; exact HI.out; exact HT.out; (first | exact y1 | exact y3 | rfl); clear hd; rintro e wB ⟨⟨xx, rfl⟩, hd⟩))
      have r2 := (HC.out _ hd.bel).2.2
      clear q0 q1 q2
      cases fs
      · go_wp2
        go_roundw
        case rel => exact ⟨j + 1, by omega, by omega, by go_num, hd.mono (by omega)⟩
        case measure => simp [intOf]; omega
      · go_wp2_with (go_at_call 24; refine (hd.sync (by omega)).mono ?_; clear hd; rintro e wC ⟨⟨xx, rfl⟩, hd⟩)
        go_roundw
        case rel => exact ⟨j + 1, by omega, by omega, by go_num, hd.mono (by omega)⟩
        case measure => simp [intOf]; omega
    · by_cases h1 : (j : Int) < (len : Int)
      · have h2 : ¬ (j : Int) < 30 := by omega
        clear hlt
        go_wp2_with (first
          | (go_at_call 25; refine (hs.crash (by omega) x x0 x1).mono ?_; clear hs; rintro e w4 ⟨⟨xx, rfl⟩, h4⟩)
          | (go_at_call 26; refine h4.calm.mono ?_; clear h4; rintro e w5 ⟨rfl, h5⟩)
          | (go_at_call 27; refine h5.start.mono ?_; clear h5; rintro e w6 ⟨S, rfl, hu⟩))
        go_loopw [10] (fun ix wr => ∃ (p : Nat), p ≤ 8 ∧ ix = .int .i64 p ∧ WU f j w wr (w.heap.size + 2) sb (5 * j + 1) S) (fun ix _ => 8 - (intOf ix).toNat)
        case atStart => exact ⟨0, by omega, rfl, hu⟩
        case round =>
          obtain ⟨p, hp, rfl, hu⟩ := hrel
          by_cases hpl : p < 8
          · have ip : (p : Int) < 8 := by omega
            rcases hu.good hj2 p hpl with hv | hv | ⟨m, hm1, hm2, hv⟩
            · go_wp2_with (go_at_call 19; refine (hu.read p hpl _ hv).mono ?_; clear hu; rintro e w7 ⟨rfl, hu⟩)
              go_roundw
              case rel => exact ⟨p + 1, by omega, by go_num, hu⟩
              case measure => simp [intOf]; omega
            · go_wp2_with (go_at_call 19; refine (hu.read p hpl _ hv).mono ?_; clear hu; rintro e w7 ⟨rfl, hu⟩)
              go_roundw
              case rel => exact ⟨p + 1, by omega, by go_num, hu⟩
              case measure => simp [intOf]; omega
            · obtain ⟨b, off, rfl, hbl, HC0⟩ := hw.on rfl (show m < len by omega)
              obtain ⟨hc0, hc1⟩ := hw.c m (by omega)
              rw [hFF.out m] at hv
              rw [hm2] at HC0
              generalize (f m).c = fc at *
              generalize (f m).sy = fs at *
              have HC : Hid _ := HC0
              clear HC0
              have m1 : ¬ (m : Int) + 1 < 1 := by omega
              have m2 : ¬ (len : Int) < (m : Int) + 1 := by omega
              have m3 : ¬ 30 < (m : Int) + 1 := by omega
              have m4 : (m : Int) < (len : Int) := by omega
              go_wp2_with (first
                | (go_at_call 19; refine (hu.read p hpl _ hv).mono ?_; clear hu; rintro e w7 ⟨rfl, hu⟩; obtain ⟨r0, r1, r2⟩ := HC.out _ hu.sx.bel)
                | (go_at_call 23; refine (CF.out _ _ hc0 hc1).mono ?_; rintro e w9 ⟨rfl, b9⟩))
              go_roundw
              case rel => exact ⟨p + 1, by omega, by go_num, hu.below b9⟩
              case measure => simp [intOf]; omega
          · have ip : ¬ (p : Int) < 8 := by omega
            go_wp2_with (go_at_call 9; refine (awake_any _).mono ?_; rintro e w8 ⟨rfl, b8⟩)
            go_ret
            exact ⟨rfl, hu.sx.bel.trans (b8.mono hu.sx.bel.size)⟩
      · clear hlt
        go_wp2_with (first
          | (go_at_call 25; refine (hs.crash (by omega) x x0 x1).mono ?_; clear hs; rintro e w4 ⟨⟨xx, rfl⟩, h4⟩)
          | (go_at_call 26; refine h4.calm.mono ?_; clear h4; rintro e w5 ⟨rfl, h5⟩)
          | (go_at_call 27; refine h5.start.mono ?_; clear h5; rintro e w6 ⟨S, rfl, hu⟩))
        go_loopw [10] (fun ix wr => ∃ (p : Nat), p ≤ 8 ∧ ix = .int .i64 p ∧ WU f j w wr (w.heap.size + 2) sb (5 * j + 1) S) (fun ix _ => 8 - (intOf ix).toNat)
        case atStart => exact ⟨0, by omega, rfl, hu⟩
        case round =>
          obtain ⟨p, hp, rfl, hu⟩ := hrel
          by_cases hpl : p < 8
          · have ip : (p : Int) < 8 := by omega
            rcases hu.good hj2 p hpl with hv | hv | ⟨m, hm1, hm2, hv⟩
            · go_wp2_with (go_at_call 19; refine (hu.read p hpl _ hv).mono ?_; clear hu; rintro e w7 ⟨rfl, hu⟩)
              go_roundw
              case rel => exact ⟨p + 1, by omega, by go_num, hu⟩
              case measure => simp [intOf]; omega
            · go_wp2_with (go_at_call 19; refine (hu.read p hpl _ hv).mono ?_; clear hu; rintro e w7 ⟨rfl, hu⟩)
              go_roundw
              case rel => exact ⟨p + 1, by omega, by go_num, hu⟩
              case measure => simp [intOf]; omega
            · obtain ⟨b, off, rfl, hbl, HC0⟩ := hw.on rfl (show m < len by omega)
              obtain ⟨hc0, hc1⟩ := hw.c m (by omega)
              rw [hFF.out m] at hv
              rw [hm2] at HC0
              generalize (f m).c = fc at *
              generalize (f m).sy = fs at *
              have HC : Hid _ := HC0
              clear HC0
              have m1 : ¬ (m : Int) + 1 < 1 := by omega
              have m2 : ¬ (len : Int) < (m : Int) + 1 := by omega
              have m3 : ¬ 30 < (m : Int) + 1 := by omega
              have m4 : (m : Int) < (len : Int) := by omega
              go_wp2_with (first
                | (go_at_call 19; refine (hu.read p hpl _ hv).mono ?_; clear hu; rintro e w7 ⟨rfl, hu⟩; obtain ⟨r0, r1, r2⟩ := HC.out _ hu.sx.bel)
                | (go_at_call 23; refine (CF.out _ _ hc0 hc1).mono ?_; rintro e w9 ⟨rfl, b9⟩))
              go_roundw
              case rel => exact ⟨p + 1, by omega, by go_num, hu.below b9⟩
              case measure => simp [intOf]; omega
          · have ip : ¬ (p : Int) < 8 := by omega
            go_wp2_with (go_at_call 9; refine (awake_any _).mono ?_; rintro e w8 ⟨rfl, b8⟩)
            go_ret
            exact ⟨rfl, hu.sx.bel.trans (b8.mono hu.sx.bel.size)⟩
theorem whole_walk (ao : Option Addr) (len cap : Nat) (f : Nat → Wr3) (a x : Int) (x0 : 0 ≤ x) (x1 : x ≤ 18446744073709551615) (w : World) (hw : IsWrs w ao len f) :
    Calls Try.prog 6 #[.slice ao len cap, .int .i64 a, .int .u64 x] w fun e w' => e = .returned (.bool true) ∧ Below w.heap.size w w' := by
  by_cases h : a < 0 ∨ 200 < a
  · exact whole_far ao len cap a x h w
  · exact whole_in ao len cap f a x (by omega) (by omega) x0 x1 w hw
end Go.Proofs.Ytdgnfglghiecpaa
