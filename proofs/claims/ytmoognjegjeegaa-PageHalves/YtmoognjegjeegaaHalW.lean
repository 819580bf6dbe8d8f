/- The walk of PageHalves. -/
import Derived.Test.YtmoognjegjeegaaLCe3
import Derived.Test.YtmoognjegjeegaaLPk
import Derived.Test.YtmoognjegjeegaaHvs
namespace Go.Proofs.Ytmoognjegjeegaa
open Go.RowKit
set_option linter.unusedVariables false
set_option linter.unusedSimpArgs false
set_option maxRecDepth 100000

def capV : Value → Nat
  | .slice _ _ c => c
  | _ => 0
theorem halves_wrong (w : World) (p : ByteArray) (hz : p.size ≤ 140737488351232) (h : ¬ Right (bts p)) : Calls Try.prog 7 #[.string p] w fun e w' => e = .returned (.bool true) ∧ Below w.heap.size w w' := by
  have C0 : Hid (∀ w, Calls Try.prog 9 #[.string p] w fun e w' => ∃ v, e = .returned (.tuple #[v, .bool false]) ∧ Below w.heap.size w w') := fun w => lcells_wrong w p h
  have C1 : Hid (∀ w, Calls Try.prog 32 #[.string p] w fun e w' => e = .returned (.tuple #[.string ⟨#[]⟩, .string ⟨#[]⟩, .string ⟨#[]⟩, .int .i64 4]) ∧ Below w.heap.size w w') := fun w => Halves_form w p hz (fun t => h t.right)
  have C9 : Hid (∀ w, Calls Try.prog 18 #[] w fun e w' => e = .returned (.bool true) ∧ Below w.heap.size w w') := fun w => awake_any w
  clear h hz
  have hEE : ((⟨#[]⟩ : ByteArray) ++ (⟨#[]⟩ : ByteArray)) = ⟨#[]⟩ := rfl
  go_enter Try.func7, Try.ntmps7
  go_wp2_with (first | (go_at_call 32; refine (C1.out _).mono ?_; rintro e w1 ⟨rfl, hb1⟩) | (go_at_call 9; refine (C0.out _).mono ?_; rintro e w2 ⟨v, rfl, hb2⟩) | (go_at_call 18; refine (C9.out _).mono ?_; rintro e w3 ⟨rfl, hb3⟩))
  go_ret
  exact ⟨rfl, thn (thn hb1 hb2) hb3⟩
theorem halves_free (w : World) (p : ByteArray) (h : Right (bts p)) (hk : g (bts p) 0 = 0) : Calls Try.prog 7 #[.string p] w fun e w' => e = .returned (.bool true) ∧ Below w.heap.size w w' := by
  have hp := h.size
  have i0 := fun q => idx_g p 0 q
  have C0 : Hid (∀ w, Calls Try.prog 9 #[.string p] w fun e w' => ∃ a cap, e = .returned (.tuple #[.slice a (cnt (bts p)) cap, .bool true]) ∧ Sl w' a cap (cells (bts p)) ∧ Below w.heap.size w w') := fun w => lcells_right w p h
  have C1 : Hid (∀ w, Calls Try.prog 32 #[.string p] w fun e w' => e = .returned (.tuple #[.string ⟨#[]⟩, .string ⟨#[]⟩, .string ⟨#[]⟩, .int .i64 4]) ∧ Below w.heap.size w w') := fun w => Halves_form w p (by omega) (fun t => t.kind hk)
  have C9 : Hid (∀ w, Calls Try.prog 18 #[] w fun e w' => e = .returned (.bool true) ∧ Below w.heap.size w w') := fun w => awake_any w
  rw [hk] at i0
  clear h hk
  generalize bts p = s at *
  have hEE : ((⟨#[]⟩ : ByteArray) ++ (⟨#[]⟩ : ByteArray)) = ⟨#[]⟩ := rfl
  go_enter Try.func7, Try.ntmps7
  go_wp2_with (first | (go_at_call 32; refine (C1.out _).mono ?_; rintro e w1 ⟨rfl, hb1⟩) | (go_at_call 9; refine (C0.out _).mono ?_; rintro e w2 ⟨a2, cap2, rfl, hL2, hb2⟩) | (go_at_call 18; refine (C9.out _).mono ?_; rintro e w3 ⟨rfl, hb3⟩))
  go_ret
  exact ⟨rfl, thn (thn hb1 hb2) hb3⟩
theorem halves_short (w : World) (p : ByteArray) (h : Right (bts p)) (hk : g (bts p) 0 ≠ 0) (hn : cnt (bts p) < 2) : Calls Try.prog 7 #[.string p] w fun e w' => e = .returned (.bool true) ∧ Below w.heap.size w w' := by
  have hp := h.size
  have i0 := fun q => idx_g p 0 q
  have b0 := g_lt (bts p) 0
  have C0 : Hid (∀ w, Calls Try.prog 9 #[.string p] w fun e w' => ∃ a cap, e = .returned (.tuple #[.slice a (cnt (bts p)) cap, .bool true]) ∧ Sl w' a cap (cells (bts p)) ∧ Below w.heap.size w w') := fun w => lcells_right w p h
  have C1 : Hid (∀ w, Calls Try.prog 32 #[.string p] w fun e w' => e = .returned (.tuple #[.string ⟨#[]⟩, .string ⟨#[]⟩, .string ⟨#[]⟩, .int .i64 2]) ∧ Below w.heap.size w w') := fun w => Halves_short w p ⟨h, hk⟩ hn
  have C9 : Hid (∀ w, Calls Try.prog 18 #[] w fun e w' => e = .returned (.bool true) ∧ Below w.heap.size w w') := fun w => awake_any w
  have hk' : ((g (bts p) 0 : Int) == 0) = false := by simp; omega
  have hnI : (cnt (bts p) : Int) < 2 := by omega
  clear h hk
  generalize bts p = s at *
  generalize g s 0 = k0 at *
  have hEE : ((⟨#[]⟩ : ByteArray) ++ (⟨#[]⟩ : ByteArray)) = ⟨#[]⟩ := rfl
  go_enter Try.func7, Try.ntmps7
  go_wp2_with (first | (go_at_call 32; refine (C1.out _).mono ?_; rintro e w1 ⟨rfl, hb1⟩) | (go_at_call 9; refine (C0.out _).mono ?_; rintro e w2 ⟨a2, cap2, rfl, hL2, hb2⟩) | (go_at_call 18; refine (C9.out _).mono ?_; rintro e w3 ⟨rfl, hb3⟩))
  go_ret
  exact ⟨rfl, thn (thn hb1 hb2) hb3⟩
set_option maxHeartbeats 2000000 in
theorem halves_right (w : World) (p : ByteArray) (h : Right (bts p)) (hk : g (bts p) 0 ≠ 0) (hn : 2 ≤ cnt (bts p)) : Calls Try.prog 7 #[.string p] w fun e w' => e = .returned (.bool true) ∧ Below w.heap.size w w' := by
  have hp := h.size
  obtain ⟨k0, hk0⟩ : ∃ k, k = g (bts p) 0 := ⟨_, rfl⟩
  obtain ⟨l0, hl0⟩ : ∃ k, k = g (bts p) 1 := ⟨_, rfl⟩
  obtain ⟨L, hLd⟩ : ∃ L, L = cells (bts p) := ⟨_, rfl⟩
  have i0 : ∀ q, (p[0]'q).toNat = k0 := fun q => by rw [hk0]; exact idx_g p 0 q
  have i1 : ∀ q, (p[1]'q).toNat = l0 := fun q => by rw [hl0]; exact idx_g p 1 q
  have b0 : k0 < 256 := by rw [hk0]; exact g_lt _ _
  have b1 : l0 < 256 := by rw [hl0]; exact g_lt _ _
  have hcl : cnt (bts p) = L.length := by rw [hLd, cells_length]
  have hmax := h.head.slotlt
  rw [hcl] at hn hmax
  obtain ⟨n, hH⟩ := isH_ex (L := L) hn
  have hnl := hH.lt
  have hn1 := hH.one
  have hsm : Small L := by rw [hLd]; exact h.small
  have hpk : CanPack k0 l0 L := by rw [hk0, hl0, hLd]; exact h.canPack
  have hpos := needs_pos (L := L) hn
  have hfit : needs L ≤ 220 := by rw [hLd]; exact h.fit
  have C0 : Hid (∀ w, Calls Try.prog 9 #[.string p] w fun e w' => ∃ a cap, e = .returned (.tuple #[.slice a L.length cap, .bool true]) ∧ Sl w' a cap L ∧ Below w.heap.size w w') := fun w => by
    have := lcells_right w p h
    rw [hcl, ← hLd] at this; exact this
  have C1 : Hid (∀ w, Calls Try.prog 32 #[.string p] w fun e w' => e = .returned (.tuple #[.string (tx (packS k0 l0 (L.take n))), .string (tx (packS k0 l0 (L.drop n))), .string (L[n]'hnl).k, .int .i64 0]) ∧ Below w.heap.size w w') := fun w => by
    have hkey : key (bts p) n = (L[n]'hnl).k := by
      have hl' : n < (cells (bts p)).length := by rw [← hLd]; exact hnl
      have : (L[n]'hnl) = (cells (bts p))[n]'hl' := by simp only [hLd]
      rw [this, cells_get']; rfl
    have := Halves_ok w p ⟨h, hk⟩ (by rw [hcl]; exact hn) n (by rw [← hLd]; exact hH)
    rw [hkey, ← hk0, ← hl0, ← hLd] at this
    exact this
  have C9 : Hid (∀ w, Calls Try.prog 18 #[] w fun e w' => e = .returned (.bool true) ∧ Below w.heap.size w w') := fun w => awake_any w
  have CM : Hid (∀ w a cap, Cs w a L → Calls Try.prog 20 #[.slice a L.length cap] w fun e w' => e = .returned (.int .i64 (220 - (needs L : Int))) ∧ Below w.heap.size w w') := fun w a cap hc => lroom_any w cap hc hsm
  have CN : Hid (∀ i (hi : i < L.length) w, Calls Try.prog 28 #[.agg #[.string L[i].k, .string L[i].v]] w fun e w' => e = .returned (.int .i64 (need L[i])) ∧ Below w.heap.size w w') := (fun i hi w => lneed_any w _ (by have := hsm.k _ (List.getElem_mem hi); omega) (by have := hsm.v _ (List.getElem_mem hi); omega) : ∀ i (hi : i < L.length) w, Calls Try.prog 28 #[.agg #[.string L[i].k, .string L[i].v]] w fun e w' => e = .returned (.int .i64 (need L[i])) ∧ Below w.heap.size w w')
  have lt1 : (L.take n).length = n := by rw [List.length_take]; omega
  have lt2 : (L.drop n).length = L.length - n := by rw [List.length_drop]
  have e1 := packS_lyt _ (hpk.take n)
  have e2 := packS_lyt _ (hpk.drop n)
  have CP1 : Hid (∀ w a cap, Cs w a (L.take n) → Calls Try.prog 26 #[.int .i64 (k0 : Int), .int .i64 (l0 : Int), .slice a n cap] w fun e w' => e = .returned (.string (tx (packS k0 l0 (L.take n)))) ∧ Below w.heap.size w w') := fun w a cap hc => by
    have := lpacked_any w _ _ b0 b1 cap hc (hpk.take n).small (hpk.take n).fit
    rw [lt1, ← e1] at this; exact this
  have CP2 : Hid (∀ w a cap, Cs w a (L.drop n) → Calls Try.prog 26 #[.int .i64 (k0 : Int), .int .i64 (l0 : Int), .slice a (L.length - n) cap] w fun e w' => e = .returned (.string (tx (packS k0 l0 (L.drop n)))) ∧ Below w.heap.size w w') := fun w a cap hc => by
    have := lpacked_any w _ _ b0 b1 cap hc (hpk.drop n).small (hpk.drop n).fit
    rw [lt2, ← e2] at this; exact this
  have hk' : ((k0 : Int) == 0) = false := by simp; omega
  have hnI : ¬ (L.length : Int) < 2 := by omega
  have hpos0 : 0 < L.length := Nat.lt_of_lt_of_le (by decide) hn
  have hn0 : need (L[0]'hpos0) = needs (L.take 1) := by
    have := needs_take_succ (L := L) (i := 0) hpos0
    simp only [List.take_zero, needs, Nat.zero_add] at this
    exact this.symm
  have C00 : Hid _ := CN.out 0 hpos0
  rw [hn0] at C00
  have hle1 := hsm.nle 1
  have HNL : Hid _ := hsm.nle
  have HH : Hid _ := hH
  clear h hk hpk lt1 lt2 e1 e2 hn0 hk0 hl0 hLd hcl hH
  generalize tx (packS k0 l0 (L.take n)) = PA at *
  generalize tx (packS k0 l0 (L.drop n)) = PB at *
  have ha : (PA.toList == PA.toList) = true := by simp
  have hb : (PB.toList == PB.toList) = true := by simp
  go_enter Try.func7, Try.ntmps7
  go_wp2_with (first | (go_at_call 32; refine (C1.out _).mono ?_; rintro e w1 ⟨rfl, hb1⟩) | (go_at_call 9; refine (C0.out _).mono ?_; rintro e w2 ⟨a2, cap2, rfl, hL2, hb2⟩) | (go_at_call 20; refine (CM.out _ _ _ hL2.cs).mono ?_; rintro e w3 ⟨rfl, hb3⟩; have hL3 := hL2.below hb3; obtain ⟨b, off, hba, hbl, q0, q1⟩ := hL3.cs.at_ 0 hpos0; rw [Nat.zero_mul, Nat.add_zero] at q0 q1; subst hba) | (go_at_call 28; refine (C00.out _).mono ?_; rintro e w4 ⟨rfl, hb4⟩))
  have hL4 := hL3.below hb4
  have z4 : Below w.heap.size w w4 := thn (thn (thn hb1 hb2) hb3) hb4
  have e220 : (220 : Int) - (220 - (needs L : Int)) = (needs L : Int) := by omega
  rw [e220]
  clear e220
  go_loopw [10, 11] (fun s10 s11 wr => ∃ m : Nat, s10 = .int .i64 (m : Int) ∧ s11 = .int .i64 (needs (L.take m) : Nat) ∧ 1 ≤ m ∧ m < L.length ∧ Hid (∀ j, 1 ≤ j → j < m → 2 * needs (L.take (j + 1)) ≤ needs L) ∧ Below w4.heap.size w4 wr) (fun s10 _ _ => L.length - (intOf s10).toNat)
  case atStart => exact ⟨1, rfl, rfl, by omega, by omega, (fun j h1 h2 => by omega : ∀ j, 1 ≤ j → j < 1 → 2 * needs (L.take (j + 1)) ≤ needs L), Below.refl _ _⟩
  case round =>
    obtain ⟨m, rfl, rfl, hm1, hm2, hun, hbel⟩ := hrel
    have hnm := HNL.out m
    have hnm1 := HNL.out (m + 1)
    have hst := needs_take_succ (L := L) (i := m) hm2
    by_cases hlt : m < L.length - 1
    · have hltI : (m : Int) < (L.length : Int) - 1 := by omega
      have CT : Hid _ := CN.out m hm2
      obtain ⟨bm, offm, hbm, hblm, p0, p1⟩ := hL4.cs.at_ m hm2
      cases hbm
      have d0 := (hbel.cell (by exact hblm)).trans p0
      have d1 := (hbel.cell (by exact hblm)).trans p1
      obtain ⟨x1, hx1⟩ : ∃ x, x = needs (L.take m) := ⟨_, rfl⟩
      obtain ⟨x2, hx2⟩ : ∃ x, x = needs (L.take (m + 1)) := ⟨_, rfl⟩
      obtain ⟨nd, hnd⟩ : ∃ x, x = need (L[m]'hm2) := ⟨_, rfl⟩
      rw [← hx1, ← hx2, ← hnd] at hst
      rw [← hx1] at hnm ⊢
      rw [← hx2] at hnm1
      rw [← hnd] at CT
      have HX2 : Hid _ := hx2
      have HST : Hid _ := hst
      have hx1b : x1 ≤ 100000 := by omega
      have hndb : nd ≤ 100000 := by omega
      clear hx1 hx2 hnd hst hnm hnm1
      by_cases ho : needs L < 2 * x2
      · have hoI : ¬ 2 * ((x1 : Int) + (nd : Int)) ≤ (needs L : Int) := by have := HST.out; omega
        have hE : Hid (m = n) := (by
          have : IsH L m := ⟨hm1, hm2, by rw [← HX2.out]; exact ho, fun j h1 h2 => hun.out j h1 h2⟩
          exact this.unique HH.out : m = n)
        generalize L[m] = c at *
        go_wp2_with (go_at_call 28; refine (CT.out _).mono ?_; rintro e w5 ⟨rfl, hb5⟩)
        have ZZ := thn hbel hb5
        go_quiet (fail)
        have hLx := hL4.below ZZ
        have hmn := hE.out
        rw [hmn]
        obtain ⟨s1, t1⟩ := hLx.to n (Nat.le_of_lt hnl)
        obtain ⟨a8, s2, t2⟩ := hLx.from n (n : Int) rfl (Nat.le_of_lt hnl)
        obtain ⟨bn, offn, hbn, hbln, r0, r1⟩ := hLx.cs.at_ n hnl
        cases hbn
        have T1 : Hid _ := t1
        have T2 : Hid _ := t2
        have hkk : ((L[n]'hnl).k.toList == (L[n]'hnl).k.toList) = true := by simp
        clear t1 t2 hmn hE r1
        have hcapn : (n : Int) ≤ (cap2 : Int) := by have := hL4.room; omega
        have hcapN : n ≤ cap2 := by omega
        obtain ⟨Z, hZ⟩ : ∃ Z : Value → ByteArray, Z = fun v => if capV v = cap2 then PA else PB := ⟨_, rfl⟩
        have hZ1 : Z (.slice (some ⟨b, off, none⟩) n cap2) = PA := by rw [hZ]; simp [capV]
        have hZ2 : Z (.slice a8 (L.length - n) (cap2 - n)) = PB := by
          have e : capV (.slice a8 (L.length - n) (cap2 - n)) ≠ cap2 := by
            show cap2 - n ≠ cap2
            omega
          rw [hZ]; simp only [e, if_false]
        have CP : Hid (∀ w v, (v = .slice (some ⟨b, off, none⟩) n cap2 ∨ v = .slice a8 (L.length - n) (cap2 - n)) → Cs w (some ⟨b, off, none⟩) (L.take n) → Cs w a8 (L.drop n) → Calls Try.prog 26 #[.int .i64 (k0 : Int), .int .i64 (l0 : Int), v] w fun e w' => e = .returned (.string (Z v)) ∧ Below w.heap.size w w') := (fun w v hv h1 h2 => by
          rcases hv with rfl | rfl
          · rw [hZ1]; exact CP1.out _ _ _ h1
          · rw [hZ2]; exact CP2.out _ _ _ h2 : ∀ w v, (v = .slice (some ⟨b, off, none⟩) n cap2 ∨ v = .slice a8 (L.length - n) (cap2 - n)) → Cs w (some ⟨b, off, none⟩) (L.take n) → Cs w a8 (L.drop n) → Calls Try.prog 26 #[.int .i64 (k0 : Int), .int .i64 (l0 : Int), v] w fun e w' => e = .returned (.string (Z v)) ∧ Below w.heap.size w w')
        clear CP1 CP2 hZ
        go_wp2_with (first | (go_at_call 26; refine (CP.out _ _ ?_ ?_ ?_).mono ?_; (first | exact Or.inl rfl | exact Or.inr rfl); (first | exact U1 | exact T1.out.cs.drewN _); (first | exact U2 | exact T2.out.cs.drewN _); rintro e w8 ⟨rfl, hb8⟩; first | (have := U1; have hb9 := hb8; have hr := (hb9.cell (by exact Nat.lt_of_lt_of_le hbln hb7.size)).trans ((hb7.cell (by exact hbln)).trans r0)) | (have hb7 := hb8; have U1 := (T1.out.cs.drewN _).below hb7; have U2 := (T2.out.cs.drewN _).below hb7)) | (go_at_call 18; refine (C9.out _).mono ?_; rintro e w10 ⟨rfl, hb10⟩))
        go_ret
        exact ⟨rfl, thn (thn (thn (below_drewN (thn z4 ZZ) _) hb7) hb9) hb10⟩
      · have hoI : 2 * ((x1 : Int) + (nd : Int)) ≤ (needs L : Int) := by have := HST.out; omega
        have hun2 : Hid (∀ j, 1 ≤ j → j < m + 1 → 2 * needs (L.take (j + 1)) ≤ needs L) := (fun j h1 h2 => by
          by_cases e : j = m
          · subst e; rw [← HX2.out]; omega
          · exact hun.out j h1 (by omega) : ∀ j, 1 ≤ j → j < m + 1 → 2 * needs (L.take (j + 1)) ≤ needs L)
        have PX : Hid (∀ W, Below w4.heap.size w4 W → W.cell? ⟨b, off + m * 2, none⟩ = some (.string (L[m]'hm2).k) ∧ W.cell? ⟨b, off + m * 2 + 1, none⟩ = some (.string (L[m]'hm2).v)) := (fun W hW => ⟨(hW.cell (by exact hblm)).trans p0, (hW.cell (by exact hblm)).trans p1⟩ : ∀ W, Below w4.heap.size w4 W → W.cell? ⟨b, off + m * 2, none⟩ = some (.string (L[m]'hm2).k) ∧ W.cell? ⟨b, off + m * 2 + 1, none⟩ = some (.string (L[m]'hm2).v))
        clear p0 p1
        generalize L[m] = c at *
        go_wp2_with (go_at_call 28; refine (CT.out _).mono ?_; rintro e w5 ⟨rfl, hb5⟩; first | (have := z5; have z6 := thn z5 hb5) | (have z5 := thn hbel hb5; obtain ⟨d0, d1⟩ := PX.out _ z5))
        exact ⟨⟨m + 1, by go_num, by rw [← HX2.out]; exact congrArg (Value.int .i64) (by have := HST.out; omega), by omega, by omega, hun2, z6⟩, by simp [intOf]; omega⟩
    · have hltI : ¬ (m : Int) < (L.length : Int) - 1 := by omega
      have hE : Hid (m = n) := (by
        have hme : m = L.length - 1 := by omega
        have : IsH L m := ⟨hm1, hm2, by rw [hme, show L.length - 1 + 1 = L.length by omega, List.take_length]; omega, fun j h1 h2 => hun.out j h1 h2⟩
        exact this.unique HH.out : m = n)
      go_wp2
      have ZZ := hbel
      go_quiet (fail)
      have hLx := hL4.below ZZ
      have hmn := hE.out
      rw [hmn]
      obtain ⟨s1, t1⟩ := hLx.to n (Nat.le_of_lt hnl)
      obtain ⟨a8, s2, t2⟩ := hLx.from n (n : Int) rfl (Nat.le_of_lt hnl)
      obtain ⟨bn, offn, hbn, hbln, r0, r1⟩ := hLx.cs.at_ n hnl
      cases hbn
      have T1 : Hid _ := t1
      have T2 : Hid _ := t2
      have hkk : ((L[n]'hnl).k.toList == (L[n]'hnl).k.toList) = true := by simp
      clear t1 t2 hmn hE r1
      have hcapn : (n : Int) ≤ (cap2 : Int) := by have := hL4.room; omega
      have hcapN : n ≤ cap2 := by omega
      obtain ⟨Z, hZ⟩ : ∃ Z : Value → ByteArray, Z = fun v => if capV v = cap2 then PA else PB := ⟨_, rfl⟩
      have hZ1 : Z (.slice (some ⟨b, off, none⟩) n cap2) = PA := by rw [hZ]; simp [capV]
      have hZ2 : Z (.slice a8 (L.length - n) (cap2 - n)) = PB := by
        have e : capV (.slice a8 (L.length - n) (cap2 - n)) ≠ cap2 := by
          show cap2 - n ≠ cap2
          omega
        rw [hZ]; simp only [e, if_false]
      have CP : Hid (∀ w v, (v = .slice (some ⟨b, off, none⟩) n cap2 ∨ v = .slice a8 (L.length - n) (cap2 - n)) → Cs w (some ⟨b, off, none⟩) (L.take n) → Cs w a8 (L.drop n) → Calls Try.prog 26 #[.int .i64 (k0 : Int), .int .i64 (l0 : Int), v] w fun e w' => e = .returned (.string (Z v)) ∧ Below w.heap.size w w') := (fun w v hv h1 h2 => by
        rcases hv with rfl | rfl
        · rw [hZ1]; exact CP1.out _ _ _ h1
        · rw [hZ2]; exact CP2.out _ _ _ h2 : ∀ w v, (v = .slice (some ⟨b, off, none⟩) n cap2 ∨ v = .slice a8 (L.length - n) (cap2 - n)) → Cs w (some ⟨b, off, none⟩) (L.take n) → Cs w a8 (L.drop n) → Calls Try.prog 26 #[.int .i64 (k0 : Int), .int .i64 (l0 : Int), v] w fun e w' => e = .returned (.string (Z v)) ∧ Below w.heap.size w w')
      clear CP1 CP2 hZ
      go_wp2_with (first | (go_at_call 26; refine (CP.out _ _ ?_ ?_ ?_).mono ?_; (first | exact Or.inl rfl | exact Or.inr rfl); (first | exact U1 | exact T1.out.cs.drewN _); (first | exact U2 | exact T2.out.cs.drewN _); rintro e w8 ⟨rfl, hb8⟩; first | (have := U1; have hb9 := hb8; have hr := (hb9.cell (by exact Nat.lt_of_lt_of_le hbln hb7.size)).trans ((hb7.cell (by exact hbln)).trans r0)) | (have hb7 := hb8; have U1 := (T1.out.cs.drewN _).below hb7; have U2 := (T2.out.cs.drewN _).below hb7)) | (go_at_call 18; refine (C9.out _).mono ?_; rintro e w10 ⟨rfl, hb10⟩))
      go_ret
      exact ⟨rfl, thn (thn (thn (below_drewN (thn z4 ZZ) _) hb7) hb9) hb10⟩
theorem halves_walk (w : World) (p : ByteArray) (hz : p.size ≤ 140737488351232) : Calls Try.prog 7 #[.string p] w fun e w' => e = .returned (.bool true) ∧ Below w.heap.size w w' := by
  by_cases h : Right (bts p)
  · by_cases hk : g (bts p) 0 = 0
    · exact halves_free w p h hk
    · by_cases hn : cnt (bts p) < 2
      · exact halves_short w p h hk hn
      · exact halves_right w p h hk (by omega)
  · exact halves_wrong w p hz h
end Go.Proofs.Ytmoognjegjeegaa
