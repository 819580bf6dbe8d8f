/- The law's own reading of bytes as a page: cells, where the head is right (way B). -/
import Derived.Test.YtmoognjegjeegaaLCe2
import Derived.BigRegion
namespace Go.Proofs.Ytmoognjegjeegaa
open Go.RowKit
set_option linter.unusedVariables false
set_option linter.unusedSimpArgs false
set_option maxRecDepth 100000

set_option maxHeartbeats 4000000 in
theorem lcells_B (w : World) (p : ByteArray) (hp : p.size = 224) (hd : Head (bts p)) (q1 : ((g (bts p) 0 : Int) != 2) = true) (q2 : ((g (bts p) 1 : Int) != 0) = false) (q3 : ((g (bts p) 0 : Int) == 0) = true) (q4 : ((cnt (bts p) : Int) != 0) = false) : Calls Try.prog 9 #[.string p] w fun e w' => LA w' e (bts p) ∧ Below w.heap.size w w' := by
  have hg := idx_g p
  have hce := cell_ext p
  have b0 := g_lt (bts p) 0
  have b1 := g_lt (bts p) 1
  have b2 := g_lt (bts p) 2
  have b3 := g_lt (bts p) 3
  have hi0 := fun h => hg 0 h
  have hi1 := fun h => hg 1 h
  have hi2 : ∀ h, (p[2]'h).toNat = cnt (bts p) := fun h => hg 2 h
  have hi3 : ∀ h, (p[3]'h).toNat = en (bts p) := fun h => hg 3 h
  have HG : Hid _ := hg
  have HCE : Hid _ := hce
  clear hg hce
  obtain ⟨s, hs⟩ : ∃ s, s = bts p := ⟨_, rfl⟩
  rw [← hs] at hd hi0 hi1 hi2 hi3 b0 b1 b2 b3 HG HCE q1 q2 q3 q4 ⊢
  clear hs
  have hkind := hd.kind
  have hlev := hd.level
  have hfree := hd.free
  have hen4 := hd.en4
  have henn := hd.enn
  have hsl := hd.slotlt
  have h1' : ¬ (2 : Int) < (g s 0 : Int) := by omega
  have h6' : ¬ (en s : Int) < 4 := by omega
  have h7' : ¬ (224 : Int) - (cnt s : Int) < (en s : Int) := by omega
  clear hkind hlev hfree
  generalize g s 0 = k0 at *
  generalize g s 1 = l0 at *
  go_enter Try.func9, Try.ntmps9
  go_wp2
  go_quiet (fail)
  go_wp2
  go_loopw [6, 7, 8] (fun s6 s7 s8 wr => ∃ (i : Nat) (a : Option Addr) (cap : Nat), s8 = .int .i64 (i : Int) ∧ s6 = .slice a i cap ∧ s7 = .int .i64 (needs (cellsTo s i) : Nat) ∧ i ≤ cnt s ∧ Hid (∀ j, j < i → Ok s j) ∧ Own w.heap.size wr a cap (cellsTo s i) ∧ Below w.heap.size w wr) (fun _ _ s8 _ => cnt s - (intOf s8).toNat)
  case atStart => exact ⟨0, none, 0, rfl, rfl, rfl, Nat.zero_le _, (fun j hj => absurd hj (Nat.not_lt_zero _) : ∀ j, j < 0 → Ok s j), Own.nil _ _, below_drewN (Below.refl _ _) _⟩
  case round =>
    obtain ⟨i, a, cap, rfl, rfl, rfl, hi, hok, hO, hbel⟩ := hrel
    have hnl : needs (cellsTo s i) ≤ 51 * i := needs_to_le hd i hok.out
    by_cases hlt : i < cnt s
    · have hltI : (i : Int) < (cnt s : Int) := by omega
      obtain ⟨jj, hjj⟩ : ∃ j, j = 223 - i := ⟨_, rfl⟩
      have hjI : (223 : Int) - (i : Int) = (jj : Int) := by omega
      have hj4 : jj < 224 := by omega
      have hix : ∀ h, (p[jj]'h).toNat = slot s i := fun h => by rw [HG.out jj h, hjj]; rfl
      have hxb : slot s i < 256 := g_lt _ _
      have HNO : Hid (okB s i = false → allB s = false) := (fun h => allB_no hlt h : okB s i = false → allB s = false)
      have hst := needs_to s i
      have hct := cellsTo_succ s i
      obtain ⟨x, hx⟩ : ∃ x, x = slot s i := ⟨_, rfl⟩
      have hcx : cell s i = cellAt s x := by rw [hx]; rfl
      have hOkx : atB s x = false → okB s i = false := fun h => by rw [okB, ← hx, h]; rfl
      have hAtx : At s x → At s (slot s i) := fun h => by rw [← hx]; exact h
      rw [← hx] at hix hxb
      clear hx hjj
      by_cases h1 : x < 4
      · have h1x : (x : Int) < 4 := by omega
        have hA : Hid (allB s = false) := HNO.out (hOkx (by simp only [atB, decide_eq_false_iff_not]; omega))
        clear hO hcx hOkx hAtx hst hct
        go_wp2
        go_ret2
        exact ⟨LA.no hA.out, hbel⟩
      · have h1x : ¬ (x : Int) < 4 := by omega
        by_cases h2 : en s < x + 2
        · have h2x : (en s : Int) < (x : Int) + 2 := by omega
          have hA : Hid (allB s = false) := HNO.out (hOkx (by simp only [atB, decide_eq_false_iff_not]; omega))
          clear hO hcx hOkx hAtx hst hct
          go_wp2
          go_ret2
          exact ⟨LA.no hA.out, hbel⟩
        · have h2x : ¬ (en s : Int) < (x : Int) + 2 := by omega
          have hk1 : ∀ h, (p[x]'h).toNat = g s x := fun h => HG.out x h
          have hv1 : ∀ h, (p[x + 1]'h).toNat = g s (x + 1) := fun h => HG.out (x + 1) h
          have hkb := g_lt s x
          have hvb := g_lt s (x + 1)
          have hx2 : x + 1 < 224 := by omega
          have hAt0 := fun (q : g s x ≤ 16 ∧ g s (x + 1) ≤ 32 ∧ x + 2 + g s x + g s (x + 1) ≤ en s) => hAtx ⟨by omega, by omega, q.1, q.2.1, q.2.2⟩
          have hNo0 : ¬ (g s x ≤ 16 ∧ g s (x + 1) ≤ 32 ∧ x + 2 + g s x + g s (x + 1) ≤ en s) → okB s i = false := fun q => hOkx (by simp only [atB, decide_eq_false_iff_not]; omega)
          obtain ⟨e1, e2⟩ := HCE.out x
          rw [← hcx] at e1 e2
          have HAT : Hid _ := hAt0
          have HN0 : Hid _ := hNo0
          clear hcx hOkx hAtx hAt0 hNo0
          generalize g s x = kl at *
          generalize g s (x + 1) = vl at *
          by_cases h3 : 16 < kl
          · have h3x : (16 : Int) < (kl : Int) := by omega
            have hA : Hid (allB s = false) := HNO.out (HN0.out (by omega))
            clear hO hst hct e1 e2
            go_wp2
            go_quiet (fail)
            go_wp2
            go_ret2
            exact ⟨LA.no hA.out, below_drewN hbel _⟩
          · have h3x : ¬ (16 : Int) < (kl : Int) := by omega
            by_cases h4 : 32 < vl
            · have h4x : (32 : Int) < (vl : Int) := by omega
              have hA : Hid (allB s = false) := HNO.out (HN0.out (by omega))
              clear hO hst hct e1 e2
              go_wp2
              go_quiet (fail)
              go_wp2
              go_ret2
              exact ⟨LA.no hA.out, below_drewN hbel _⟩
            · have h4x : ¬ (32 : Int) < (vl : Int) := by omega
              by_cases h5 : en s < x + 2 + kl + vl
              · have h5x : (en s : Int) < (x : Int) + 2 + (kl : Int) + (vl : Int) := by omega
                have hA : Hid (allB s = false) := HNO.out (HN0.out (by omega))
                clear hO hst hct e1 e2
                go_wp2
                go_quiet (fail)
                go_wp2
                go_ret2
                exact ⟨LA.no hA.out, below_drewN hbel _⟩
              · have h5x : ¬ (en s : Int) < (x : Int) + 2 + (kl : Int) + (vl : Int) := by omega
                have hAt := HAT.out (by omega)
                have hks : (cell s i).k.size = kl := by rw [← e1, ByteArray.size_extract]; omega
                have hvs : (cell s i).v.size = vl := by rw [← e2, ByteArray.size_extract]; omega
                have hnd : need (cell s i) = 3 + kl + vl := by simp only [need]; omega
                rw [hnd] at hst
                have HST : Hid _ := hst
                have HCT : Hid _ := hct
                have HO : Hid _ := hO
                clear hst hct hO hks hvs hnd
                obtain ⟨c, hc⟩ : ∃ c, c = cell s i := ⟨_, rfl⟩
                rw [← hc] at e1 e2 HCT
                have HC : Hid _ := hc
                clear hc
                have w1 : IntKind.i64.wrap ((x : Int) + 2) = (x : Int) + 2 := IntWalk.i64_in _ (by omega)
                have w2 : IntKind.i64.wrap ((x : Int) + 2 + (kl : Int)) = (x : Int) + 2 + (kl : Int) := IntWalk.i64_in _ (by omega)
                have w3 : IntKind.i64.wrap ((x : Int) + 2 + (kl : Int) + (vl : Int)) = (x : Int) + 2 + (kl : Int) + (vl : Int) := IntWalk.i64_in _ (by omega)
                have HOD : Hid (∀ n, Own w.heap.size (wr.drewN n) a cap (cellsTo s i) ∧ Below w.heap.size w (wr.drewN n)) := (fun n => ⟨HO.out.drewN n, below_drewN hbel n⟩ : ∀ n, Own w.heap.size (wr.drewN n) a cap (cellsTo s i) ∧ Below w.heap.size w (wr.drewN n))
                go_wp2
                go_quiet (fail)
                obtain ⟨HOq, hbq⟩ := HOD.out nq
                generalize wr.drewN nq = wq at HOq hbq ⊢
                clear HOD HO hbel
                go_wp2
                go_region
                have N5 : NewC wq (wq.alloc (.cells #[.string c.k, .string c.v] 28)).drew wq.heap.size c.k c.v := ⟨⟨(MapKept.heap_alloc wq _).1⟩, ((Below.refl _ _).alloc (Nat.le_refl _) _).drew, Nat.le_refl _⟩
                generalize (wq.alloc (.cells #[.string c.k, .string c.v] 28)).drew = w5 at N5 ⊢
                generalize wq.heap.size = b5 at N5 ⊢
                have f0 := N5.cb.c0
                have f1 := N5.cb.c1
                have hb5 := thn hbq N5.below
                have HO5 := HOq.below N5.below
                clear HOq hbq e1 e2 w1 w2 w3
                have OW : Hid (∀ n, Own w.heap.size ((w5.drewN n).alloc (.cells #[.string c.k, .string c.v] 28)) a cap (cellsTo s i)) := (fun n => (HO5.drewN n).below ((Below.refl _ _).alloc (Nat.le_refl _) _) : ∀ n, Own w.heap.size ((w5.drewN n).alloc (.cells #[.string c.k, .string c.v] 28)) a cap (cellsTo s i))
                have CN : Hid (∀ n, Cs ((w5.drewN n).alloc (.cells #[.string c.k, .string c.v] 28)) (some ⟨w5.heap.size, 0, none⟩) [c]) := (fun n => ⟨fun t ht => by
                  have e : t = 0 := by simpa using ht
                  subst e
                  exact ⟨w5.heap.size, 0, rfl, by simp, (Cb.c0 ⟨(MapKept.heap_alloc (w5.drewN n) _).1⟩ : _), (Cb.c1 ⟨(MapKept.heap_alloc (w5.drewN n) _).1⟩ : _)⟩⟩ : ∀ n, Cs ((w5.drewN n).alloc (.cells #[.string c.k, .string c.v] 28)) (some ⟨w5.heap.size, 0, none⟩) [c])
                have HBX : Hid (∀ n W, Below w.heap.size ((w5.drewN n).alloc (.cells #[.string c.k, .string c.v] 28)) W → Below w.heap.size w W) := (fun n W hW => (thnA (below_drewN hb5 n) _).trans hW : ∀ n W, Below w.heap.size ((w5.drewN n).alloc (.cells #[.string c.k, .string c.v] 28)) W → Below w.heap.size w W)
                have hz5 := hb5.size
                generalize hmm : needs (cellsTo s i) = m at *
                clear hmm
                by_cases h0 : i = 0
                · subst h0
                  have NX : Hid (∀ j, j < 0 + 1 → Ok s j) := (fun j hj => by
                    have e : j = 0 := by omega
                    subst e
                    exact ⟨hAt, fun h => absurd h (Nat.lt_irrefl _)⟩ : ∀ j, j < 0 + 1 → Ok s j)
                  clear hAt
                  go_wp2
                  go_quiet (fail)
                  go_wp2_with (refine wpList_append_own' (B := w.heap.size) rfl _ _ rfl rfl (xs := cellsTo s 0) ?_ (OW.out _) ?_ rfl (news := [c]) rfl (fun e => by cases e) ?_ ?_ ?_; simp [cellsTo]; simp; omega; exact CN.out _; omega; intro a' cap' w6 O6 hb6)
                  go_roundw
                  case rel => exact ⟨0 + 1, a', cap', by go_num, rfl, by rw [HST.out]; congr 1; omega, by omega, NX.out, by rw [HCT.out]; exact O6, HBX.out _ _ hb6⟩
                  case measure => simp [intOf]; omega
                · obtain ⟨j, rfl⟩ : ∃ j, i = j + 1 := ⟨i - 1, by omega⟩
                  have hlen : (cellsTo s (j + 1)).length = j + 1 := by simp [cellsTo]
                  have hgj : (cellsTo s (j + 1))[j]'(by omega) = cell s j := by simp [cellsTo]
                  obtain ⟨bb, off, rfl, hbb, g0, g1⟩ := HO5.row.cs.at_ j (by omega)
                  rw [hgj] at g0
                  clear g1
                  have hkc : lt (cell s j).k c.k = Op.bytesLess (cell s j).k.toList c.k.toList := rfl
                  have hj1 : ((j + 1 : Nat) : Int) = (j : Int) + 1 := by omega
                  have HOK : Hid (lt (cell s j).k c.k = true → Ok s (j + 1)) := (fun h => ⟨hAt, fun _ => by rw [HC.out] at h; exact h⟩ : lt (cell s j).k c.k = true → Ok s (j + 1))
                  have HNK : Hid (lt (cell s j).k c.k = false → allB s = false) := (fun h => HNO.out (by
                    rw [HC.out] at h
                    have : lt (key s j) (key s (j + 1)) = false := h
                    simp [okB, this]) : lt (cell s j).k c.k = false → allB s = false)
                  rw [hj1]
                  clear hgj hAt
                  generalize cell s j = c' at *
                  cases hl : lt c'.k c.k
                  · have hl' : Op.bytesLess c'.k.toList c.k.toList = false := hl
                    have hA : Hid (allB s = false) := HNK.out hl
                    clear hl hkc
                    go_wp2
                    go_quiet (fail)
                    go_wp2
                    go_ret2
                    exact ⟨LA.no hA.out, below_drewN hb5 _⟩
                  · have hl' : Op.bytesLess c'.k.toList c.k.toList = true := hl
                    have NX : Hid (∀ t, t < j + 1 + 1 → Ok s t) := (fun t ht => by
                      by_cases e : t = j + 1
                      · subst e; exact HOK.out hl
                      · exact hok.out t (by omega) : ∀ t, t < j + 1 + 1 → Ok s t)
                    clear hl hkc
                    go_wp2
                    go_quiet (fail)
                    go_wp2_with (refine wpList_append_own' (B := w.heap.size) rfl _ _ rfl rfl (xs := cellsTo s (j + 1)) ?_ (OW.out _) ?_ rfl (news := [c]) rfl (fun e => by cases e) ?_ ?_ ?_; simp [cellsTo]; simp; omega; exact CN.out _; omega; intro a' cap' w6 O6 hb6)
                    go_roundw
                    case rel => exact ⟨j + 1 + 1, a', cap', by go_num, by simp, by rw [HST.out]; congr 1; omega, by omega, NX.out, by rw [HCT.out]; exact O6, HBX.out _ _ hb6⟩
                    case measure => simp [intOf]; omega
    · have hie : i = cnt s := by omega
      subst hie
      have hA : Hid (allB s = decide ((needs (cellsTo s (cnt s)) : Int) ≤ 220)) := by
        have : allB s = decide ((needs (cellsTo s (cnt s)) : Int) ≤ 220) := by
          rw [Bool.eq_iff_iff, allB_iff, decide_eq_true_eq]
          exact ⟨fun h => by have := h.2; simp only [cells, cellsTo] at this ⊢; omega, fun h => ⟨hok.out, by simp only [cells, cellsTo] at h ⊢; omega⟩⟩
        exact this
      have HCC : Hid (cellsTo s (cnt s) = cells s) := (rfl : cellsTo s (cnt s) = cells s)
      have hlt' : ¬ (cnt s : Int) < (cnt s : Int) := by omega
      generalize needs (cellsTo s (cnt s)) = m at *
      go_wp2
      go_ret2
      exact ⟨⟨⟨.slice a (cnt s) cap, by rw [hA.out]; rfl, fun _ => ⟨⟨a, cap, rfl, by rw [← HCC.out]; exact hO.row.sl⟩⟩⟩⟩, hbel⟩
end Go.Proofs.Ytmoognjegjeegaa
