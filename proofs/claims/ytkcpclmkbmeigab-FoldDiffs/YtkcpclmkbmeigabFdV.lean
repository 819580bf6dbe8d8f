/- FoldDiffs. -/
import Derived.Test.YtkcpclmkbmeigabFdU
import Derived.Test.YtkcpclmkbmeigabFdK
namespace Go.Proofs.Ytkcpclmkbmeigab.Fd
open Go.RowKit Gm Go.Maps
set_option linter.unusedVariables false
set_option linter.unusedSimpArgs false
set_option maxRecDepth 100000
/-- Cells that a law is handed. -/
structure CellL (cs : List Value) : Prop where
  ex : ∃ c : CL, cs = encC c ∧ c.1.size ≤ 9223372036854775807
theorem open_ce {H : Type} {enc : TypeId × Value → H} {w : World} {fuel : Nat} {cs : List Value} {x : DataW H × List MemPlace} (h : DataW.trod enc Try.prog w 0 (fun _ => true) true fuel 41 cs = some x) (hcs : cs.length = 2) : CellL cs := by
  have h9 : Try.prog.cellsOf 9 = 1 := by kernel_rfl
  obtain ⟨xs, k, hk, hx, _, hxl, hf⟩ := DataW.trod_struct Try.underlying41 h
  match xs, hxl, cs, hcs with
  | [y0, y1], _, [v0, v1], _ =>
    have f0 := hf 0 _ rfl
    have f1 := hf 1 _ rfl
    simp [h9] at f0 f1
    obtain ⟨n0, i0, _, z0⟩ := DataW.trod_string Try.underlying9 f0
    obtain ⟨n1, i1, _, z1⟩ := DataW.trod_string Try.underlying9 f1
    simp at i0 i1
    subst i0 i1
    exact ⟨(n0, n1), rfl, z0⟩
theorem Rv.of_sv {w : World} {a : Option Addr} {n c : Nat} {L' : List (List Value)} (h : Sv w 2 CellL a n L') : ∃ C : List CL, C.length = n ∧ Rv w (.slice a n c) C ∧ ∀ x ∈ C, x.1.size ≤ 9223372036854775807 := by
  refine ⟨L'.map fun cs => match cs with | [.string x, .string y] => (x, y) | _ => (⟨#[]⟩, ⟨#[]⟩), by rw [List.length_map]; exact h.len, ⟨a, c, by rw [List.length_map, h.len], fun i hi => ?_⟩, fun x hx => ?_⟩
  · rw [List.length_map] at hi
    obtain ⟨g, o, ea, hg, hk, hp, hr⟩ := h.at_ i hi
    obtain ⟨⟨x, y⟩, e, _⟩ := hp.ex
    rw [List.getElem_map, e]
    rw [e] at hr
    exact ⟨g, o, ea, hg, hr 0 _ rfl, hr 1 _ rfl⟩
  · obtain ⟨cs, hcs, rfl⟩ := List.mem_map.1 hx
    obtain ⟨i, hi, rfl⟩ := List.getElem_of_mem hcs
    obtain ⟨g, o, ea, hg, hk, hp, hr⟩ := h.at_ i hi
    obtain ⟨⟨x, y⟩, e, hz⟩ := hp.ex
    rw [e]
    exact hz
theorem run_geS (a b : ByteArray) (w : World) : (binOp .geq 9 (.string a) (.string b)).run Try.prog w = .ok (.bool (!Op.bytesLess a.toList b.toList)) w := by
  simp [binOp, Op.stringOp]
theorem neq_self (z : ByteArray) (w : World) : (binOp .neq 9 (.string z) (.string z)).run Try.prog w = .ok (.bool false) w := by
  simp [binOp, Op.stringOp]
theorem str_at {w : World} {a : Option Addr} {n c : Nat} {ts : List ByteArray} (h : Row w 9 1 (.slice a n c) (sK ts)) {i : Nat} (hi : i < ts.length) : ∃ g, a = some ⟨g, 0, none⟩ ∧ g < w.heap.size ∧ w.cell? ⟨g, i, none⟩ = some (.string ts[i]) := by
  obtain ⟨g, ea, hg, hat⟩ := h.at_ (i := i) (by rw [sK_len]; exact hi)
  have hra := (hat w rfl).1
  unfold sK at hra
  rw [List.getElem_map] at hra
  exact ⟨g, ea, hg, by have := hra 0 _ rfl; simpa using this⟩
def ltC (a b : CL) : Prop := blt a.1 b.1
theorem ris_adj : ∀ (L : List CL), (∀ j (h : j + 1 < L.length), blt L[j].1 L[j + 1].1) → Ris L
  | [], _ => List.Pairwise.nil
  | [a], _ => List.pairwise_singleton ..
  | a :: b :: L, h => by
    have ih : Ris (b :: L) := ris_adj (b :: L) fun j hj => h (j + 1) (by simpa using hj)
    have hab : blt a.1 b.1 := h 0 (by simp)
    refine List.pairwise_cons.2 ⟨fun x hx => ?_, ih⟩
    rcases List.mem_cons.1 hx with rfl | h1
    · exact hab
    · exact blt_trans hab ((List.pairwise_cons.1 ih).1 x h1)
/-- One row of cells is what we want by now. -/
theorem Gat.lay {w wx w' : World} {v : Value} {K K' : List CL} {e : Ending} (h : Gat w wx v K) (hc : ClE wx e w' K') : ∃ v', e = .returned v' ∧ Gat w w' v' K' := by
  obtain ⟨⟨v', rfl, r, o⟩, b⟩ := hc
  exact ⟨v', rfl, r, thn h.bel b, fun g e => Nat.le_trans h.bel.size (o g e)⟩
theorem Gat.gone {w wx w' : World} {v : Value} {K K' : List CL} {e : Ending} (h : Gat w wx v K) (hc : GoE wx e w' v K') : ∃ v', e = .returned v' ∧ Gat w w' v' K' := by
  obtain ⟨⟨v', rfl, r, o⟩, b⟩ := hc
  refine ⟨v', rfl, r, thn h.bel b, fun g e => ?_⟩
  rcases o with rfl | o
  · exact h.own g e
  · exact Nat.le_trans h.bel.size (o g e)
theorem Wk.step' {S K : List CL} {i : Nat} {A : List CL} (h : Wk (S ++ A.take i) K) (hi : i < A.length) : Wk (S ++ A.take (i + 1)) (putK K (A[i].1, eB)) := by
  rw [List.take_succ_eq_append_getElem hi, ← List.append_assoc]
  exact h.step A[i]
theorem wk_wg {A B K : List CL} (h : Wk (A ++ B) K) : Wg A B (fun _ _ => False) K := by
  refine ⟨h.up, fun c => ?_⟩
  rw [h.mem c]
  exact ⟨fun ⟨h1, h2⟩ => ⟨h1, h2, fun ⟨_, _, h3, _⟩ => h3⟩, fun ⟨h1, h2, _⟩ => ⟨h1, h2⟩⟩
section
variable {w : World} {a0 a1 : Option Addr} {n0 n1 c0 c1 : Nat} {L0 L1 : List (List Value)}
set_option maxHeartbeats 8000000 in
theorem diffs16_walk (ha : Sv w 2 CellL a0 n0 L0) (hb : Sv w 2 CellL a1 n1 L1) : Calls Try.prog 4 #[.slice a0 n0 c0, .slice a1 n1 c1] w fun e w' => e = .returned (.bool true) ∧ Below w.heap.size w w' := by
  have CW : Hid (∀ wx, Calls Try.prog 12 #[] wx fun e w' => e = .returned (.bool true) ∧ Below wx.heap.size wx w') := awake16
  obtain ⟨A, hn0, hA, kA⟩ := Rv.of_sv (c := c0) ha
  obtain ⟨B, hn1, hB, kB⟩ := Rv.of_sv (c := c1) hb
  have HVA : Hid (Rv w (.slice a0 n0 c0) A) := hA
  have HVB : Hid (Rv w (.slice a1 n1 c1) B) := hB
  have Hn0 : Hid (A.length = n0) := hn0
  have Hn1 : Hid (B.length = n1) := hn1
  have HKY : Hid ((∀ c ∈ A, c.1.size ≤ 9223372036854775807) ∧ ∀ c ∈ B, c.1.size ≤ 9223372036854775807) := ⟨kA, kB⟩
  clear hA hB kA kB hn0 hn1 ha hb
  have mixed : Try.prog.follows .mixedOrders = true := by kernel_rfl
  by_cases g0 : 60 < n0
  · have g0I : (60 : Int) < (n0 : Int) := by omega
    go_enter Try.func4, Try.ntmps4
    go_wp2_with (go_at_call 12; refine (CW.out _).mono ?_; rintro e x6 ⟨rfl, b6⟩)
    go_ret
    exact ⟨rfl, b6⟩
  by_cases g1 : 60 < n1
  · have g0I : ¬ (60 : Int) < (n0 : Int) := by omega
    have g1I : (60 : Int) < (n1 : Int) := by omega
    go_enter Try.func4, Try.ntmps4
    go_wp2_with (go_at_call 12; refine (CW.out _).mono ?_; rintro e x6 ⟨rfl, b6⟩)
    go_ret
    exact ⟨rfl, b6⟩
  have g0I : ¬ (60 : Int) < (n0 : Int) := by omega
  have g1I : ¬ (60 : Int) < (n1 : Int) := by omega
  go_enter Try.func4, Try.ntmps4
  go_wp2
  go_loopg [5] n0 (fun k vi wr => ∃ i : Nat, vi = .int .i64 ((i : Int) + 1) ∧ n0 - i ≤ k ∧ i ≤ n0 ∧ Below w.heap.size w wr ∧ Hid (∀ j (h : j + 1 < A.length), j < i → blt A[j].1 A[j + 1].1))
  case atStart => exact ⟨0, rfl, by omega, by omega, Below.refl _ _, fun j h hj => by omega⟩
  case round =>
    obtain ⟨i, rfl, hk, him, hB, HA⟩ := hrel
    have HB : Hid (Below w.heap.size w wr) := hB
    by_cases hlt : i + 1 < n0
    · have hltI : (i : Int) + 1 < (n0 : Int) := by omega
      have hi1 : i < A.length := by have := Hn0.out; omega
      have hi2 : i + 1 < A.length := by have := Hn0.out; omega
      obtain ⟨g, o, rfl, _, c0', _⟩ := (HVA.out.bel hB).at_ hi1
      obtain ⟨g', o', eg, _, c1', _⟩ := (HVA.out.bel hB).at_ hi2
      cases eg
      have d0 : wr.drew.cell? ⟨g, o + i * 2, none⟩ = some (.string A[i].1) := c0'
      have d1 : wr.drew.cell? ⟨g, o + (i + 1) * 2, none⟩ = some (.string A[i + 1].1) := c1'
      have ie : ((i : Int) + 1).toNat = i + 1 := by omega
      have hge : ∀ wx, (binOp .geq 9 (.string A[i].1) (.string A[i + 1].1)).run Try.prog wx = .ok (.bool (!Op.bytesLess A[i].1.toList A[i + 1].1.toList)) wx := fun wx => run_geS _ _ wx
      have HL : Hid (Op.bytesLess A[i].1.toList A[i + 1].1.toList = true → ltC A[i] A[i + 1]) := (ltB_b _ _).1
      generalize hl : Op.bytesLess A[i].1.toList A[i + 1].1.toList = bb at hge HL
      have HL2 : Hid (bb = true → ltC A[i] A[i + 1]) := HL.out
      clear hl HL hB
      generalize A[i].1 = ka at *
      generalize A[i + 1].1 = kb at *
      cases bb with
      | true =>
        have HT : Hid (ltC A[i] A[i + 1]) := HL2.out rfl
        clear HL2
        go_wp2_with fail
        go_big_region
        all_goals go_wp2
        go_roundg (n0 - (i + 1))
        case measure => omega
        case rel => exact ⟨i + 1, by first | rfl | go_num, Nat.le_refl _, by omega, bdr HB.out 1, fun j h hj => by
          rcases Nat.lt_or_ge j i with h1 | h1
          · exact HA.out j h h1
          · obtain rfl : j = i := by omega
            exact HT.out⟩
      | false =>
        go_wp2_with fail
        go_big_region
        all_goals (go_wp2_with (go_at_call 12; refine (CW.out _).mono ?_; rintro e x6 ⟨rfl, b6⟩))
        go_ret
        exact ⟨rfl, thn (bdr HB.out 1) b6⟩
    · have hltI : ¬ (i : Int) + 1 < (n0 : Int) := by omega
      have HRA : Hid (Ris A) := ris_adj _ fun j h => HA.out j h (by have := Hn0.out; omega)
      have HBA : Hid (Below w.heap.size w wr) := HB.out
      clear HA HB hB
      go_wp2
      go_loopg [6] n1 (fun k vi wr => ∃ i : Nat, vi = .int .i64 ((i : Int) + 1) ∧ n1 - i ≤ k ∧ i ≤ n1 ∧ Below w.heap.size w wr ∧ Hid (∀ j (h : j + 1 < B.length), j < i → blt B[j].1 B[j + 1].1))
      case atStart => exact ⟨0, rfl, by omega, by omega, HBA.out, fun j h hj => by omega⟩
      case round =>
        obtain ⟨i, rfl, hk, him, hB, HA⟩ := hrel
        have HB : Hid (Below w.heap.size w wr) := hB
        by_cases hlt : i + 1 < n1
        · have hltI : (i : Int) + 1 < (n1 : Int) := by omega
          have hi1 : i < B.length := by have := Hn1.out; omega
          have hi2 : i + 1 < B.length := by have := Hn1.out; omega
          obtain ⟨g, o, rfl, _, c0', _⟩ := (HVB.out.bel hB).at_ hi1
          obtain ⟨g', o', eg, _, c1', _⟩ := (HVB.out.bel hB).at_ hi2
          cases eg
          have d0 : wr.drew.cell? ⟨g, o + i * 2, none⟩ = some (.string B[i].1) := c0'
          have d1 : wr.drew.cell? ⟨g, o + (i + 1) * 2, none⟩ = some (.string B[i + 1].1) := c1'
          have ie : ((i : Int) + 1).toNat = i + 1 := by omega
          have hge : ∀ wx, (binOp .geq 9 (.string B[i].1) (.string B[i + 1].1)).run Try.prog wx = .ok (.bool (!Op.bytesLess B[i].1.toList B[i + 1].1.toList)) wx := fun wx => run_geS _ _ wx
          have HL : Hid (Op.bytesLess B[i].1.toList B[i + 1].1.toList = true → ltC B[i] B[i + 1]) := (ltB_b _ _).1
          generalize hl : Op.bytesLess B[i].1.toList B[i + 1].1.toList = bb at hge HL
          have HL2 : Hid (bb = true → ltC B[i] B[i + 1]) := HL.out
          clear hl HL hB
          generalize B[i].1 = ka at *
          generalize B[i + 1].1 = kb at *
          cases bb with
          | true =>
            have HT : Hid (ltC B[i] B[i + 1]) := HL2.out rfl
            clear HL2
            go_wp2_with fail
            go_big_region
            all_goals go_wp2
            go_roundg (n1 - (i + 1))
            case measure => omega
            case rel => exact ⟨i + 1, by first | rfl | go_num, Nat.le_refl _, by omega, bdr HB.out 1, fun j h hj => by
              rcases Nat.lt_or_ge j i with h1 | h1
              · exact HA.out j h h1
              · obtain rfl : j = i := by omega
                exact HT.out⟩
          | false =>
            go_wp2_with fail
            go_big_region
            all_goals (go_wp2_with (go_at_call 12; refine (CW.out _).mono ?_; rintro e x6 ⟨rfl, b6⟩))
            go_ret
            exact ⟨rfl, thn (bdr HB.out 1) b6⟩
        · have hltI : ¬ (i : Int) + 1 < (n1 : Int) := by omega
          have HRB : Hid (Ris B) := ris_adj _ fun j h => HA.out j h (by have := Hn1.out; omega)
          have HBB : Hid (Below w.heap.size w wr) := HB.out
          clear HA HB hB
          go_wp2
          have G0 : Hid (Gat w wr (.slice none 0 0) []) := ⟨Row.nil _ _ _, HBB.out, fun g e => (by cases e)⟩
          clear HBA HBB
          go_loopg [7, 8] n0 (fun k vw vi wr => ∃ (i : Nat) (K : List CL), vi = .int .i64 (i : Int) ∧ n0 - i ≤ k ∧ i ≤ n0 ∧ Gat w wr vw K ∧ Wk ([] ++ A.take i) K ∧ K.length ≤ i)
          case atStart => exact ⟨0, [], rfl, by omega, by omega, G0.out, Wk.start, Nat.le_refl _⟩
          case round =>
            clear G0
            obtain ⟨i, K, rfl, hk, him, hG, hW, hKl⟩ := hrel
            have HG : Hid (Gat w wr u7 K ∧ Wk ([] ++ A.take i) K) := ⟨hG, hW⟩
            clear hG hW
            by_cases hlt : i < n0
            · have hltI : (i : Int) < (n0 : Int) := by omega
              have hi1 : i < A.length := by have := Hn0.out; omega
              obtain ⟨g, o, rfl, _, x0, _⟩ := (HVA.out.bel HG.out.1.bel).at_ hi1
              have HS : Hid (Wk ([] ++ A.take (i + 1)) (putK K (A[i].1, eB))) := HG.out.2.step' hi1
              generalize A[i].1 = ka at *
              go_wp2_with (go_at_call 13; refine (Lay_row HG.out.1.row (by omega) ka eB).mono ?_; rintro e w2 hc; obtain ⟨v2, rfl, g2⟩ := HG.out.1.lay hc; have G2 : Hid (Gat w w2 v2 (putK K (ka, eB))) := g2; clear g2 hc)
              go_roundg (n0 - (i + 1))
              case measure => omega
              case rel => exact ⟨i + 1, _, by first | rfl | go_num, Nat.le_refl _, by omega, G2.out, HS.out, by have := putK_len K (ka, eB); omega⟩
            · have hltI : ¬ (i : Int) < (n0 : Int) := by omega
              have e9 : [] ++ A.take i = A ++ B.take 0 := by rw [List.take_of_length_le (by have := Hn0.out; omega)]; simp
              rw [e9] at HG
              clear e9
              go_wp2
              go_loopg [7, 9] n1 (fun k vw vi wr => ∃ (i : Nat) (K : List CL), vi = .int .i64 (i : Int) ∧ n1 - i ≤ k ∧ i ≤ n1 ∧ Gat w wr vw K ∧ Wk (A ++ B.take i) K ∧ K.length ≤ n0 + i)
              case atStart => exact ⟨0, K, rfl, by omega, by omega, HG.out.1, HG.out.2, by omega⟩
              case round =>
                clear HG hKl hk him hlt hltI
                obtain ⟨i, K, rfl, hk, him, hG, hW, hKl⟩ := hrel
                have HG : Hid (Gat w wr u7 K ∧ Wk (A ++ B.take i) K) := ⟨hG, hW⟩
                clear hG hW
                by_cases hlt : i < n1
                · have hltI : (i : Int) < (n1 : Int) := by omega
                  have hi1 : i < B.length := by have := Hn1.out; omega
                  obtain ⟨g, o, rfl, _, x0, _⟩ := (HVB.out.bel HG.out.1.bel).at_ hi1
                  have HS : Hid (Wk (A ++ B.take (i + 1)) (putK K (B[i].1, eB))) := HG.out.2.step' hi1
                  generalize B[i].1 = ka at *
                  go_wp2_with (go_at_call 13; refine (Lay_row HG.out.1.row (by omega) ka eB).mono ?_; rintro e w2 hc; obtain ⟨v2, rfl, g2⟩ := HG.out.1.lay hc; have G2 : Hid (Gat w w2 v2 (putK K (ka, eB))) := g2; clear g2 hc)
                  go_roundg (n1 - (i + 1))
                  case measure => omega
                  case rel => exact ⟨i + 1, _, by first | rfl | go_num, Nat.le_refl _, by omega, G2.out, HS.out, by have := putK_len K (ka, eB); omega⟩
                · have hltI : ¬ (i : Int) < (n1 : Int) := by omega
                  have e9 : B.take i = B := List.take_of_length_le (by have := Hn1.out; omega)
                  rw [e9] at HG
                  clear e9
                  have G9 : Hid (Gat w wr u7 K ∧ Wg A B (fun x y => x < 0 ∧ y < n1) K) := ⟨HG.out.1, (wk_wg HG.out.2).more fun x y => ⟨fun h => h.elim, fun h => absurd h.1 (Nat.not_lt_zero _)⟩⟩
                  have hK9 : K.length ≤ 120 := by omega
                  clear HG hKl hk him hlt
                  go_wp2
                  go_loopg [7, 10] n0 (fun k vw vi wr => ∃ (i : Nat) (K : List CL), vi = .int .i64 (i : Int) ∧ n0 - i ≤ k ∧ i ≤ n0 ∧ Gat w wr vw K ∧ Wg A B (fun x y => x < i ∧ y < n1) K ∧ K.length ≤ 120)
                  case atStart => exact ⟨0, K, rfl, by omega, by omega, G9.out.1, G9.out.2, hK9⟩
                  case round =>
                    clear G9 hK9
                    obtain ⟨i, K, rfl, hk, him, hG, hW, hKl⟩ := hrel
                    have HG : Hid (Gat w wr u7 K ∧ Wg A B (fun x y => x < i ∧ y < n1) K) := ⟨hG, hW⟩
                    clear hG hW
                    by_cases hlt : i < n0
                    · have hltI : (i : Int) < (n0 : Int) := by omega
                      have hi1 : i < A.length := by have := Hn0.out; omega
                      have G8 : Hid (Gat w wr u7 K ∧ Wg A B (fun x y => (x < i ∧ y < n1) ∨ (x = i ∧ y < 0)) K) := ⟨HG.out.1, HG.out.2.more fun x y => ⟨Or.inl, fun h => h.elim id fun h => absurd h.2 (Nat.not_lt_zero _)⟩⟩
                      clear HG
                      go_wp2
                      go_loopg [7, 11] n1 (fun k vw vi wr => ∃ (j : Nat) (K : List CL), vi = .int .i64 (j : Int) ∧ n1 - j ≤ k ∧ j ≤ n1 ∧ Gat w wr vw K ∧ Wg A B (fun x y => (x < i ∧ y < n1) ∨ (x = i ∧ y < j)) K ∧ K.length ≤ 120)
                      case atStart => exact ⟨0, K, rfl, by omega, by omega, G8.out.1, G8.out.2, hKl⟩
                      case round =>
                        clear G8 hKl
                        obtain ⟨j, K, rfl, hk2, hjm, hG, hW, hKl⟩ := hrel
                        have HG : Hid (Gat w wr u7 K ∧ Wg A B (fun x y => (x < i ∧ y < n1) ∨ (x = i ∧ y < j)) K) := ⟨hG, hW⟩
                        clear hG hW
                        by_cases hl2 : j < n1
                        · have hl2I : (j : Int) < (n1 : Int) := by omega
                          have hj1 : j < B.length := by have := Hn1.out; omega
                          obtain ⟨g, o, rfl, _, c0', c1'⟩ := (HVA.out.bel HG.out.1.bel).at_ hi1
                          obtain ⟨g', o', rfl, _, e0', e1'⟩ := (HVB.out.bel HG.out.1.bel).at_ hj1
                          have d0 : wr.drew.cell? ⟨g, o + i * 2, none⟩ = some (.string A[i].1) := c0'
                          have d1 : wr.drew.cell? ⟨g, o + i * 2 + 1, none⟩ = some (.string A[i].2) := c1'
                          have f0 : wr.drew.cell? ⟨g', o' + j * 2, none⟩ = some (.string B[j].1) := e0'
                          have f1 : wr.drew.cell? ⟨g', o' + j * 2 + 1, none⟩ = some (.string B[j].2) := e1'
                          have heq : ∀ wx, (binOp .eql 41 (.agg #[.string A[i].1, .string A[i].2]) (.agg #[.string B[j].1, .string B[j].2])).run Try.prog wx = .ok (.bool (eqC A[i] B[j])) wx := fun wx => (eqlsC wx A[i] B[j]).1
                          have HL : Hid (eqC A[i] B[j] = true ↔ A[i] = B[j]) := eqC_iff
                          have HDN : Hid (∀ x y, ((x < i ∧ y < n1) ∨ (x = i ∧ y < j + 1)) ↔ (((x < i ∧ y < n1) ∨ (x = i ∧ y < j)) ∨ (x = i ∧ y = j))) := fun x y => by omega
                          generalize hl : eqC A[i] B[j] = bb at heq HL
                          clear hl
                          cases bb with
                          | true =>
                            have HT : Hid (Wg A B (fun x y => (x < i ∧ y < n1) ∨ (x = i ∧ y < j + 1)) (delK K A[i].1)) := HG.out.2.eq hi1 hj1 (HL.out.1 rfl) HDN.out
                            clear HL HDN
                            generalize A[i].1 = ka at c0' d0 heq HT
                            generalize A[i].2 = kb at c1' d1 heq
                            generalize B[j].1 = kc at e0' f0 heq
                            generalize B[j].2 = kd at e1' f1 heq
                            have GD : Hid (Gat w (wr.drewN 1) u7 K) := HG.out.1.below (bdr (Below.refl _ _) 1)
                            go_wp2_with fail
                            go_big_region
                            all_goals go_wp2_with (go_at_call 14; refine (Gone_row GD.out.row (by omega) ka).mono ?_; rintro e w2 hc; obtain ⟨v2, rfl, g2⟩ := GD.out.gone hc; have G2 : Hid (Gat w w2 v2 (delK K ka)) := g2; clear g2 hc)
                            go_roundg (n1 - (j + 1))
                            case measure => omega
                            case rel => exact ⟨j + 1, _, by first | rfl | go_num, Nat.le_refl _, by omega, G2.out, HT.out, by have := delK_len K ka; omega⟩
                          | false =>
                            have HT : Hid (Wg A B (fun x y => (x < i ∧ y < n1) ∨ (x = i ∧ y < j + 1)) K) := HG.out.2.ne hi1 hj1 (fun h => by have := HL.out.2 h; cases this) HDN.out
                            clear HL HDN
                            generalize A[i].1 = ka at c0' d0 heq
                            generalize A[i].2 = kb at c1' d1 heq
                            generalize B[j].1 = kc at e0' f0 heq
                            generalize B[j].2 = kd at e1' f1 heq
                            have GD : Hid (Gat w (wr.drewN 1) u7 K) := HG.out.1.below (bdr (Below.refl _ _) 1)
                            go_wp2_with fail
                            go_big_region
                            all_goals go_wp2
                            go_roundg (n1 - (j + 1))
                            case measure => omega
                            case rel => exact ⟨j + 1, K, by first | rfl | go_num, Nat.le_refl _, by omega, GD.out, HT.out, hKl⟩
                        · have hl2I : ¬ (j : Int) < (n1 : Int) := by omega
                          have hjn : j = n1 := by omega
                          subst hjn
                          have HN : Hid (Wg A B (fun x y => x < i + 1 ∧ y < j) K) := HG.out.2.more fun x y => by omega
                          go_wp2
                          go_roundg (n0 - (i + 1))
                          case measure => omega
                          case rel => exact ⟨i + 1, K, by first | rfl | go_num, Nat.le_refl _, by omega, HG.out.1, HN.out, hKl⟩
                    · have hltI : ¬ (i : Int) < (n0 : Int) := by omega
                      have HW : Hid (∀ x y, x < A.length → y < B.length → x < i ∧ y < n1) := fun x y h1 h2 => by have := Hn0.out; have := Hn1.out; omega
                      have HWg : Hid (Wg A B (fun x y => x < i ∧ y < n1) K) := HG.out.2
                      have HG1 : Hid (Gat w wr u7 K) := HG.out.1
                      clear HG hk him hlt
                      obtain ⟨aw, cw, ew, _⟩ := HG1.out.row.sl
                      rw [List.length_map] at ew
                      subst ew
                      have CD : Hid (Calls Try.prog 15 #[.slice a0 n0 c0, .slice a1 n1 c1] wr fun e w' => DfO wr A B e w') := Diff_any (HVA.out.bel HG1.out.bel) (HVB.out.bel HG1.out.bel) HRA.out HRB.out (by have := Hn0.out; omega) (by have := Hn1.out; omega) HKY.out.1 HKY.out.2
                      obtain ⟨m, hm⟩ : ∃ m, K.length = m := ⟨_, rfl⟩
                      have Hm : Hid (K.length = m) := hm
                      rw [hm] at HG1 hKl ⊢
                      clear hm
                      go_wp2_with (go_at_call 15; refine CD.out.mono ?_; rintro e w2 ⟨⟨v2, D, rfl, r2, hD⟩, b2⟩; obtain ⟨ad, cd, ed, _⟩ := r2.sl; rw [sK_len] at ed; have HDK : Hid (D = K.map (·.1)) := diff_want hD HWg.out HW.out HRA.out HRB.out; have HDN : Hid (D = [] ↔ A = B) := diff_none hD HRA.out HRB.out; have hdm : D.length = m := (by rw [HDK.out, List.length_map]; exact Hm.out); rw [hdm] at ed; subst ed; clear hdm; have G2 : Hid (Gat w w2 (.slice aw m cw) K) := HG1.out.below b2; have R2 : Hid (Row w2 9 1 (.slice ad m cd) (sK D)) := r2; clear r2 b2 hD)
                      have HDm : Hid (D.length = m) := by show _ = _; rw [HDK.out, List.length_map]; exact Hm.out
                      go_loopg [13] m (fun k vi wr => ∃ i : Nat, vi = .int .i64 (i : Int) ∧ m - i ≤ k ∧ i ≤ m ∧ Below w2.heap.size w2 wr)
                      case atStart => exact ⟨0, rfl, by omega, by omega, Below.refl _ _⟩
                      case round =>
                        obtain ⟨i, rfl, hk, him, hB⟩ := hrel
                        have HB : Hid (Below w2.heap.size w2 wr) := hB
                        clear hB
                        by_cases hli : i < m
                        · have hltI : (i : Int) < (m : Int) := by omega
                          have hi1 : i < D.length := by have := HDm.out; omega
                          have hi2 : i < K.length := by have := Hm.out; omega
                          obtain ⟨g1, rfl, _, x1⟩ := str_at (R2.out.bel HB.out) hi1
                          obtain ⟨g2, o2, rfl, _, x2, _⟩ := ((Rv.of_row G2.out.row).bel HB.out).at_ hi2
                          have HE : Hid (D[i] = K[i].1) := by
                            show _ = _
                            have h := HDK.out
                            subst h
                            rw [List.getElem_map]
                          rw [HE.out] at x1
                          have y1 : wr.drew.cell? ⟨g1, i, none⟩ = some (.string K[i].1) := x1
                          have y2 : wr.drew.cell? ⟨g2, o2 + i * 2, none⟩ = some (.string K[i].1) := x2
                          generalize K[i].1 = z at *
                          have hne : ∀ wx, (binOp .neq 9 (.string z) (.string z)).run Try.prog wx = .ok (.bool false) wx := fun wx => neq_self z wx
                          go_wp2_with fail
                          go_big_region
                          all_goals go_wp2
                          go_roundg (m - (i + 1))
                          case measure => omega
                          case rel => exact ⟨i + 1, by first | rfl | go_num, Nat.le_refl _, by omega, bdr HB.out 1⟩
                        · have hltI : ¬ (i : Int) < (m : Int) := by omega
                          have HQ : Hid (Below w.heap.size w wr) := thn G2.out.bel HB.out
                          have hm0 : m = 0 ↔ sameK A B = true := by
                            rw [← HDm.out, List.length_eq_zero_iff, HDN.out]
                            unfold sameK
                            exact decide_eq_true_iff.symm
                          have CS : Hid (∀ wx, Below w.heap.size w wx → Calls Try.prog 9 #[.slice a0 n0 c0, .slice a1 n1 c1] wx fun e w' => e = .returned (.bool (sameK A B)) ∧ Below wx.heap.size wx w') := fun wx hb => same_any (HVA.out.bel hb) (HVB.out.bel hb) (by have := Hn0.out; omega) (by have := Hn1.out; omega)
                          have CF : Hid (∀ wx, Below w.heap.size w wx → Calls Try.prog 16 #[.slice a0 n0 c0, .slice a1 n1 c1] wx fun e w' => e = .returned (.bool (sameK A B)) ∧ Below wx.heap.size wx w') := fun wx hb => Same_any (HVA.out.bel hb) (HVB.out.bel hb) (by have := Hn0.out; omega) (by have := Hn1.out; omega)
                          generalize sameK A B = sm at *
                          clear HG1 HWg HW CD R2 G2 HDK HDN HDm HB HVA HVB HKY HRA HRB
                          cases sm with
                          | true =>
                            have e0 : m = 0 := hm0.2 rfl
                            clear hm0
                            subst e0
                            go_wp2_with first
                              | (have := X2.out; go_at_call 9; refine (CS.out _ X2.out).mono ?_; rintro e x3 ⟨rfl, b3⟩; have X3 : Hid (Below w.heap.size w x3) := thn X2.out b3; clear b3)
                              | (have := X1.out; go_at_call 9; refine (CS.out _ X1.out).mono ?_; rintro e x2 ⟨rfl, b2⟩; have X2 : Hid (Below w.heap.size w x2) := thn X1.out b2; clear b2)
                              | (go_at_call 12; refine (CW.out _).mono ?_; rintro e x6 ⟨rfl, b6⟩)
                              | (go_at_call 16; refine (CF.out _ HQ.out).mono ?_; rintro e x1 ⟨rfl, b1⟩; have X1 : Hid (Below w.heap.size w x1) := thn HQ.out b1; clear b1)
                            go_ret
                            first | exact ⟨rfl, thn X3.out b6⟩ | exact ⟨congrArg (fun b => Ending.returned (Value.bool (!b))) hbm.out, thn X3.out b6⟩
                          | false =>
                            have e0 : ¬ ((m : Int) = 0) := fun h => by have := hm0.1 (by omega); cases this
                            clear hm0
                            have hbm : Hid (((m : Int) == 0) = false) := by show _ = _; simpa using e0
                            go_wp2_with first
                              | (have := X2.out; go_at_call 9; refine (CS.out _ X2.out).mono ?_; rintro e x3 ⟨rfl, b3⟩; have X3 : Hid (Below w.heap.size w x3) := thn X2.out b3; clear b3)
                              | (have := X1.out; go_at_call 9; refine (CS.out _ X1.out).mono ?_; rintro e x2 ⟨rfl, b2⟩; have X2 : Hid (Below w.heap.size w x2) := thn X1.out b2; clear b2)
                              | (go_at_call 12; refine (CW.out _).mono ?_; rintro e x6 ⟨rfl, b6⟩)
                              | (go_at_call 16; refine (CF.out _ HQ.out).mono ?_; rintro e x1 ⟨rfl, b1⟩; have X1 : Hid (Below w.heap.size w x1) := thn HQ.out b1; clear b1)
                            go_ret
                            first | exact ⟨rfl, thn X3.out b6⟩ | exact ⟨congrArg (fun b => Ending.returned (Value.bool (!b))) hbm.out, thn X3.out b6⟩
end
end Go.Proofs.Ytkcpclmkbmeigab.Fd
