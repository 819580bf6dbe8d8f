/- The law's own functions over lists of cells: wrong, room, place, same. -/
import Derived.Test.YtmoognjegjeegaaAwk
import Derived.Test.YtmoognjegjeegaaNedW
namespace Go.Proofs.Ytmoognjegjeegaa
open Go.RowKit
set_option linter.unusedVariables false
set_option linter.unusedSimpArgs false
set_option maxRecDepth 100000

theorem wrong_any (w : World) (c : Cl) : Calls Try.prog 34 #[.agg #[.string c.k, .string c.v]] w fun e w' => e = .returned (.int .i64 (long c)) ∧ Below w.heap.size w w' := by
  by_cases h1 : 16 < c.k.size
  · have h1' : (16 : Int) < (c.k.size : Int) := by omega
    have e : long c = 17 := by simp [long, h1]
    rw [e]
    go_enter Try.func34, Try.ntmps34
    go_wp2
    go_ret
    exact ⟨rfl, (Below.refl _ _).alloc (Nat.le_refl _) _⟩
  · have h1' : ¬ (16 : Int) < (c.k.size : Int) := by omega
    by_cases h2 : 32 < c.v.size
    · have h2' : (32 : Int) < (c.v.size : Int) := by omega
      have e : long c = 18 := by simp [long, h1, h2]
      rw [e]
      go_enter Try.func34, Try.ntmps34
      go_wp2
      go_ret
      exact ⟨rfl, (Below.refl _ _).alloc (Nat.le_refl _) _⟩
    · have h2' : ¬ (32 : Int) < (c.v.size : Int) := by omega
      have e : long c = 0 := by simp [long, h1, h2]
      rw [e]
      go_enter Try.func34, Try.ntmps34
      go_wp2
      go_ret
      exact ⟨rfl, (Below.refl _ _).alloc (Nat.le_refl _) _⟩
theorem lroom_any (w : World) {a : Option Addr} {L : List Cl} (cap : Nat) (h : Cs w a L) (hs : Small L) : Calls Try.prog 20 #[.slice a L.length cap] w fun e w' => e = .returned (.int .i64 (220 - (needs L : Int))) ∧ Below w.heap.size w w' := by
  have hl := hs.len
  go_enter Try.func20, Try.ntmps20
  go_wp2
  go_loopw [3, 4] (fun nd kv wr => ∃ i : Nat, kv = .int .i64 (i : Int) ∧ nd = .int .i64 (220 - (needs (L.take i) : Int)) ∧ i ≤ L.length ∧ Below w.heap.size w wr) (fun _ kv _ => L.length - (intOf kv).toNat)
  case atStart => exact ⟨0, rfl, rfl, Nat.zero_le _, Below.refl _ _⟩
  case round =>
    obtain ⟨i, rfl, rfl, hi, hbel⟩ := hrel
    by_cases hlt : i < L.length
    · have hltI : (i : Int) < (L.length : Int) := by omega
      obtain ⟨b, off, rfl, hb, c0, c1⟩ := h.at' hbel hlt
      have hk := hs.k _ (List.getElem_mem hlt)
      have hv := hs.v _ (List.getElem_mem hlt)
      have hst := needs_take_succ hlt
      have hnl := hs.nle i
      have C4 : Hid (∀ w, Calls Try.prog 28 #[.agg #[.string L[i].k, .string L[i].v]] w fun e w' => e = .returned (.int .i64 (need L[i])) ∧ Below w.heap.size w w') := fun w => lneed_any w _ (by omega) (by omega)
      have hnd : need L[i] ≤ 51 := by simp only [need]; omega
      obtain ⟨c, hc⟩ : ∃ c, c = L[i] := ⟨_, rfl⟩
      rw [← hc] at C4 hk hv hnd hst c0 c1
      obtain ⟨n, hn'⟩ : ∃ n, n = need c := ⟨_, rfl⟩
      rw [← hn'] at C4 hnd hst
      obtain ⟨m, hm⟩ : ∃ m, m = needs (L.take i) := ⟨_, rfl⟩
      rw [← hm] at hst hnl
      rw [← hm]
      have HST : Hid _ := hst
      clear hc hn' hm hst
      go_wp2_with (go_at_call 28; refine (C4.out _).mono ?_; rintro e w2 ⟨rfl, hb2⟩)
      go_roundw
      case rel =>
        exact ⟨i + 1, by go_num, by rw [HST.out]; congr 1; omega, by omega, thn hbel hb2⟩
      case measure => simp [intOf]; omega
    · have hie : i = L.length := by omega
      subst hie
      have hlt' : ¬ (L.length : Int) < (L.length : Int) := by omega
      have e : Hid (needs (L.take L.length) = needs L) := (by rw [List.take_length] : needs (L.take L.length) = needs L)
      generalize hm : needs (L.take L.length) = m at *
      go_wp2
      go_ret
      exact ⟨by rw [← e.out]; rfl, hbel⟩
theorem isAt_get {L : List Cl} {x : ByteArray} (h : plc L x < L.length) : isAt L x = (L[plc L x].k.toList == x.toList) := by
  rw [isAt, List.getElem?_eq_getElem h]
theorem isAt_none {L : List Cl} {x : ByteArray} (h : ¬ plc L x < L.length) : isAt L x = false := by
  rw [isAt, List.getElem?_eq_none (by omega)]
theorem place_any (w : World) {a : Option Addr} {L : List Cl} (cap : Nat) (h : Cs w a L) (hln : L.length ≤ 1000) (x : ByteArray) : Calls Try.prog 19 #[.slice a L.length cap, .string x] w fun e w' => e = .returned (.tuple #[.int .i64 (plc L x : Nat), .bool (isAt L x)]) ∧ Below w.heap.size w w' := by
  go_enter Try.func19, Try.ntmps19
  go_wp2
  go_loopw [6] (fun kv wr => ∃ i : Nat, kv = .int .i64 (i : Int) ∧ i ≤ L.length ∧ Hid (∀ t (ht : t < L.length), t < i → lt L[t].k x = true) ∧ wr = w) (fun kv _ => L.length - (intOf kv).toNat)
  case atStart => exact ⟨0, rfl, Nat.zero_le _, (fun t _ ht => absurd ht (Nat.not_lt_zero _) : ∀ t (ht : t < L.length), t < 0 → lt L[t].k x = true), rfl⟩
  case round =>
    obtain ⟨i, rfl, hi, hlo, rfl⟩ := hrel
    by_cases hlt : i < L.length
    · have hltI : (i : Int) < (L.length : Int) := by omega
      obtain ⟨b, off, rfl, hb, c0, c1⟩ := h.at_ i hlt
      obtain ⟨q, hq⟩ : ∃ q, q = lt L[i].k x := ⟨_, rfl⟩
      have hqq : Op.bytesLess L[i].k.toList x.toList = q := hq.symm
      cases q
      · have hp : i = plc L x := plc_unique hi hlo.out (fun _ => hq.symm)
        have HA : Hid (isAt L x = (L[i].k.toList == x.toList)) := by
          have := isAt_get (L := L) (x := x) (by omega)
          simp only [← hp] at this
          exact this
        have HP : Hid _ := hp
        clear hq hp
        generalize L[i] = c at *
        go_wp2
        go_quiet (fail)
        go_wp2
        go_ret2
        exact ⟨by rw [HA.out, ← HP.out]; rfl, below_drewN (Below.refl _ _) _⟩
      · have hlo' : Hid (∀ t (ht : t < L.length), t < i + 1 → lt L[t].k x = true) := (fun t ht hti => by
          by_cases e : t = i
          · subst e; exact hq.symm
          · exact hlo.out t ht (by omega) : ∀ t (ht : t < L.length), t < i + 1 → lt L[t].k x = true)
        clear hq
        generalize L[i] = c at *
        go_wp2
        go_roundw
        case rel => exact ⟨i + 1, by go_num, by omega, hlo', trivial⟩
        case measure => simp [intOf]; omega
    · have hie : i = L.length := by omega
      subst hie
      have hp : L.length = plc L x := plc_unique hi hlo.out (fun h => absurd h (Nat.lt_irrefl _))
      have HA : Hid (isAt L x = false) := (isAt_none (by omega) : isAt L x = false)
      have HP : Hid _ := hp
      clear hp
      have hlt' : ¬ (L.length : Int) < (L.length : Int) := by omega
      go_wp2
      go_quiet (fail)
      go_wp2
      go_ret2
      exact ⟨by rw [HA.out, ← HP.out]; rfl, below_drewN (Below.refl _ _) _⟩
theorem same_any (w : World) {a a' : Option Addr} {L : List Cl} (cap cap' : Nat) (h : Cs w a L) (h' : Cs w a' L) (hln : L.length ≤ 1000) : Calls Try.prog 21 #[.slice a L.length cap, .slice a' L.length cap'] w fun e w' => e = .returned (.bool true) ∧ Below w.heap.size w w' := by
  have hll : ((L.length : Int) != (L.length : Int)) = false := by simp
  go_enter Try.func21, Try.ntmps21
  go_wp2
  go_loopw [5] (fun kv wr => ∃ i : Nat, kv = .int .i64 (i : Int) ∧ i ≤ L.length ∧ ∃ n, wr = w.drewN n) (fun kv _ => L.length - (intOf kv).toNat)
  case atStart => exact ⟨0, rfl, Nat.zero_le _, 0, rfl⟩
  case round =>
    obtain ⟨i, rfl, hi, n, rfl⟩ := hrel
    by_cases hlt : i < L.length
    · have hltI : (i : Int) < (L.length : Int) := by omega
      obtain ⟨b, off, rfl, hb, c0, c1⟩ := h.at_ i hlt
      obtain ⟨b', off', rfl, hb', c0', c1'⟩ := h'.at_ i hlt
      generalize L[i] = c at *
      go_wp2
      go_quiet (fail)
      go_wp2
      go_roundw
      case rel => exact ⟨i + 1, by go_num, by omega, _, rfl⟩
      case measure => simp [intOf]; omega
    · have hie : i = L.length := by omega
      subst hie
      have hlt' : ¬ (L.length : Int) < (L.length : Int) := by omega
      go_wp2
      go_ret
      exact ⟨rfl, below_drewN (Below.refl _ _) _⟩
end Go.Proofs.Ytmoognjegjeegaa
