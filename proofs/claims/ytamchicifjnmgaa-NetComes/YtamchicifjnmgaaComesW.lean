/- The law NetComes, walked. -/
import Derived.Test.YtamchicifjnmgaaCom
import Derived.Test.YtamchicifjnmgaaOps4
namespace Go.Proofs.Ytamchicifjnmgaa
open Go.RowKit
set_option linter.unusedVariables false
set_option linter.unusedSimpArgs false
set_option maxRecDepth 100000

/-- It is so already, or it will be. -/
def Was (v : Bool) (L : List ByteArray) (s : ByteArray) (k : Nat) : Prop := v = true ∨ ∃ j, k ≤ j ∧ L[j]? = some s
theorem Was.start {L : List ByteArray} {s : ByteArray} {x : Int} (h : x = 8 ∨ x = 0 ∧ s ∈ L) : Was (x != 0) L s 0 := by
  rcases h with rfl | ⟨rfl, h⟩
  · exact Or.inl rfl
  · obtain ⟨j, hj, e⟩ := List.mem_iff_getElem.1 h
    exact Or.inr ⟨j, Nat.zero_le _, by rw [List.getElem?_eq_getElem hj, e]⟩
theorem Was.true_ {L : List ByteArray} {s : ByteArray} {k : Nat} : Was true L s k := Or.inl rfl
theorem Was.next {L : List ByteArray} {s : ByteArray} {k : Nat} (h : Was false L s k) (hk : k < L.length) : Was (L[k].toList == s.toList) L s (k + 1) := by
  rcases h with h | ⟨j, hj, e⟩
  · cases h
  · rcases Nat.eq_or_lt_of_le hj with rfl | hj
    · rw [List.getElem?_eq_getElem hk] at e
      cases e
      exact Or.inl (beq_self_eq_true _)
    · exact Or.inr ⟨j, hj, e⟩
theorem Was.end_ {v : Bool} {L : List ByteArray} {s : ByteArray} {k : Nat} (h : Was v L s k) (hk : L.length ≤ k) : v = true := by
  rcases h with h | ⟨j, hj, e⟩
  · exact h
  · rw [List.getElem?_eq_none (by omega)] at e; cases e

/-- Between two calls of the script. -/
def Mid (w wr : World) (i : Nat) (c : Option Addr) (n capc : Nat) : Prop := ∃ L, n = L.length ∧ n ≤ i ∧ Cm w.heap.size w wr w.heap.size i c capc L L

set_option maxHeartbeats 4000000 in
theorem comes_walk (ao : Option Addr) (len cap : Nat) (f : Nat → Call4) (w : World) (ho : IsOps w ao len f) :
    Calls Try.prog 4 #[.slice ao len cap] w fun e w' => e = .returned (.bool true) ∧ Below w.heap.size w w' := by
  have HO : Hid (IsOps w ao len f) := ho
  clear ho
  have H0 : Hid (Mid w (w.alloc (.cells #[.slice none 0 0, .int .i64 0, .int .i64 0] 49)) 0 none 0 0) := ⟨[], rfl, Nat.le_refl _, Cm.new w⟩
  go_enter Try.func4, Try.ntmps4
  go_wp2_with (go_at_call 7; refine (New_any _).mono ?_; rintro e w1 ⟨rfl, hw1⟩; subst hw1)
  go_loopw [4, 5] (fun sv iv wr => ∃ (i : Nat) (c : Option Addr) (n capc : Nat), sv = .slice c n capc ∧ iv = .int .i64 (i : Int) ∧ i ≤ 60 ∧ i ≤ len ∧ Hid (Mid w wr i c n capc)) (fun _ iv _ => 60 - (intOf iv).toNat)
  case atStart => exact ⟨0, none, 0, 0, rfl, rfl, by omega, Nat.zero_le _, H0⟩
  case round =>
    obtain ⟨i, c, n, capc, rfl, rfl, hi60, hil, hP⟩ := hrel
    obtain ⟨L, hn, hni, hCm⟩ := hP.out
    by_cases hi : i < len
    · by_cases hj : i < 60
      · have hi' : (i : Int) < (len : Int) := by omega
        have hj' : (i : Int) < 60 := by omega
        obtain ⟨b, off, rfl, hb, g1, g2, g3, g4⟩ := HO.out.at_ rfl hCm.bel.1 hi
        generalize (f i).kd = kd at g1
        generalize (f i).i = ii at g2
        generalize (f i).k = kk at g3
        generalize (f i).s = ss at g4
        clear HO f H0 hP
        have hB := hCm.bel.2
        have HN : Hid (n = L.length) := hn
        have HC : Hid (∀ oc, Com w.heap.size w (wr.alloc (.cells oc 31)) w.heap.size i c capc L L wr.heap.size oc) := fun oc => hCm.box oc
        clear hCm hn
        by_cases k0 : kd = 0
        · subst k0
          go_wp2_with (first
            | (go_at_call 11; refine ((HC.out _).send (by omega) _).mono ?_; rintro e w2 ⟨v, rfl, _, hC2⟩; have o3 : w2.cell? ⟨wr.heap.size, 3, none⟩ = some (.string ss) := hC2.oc_ 3)
            | (at_builtin; refine wpList_append_row rfl (.tmp 60) (.tmp 63) rfl rfl HN.out (hC2.alloc _).row ⟨w2.heap.size, 0, none⟩ 1 1 [ss] rfl rfl (one_new (by simp)) (by omega) ?_; intro c' capc' w3 hR hG hO))
          have hC3 := (hC2.alloc _).app hG hO hR
          go_roundw
          case rel => exact ⟨i + 1, c', n + 1, capc', rfl, by go_num, by omega, by omega, ⟨L ++ [ss], by rw [List.length_append, ← HN.out]; rfl, by omega, hC3⟩⟩
          case measure => simp [intOf]; omega
        · by_cases k2 : kd = 2
          · subst k2
            go_wp2_with (go_at_call 12; refine ((HC.out _).dropc (by omega) _).mono ?_; rintro e w2 ⟨v, rfl, _, hC2⟩)
            go_roundw
            case rel => exact ⟨i + 1, c, n, capc, rfl, by go_num, by omega, by omega, ⟨L, HN.out, by omega, hC2.cm⟩⟩
            case measure => simp [intOf]; omega
          · by_cases k3 : kd = 3
            · subst k3
              go_wp2_with (go_at_call 13; refine ((HC.out _).copyc (by omega) _).mono ?_; rintro e w2 ⟨v, rfl, _, hC2⟩)
              go_roundw
              case rel => exact ⟨i + 1, c, n, capc, rfl, by go_num, by omega, by omega, ⟨L, HN.out, by omega, hC2.cm⟩⟩
              case measure => simp [intOf]; omega
            · by_cases k4 : kd = 4
              · subst k4
                go_wp2_with (go_at_call 14; refine ((HC.out _).swapc (by omega) _ _).mono ?_; rintro e w2 ⟨v, rfl, _, hC2⟩)
                go_roundw
                case rel => exact ⟨i + 1, c, n, capc, rfl, by go_num, by omega, by omega, ⟨L, HN.out, by omega, hC2.cm⟩⟩
                case measure => simp [intOf]; omega
              · have q0 : (kd == 0) = false := by simpa using k0
                have q2 : (kd == 2) = false := by simpa using k2
                have q3 : (kd == 3) = false := by simpa using k3
                have q4 : (kd == 4) = false := by simpa using k4
                clear k0 k2 k3 k4
                go_wp2_with (go_at_call 15; refine ((HC.out _).takec (by omega) _).mono ?_; rintro e w2 ⟨v, rfl, ⟨s, x, rfl, hx⟩, hC2⟩)
                have HW : Hid (Was (x != 0) L s 0) := Was.start hx
                have H2 : Hid (Com w.heap.size w w2 w.heap.size (i + 1) c capc L L wr.heap.size #[.int .i64 kd, .int .i64 ii, .int .i64 kk, .string ss]) := hC2
                clear hx hC2
                go_loopw [9, 10] (fun wv kv wx => ∃ (k : Nat) (v : Bool), wv = .bool v ∧ kv = .int .i64 (k : Int) ∧ k ≤ n ∧ Hid (Was v L s k) ∧ w2 = wx) (fun _ kv _ => n - (intOf kv).toNat)
                case atStart => exact ⟨0, _, rfl, rfl, Nat.zero_le _, HW, rfl⟩
                case round =>
                  obtain ⟨k, v, rfl, rfl, hkn, hW, hwx⟩ := hrel
                  subst hwx
                  by_cases hk : k < n
                  · have hk' : (k : Int) < (n : Int) := by omega
                    have hkL : k < L.length := by have := HN.out; omega
                    obtain ⟨gc, rfl, _, _, _⟩ := H2.out.row.form (fun e => by rw [e] at hkL; exact absurd hkL (Nat.not_lt_zero _))
                    have hcell := H2.out.row.cell hkL
                    cases v
                    · have HX : Hid (Was (L[k].toList == s.toList) L s (k + 1)) := hW.out.next hkL
                      generalize L[k] = tx at hcell HX
                      go_wp2
                      go_roundw
                      case rel => exact ⟨k + 1, _, rfl, by go_num, by omega, HX, by first | exact rfl | trivial⟩
                      case measure => simp [intOf]; omega
                    · go_wp2
                      go_roundw
                      case rel => exact ⟨k + 1, true, rfl, by go_num, by omega, Was.true_, by first | exact rfl | trivial⟩
                      case measure => simp [intOf]; omega
                  · obtain rfl : k = n := by omega
                    have hk' : ¬ (k : Int) < (k : Int) := by omega
                    have hv : v = true := hW.out.end_ (by have := HN.out; omega)
                    subst hv
                    go_wp2
                    go_roundw
                    case rel => exact ⟨i + 1, c, k, capc, rfl, by go_num, by omega, by omega, ⟨L, HN.out, by omega, H2.out.cm⟩⟩
                    case measure => simp [intOf]; omega
      · obtain rfl : i = 60 := by omega
        have hi' : (60 : Int) < (len : Int) := by omega
        go_wp2_with (go_at_call 10; refine (awake_any _).mono ?_; rintro e w4 ⟨rfl, hb⟩)
        go_ret
        have hbb := hCm.bel
        exact ⟨rfl, hbb.1.trans (hb.mono hbb.2)⟩
    · obtain rfl : i = len := by omega
      have hi' : ¬ (i : Int) < (i : Int) := by omega
      go_wp2_with (go_at_call 10; refine (awake_any _).mono ?_; rintro e w4 ⟨rfl, hb⟩)
      go_ret
      have hbb := hCm.bel
      exact ⟨rfl, hbb.1.trans (hb.mono hbb.2)⟩
end Go.Proofs.Ytamchicifjnmgaa
