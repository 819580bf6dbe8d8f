/- Half of the cells: halfOf. -/
import Derived.Test.YtmoognjegjeegaaWit
namespace Go.Proofs.Ytmoognjegjeegaa
open Go.RowKit
set_option linter.unusedVariables false
set_option linter.unusedSimpArgs false
set_option maxRecDepth 100000

/-- So many of the cells come to half of what all need. -/
structure IsH (L : List Cl) (n : Nat) : Prop where
  one : 1 ≤ n
  lt : n < L.length
  over : needs L < 2 * needs (L.take (n + 1))
  under : ∀ m, 1 ≤ m → m < n → 2 * needs (L.take (m + 1)) ≤ needs L
theorem IsH.unique {L : List Cl} {a b : Nat} (h : IsH L a) (k : IsH L b) : a = b := by
  rcases Nat.lt_trichotomy a b with e | e | e
  · have := k.under a h.one e
    have := h.over
    omega
  · exact e
  · have := h.under b k.one e
    have := k.over
    omega
theorem needs_pos {L : List Cl} (h : 2 ≤ L.length) : 0 < needs L := by have := three_le L; omega
theorem isH_ex {L : List Cl} (h : 2 ≤ L.length) : ∃ n, IsH L n := by
  have hp := needs_pos h
  have : ∀ d n, 1 ≤ n → n < L.length → (∀ m, 1 ≤ m → m < n → 2 * needs (L.take (m + 1)) ≤ needs L) → L.length - n ≤ d → ∃ n, IsH L n := by
    intro d
    induction d with
    | zero => intro n _ h2 _ h4; omega
    | succ d ih =>
      intro n h1 h2 h3 h4
      by_cases ho : needs L < 2 * needs (L.take (n + 1))
      · exact ⟨n, h1, h2, ho, h3⟩
      · have hn : n + 1 < L.length := by
          refine Decidable.byContradiction fun e => ho ?_
          rw [List.take_of_length_le (by omega)]
          omega
        exact ih (n + 1) (by omega) hn (fun m hm1 hm2 => by
          by_cases e : m = n
          · subst e; omega
          · exact h3 m hm1 (by omega)) (by omega)
  exact this L.length 1 (by omega) (by omega) (fun m h1 h2 => by omega) (by omega)
set_option maxHeartbeats 1000000 in
theorem halfOf_any (w : World) {a : Option Addr} {cap : Nat} {L : List Cl} (h : Sl w a cap L) (hs : Small L) (h2 : 2 ≤ L.length) (n : Nat) (hn : IsH L n) : Calls Try.prog 53 #[.slice a L.length cap] w fun e w' => e = .returned (.int .i64 (n : Int)) ∧ Below w.heap.size w w' := by
  have hp := needs_pos h2
  have hln := hs.len
  have hall := hs.nle L.length
  rw [List.take_length] at hall
  have C1 : Hid (∀ w, Sl w a cap L → Calls Try.prog 62 #[.slice a L.length cap] w fun e w' => e = .returned (.int .i64 (needs L : Nat)) ∧ Below w.heap.size w w') := fun w h => needOf_any w cap h.cs hs
  obtain ⟨a2, s1, t1⟩ := h.from 1 1 rfl (by omega)
  have T1 : Hid _ := t1
  have H : Hid _ := h
  obtain ⟨b, off, ha, hbl, q0, q1⟩ := h.cs.at_ 0 (by omega)
  rw [Nat.zero_mul, Nat.add_zero] at q0 q1
  have CN : Hid (∀ i (hi : i < L.length) w, Calls Try.prog 27 #[.agg #[.string L[i].k, .string L[i].v]] w fun e w' => e = .returned (.int .i64 (need L[i])) ∧ Below w.heap.size w w') := (fun i hi w => Need_any w _ (by have := hs.k _ (List.getElem_mem hi); omega) (by have := hs.v _ (List.getElem_mem hi); omega) : ∀ i (hi : i < L.length) w, Calls Try.prog 27 #[.agg #[.string L[i].k, .string L[i].v]] w fun e w' => e = .returned (.int .i64 (need L[i])) ∧ Below w.heap.size w w')
  have C0 : Hid _ := CN.out 0 (by omega)
  have hn0 : need L[0] = needs (L.take 1) := by
    have := needs_take_succ (L := L) (i := 0) (by omega)
    simp only [List.take_zero, needs, Nat.zero_add] at this
    exact this.symm
  rw [hn0] at C0
  have h1le := hs.nle 1
  have HN : Hid _ := hn
  clear h t1 hn hn0
  subst ha
  have hlI : (1 : Int) ≤ (L.length : Int) := by omega
  generalize hc0 : L[0] = c0 at *
  clear hc0
  go_enter Try.func53, Try.ntmps53
  go_wp2_with (first | (go_at_call 62; refine (C1.out _ H.out).mono ?_; rintro e w1 ⟨rfl, hb1⟩; have d0 := (hb1.cell (by exact hbl)).trans q0; have d1 := (hb1.cell (by exact hbl)).trans q1) | (go_at_call 27; refine (C0.out _).mono ?_; rintro e w2 ⟨rfl, hb2⟩))
  have hb2' := thn hb1 hb2
  go_loopw [4, 5, 17] (fun s4 s5 s17 wr => ∃ t : Nat, s17 = .int .i64 (t : Int) ∧ s4 = .int .i64 ((t : Int) + 1) ∧ s5 = .int .i64 (needs (L.take (t + 1)) : Nat) ∧ t ≤ L.length - 1 ∧ Hid (∀ m, 1 ≤ m → m ≤ t → 2 * needs (L.take (m + 1)) ≤ needs L) ∧ Below w.heap.size w wr) (fun _ _ s17 _ => L.length - (intOf s17).toNat)
  case atStart => exact ⟨0, rfl, rfl, rfl, by omega, (fun m h1 h2 => by omega : ∀ m, 1 ≤ m → m ≤ 0 → 2 * needs (L.take (m + 1)) ≤ needs L), hb2'⟩
  case round =>
    obtain ⟨t, rfl, rfl, rfl, ht, hun, hbel⟩ := hrel
    by_cases hlt : t < L.length - 1
    · have hltI : (t : Int) < ((L.length - 1 : Nat) : Int) := by omega
      obtain ⟨b2, off2, ha2, hbl2, c0', c1'⟩ := T1.out.cs.at_ t (by rw [List.length_drop]; exact hlt)
      have hge : (L.drop 1)[t]'(by rw [List.length_drop]; exact hlt) = L[t + 1]'(by omega) := by rw [List.getElem_drop]; congr 1; omega
      rw [hge] at c0' c1'
      have e0 := (hbel.cell (by exact hbl2)).trans c0'
      have e1 := (hbel.cell (by exact hbl2)).trans c1'
      have CT : Hid _ := CN.out (t + 1) (by omega)
      have hst := needs_take_succ (L := L) (i := t + 1) (by omega)
      have hm1 := hs.nle (t + 1)
      have hm2 := hs.nle (t + 2)
      subst ha2
      clear hge c0' c1'
      obtain ⟨m1, hm1'⟩ : ∃ m, m = needs (L.take (t + 1)) := ⟨_, rfl⟩
      obtain ⟨m2, hm2'⟩ : ∃ m, m = needs (L.take (t + 2)) := ⟨_, rfl⟩
      obtain ⟨nd, hnd⟩ : ∃ m, m = need (L[t + 1]'(by omega)) := ⟨_, rfl⟩
      rw [← hm1', ← hnd] at hst
      rw [show t + 1 + 1 = t + 2 from rfl, ← hm2'] at hst
      rw [← hm1'] at hm1 ⊢
      rw [← hm2'] at hm2
      rw [← hnd] at CT
      have HM2 : Hid _ := hm2'
      generalize L[t + 1] = c at *
      clear hm1' hm2' hnd
      have hst' : Hid ((m1 : Int) + (nd : Int) = (m2 : Int)) := (by omega : (m1 : Int) + (nd : Int) = (m2 : Int))
      have hm1b : m1 ≤ 100000 := by omega
      have hndb : nd ≤ 100000 := by omega
      have HST : Hid _ := hst
      clear hm1 hm2 hst
      by_cases ho : needs L < 2 * m2
      · have hoI : (needs L : Int) < 2 * ((m1 : Int) + (nd : Int)) := by have := HST.out; omega
        have hE : Hid (t + 1 = n) := by
          have : IsH L (t + 1) := ⟨by omega, by omega, by rw [show t + 1 + 1 = t + 2 from rfl, ← HM2.out]; exact ho, fun m h1 h2 => hun.out m h1 (by omega)⟩
          exact this.unique HN.out
        generalize needs L = all at *
        go_wp2_with (go_at_call 27; refine (CT.out _).mono ?_; rintro e w5 ⟨rfl, hb5⟩)
        go_ret
        exact ⟨by rw [← hE.out]; rfl, thn (thnA hbel _) hb5⟩
      · have hoI : ¬ (needs L : Int) < 2 * ((m1 : Int) + (nd : Int)) := by have := HST.out; omega
        have hun2 : Hid (∀ m, 1 ≤ m → m ≤ t + 1 → 2 * needs (L.take (m + 1)) ≤ needs L) := (fun m h1 h2 => by
          by_cases e : m = t + 1
          · subst e; rw [show t + 1 + 1 = t + 2 from rfl, ← HM2.out]; omega
          · exact hun.out m h1 (by omega) : ∀ m, 1 ≤ m → m ≤ t + 1 → 2 * needs (L.take (m + 1)) ≤ needs L)
        go_wp2_with (go_at_call 27; refine (CT.out _).mono ?_; rintro e w5 ⟨rfl, hb5⟩)
        exact ⟨⟨t + 1, by go_num, by simp, by rw [show t + 1 + 1 = t + 2 from rfl, ← HM2.out]; exact congrArg (Value.int .i64) hst'.out, by omega, hun2, thn (thnA hbel _) hb5⟩, by simp [intOf]; omega⟩
    · exfalso
      have := hun.out (L.length - 1) (by omega) (by omega)
      rw [show L.length - 1 + 1 = L.length by omega, List.take_length] at this
      omega
end Go.Proofs.Ytmoognjegjeegaa
