/- PoolFull: pinned pages stay. -/
import Derived.Test.YtgodjnbbocnckaaGreatMar
import Derived.Deep.RegionHeld3
namespace Go.Proofs.YtgodjnbbocnckaaGreat
open Go.RowKit Go.Maps Go.ChangeMaps
set_option linter.unusedVariables false
set_option linter.unusedSimpArgs false
set_option maxRecDepth 100000

/-- The first i pages are in frames, dirty, and pinned once; no other one is pinned, or was set. -/
structure Fu (B : Nat) (w w' : World) (ww : Nat) (X : Ad) (n c i : Nat) : Prop where
  ex : ∃ (S : Dk) (sure : Nat) (G : Gp) (pg st : Nat → Option Nat), PW B w' ww X (41 + 92 * i) S (List.replicate i c) sure G st (fun d => if d < i then 1 else 0) pg (fun _ => 0) ∧ S.set = false ∧ (∀ d, d < i → ∃ j, j < X.n ∧ (G.F j).has (d : Int) ∧ 0 < (G.F j).si) ∧ (∀ d, d < i → st d = some d) ∧ (∀ d, i ≤ d → st d = none)
  n : X.n = n
  bel : Below B w w'
section
variable {B k k' ww sure n c i : Nat} {w w' wr w0 : World} {S S' : Dk} {X : Ad} {G : Gp} {cs : List Nat} {st pg : Nat → Option Nat} {pn qn : Nat → Nat}
/-- A page is in a frame, dirty, pinned: where others are taken. -/
theorem Pv.pin_of (h : Pv B w X k S cs sure G st pn pg) {d j : Nat} (hj : j < X.n) (hh : (G.F j).has (d : Int)) (hp : pn d ≠ 0) : (G.F j).pn ≠ 0 := by
  have := (h.v.fat hj hh).2.pn
  omega
theorem pigeon (m : Nat) : ∀ (n : Nat) (g : Nat → Nat), (∀ a, a < n → g a < m) → (∀ a b, a < n → b < n → g a = g b → a = b) → n ≤ m := by
  induction m with
  | zero =>
    intro n g h _
    cases n with
    | zero => exact Nat.le_refl _
    | succ n => exact absurd (h 0 (by omega)) (by omega)
  | succ m ih =>
    intro n g h hi
    by_cases hx : ∃ a, a < n ∧ g a = m
    · obtain ⟨a0, ha0, e0⟩ := hx
      have := ih (n - 1) (fun a => if a < a0 then g a else g (a + 1)) (fun a ha => by
        split
        · rename_i hlt
          have h1 := h a (by omega)
          have h2 : g a ≠ m := fun e => by have := hi a a0 (by omega) ha0 (by omega); omega
          omega
        · rename_i hlt
          have h1 := h (a + 1) (by omega)
          have h2 : g (a + 1) ≠ m := fun e => by have := hi (a + 1) a0 (by omega) ha0 (by omega); omega
          omega) (fun a b ha hb e => by
        split at e
        · split at e
          · exact hi a b (by omega) (by omega) e
          · have := hi a (b + 1) (by omega) (by omega) e; omega
        · split at e
          · have := hi (a + 1) b (by omega) (by omega) e; omega
          · have := hi (a + 1) (b + 1) (by omega) (by omega) e; omega)
      omega
    · have := ih n g (fun a ha => by
        have h1 := h a ha
        have h2 : g a ≠ m := fun e => hx ⟨a, ha, e⟩
        omega) hi
      omega
/-- Fewer pages than frames are pinned: not all frames are. -/
theorem Pv.not_all (h : Pv B w X k S cs sure G st pn pg) (hz : ∀ d, i ≤ d → pn d = 0) (hi : i < X.n) (hp : ∀ j, j < X.n → (G.F j).pn ≠ 0) : False := by
  have f : ∀ j : Nat, ∃ d : Nat, j < X.n → d < i ∧ (G.F j).has (d : Int) := fun j => by
    by_cases hj : j < X.n
    · cases hu : (G.F j).us with
      | false => exact absurd (h.v.un j hj hu).2 (hp j hj)
      | true =>
        obtain ⟨d, h1, h2⟩ := h.v.us j hj hu
        refine ⟨d, fun _ => ⟨?_, hu, h2.id⟩⟩
        rcases Nat.lt_or_ge d i with h3 | h3
        · exact h3
        · have a1 := h2.pn
          have a2 := hp j hj
          rw [hz d h3] at a1
          exact absurd a1 a2
    · exact ⟨0, fun e => absurd e hj⟩
  obtain ⟨g, hg⟩ := Classical.axiomOfChoice f
  have hinj : ∀ a b, a < X.n → b < X.n → g a = g b → a = b := fun a b ha hb e => by
    have h1 := (hg a ha).2
    have h2 := (hg b hb).2
    rw [e] at h1
    exact h.v.ds a b _ ha hb h1 h2
  have := pigeon i X.n g (fun a ha => (hg a ha).1) hinj
  omega
theorem Fu.set (h : Fu B w0 w ww X n c i) (hc : c < 256) (hi : i < n) (hn : n ≤ 7) : Calls Tryz.prog 24 #[.pointer (some ⟨ww, 0, none⟩), .int .i64 (i : Int), .int .u8 (c : Int)] w fun e w' => e = .returned (.bool true) ∧ ∃ (S : Dk) (sure : Nat) (G : Gp) (pg st : Nat → Option Nat), PW B w' ww X (41 + 92 * i + 46) S (List.replicate (i + 1) c) sure G st (fun d => if d < i then 1 else 0) pg (fun _ => 0) ∧ S.set = false ∧ (∀ d, d < i + 1 → ∃ j, j < X.n ∧ (G.F j).has (d : Int) ∧ 0 < (G.F j).si) ∧ (∀ d, d < i + 1 → st d = some d) ∧ (∀ d, i + 1 ≤ d → st d = none) ∧ Below B w w' := by
  obtain ⟨S, sure, G, pg, st, P, hs, hd, h1, h2⟩ := h.ex
  have hX := h.n
  refine (set_in P (by omega) c hc (by rw [List.length_replicate]; omega) i (by omega)).mono ?_
  rintro e w' ⟨b, he, hO⟩
  rcases hO.or with ⟨_, e2, _⟩ | ⟨_, _, e3, _⟩ | ⟨e1, d', j, S1, s1, G1, p1, a1, a2, a3, a4, a5, a6, a7, a8, a9⟩ | ⟨_, e2, _⟩
  · exact absurd ⟨by omega, by omega⟩ e2
  · exact (P.pv.not_all (i := i) (fun d hd => if_neg (by omega)) (by omega) e3).elim
  · have hdi : d' = i := by omega
    subst hdi
    subst e1
    rw [List.length_replicate] at a3
    rw [show List.replicate d' c ++ [c] = List.replicate (d' + 1) c by rw [List.replicate_succ']] at a3
    refine ⟨he, S1, s1, G1, p1, _, a3, a8 hs, fun d hdd => ?_, fun d hdd => ?_, fun d hdd => ?_, hO.bel⟩
    · by_cases e : d = d'
      · subst e; exact ⟨j, a4, a5, a6⟩
      · obtain ⟨j2, b1, b2, b3⟩ := hd d (by omega)
        have hpn : (G.F j2).pn ≠ 0 := P.pv.pin_of b1 b2 (by show (if d < d' then 1 else 0) ≠ 0; rw [if_pos (by omega)]; omega)
        have hj2 : j2 ≠ j := fun e2 => by
          subst e2
          have x1 := a9 j2 b1 hpn
          have x2 := a5.2
          have x3 := b2.2
          omega
        exact ⟨j2, b1, by rw [a7 j2 b1 hj2 hpn]; exact b2, by rw [a7 j2 b1 hj2 hpn]; exact b3⟩
    · by_cases e : d = d'
      · subst e; rw [upd_same]
      · rw [upd_other _ _ e]; exact h1 d (by omega)
    · rw [upd_other _ _ (by omega)]; exact h2 d (by omega)
  · rw [hs] at e2; cases e2
/-- Behind set, ahead of Pin. -/
structure Fv (B : Nat) (w w' : World) (ww : Nat) (X : Ad) (n c i : Nat) : Prop where
  ex : ∃ (S : Dk) (sure : Nat) (G : Gp) (pg st : Nat → Option Nat), PW B w' ww X (41 + 92 * i + 46) S (List.replicate (i + 1) c) sure G st (fun d => if d < i then 1 else 0) pg (fun _ => 0) ∧ S.set = false ∧ (∀ d, d < i + 1 → ∃ j, j < X.n ∧ (G.F j).has (d : Int) ∧ 0 < (G.F j).si) ∧ (∀ d, d < i + 1 → st d = some d) ∧ (∀ d, i + 1 ≤ d → st d = none)
  n : X.n = n
  bel : Below B w w'
theorem Fu.set' (h : Fu B w0 w ww X n c i) (hc : c < 256) (hi : i < n) (hn : n ≤ 7) : Calls Tryz.prog 24 #[.pointer (some ⟨ww, 0, none⟩), .int .i64 (i : Int), .int .u8 (c : Int)] w fun e w' => e = .returned (.bool true) ∧ Fv B w0 w' ww X n c i := by
  refine (h.set hc hi hn).mono ?_
  rintro e w' ⟨he, S, s, G, pg, st, a, b, c, d, f, g⟩
  exact ⟨he, ⟨S, s, G, pg, st, a, b, c, d, f⟩, h.n, h.bel.trans g⟩
theorem Fv.wb (h : Fv B w0 w ww X n c i) : w.cell? ⟨ww, 3, none⟩ = some (.pointer (some ⟨X.pb, 0, none⟩)) := by
  obtain ⟨S, sure, G, pg, st, P, _⟩ := h.ex
  exact P.wb.c3
theorem Fv.pin (h : Fv B w0 w ww X n c i) (hi : i < n) (hn : n ≤ 7) : Calls Tryz.prog 25 #[.pointer (some ⟨X.pb, 0, none⟩), .int .i64 (i : Int)] w fun e w' => e = .returned (.int .i64 0) ∧ Fu B w0 w' ww X n c (i + 1) := by
  obtain ⟨S, sure, G, pg, st, P, hs, hd, h1, h2⟩ := h.ex
  obtain ⟨j0, c1, c2, c3⟩ := hd i (by omega)
  have hX := h.n
  refine (Pin_any P.pv (by omega) (i : Int) (fun d => by show (if d < i then 1 else 0) ≤ 1000; split <;> omega)).mono ?_
  rintro e w' ⟨y, he, hO⟩
  by_cases hy : y = 0
  · subst hy
    obtain ⟨w1, d, j, S1, s1, G1, p1, a1, a2, T, V, K⟩ := hO.ok rfl
    have hdi : d = i := by omega
    subst hdi
    have hG : G1 = G := T.hit ⟨j0, c1, c2⟩
    subst hG
    have hj : j = j0 := T.v.v.ds j j0 _ T.hj c1 T.has c2
    subst hj
    have hpn : (upd (fun x => if x < d then 1 else 0) d ((if d < d then 1 else 0) + 1) : Nat → Nat) = fun x => if x < d + 1 then 1 else 0 := by
      funext x
      unfold upd
      by_cases e : x = d
      · subst e; rw [if_pos rfl, if_neg (by omega), if_pos (by omega)]
      · rw [if_neg e]
        dsimp only
        by_cases e2 : x < d
        · rw [if_pos e2, if_pos (by omega)]
        · rw [if_neg e2, if_neg (by omega)]
    have V' := V
    rw [hpn] at V'
    refine ⟨he, ⟨S1, s1, _, p1, st, ⟨V'.mono (by omega), ?_, P.ge, fun x => by show (if x < d + 1 then 1 else 0) ≤ 1000; split <;> omega⟩, T.cm hs, fun x hx => ?_, h1, h2⟩, h.n, h.bel.trans K.bel⟩
    · exact P.wb.kept K
    · obtain ⟨j2, b1, b2, b3⟩ := hd x (by omega)
      refine ⟨j2, b1, ?_, ?_⟩
      · show (upd G1.F j _ j2).has _
        by_cases e : j2 = j
        · subst e; rw [upd_same]; exact b2
        · rw [upd_other _ _ e]; exact b2
      · show 0 < (upd G1.F j _ j2).si
        by_cases e : j2 = j
        · subst e; rw [upd_same]; exact b3
        · rw [upd_other _ _ e]; exact b3
  · exfalso
    rcases (hO.bad hy).or with ⟨_, e2, _⟩ | ⟨_, _, e3, _⟩ | ⟨_, _, e3⟩
    · omega
    · exact e3 j0 c1 c2
    · have := e3.set; rw [hs] at this; cases this
theorem Fu.wb (h : Fu B w0 w ww X n c i) : w.cell? ⟨ww, 3, none⟩ = some (.pointer (some ⟨X.pb, 0, none⟩)) := by
  obtain ⟨S, sure, G, pg, st, P, _⟩ := h.ex
  exact P.wb.c3
theorem Fu.below (h : Fu B w0 w ww X n c i) (hb : Below w.heap.size w w') : Fu B w0 w' ww X n c i := by
  obtain ⟨S, sure, G, pg, st, P, hs, hd, h1, h2⟩ := h.ex
  exact ⟨⟨S, sure, G, pg, st, P.below hb, hs, hd, h1, h2⟩, h.n, h.bel.trans (hb.mono P.le)⟩
/-- All frames are pinned. -/
theorem Fu.all (h : Fu B w0 w ww X n c n) (hn : n ≤ 7) : ∃ (S : Dk) (sure : Nat) (G : Gp) (pg st : Nat → Option Nat), PW B w ww X (41 + 92 * n) S (List.replicate n c) sure G st (fun d => if d < n then 1 else 0) pg (fun _ => 0) ∧ S.set = false ∧ (∀ d, d < n → ∃ j, j < X.n ∧ (G.F j).has (d : Int) ∧ 0 < (G.F j).si) ∧ (∀ d, d < n → st d = some d) ∧ (∀ d, n ≤ d → st d = none) ∧ (∀ j, j < X.n → (G.F j).pn ≠ 0) := by
  obtain ⟨S, sure, G, pg, st, P, hs, hd, h1, h2⟩ := h.ex
  have hX := h.n
  refine ⟨S, sure, G, pg, st, P, hs, hd, h1, h2, fun j0 hj0 hz => ?_⟩
  have f : ∀ d : Nat, ∃ j : Nat, d < n → j < X.n ∧ (G.F j).has (d : Int) ∧ j ≠ j0 := fun d => by
    by_cases hdn : d < n
    · obtain ⟨j, a1, a2, a3⟩ := hd d hdn
      refine ⟨j, fun _ => ⟨a1, a2, fun e => ?_⟩⟩
      subst e
      exact P.pv.pin_of a1 a2 (by show (if d < n then 1 else 0) ≠ 0; rw [if_pos hdn]; omega) hz
    · exact ⟨0, fun e => absurd e hdn⟩
  obtain ⟨g, hg⟩ := Classical.axiomOfChoice f
  have := pigeon (n - 1) n (fun d => if g d < j0 then g d else g d - 1) (fun a ha => by
    obtain ⟨a1, _, a3⟩ := hg a ha
    show (if g a < j0 then g a else g a - 1) < n - 1
    split <;> omega) (fun a b ha hb e => by
    obtain ⟨a1, a2, a3⟩ := hg a ha
    obtain ⟨b1, b2, b3⟩ := hg b hb
    have e' : (if g a < j0 then g a else g a - 1) = (if g b < j0 then g b else g b - 1) := e
    have e2 : g a = g b := by
      split at e'
      · split at e' <;> omega
      · split at e' <;> omega
    rw [e2] at a2
    have x := a2.2
    have y := b2.2
    omega)
  omega
theorem Fu.get (h : Fu B w0 w ww X n c n) (h2 : 2 ≤ n) (hn : n ≤ 7) : Calls Tryz.prog 14 #[.pointer (some ⟨X.pb, 0, none⟩), .int .i64 (n : Int)] w fun e w' => e = .returned (.tuple #[.string ⟨#[]⟩, .int .i64 0, .int .i64 7]) ∧ Fu B w0 w' ww X n c n := by
  obtain ⟨S, sure, G, pg, st, P, hs, hd, h1, h3, hp⟩ := h.all hn
  have hno : ∀ j, j < X.n → ¬ (G.F j).has (n : Int) := fun j hj hh => by
    have := (P.pv.v.fat hj hh).2.pn
    have e : (if n < n then 1 else 0) = 0 := if_neg (by omega)
    exact hp j hj (by rw [this]; show (((if n < n then 1 else 0) : Nat) : Int) = 0; rw [e]; rfl)
  refine (Get_any P.pv (by omega) (n : Int)).mono ?_
  rintro e w' ⟨t, l, y, he, hO⟩
  by_cases hy : y = 0
  · exfalso
    obtain ⟨d, j, S1, s1, G1, p1, a1, a2, a3, a4, T⟩ := hO.ok hy
    have := T.keep j T.hj (hp j T.hj)
    have hh := T.has
    rw [this] at hh
    exact hno j T.hj hh
  · obtain ⟨rfl, rfl, hE⟩ := hO.bad hy
    rcases hE.or with ⟨_, e2, _⟩ | ⟨e1, _, _, _, e5⟩ | ⟨_, _, e3⟩
    · exact absurd ⟨by omega, by omega⟩ e2
    · subst e1; exact ⟨he, h.below e5⟩
    · have := e3.set; rw [hs] at this; cases this
theorem Fu.dirty (h : Fu B w0 w ww X n c n) {d : Nat} (hd : d < n) : Calls Tryz.prog 26 #[.pointer (some ⟨X.pb, 0, none⟩), .int .i64 (d : Int)] w fun e w' => e = .returned (.bool true) ∧ w' = w := by
  obtain ⟨S, sure, G, pg, st, P, hs, hdd, h1, h3⟩ := h.ex
  have := Dirty_any P.pv (d : Int)
  rw [dtb_iff.2 (hdd d hd)] at this
  exact this
/-- Behind Unpin(0). -/
structure Fz (B : Nat) (w w' : World) (ww : Nat) (X : Ad) (n c : Nat) : Prop where
  ex : ∃ (S : Dk) (sure : Nat) (G : Gp) (pg st : Nat → Option Nat) (j0 : Nat), PW B w' ww X (41 + 92 * n) S (List.replicate n c) sure G st (upd (fun d => if d < n then 1 else 0) 0 0) pg (fun _ => 0) ∧ S.set = false ∧ j0 < X.n ∧ (G.F j0).has ((0 : Nat) : Int) ∧ (G.F j0).pn = 0 ∧ (∀ j, j < X.n → j ≠ j0 → (G.F j).pn ≠ 0) ∧ st 0 = some 0 ∧ st n = none
  bel : Below B w w'
theorem Fu.unpin (h : Fu B w0 w ww X n c n) (h2 : 2 ≤ n) (hn : n ≤ 7) : Calls Tryz.prog 27 #[.pointer (some ⟨X.pb, 0, none⟩), .int .i64 0] w fun e w' => e = .returned (.int .i64 0) ∧ Fz B w0 w' ww X n c := by
  obtain ⟨S, sure, G, pg, st, P, hs, hd, h1, h3, hp⟩ := h.all hn
  refine (Unpin_ok P.pv 0 (by omega) (by show (if 0 < n then 1 else 0) ≠ 0; rw [if_pos (by omega)]; omega) (by show (if 0 < n then 1 else 0) ≤ 1000; split <;> omega)).mono ?_
  rintro e w' ⟨he, j, hj, hh, V, K⟩
  have e0 : (if 0 < n then 1 else 0) - 1 = 0 := by rw [if_pos (by omega)]
  have V' : Pv B w' X (41 + 92 * n) S (List.replicate n c) sure (G.set j { G.F j with pn := ((0 : Nat) : Int) }) st (upd (fun d => if d < n then 1 else 0) 0 0) pg := by
    have := V
    rw [show (fun d => if d < n then 1 else 0) 0 - 1 = 0 from e0] at this
    exact this
  refine ⟨he, ⟨S, sure, _, pg, st, j, ⟨V', P.wb.kept K, P.ge, fun d => ?_⟩, hs, hj, ?_, ?_, fun i hi hij => ?_, h1 0 (by omega), h3 n (Nat.le_refl _)⟩, h.bel.trans K.bel⟩
  · unfold upd
    split
    · omega
    · show (if d < n then 1 else 0) ≤ 1000
      split <;> omega
  · show (upd G.F j _ j).has _
    rw [upd_same]; exact hh
  · show (upd G.F j _ j).pn = 0
    rw [upd_same]; rfl
  · show (upd G.F j _ i).pn ≠ 0
    rw [upd_other _ _ hij]; exact hp i hi
/-- Behind the last Get. -/
structure Fy (B : Nat) (w w' : World) (ww : Nat) (X : Ad) : Prop where
  d : ∀ wx, Below w'.heap.size w' wx → Calls Tryz.prog 26 #[.pointer (some ⟨X.pb, 0, none⟩), .int .i64 0] wx fun e w'' => e = .returned (.bool false) ∧ w'' = wx
  s : ∀ wx, Below w'.heap.size w' wx → Calls Tryz.prog 28 #[.pointer (some ⟨X.sb, 0, none⟩), .int .i64 0, .int .i64 1] wx fun e w'' => e = .returned (.bool true) ∧ Below wx.heap.size wx w''
  c : ∀ wx, Below w'.heap.size w' wx → wx.cell? ⟨ww, 3, none⟩ = some (.pointer (some ⟨X.pb, 0, none⟩)) ∧ wx.cell? ⟨ww, 1, none⟩ = some (.pointer (some ⟨X.sb, 0, none⟩)) ∧ wx.cell? ⟨ww, 12, none⟩ = some (.int .i64 1)
  bel : Below B w w'
  le : B ≤ w'.heap.size
theorem Fz.get (h : Fz B w0 w ww X n c) (h2 : 2 ≤ n) (hn : n ≤ 7) : Calls Tryz.prog 14 #[.pointer (some ⟨X.pb, 0, none⟩), .int .i64 (n : Int)] w fun e w' => e = .returned (.tuple #[.string ⟨#[]⟩, .int .i64 0, .int .i64 0]) ∧ Fy B w0 w' ww X := by
  obtain ⟨S, sure, G, pg, st, j0, P, hs, hj0, hh0, hz0, hp, hst0, hstn⟩ := h.ex
  have hn0 : (upd (fun d => if d < n then 1 else 0) 0 0 : Nat → Nat) n = 0 := by
    unfold upd; rw [if_neg (by omega)]; exact if_neg (by omega)
  refine (Get_any P.pv (by omega) (n : Int)).mono ?_
  rintro e w' ⟨t, l, y, he, hO⟩
  by_cases hy : y = 0
  · subst hy
    obtain ⟨d, j, S1, s1, G1, p1, a1, a2, a3, a4, T⟩ := hO.ok rfl
    have hdn : d = n := by omega
    subst hdn
    rw [hstn] at a3 a4
    subst a3 a4
    have hjj : j = j0 := by
      rcases Classical.em (j = j0) with e | e
      · exact e
      · exfalso
        have hk := T.keep j T.hj (hp j T.hj e)
        have hh := T.has
        rw [hk] at hh
        have := (P.pv.v.fat T.hj hh).2.pn
        rw [hn0] at this
        exact hp j T.hj e this
    subst hjj
    have hno : ∀ i, i < X.n → ¬ (G1.F i).has ((0 : Nat) : Int) := fun i hi hh => by
      by_cases e : i = j
      · subst e
        have x := T.has.2
        have y := hh.2
        omega
      · rw [T.keep i hi (hp i hi e)] at hh
        exact e (P.pv.v.ds i j _ hi hj0 hh hh0)
    have hpg : p1 0 = some 0 := by rw [T.v.v.cl 0 (by omega) (fun i hi hh => absurd hh (hno i hi)), hst0]
    have P1 : PW B w' ww X (41 + 92 * d + 46) S1 (List.replicate d c) s1 G1 st (upd (fun x => if x < d then 1 else 0) 0 0) p1 (fun _ => 0) := ⟨T.v, P.wb.kept T.kp, P.ge, P.pb⟩
    refine ⟨he, fun wx hx => ?_, fun wx hx => ?_, fun wx hx => ?_, h.bel.trans T.kp.bel, T.v.q.le⟩
    · have := Dirty_any (T.v.below hx) ((0 : Nat) : Int)
      have e : dtb G1.F X.n ((0 : Nat) : Int) = false := by
        cases hb : dtb G1.F X.n ((0 : Nat) : Int) with
        | false => rfl
        | true =>
          obtain ⟨i, hi, g1, _⟩ := dtb_iff.1 hb
          exact absurd g1 (hno i hi)
      rw [e] at this
      exact this
    · have hq := T.v.q.below hx
      have := hq.ds.stis hq.st hq.lv.up hq.n ((0 : Nat) : Int) 1
      rw [T.v.p.rd (by have := T.v.q.sl; have := T.v.q.len; omega) (show 0 < 8 by omega), hpg] at this
      exact this
    · have hw := P1.wb.below hx
      have h12 := hw.ln (i := 0) (by omega)
      rw [hst0] at h12
      exact ⟨hw.c3, hw.c1, h12⟩
  · exfalso
    obtain ⟨_, _, hE⟩ := hO.bad hy
    rcases hE.or with ⟨_, e2, _⟩ | ⟨_, _, _, e4, _⟩ | ⟨_, _, e3⟩
    · exact e2 ⟨by omega, by omega⟩
    · exact e4 j0 hj0 hz0
    · have := e3.set; rw [hs] at this; cases this
theorem Fu.new {S : Dk} {G : Gp} {e : Ending} (h : MdO w0 w n e ww X S G) (c : Nat) : Fu w0.heap.size w0 w ww X n c 0 := by
  refine ⟨⟨S, 0, G, fun _ => none, fun _ => none, ?_, h.set, fun d hd => by omega, fun d hd => by omega, fun d _ => rfl⟩, h.n, h.bel⟩
  have e : (fun d => if d < 0 then 1 else 0 : Nat → Nat) = fun _ => 0 := by funext d; exact if_neg (by omega)
  rw [e]
  exact h.pw
set_option maxHeartbeats 8000000 in
theorem full_in (n : Nat) (h2 : 2 ≤ n) (h7 : n ≤ 7) (c : Nat) (hc : c < 256) : Calls Tryz.prog 6 #[.int .i64 (n : Int), .int .u8 (c : Int)] w fun e w' => e = .returned (.bool true) ∧ Below w.heap.size w w' := by
  have CA : Hid (∀ wx, Calls Tryz.prog 9 #[] wx fun e w' => e = .returned (.bool true) ∧ Below wx.heap.size wx w') := fun wx => awake10 wx
  have CM : Hid (Calls Tryz.prog 10 #[.int .i64 (n : Int)] w fun e w' => ∃ ww X S G, MdO w w' n e ww X S G) := made_any n h2 (by omega) w
  have CS : Hid (∀ wx ww X i, i < n → Fu w.heap.size w wx ww X n c i → Calls Tryz.prog 24 #[.pointer (some ⟨ww, 0, none⟩), .int .i64 (i : Int), .int .u8 (c : Int)] wx fun e w' => e = .returned (.bool true) ∧ Fv w.heap.size w w' ww X n c i) := fun wx ww X i hi h => h.set' hc hi h7
  have CP : Hid (∀ wx ww X i, i < n → Fv w.heap.size w wx ww X n c i → Calls Tryz.prog 25 #[.pointer (some ⟨X.pb, 0, none⟩), .int .i64 (i : Int)] wx fun e w' => e = .returned (.int .i64 0) ∧ Fu w.heap.size w w' ww X n c (i + 1)) := fun wx ww X i hi h => h.pin hi h7
  have CG : Hid (∀ wx ww X, Fu w.heap.size w wx ww X n c n → Calls Tryz.prog 14 #[.pointer (some ⟨X.pb, 0, none⟩), .int .i64 (n : Int)] wx fun e w' => e = .returned (.tuple #[.string ⟨#[]⟩, .int .i64 0, .int .i64 7]) ∧ Fu w.heap.size w w' ww X n c n) := fun wx ww X h => h.get h2 h7
  have CD : Hid (∀ wx ww X i, i < n → Fu w.heap.size w wx ww X n c n → Calls Tryz.prog 26 #[.pointer (some ⟨X.pb, 0, none⟩), .int .i64 (i : Int)] wx fun e w' => e = .returned (.bool true) ∧ w' = wx) := fun wx ww X i hi h => h.dirty hi
  have CU : Hid (∀ wx ww X, Fu w.heap.size w wx ww X n c n → Calls Tryz.prog 27 #[.pointer (some ⟨X.pb, 0, none⟩), .int .i64 0] wx fun e w' => e = .returned (.int .i64 0) ∧ Fz w.heap.size w w' ww X n c) := fun wx ww X h => h.unpin h2 h7
  have CZ : Hid (∀ wx ww X, Fz w.heap.size w wx ww X n c → Calls Tryz.prog 14 #[.pointer (some ⟨X.pb, 0, none⟩), .int .i64 (n : Int)] wx fun e w' => e = .returned (.tuple #[.string ⟨#[]⟩, .int .i64 0, .int .i64 0]) ∧ Fy w.heap.size w w' ww X) := fun wx ww X h => h.get h2 h7
  have HZ : Hid (∀ wx ww X, Fz w.heap.size w wx ww X n c → wx.cell? ⟨ww, 3, none⟩ = some (.pointer (some ⟨X.pb, 0, none⟩))) := fun wx ww X h => by
    obtain ⟨S, sure, G, pg, st, j0, P, _⟩ := h.ex
    exact P.wb.c3
  have n2 : ¬ (n : Int) < 2 := by omega
  have n7 : ¬ (7 : Int) < (n : Int) := by omega
  have hn7 : (n : Int) ≤ 7 := by omega
  clear hc
  generalize (c : Int) = cI at *
  go_enter Tryz.func6, Tryz.ntmps6
  go_wp2_with (go_at_call 10; refine CM.out.mono ?_; rintro e w1 ⟨ww, X, S1, G1, M1⟩; have he := M1.e; subst he; have F1 : Hid (Fu w.heap.size w w1 ww X n c 0) := Fu.new M1 c; clear M1)
  go_loopw [6] (fun iv wr => ∃ i : Nat, i ≤ n ∧ iv = .int .i64 (i : Int) ∧ Fu w.heap.size w wr ww X n c i) (fun iv _ => n - (intOf iv).toNat)
  case atStart => exact ⟨0, Nat.zero_le _, rfl, F1.out⟩
  case round =>
    obtain ⟨i, hi, rfl, hF⟩ := hrel
    have HF : Hid (Fu w.heap.size w wr ww X n c i) := hF
    clear hF
    by_cases hlt : i < n
    · have i1 : (i : Int) < (n : Int) := by omega
      have i7 : (i : Int) ≤ 7 := by omega
      go_wp2_with (first
        | (go_at_call 24; refine (CS.out _ _ _ i hlt HF.out).mono ?_; rintro e w2 ⟨rfl, V2⟩; have HV : Hid (Fv w.heap.size w w2 ww X n c i) := V2; have k3 := V2.wb; clear V2)
        | (go_at_call 25; refine (CP.out _ _ _ i hlt HV.out).mono ?_; rintro e w3 ⟨rfl, V3⟩; have HF3 : Hid (Fu w.heap.size w w3 ww X n c (i + 1)) := V3; clear V3))
      go_roundw
      case rel => exact ⟨i + 1, hlt, by go_num, HF3.out⟩
      case measure => simp [intOf]; omega
    · obtain rfl : i = n := by omega
      have i1 : ¬ (i : Int) < (i : Int) := by omega
      clear hlt hi F1
      have k3 := HF.out.wb
      go_wp2_with (go_at_call 14; refine (CG.out _ _ _ HF.out).mono ?_; rintro e w2 ⟨rfl, F2⟩; have HF2 : Hid (Fu w.heap.size w w2 ww X i c i) := F2; clear F2)
      go_loopw [10] (fun iv wq => ∃ j : Nat, j ≤ i ∧ iv = .int .i64 (j : Int) ∧ wq = w2) (fun iv _ => i - (intOf iv).toNat)
      case atStart => exact ⟨0, Nat.zero_le _, rfl, rfl⟩
      case round =>
        obtain ⟨j, hj, rfl, rfl⟩ := hrel
        have k4 := HF2.out.wb
        by_cases hlt : j < i
        · have j1 : (j : Int) < (i : Int) := by omega
          have j7 : (j : Int) ≤ 7 := by omega
          go_wp2_with (go_at_call 26; refine (CD.out _ _ _ j hlt HF2.out).mono ?_; rintro e w4 ⟨rfl, rfl⟩)
          go_roundw
          case rel => exact ⟨j + 1, hlt, by go_num, by first | rfl | trivial⟩
          case measure => simp [intOf]; omega
        · obtain rfl : j = i := by omega
          have j1 : ¬ (j : Int) < (j : Int) := by omega
          clear hlt hj
          go_wp2_with (first
            | (go_at_call 27; refine (CU.out _ _ _ HF2.out).mono ?_; rintro e w5 ⟨rfl, F5⟩; have HF5 : Hid (Fz w.heap.size w w5 ww X j c) := F5; have k5 := HZ.out _ _ _ F5; clear F5)
            | (go_at_call 14; refine (CZ.out _ _ _ HF5.out).mono ?_; rintro e w6 ⟨rfl, F6⟩; have HF6 : Hid (Fy w.heap.size w w6 ww X) := F6; clear F6))
          have bd : Hid (Below w6.heap.size w6 w6.drew) := (Below.refl _ _).drew
          have kd := HF6.out.c _ bd.out
          have q1 := kd.1
          have q2 := kd.2.1
          have q3 := kd.2.2
          clear kd
          go_region_held3 (fun W => W.cell? ⟨ww, 3, none⟩ = some (.pointer (some ⟨X.pb, 0, none⟩)) ∧ W.cell? ⟨ww, 1, none⟩ = some (.pointer (some ⟨X.sb, 0, none⟩)) ∧ W.cell? ⟨ww, 12, none⟩ = some (.int .i64 1)) (first | exact ⟨kee1, kee2, kee3⟩ | exact ⟨keep1, keep2, keep3⟩ | exact ⟨q1, q2, q3⟩ | go_keep) (first
            | (go_at_call 26; refine (HF6.out.d _ bd.out).mono ?_; rintro e w7 ⟨rfl, rfl⟩)
            | (go_at_call 28; refine (HF6.out.s _ bd.out).mono ?_; rintro e w8 ⟨rfl, b8⟩; have B8 : Hid (Below w6.heap.size w6 w8) := thn bd.out b8; have kd := HF6.out.c _ B8.out; have keep1 := kd.1; have keep2 := kd.2.1; have keep3 := kd.2.2; clear kd)
            | (go_at_call 9; refine (CA.out _).mono ?_; rintro e w9 ⟨rfl, b9⟩; have B9 : Hid (Below w6.heap.size w6 w9) := thn B8.out b9; have kd := HF6.out.c _ B9.out; have kee1 := kd.1; have kee2 := kd.2.1; have kee3 := kd.2.2; clear kd))
          go_wp2
          go_ret
          exact ⟨rfl, HF6.out.bel.trans (B9.out.mono HF6.out.le)⟩
theorem full10_walk (a c : Int) (c0 : 0 ≤ c) (c1 : c ≤ 255) : Calls Tryz.prog 6 #[.int .i64 a, .int .u8 c] w fun e w' => e = .returned (.bool true) ∧ Below w.heap.size w w' := by
  have CA : Hid (∀ wx, Calls Tryz.prog 9 #[] wx fun e w' => e = .returned (.bool true) ∧ Below wx.heap.size wx w') := fun wx => awake10 wx
  by_cases h1 : a < 2
  · go_enter Tryz.func6, Tryz.ntmps6
    go_wp2_with (go_at_call 9; refine (CA.out _).mono ?_; rintro e w9 ⟨rfl, b9⟩)
    go_ret
    exact ⟨rfl, b9⟩
  · by_cases h2 : 7 < a
    · go_enter Tryz.func6, Tryz.ntmps6
      go_wp2_with (go_at_call 9; refine (CA.out _).mono ?_; rintro e w9 ⟨rfl, b9⟩)
      go_ret
      exact ⟨rfl, b9⟩
    · obtain ⟨n, rfl⟩ : ∃ n : Nat, a = (n : Int) := ⟨a.toNat, by omega⟩
      obtain ⟨d, rfl⟩ : ∃ d : Nat, c = (d : Int) := ⟨c.toNat, by omega⟩
      exact full_in n (by omega) (by omega) d (by omega)
end
end Go.Proofs.YtgodjnbbocnckaaGreat
