/- WalRaw: slices of texts and of ints that are handed in; the law's disk while it is written; the log that it is opened as. WalRaw: the walk, the first loop being ended by the parts. -/
import Derived.Test.YtgcfbjecmmnlhaaGreatMak
import Derived.Test.YtgcfbjecmmnlhaaGreatMag
namespace Go.Proofs.YtgcfbjecmmnlhaaGreat
open Go.RowKit Go.Maps Go.ChangeMaps
set_option linter.unusedVariables false
set_option linter.unusedSimpArgs false
set_option maxRecDepth 100000

/-- A slice of texts that is only read. -/
structure SsV (w : World) (a : Option Addr) (n : Nat) (ss : List ByteArray) : Prop where
  len : ss.length = n
  at_ : ∀ i, (h : i < ss.length) → ∃ g o, a = some ⟨g, o, none⟩ ∧ g < w.heap.size ∧ w.cell? ⟨g, o + i, none⟩ = some (.string ss[i]) ∧ ss[i].size ≤ 9223372036854775807
/-- A slice of ints that is only read. -/
structure NsV (w : World) (a : Option Addr) (n : Nat) (is : List Int) : Prop where
  len : is.length = n
  at_ : ∀ i, (h : i < is.length) → ∃ g o, a = some ⟨g, o, none⟩ ∧ g < w.heap.size ∧ w.cell? ⟨g, o + i, none⟩ = some (.int .i64 is[i])
section
variable {H : Type} {enc : TypeId × Value → H} {w w' : World}
theorem open_strs {fuel : Nat} {a0 : Option Addr} {n0 c0 : Nat} {x : DataW H × List MemPlace} (h : DataW.trod enc Tryz.prog w 0 (fun _ => true) true fuel 31 [.slice a0 n0 c0] = some x) :
    ∃ ss, SsV w a0 n0 ss ∧ n0 ≤ 9223372036854775807 := by
  rcases Go.Deep.open_slice Tryz.underlying31 h with ⟨hcs, _⟩ | ⟨ad, len, cap, m, n, D, Pl, hcs, _, hl, hm, hmm, _, hall⟩
  · simp at hcs
    obtain ⟨rfl, rfl, rfl⟩ := hcs
    exact ⟨[], ⟨rfl, fun i hi => absurd hi (Nat.not_lt_zero _)⟩, by omega⟩
  · simp at hcs
    obtain ⟨rfl, rfl, rfl⟩ := hcs
    rw [if_pos rfl] at hmm
    subst hmm
    have h9 : Tryz.prog.cellsOf 9 = 1 := by kernel_rfl
    have each : ∀ i, i < m → ∃ q : ByteArray, w.cell? (ad.add i) = some (.string q) ∧ q.size ≤ 9223372036854775807 := by
      intro i hi
      obtain ⟨cs', g1, g2⟩ := hall i hi
      rw [h9] at g1
      obtain ⟨_, hlen, hcell⟩ := World.cells?_some g1
      match cs', hlen with
      | [v0], _ =>
        have e0 := hcell 0 (by omega)
        rw [Go.Deep.add_add] at e0
        obtain ⟨s1, i1, _, z1⟩ := DataW.trod_string Tryz.underlying9 g2
        simp at i1
        subst i1
        exact ⟨s1, by simpa using e0, z1⟩
    haveI : Inhabited ByteArray := ⟨⟨#[]⟩⟩
    obtain ⟨q, hq⟩ := Go.Deep.choose_lt each
    obtain ⟨b, off, spot⟩ := ad
    refine ⟨(List.range n0).map q, ⟨by simp, fun i hi => ?_⟩, by have : n0 ≤ m := hl; have := hm; unfold maxLen at this; omega⟩
    have hi' : i < n0 := by simpa using hi
    have hlm : n0 ≤ m := hl
    have hsp : spot = none := by
      have g0 := (hq 0 (by omega)).1
      simpa [Addr.add] using World.cell?_spot g0
    subst hsp
    have hadd : ∀ k, (⟨b, off, none⟩ : Addr).add k = ⟨b, off + k, none⟩ := fun k => by unfold Addr.add; split <;> simp_all
    have hget : ((List.range n0).map q)[i] = q i := by simp
    rw [hget]
    obtain ⟨hc, hz⟩ := hq i (by omega)
    rw [hadd] at hc
    refine ⟨b, off, rfl, ?_, hc, hz⟩
    rcases Nat.lt_or_ge b w.heap.size with h' | h'
    · exact h'
    · simp [World.cell?, Array.getElem?_eq_none h'] at hc
theorem open_ints {fuel : Nat} {a0 : Option Addr} {n0 c0 : Nat} {x : DataW H × List MemPlace} (h : DataW.trod enc Tryz.prog w 0 (fun _ => true) true fuel 62 [.slice a0 n0 c0] = some x) :
    ∃ is, NsV w a0 n0 is ∧ n0 ≤ 9223372036854775807 := by
  rcases Go.Deep.open_slice Tryz.underlying62 h with ⟨hcs, _⟩ | ⟨ad, len, cap, m, n, D, Pl, hcs, _, hl, hm, hmm, _, hall⟩
  · simp at hcs
    obtain ⟨rfl, rfl, rfl⟩ := hcs
    exact ⟨[], ⟨rfl, fun i hi => absurd hi (Nat.not_lt_zero _)⟩, by omega⟩
  · simp at hcs
    obtain ⟨rfl, rfl, rfl⟩ := hcs
    rw [if_pos rfl] at hmm
    subst hmm
    have h3 : Tryz.prog.cellsOf 3 = 1 := by kernel_rfl
    have each : ∀ i, i < m → ∃ q : Int, w.cell? (ad.add i) = some (.int .i64 q) := by
      intro i hi
      obtain ⟨cs', g1, g2⟩ := hall i hi
      rw [h3] at g1
      obtain ⟨_, hlen, hcell⟩ := World.cells?_some g1
      match cs', hlen with
      | [v0], _ =>
        have e0 := hcell 0 (by omega)
        rw [Go.Deep.add_add] at e0
        obtain ⟨s1, i1, _, _⟩ := DataW.trod_int Tryz.underlying3 g2
        simp at i1
        subst i1
        exact ⟨s1, by simpa using e0⟩
    obtain ⟨q, hq⟩ := Go.Deep.choose_lt each
    obtain ⟨b, off, spot⟩ := ad
    refine ⟨(List.range n0).map q, ⟨by simp, fun i hi => ?_⟩, by have : n0 ≤ m := hl; have := hm; unfold maxLen at this; omega⟩
    have hi' : i < n0 := by simpa using hi
    have hlm : n0 ≤ m := hl
    have hsp : spot = none := by
      have g0 := hq 0 (by omega)
      simpa [Addr.add] using World.cell?_spot g0
    subst hsp
    have hadd : ∀ k, (⟨b, off, none⟩ : Addr).add k = ⟨b, off + k, none⟩ := fun k => by unfold Addr.add; split <;> simp_all
    have hget : ((List.range n0).map q)[i] = q i := by simp
    rw [hget]
    have hc := hq i (by omega)
    rw [hadd] at hc
    refine ⟨b, off, rfl, ?_, hc⟩
    rcases Nat.lt_or_ge b w.heap.size with h' | h'
    · exact h'
    · simp [World.cell?, Array.getElem?_eq_none h'] at hc
end
section
variable {l k db run j la r : Nat} {w w' w0 wx : World} {S S' : Dk} {fs gs : List ByteArray} {acc s : ByteArray} {on : Bool}
def setQ (Q : Nat → Sec) (j : Nat) (q : Sec) (i : Nat) : Sec := if i = j then q else Q i
theorem setQ_same {Q : Nat → Sec} {j : Nat} {q : Sec} : setQ Q j q j = q := if_pos rfl
theorem setQ_other {Q : Nat → Sec} {j : Nat} {q : Sec} {i : Nat} (h : ¬ i = j) : setQ Q j q i = Q i := if_neg h
/-- What the first j sectors come to: all so far, the last run, does it go on? -/
def Goes (Q : Nat → Sec) (run j : Nat) (acc : ByteArray) (la : Nat) (on : Bool) : Prop := ∀ Q' : Nat → Sec, (∀ i, i < j → Q' i = Q i) → stand Q' run 8 = if on = true then acc ++ stK Q' run (8 - j) j la else acc
/-- The law's disk: the first j sectors are written. -/
structure RwS (w0 wx : World) (db run j : Nat) (acc : ByteArray) (la : Nat) (on : Bool) : Prop where
  ex : ∃ (S : Dk) (Q : Nat → Sec), Ds w0.heap.size wx db j S ∧ (S.up = true ∧ S.set = false ∧ S.n = 8) ∧ (∀ i, i < 8 → S.now i = encQ (Q i) ∧ (Q i).1 < 4294967296 ∧ (Q i).2.size ≤ 58) ∧ (∀ i, j ≤ i → Q i = (0, ⟨#[]⟩)) ∧ Goes Q run j acc la on
  la1 : 1 ≤ la
  sz : acc.size ≤ 58 * j
  bel : Below w0.heap.size w0 wx
/-- The next one is written, too, but not yet reckoned. -/
structure RwT (w0 wx : World) (db run j : Nat) (acc : ByteArray) (la : Nat) (on : Bool) (r : Nat) (s : ByteArray) : Prop where
  ex : ∃ (S : Dk) (Q : Nat → Sec), Ds w0.heap.size wx db (j + 1) S ∧ (S.up = true ∧ S.set = false ∧ S.n = 8) ∧ (∀ i, i < 8 → S.now i = encQ (Q i) ∧ (Q i).1 < 4294967296 ∧ (Q i).2.size ≤ 58) ∧ (∀ i, j + 1 ≤ i → Q i = (0, ⟨#[]⟩)) ∧ Goes Q run j acc la on ∧ Q j = (r, s)
  j8 : j < 8
  la1 : 1 ≤ la
  sz : acc.size ≤ 58 * j
  sz2 : s.size ≤ 58
  bel : Below w0.heap.size w0 wx
theorem RwS.below (h : RwS w0 wx db run j acc la on) (hb : Below wx.heap.size wx w') : RwS w0 w' db run j acc la on := by
  obtain ⟨S, Q, h1, h2⟩ := h.ex
  exact ⟨⟨S, Q, h1.below hb, h2⟩, h.la1, h.sz, thn h.bel hb⟩
theorem RwT.below (h : RwT w0 wx db run j acc la on r s) (hb : Below wx.heap.size wx w') : RwT w0 w' db run j acc la on r s := by
  obtain ⟨S, Q, h1, h2⟩ := h.ex
  exact ⟨⟨S, Q, h1.below hb, h2⟩, h.j8, h.la1, h.sz, h.sz2, thn h.bel hb⟩
theorem rw_new (w : World) (run : Nat) : Calls Tryz.prog 9 #[.int .i64 8] w fun e w' => ∃ db, e = .returned (.tuple #[.pointer (some ⟨db, 0, none⟩), .int .i64 0]) ∧ RwS w w' db run 0 ⟨#[]⟩ 1 true := by
  refine (Ds.new 8 (by omega) (by omega) w).mono ?_
  rintro e w' ⟨he, h1, h2⟩
  refine ⟨_, he, ⟨newDk 8, fun _ => (0, ⟨#[]⟩), h1, ⟨rfl, rfl, rfl⟩, fun i hi => ⟨by rw [enc_zero]; rfl, by show 0 < 4294967296; omega, by show 0 ≤ 58; omega⟩, fun i hi => rfl, fun Q' _ => ?_⟩, Nat.le_refl _, by show 0 ≤ 0; omega, h2⟩
  rw [if_pos rfl, nil_app]
  rfl
theorem RwS.write (h : RwS w0 wx db run j acc la on) (hj : j < 8) (hr : r < 4294967296) (hs : s.size ≤ 58) : Calls Tryz.prog 29 #[.pointer (some ⟨db, 0, none⟩), .int .i64 (j : Int), .string (Pk.beS r 4 ++ Pk.beS s.size 2 ++ s)] wx fun e w' => e = .returned (.int .i64 0) ∧ RwT w0 w' db run j acc la on r s := by
  obtain ⟨S, Q, hd, ⟨hu, hc, hn⟩, hQ, h0, hG⟩ := h.ex
  have hz : (secB (r, s)).size = 6 + s.size := secB_size (r, s)
  refine (hd.write (by omega) (j : Int) (secB (r, s)) (by omega)).mono ?_
  rintro e w' ⟨he, hd', hK⟩
  obtain ⟨e1, e2⟩ := writeE_up (S := S) hu (i := j) (by omega) (s := secB (r, s)) (by omega)
  obtain ⟨a1, a2⟩ := act_calm hc
  rw [a1] at e1 e2
  rw [if_neg (by simp)] at e2
  rw [e1] at he
  rw [e2] at hd'
  refine ⟨he, ⟨_, setQ Q j (r, s), hd', ⟨?_, a2, ?_⟩, fun i hi => ?_, fun i hi => ?_, fun Q' hQ' => ?_, setQ_same⟩, hj, h.la1, h.sz, hs, h.bel.trans hK.bel⟩
  · show (actDk S).up = true
    unfold actDk
    rw [hc]
    simpa using hu
  · show (actDk S).n = 8
    unfold actDk
    rw [hc]
    simpa using hn
  · by_cases hij : i = j
    · subst hij
      rw [setQ_same]
      refine ⟨?_, hr, hs⟩
      unfold Dk.now
      show ((upd S.wait i (some (pad (secB (r, s))))) i).getD _ = _
      simp [upd, encQ]
    · rw [setQ_other hij]
      have hq := hQ i hi
      refine ⟨?_, hq.2⟩
      rw [← hq.1]
      unfold Dk.now
      have ha : (actDk S).sure = S.sure := by unfold actDk; rw [hc]; simp
      show ((upd S.wait j (some (pad (secB (r, s))))) i).getD ((actDk S).sure i) = _
      rw [ha]
      simp [upd, hij]
  · rw [setQ_other (by omega)]
    exact h0 i (by omega)
  · exact hG Q' (fun i hi => by rw [hQ' i hi, setQ_other (by omega)])
theorem RwT.off_ (h : RwT w0 wx db run j acc la on r s) (hc : on = false ∨ r < la ∨ run < r) : RwS w0 wx db run (j + 1) acc la false := by
  obtain ⟨S, Q, h1, h2, h3, h4, hG, hq⟩ := h.ex
  refine ⟨⟨S, Q, h1, h2, h3, h4, fun Q' hQ' => ?_⟩, h.la1, by have := h.sz; omega, h.bel⟩
  have := hG Q' (fun i hi => hQ' i (by omega))
  cases on with
  | false => rw [this, if_neg (by simp), if_neg (by simp)]
  | true =>
    rw [this, if_pos rfl, if_neg (by simp)]
    have hj := h.j8
    obtain ⟨m, hm⟩ : ∃ m, 8 - j = m + 1 := ⟨7 - j, by omega⟩
    rw [hm, stK, hQ' j (by omega), hq, if_pos (by simpa using hc), app_nil]
theorem RwT.go (h : RwT w0 wx db run j acc la true r s) (h1 : la ≤ r) (h2 : r ≤ run) (hs : s.size = 58) : RwS w0 wx db run (j + 1) (acc ++ s) r true := by
  obtain ⟨S, Q, g1, g2, g3, g4, hG, hq⟩ := h.ex
  refine ⟨⟨S, Q, g1, g2, g3, g4, fun Q' hQ' => ?_⟩, by have := h.la1; omega, by rw [bsz]; have := h.sz; omega, h.bel⟩
  have hj := h.j8
  rw [hG Q' (fun i hi => hQ' i (by omega)), if_pos rfl, if_pos rfl]
  obtain ⟨m, hm⟩ : ∃ m, 8 - j = m + 1 := ⟨7 - j, by omega⟩
  rw [hm, stK, hQ' j (by omega), hq, if_neg (by dsimp only; omega), if_neg (by dsimp only; omega), show 8 - (j + 1) = m by omega, ByteArray.append_assoc]
theorem RwT.stop (h : RwT w0 wx db run j acc la true r s) (h1 : la ≤ r) (h2 : r ≤ run) (hs : s.size ≠ 58) : RwS w0 wx db run (j + 1) (acc ++ s) r false := by
  obtain ⟨S, Q, g1, g2, g3, g4, hG, hq⟩ := h.ex
  have hs2 := h.sz2
  refine ⟨⟨S, Q, g1, g2, g3, g4, fun Q' hQ' => ?_⟩, by have := h.la1; omega, by rw [bsz]; have := h.sz; omega, h.bel⟩
  have hj := h.j8
  rw [hG Q' (fun i hi => hQ' i (by omega)), if_pos rfl, if_neg (by simp)]
  obtain ⟨m, hm⟩ : ∃ m, 8 - j = m + 1 := ⟨7 - j, by omega⟩
  rw [hm, stK, hQ' j (by omega), hq, if_neg (by dsimp only; omega), if_pos (by dsimp only; omega)]
/-- The log that is opened. -/
structure RwL (w0 wx : World) (l : Nat) (acc : ByteArray) (fs : List ByteArray) : Prop where
  lx : ∃ k S db run, Lx w0.heap.size wx l k S (lgR db 0 8 run fs (cat fs).size false)
  fit : Fit 8 fs
  spl : Spl acc fs
  bel : Below w0.heap.size w0 wx
theorem RwL.below (h : RwL w0 wx l acc fs) (hb : Below wx.heap.size wx w') : RwL w0 w' l acc fs := by
  obtain ⟨k, S, db, run, h1⟩ := h.lx
  exact ⟨⟨k, S, db, run, h1.below hb⟩, h.fit, h.spl, thn h.bel hb⟩
theorem RwS.open_ (h : RwS w0 wx db run j acc la on) (hj : j ≤ 8) (h1 : 1 ≤ run) (h2 : run ≤ 4294967295) : Calls Tryz.prog 10 #[.pointer (some ⟨db, 0, none⟩), .int .i64 0, .int .i64 8, .int .i64 (run : Int)] wx fun e w' => ∃ l fs, e = .returned (.tuple #[.pointer (some ⟨l, 0, none⟩), .int .i64 0]) ∧ RwL w0 w' l acc fs := by
  obtain ⟨S, Q, hd, ⟨hu, hc, hn⟩, hQ, h0, hG⟩ := h.ex
  have hst : stand Q run 8 = acc := by
    rw [hG Q (fun i hi => rfl)]
    split
    · rcases Nat.eq_zero_or_pos (8 - j) with e | e
      · rw [e, stK, app_nil]
      · obtain ⟨m, hm⟩ : ∃ m, 8 - j = m + 1 := ⟨7 - j, by omega⟩
        rw [hm, stK, h0 j (Nat.le_refl _), if_pos (Or.inl (by have := h.la1; dsimp only; omega)), app_nil]
    · rfl
  refine (Open_calm hd (by omega) 0 8 run (by omega) (by omega) h1 h2 (by omega) hu hc Q (fun i hi => by rw [Nat.zero_add]; exact hQ i hi)).mono ?_
  rintro e w' ⟨fs, S', l, he, hsp, hop, hlx, hK⟩
  rw [hst] at hsp
  obtain ⟨x, hx⟩ := hsp.pre
  have hz := h.sz
  rw [hx, bsz] at hz
  exact ⟨l, fs, he, ⟨_, S', db, run, by rw [← opR_lgR]; exact hlx⟩, ⟨hsp.frm, by omega, by omega, by omega⟩, hsp, h.bel.trans hK.bel⟩
/-- Its records and their places. -/
structure RwR (w0 wx : World) (l : Nat) (acc : ByteArray) (fs : List ByteArray) (a : Option Addr) (c : Nat) (a2 : Option Addr) (c2 : Nat) : Prop where
  l : RwL w0 wx l acc fs
  rcs : Rcs w0.heap.size wx (.slice a fs.length c) (fs.map recF)
  own : OwnI w0.heap.size wx (.slice a2 fs.length c2) (plc 1 fs)
variable {a a2 : Option Addr} {c c2 : Nat}
theorem RwR.below (h : RwR w0 wx l acc fs a c a2 c2) (hb : Below wx.heap.size wx w') : RwR w0 w' l acc fs a c a2 c2 := ⟨h.l.below hb, h.rcs.below hb, h.own.below hb⟩
theorem OwnI.monoB {B B' : Nat} {w : World} {v : Value} {ps : List Int} (h : OwnI B w v ps) (hb : B' ≤ B) : OwnI B' w v ps := by
  obtain ⟨h1, h2⟩ := h.row
  refine ⟨h1, ?_⟩
  rcases h2 with h2 | ⟨g, cap, cur, e, hB, hg⟩
  · exact Or.inl h2
  · exact Or.inr ⟨g, cap, cur, e, Nat.le_trans hb hB, hg⟩
theorem Rcs.mono {B B' : Nat} {v : Value} {ms : List Rm} (h : Rcs B w v ms) (hb : B' ≤ B) : Rcs B' w v ms := by
  obtain ⟨es, h1, h2, h3⟩ := h.ex
  refine ⟨es, h1, ?_, fun i hi h4 => ?_⟩
  · refine ⟨h2.1, ?_⟩
    rcases h2.2 with q | ⟨b, cap, cur, q1, q2, q3⟩
    · exact Or.inl q
    · exact Or.inr ⟨b, cap, cur, q1, by omega, q3⟩
  · obtain ⟨q1, ⟨q2, q3⟩, q4⟩ := h3 i hi h4
    exact ⟨q1, ⟨q2.mono hb, q3.mono hb⟩, q4⟩
theorem RwL.records (h : RwL w0 wx l acc fs) : Calls Tryz.prog 30 #[.pointer (some ⟨l, 0, none⟩)] wx fun e w' => ∃ a c a2 c2, e = .returned (.tuple #[.slice a fs.length c, .slice a2 fs.length c2]) ∧ RwR w0 w' l acc fs a c a2 c2 := by
  obtain ⟨k, S, db, run, h1⟩ := h.lx
  refine (Records_any h1 h.fit).mono ?_
  rintro e w' ⟨⟨v, v2, he, hR, hO⟩, hL, hK⟩
  obtain ⟨a, c, e2⟩ := hR.slice
  rw [List.length_map] at e2
  subst e2
  obtain ⟨a2, c2, e3⟩ := hO.ex
  rw [plc_length] at e3
  subst e3
  have hz := h.bel.size
  exact ⟨a, c, a2, c2, he, ⟨⟨k, S, db, run, hL⟩, h.fit, h.spl, h.bel.trans hK.bel⟩, hR.mono hz, hO.monoB hz⟩
theorem RwL.end_ (h : RwL w0 wx l acc fs) : Calls Tryz.prog 24 #[.pointer (some ⟨l, 0, none⟩)] wx fun e w' => e = .returned (.int .i64 (((cat fs).size : Int) + 1)) ∧ w' = wx := by
  obtain ⟨k, S, db, run, h1⟩ := h.lx
  have hz := h.fit.sz
  exact End_any h1.g (by show (cat fs).size ≤ 1000000; omega)
theorem RwL.durable (h : RwL w0 wx l acc fs) : Calls Tryz.prog 25 #[.pointer (some ⟨l, 0, none⟩)] wx fun e w' => e = .returned (.int .i64 (((cat fs).size : Int) + 1)) ∧ w' = wx := by
  obtain ⟨k, S, db, run, h1⟩ := h.lx
  exact Durable_any h1.g
theorem RwL.acc_size (h : RwL w0 wx l acc fs) (hz : acc.size ≤ 464) : (cat fs).size ≤ 464 ∧ fs.length ≤ 464 ∧ ∀ i, i ≤ fs.length → off fs i ≤ 464 := by
  obtain ⟨x, hx⟩ := h.spl.pre
  rw [hx, bsz] at hz
  have := cat_len h.spl.frm
  refine ⟨by omega, by omega, fun i hi => ?_⟩
  have := off_mono (l := fs) hi
  rw [off_all] at this
  omega
/-- A record is opened again. -/
theorem RwL.open_at (h : RwL w0 wx l acc fs) {i : Nat} (hi : i < fs.length) : openM acc (off fs i : Int) = (recF fs[i], (fs[i].size : Int), 0) := by
  obtain ⟨x, hx⟩ := h.spl.pre
  have e : acc = cat (fs.take i) ++ fs[i] ++ (cat (fs.drop (i + 1)) ++ x) := by
    rw [hx]
    conv => lhs; rw [← List.take_append_drop i fs, List.drop_eq_getElem_cons hi]
    rw [cat_append, cat, ByteArray.append_assoc, ByteArray.append_assoc, ByteArray.append_assoc]
  rw [e]
  exact (h.spl.frm fs[i] (List.getElem_mem _)).open_ _ _
end
end Go.Proofs.YtgcfbjecmmnlhaaGreat

namespace Go.Proofs.YtgcfbjecmmnlhaaGreat
open Go.RowKit Go.Maps Go.ChangeMaps
set_option linter.unusedVariables false
set_option linter.unusedSimpArgs false
set_option maxRecDepth 100000

section
variable {w : World}
set_option maxHeartbeats 16000000 in
theorem raw_b {aa ab : Option Addr} {np ca nr cb : Nat} {ss : List ByteArray} {is : List Int} (hP : SsV w aa np ss) (hnp : np ≤ 9223372036854775807) (hR : NsV w ab nr is) (hnr : nr ≤ 9223372036854775807) (hn : np ≤ nr) (hn8 : np ≤ 8) (run : Nat) (hr1 : 1 ≤ run) (hr2 : run ≤ 4294967295) : Calls Tryz.prog 6 #[.slice aa np ca, .slice ab nr cb, .int .i64 (run : Int)] w fun e w' => e = .returned (.bool true) ∧ Below w.heap.size w w' := by
  have CA : Hid (∀ wx, Calls Tryz.prog 17 #[] wx fun e w' => e = .returned (.bool true) ∧ Below wx.heap.size wx w') := awake8
  have CN : Hid (Calls Tryz.prog 9 #[.int .i64 8] w fun e w' => ∃ db, e = .returned (.tuple #[.pointer (some ⟨db, 0, none⟩), .int .i64 0]) ∧ RwS w w' db run 0 ⟨#[]⟩ 1 true) := rw_new w run
  have CNu : Hid (∀ wx (x : Nat) (k : Nat), k ≤ 6 → x ≤ 281474976710656 → Calls Tryz.prog 23 #[.int .i64 (x : Int), .int .i64 (k : Int)] wx fun e w' => e = .returned (.string (Pk.beS x k)) ∧ Below wx.heap.size wx w') := fun wx x k q1 q2 => Pk.lawnum_any x k wx q1 q2
  have CO : Hid (∀ wx db j acc la on, j ≤ 8 → RwS w wx db run j acc la on → Calls Tryz.prog 10 #[.pointer (some ⟨db, 0, none⟩), .int .i64 0, .int .i64 8, .int .i64 (run : Int)] wx fun e w' => ∃ l fs, e = .returned (.tuple #[.pointer (some ⟨l, 0, none⟩), .int .i64 0]) ∧ RwL w w' l acc fs) := fun wx db j acc la on q1 q2 => q2.open_ q1 hr1 hr2
  have HP : Hid (SsV w aa np ss) := hP
  have HR : Hid (NsV w ab nr is) := hR
  have hlp := hP.len
  have hlr := hR.len
  have t1 : ¬ (run : Int) < 1 := by omega
  have t2 : ¬ (4294967295 : Int) < (run : Int) := by omega
  clear hP hR
  go_enter Tryz.func6, Tryz.ntmps6
  go_wp2_with (go_at_call 9; refine CN.out.mono ?_; rintro e w1 ⟨db, rfl, H1⟩)
  have H0 : Hid _ := H1
  clear CN H1
  go_loopw [9, 10, 11, 12] (fun av lv ov iv wr => ∃ (j la : Nat) (acc : ByteArray) (on : Bool), j ≤ np ∧ av = .string acc ∧ lv = .int .i64 (la : Int) ∧ ov = .bool on ∧ iv = .int .i64 (j : Int) ∧ RwS w wr db run j acc la on) (fun _ _ _ iv _ => np - (intOf iv).toNat)
  case atStart => exact ⟨0, 1, ⟨#[]⟩, true, Nat.zero_le _, rfl, rfl, rfl, rfl, H0.out⟩
  case round =>
    obtain ⟨j, la, acc, on, hj, rfl, rfl, rfl, rfl, hS⟩ := hrel
    by_cases hlt : j < np
    · obtain ⟨gp, op, ha, hgp, hcp, hzp⟩ := HP.out.at_ j (by omega)
      subst ha
      obtain ⟨gr, or', ha, hgr, hcr⟩ := HR.out.at_ j (by omega)
      subst ha
      have HC : Hid (∀ wx, Below w.heap.size w wx → wx.cell? ⟨gp, op + j, none⟩ = some (.string ss[j])) := fun wx q => (q.cell (by exact hgp)).trans hcp
      have HCr : Hid (∀ wx, Below w.heap.size w wx → wx.cell? ⟨gr, or' + j, none⟩ = some (.int .i64 is[j])) := fun wx q => (q.cell (by exact hgr)).trans hcr
      have hsz : acc.size ≤ 464 := by have := hS.sz; omega
      have i1 : (j : Int) < (np : Int) := by omega
      have i2 : (j : Int) < (nr : Int) := by omega
      have i3 : (j : Int) < 8 := by omega
      have i4 : j < np := by omega
      have i5 : j < nr := by omega
      have i6 : j < 8 := by omega
      clear hcp hcr hgp hgr
      generalize ss[j] = s at *
      generalize is[j] = r at *
      have q1 := HC.out _ hS.bel
      have q2 := HCr.out _ hS.bel
      by_cases r0 : r < 0
      · go_wp2_with (go_at_call 17; refine (CA.out _).mono ?_; rintro e w9 ⟨rfl, b9⟩)
        go_ret
        exact ⟨rfl, thn hS.bel b9⟩
      by_cases r1 : (4294967295 : Int) < r
      · go_wp2_with (go_at_call 17; refine (CA.out _).mono ?_; rintro e w9 ⟨rfl, b9⟩)
        go_ret
        exact ⟨rfl, thn hS.bel b9⟩
      by_cases r2 : (58 : Int) < (s.size : Int)
      · go_wp2_with (go_at_call 17; refine (CA.out _).mono ?_; rintro e w9 ⟨rfl, b9⟩)
        go_ret
        exact ⟨rfl, thn hS.bel b9⟩
      obtain ⟨rn, rfl⟩ : ∃ rn : Nat, r = (rn : Int) := ⟨r.toNat, by omega⟩
      have hrn : rn < 4294967296 := by omega
      have hs58 : s.size ≤ 58 := by omega
      have hd := hS.below ((Below.refl _ _).drew)
      have CN4 : Hid (∀ wx, Calls Tryz.prog 23 #[.int .i64 (rn : Int), .int .i64 4] wx fun e w' => e = .returned (.string (Pk.beS rn 4)) ∧ Below wx.heap.size wx w') := fun wx => CNu.out wx rn 4 (by omega) (by omega)
      have CN2 : Hid (∀ wx, Calls Tryz.prog 23 #[.int .i64 (s.size : Int), .int .i64 2] wx fun e w' => e = .returned (.string (Pk.beS s.size 2)) ∧ Below wx.heap.size wx w') := fun wx => CNu.out wx s.size 2 (by omega) (by omega)
      have CW : Hid (∀ wx, RwS w wx db run j acc la on → Calls Tryz.prog 29 #[.pointer (some ⟨db, 0, none⟩), .int .i64 (j : Int), .string (Pk.beS rn 4 ++ Pk.beS s.size 2 ++ s)] wx fun e w' => e = .returned (.int .i64 0) ∧ RwT w w' db run j acc la on rn s) := fun wx q => q.write i6 hrn hs58
      clear hS CNu
      have hB4 : (Pk.beS rn 4).size = 4 := Pk.beS_size _ _
      have hB2 : (Pk.beS s.size 2).size = 2 := Pk.beS_size _ _
      obtain ⟨X4, HX4⟩ : ∃ X4, Hid (X4 = Pk.beS rn 4) := ⟨_, rfl⟩
      obtain ⟨X2, HX2⟩ : ∃ X2, Hid (X2 = Pk.beS s.size 2) := ⟨_, rfl⟩
      rw [← HX4.out] at CN4 CW hB4
      rw [← HX2.out] at CN2 CW hB2
      clear HX4 HX2
      have hN4 : ¬ 9223372036854775807 < X4.size + X2.size + s.size := by omega
      have hN5 : ¬ 9223372036854775807 < X4.size + X2.size := by omega
      clear hB4 hB2
      go_wp2
      go_region_held3 (fun W => W.cell? ⟨gp, op + j, none⟩ = some (.string s)) (first | exact HC.out _ hd.bel | exact HC.out _ hT.bel | go_keep) (first
        | (go_at_call_of 23 (rn : Int); refine (CN4.out _).mono ?_; rintro e wA ⟨rfl, bA⟩; have hn := hd.below bA; clear hd bA; have hd := hn; clear hn)
        | (go_at_call_of 23 (s.size : Int); refine (CN2.out _).mono ?_; rintro e wA ⟨rfl, bA⟩; have hn := hd.below bA; clear hd bA; have hd := hn; clear hn)
        | (go_at_call 29; refine (CW.out _ hd).mono ?_; clear hd; rintro e wB ⟨rfl, hT⟩))
      have q9 := HC.out _ hT.bel
      clear q1 q2 CN4 CN2 CW hN4 hN5
      cases on with
      | false =>
        go_wp2
        go_roundw
        case rel => exact ⟨j + 1, la, acc, false, by omega, rfl, rfl, rfl, by go_num, hT.off_ (Or.inl rfl)⟩
        case measure => simp [intOf]; omega
      | true =>
        by_cases h1 : (la : Int) ≤ (rn : Int)
        · by_cases h2 : (rn : Int) ≤ (run : Int)
          · by_cases h3 : (s.size : Int) = 58
            · have h4 : ((s.size : Int) == 58) = true := by simpa using h3
              go_wp2
              go_roundw
              case rel => exact ⟨j + 1, rn, acc ++ s, true, by omega, rfl, rfl, (by first | rfl | simp [h3] | simp [h4]), by go_num, hT.go (by omega) (by omega) (by omega)⟩
              case measure => simp [intOf]; omega
            · have h4 : ((s.size : Int) == 58) = false := by simpa using h3
              go_wp2
              go_roundw
              case rel => exact ⟨j + 1, rn, acc ++ s, false, by omega, rfl, rfl, (by first | rfl | simp [h3] | simp [h4]), by go_num, hT.stop (by omega) (by omega) (by omega)⟩
              case measure => simp [intOf]; omega
          · have h4 : (run : Int) < (rn : Int) := by omega
            go_wp2
            go_roundw
            case rel => exact ⟨j + 1, la, acc, false, by omega, rfl, rfl, rfl, by go_num, hT.off_ (Or.inr (Or.inr (by omega)))⟩
            case measure => simp [intOf]; omega
        · have h4 : (rn : Int) < (la : Int) := by omega
          go_wp2
          go_roundw
          case rel => exact ⟨j + 1, la, acc, false, by omega, rfl, rfl, rfl, by go_num, hT.off_ (Or.inr (Or.inl (by omega)))⟩
          case measure => simp [intOf]; omega
    · obtain rfl : j = np := by omega
      have i1 : ¬ (j : Int) < (j : Int) := by omega
      have hsz : acc.size ≤ 464 := by have := hS.sz; omega
      have hjj : j ≤ 8 := by omega
      have CRe : Hid (∀ wx l fs, RwL w wx l acc fs → Calls Tryz.prog 30 #[.pointer (some ⟨l, 0, none⟩)] wx fun e w' => ∃ a c a2 c2, e = .returned (.tuple #[.slice a fs.length c, .slice a2 fs.length c2]) ∧ RwR w w' l acc fs a c a2 c2) := fun wx l fs q => q.records
      clear hlt HP HR CNu
      go_wp2_with (first
        | (go_at_call 10; refine (CO.out _ _ _ _ _ _ hjj hS).mono ?_; clear hS; rintro e w2 ⟨l, fs, rfl, L2⟩)
        | (go_at_call 30; refine (CRe.out _ _ _ L2).mono ?_; clear L2; rintro e w3 ⟨a1, c1, a2, c2, rfl, R3⟩))
      have HR3 : Hid _ := R3
      obtain ⟨hcz, hfl, hoff⟩ := R3.l.acc_size hsz
      have HOF : Hid (∀ i, i ≤ fs.length → off fs i ≤ 464) := hoff
      clear R3 CO CRe hoff
      go_loopw [18, 19] (fun pv iv wr => ∃ i : Nat, i ≤ fs.length ∧ pv = .int .i64 (off fs i : Int) ∧ iv = .int .i64 (i : Int) ∧ RwR w wr l acc fs a1 c1 a2 c2) (fun _ iv _ => fs.length - (intOf iv).toNat)
      case atStart => exact ⟨0, Nat.zero_le _, rfl, rfl, HR3.out⟩
      case round =>
        obtain ⟨i, hi, rfl, rfl, hR⟩ := hrel
        have hD := HOF.out i hi
        by_cases hlt : i < fs.length
        · obtain ⟨g1, I, T, e1, hrg, hrf⟩ := hR.rcs.at_ (i := i) (by rw [List.length_map]; exact hlt)
          subst e1
          obtain ⟨g2, e2, hat⟩ := hR.own.at_ (i := i) (by rw [plc_length]; exact hlt)
          subst e2
          have hm : (fs.map recF)[i]'(by rw [List.length_map]; exact hlt) = recF fs[i] := by simp
          rw [hm] at hrg hrf
          have hpl : (plc 1 fs)[i]'(by rw [plc_length]; exact hlt) = 1 + (off fs i : Int) := by
            have := plc_get 1 fs i hlt
            rw [List.getElem?_eq_getElem (by rw [plc_length]; exact hlt)] at this
            injection this with this
          rw [hpl] at hat
          have hg1 : g1 < wr.heap.size := by
            have q := hrg 0 _ rfl
            rcases Nat.lt_or_ge g1 wr.heap.size with h' | h'
            · exact h'
            · simp [World.cell?, Array.getElem?_eq_none h'] at q
          have hop := hR.l.open_at hlt
          have hfr := hR.l.spl.frm fs[i] (List.getElem_mem _)
          have hsm := small_recF hfr
          have hos := off_succ (l := fs) (i := i) hlt
          have hD2 := HOF.out (i + 1) hlt
          have CRO : Hid (∀ wx, Calls Tryz.prog 31 #[.string acc, .int .i64 (off fs i : Int)] wx fun e w' => (∃ v, e = .returned (.tuple #[v, .int .i64 (fs[i].size : Int), .int .i64 0]) ∧ RecF w' v (recF fs[i]) wx.heap.size) ∧ Below wx.heap.size wx w') := fun wx => by
            have := Open_any (w := wx) acc (off fs i : Int) (by omega)
            rw [hop] at this
            exact this
          have CSa : Hid (∀ wx v v', RecV wx v (recF fs[i]) → RecV wx v' (recF fs[i]) → Calls Tryz.prog 32 #[v, v'] wx fun e w' => e = .returned (.bool true) ∧ Below wx.heap.size wx w') := fun wx v v' q1 q2 => Same_any q1 q2 hsm.im hsm.tb
          have HRw : Hid (∀ wx, Below wr.heap.size wr wx → (wx.cell? ⟨g1, i * 13, none⟩ = some (.int .i64 (recF fs[i]).s.kd) ∧ wx.cell? ⟨g1, i * 13 + 1, none⟩ = some (.int .i64 (recF fs[i]).s.tx) ∧ wx.cell? ⟨g1, i * 13 + 2, none⟩ = some (.int .i64 (recF fs[i]).s.pv) ∧ wx.cell? ⟨g1, i * 13 + 3, none⟩ = some (.int .i64 (recF fs[i]).s.pg) ∧ wx.cell? ⟨g1, i * 13 + 4, none⟩ = some (.int .i64 (recF fs[i]).s.ac) ∧ wx.cell? ⟨g1, i * 13 + 5, none⟩ = some (.string (recF fs[i]).s.ky) ∧ wx.cell? ⟨g1, i * 13 + 6, none⟩ = some (.string (recF fs[i]).s.ol) ∧ wx.cell? ⟨g1, i * 13 + 7, none⟩ = some (.string (recF fs[i]).s.nw) ∧ wx.cell? ⟨g1, i * 13 + 8, none⟩ = some (.int .i64 (recF fs[i]).s.nx) ∧ wx.cell? ⟨g1, i * 13 + 9, none⟩ = some I ∧ wx.cell? ⟨g1, i * 13 + 10, none⟩ = some T ∧ wx.cell? ⟨g1, i * 13 + 11, none⟩ = some (.int .i64 (recF fs[i]).s.ep) ∧ wx.cell? ⟨g1, i * 13 + 12, none⟩ = some (.int .i64 (recF fs[i]).s.nd)) ∧ wx.cell? ⟨g2, i, none⟩ = some (.int .i64 (1 + (off fs i : Int)))) := fun wx q => by
            have hg := rangeAt_below hrg hg1 q
            exact ⟨⟨hg 0 _ rfl, hg 1 _ rfl, hg 2 _ rfl, hg 3 _ rfl, hg 4 _ rfl, hg 5 _ rfl, hg 6 _ rfl, hg 7 _ rfl, hg 8 _ rfl, hg 9 _ rfl, hg 10 _ rfl, hg 11 _ rfl, hg 12 _ rfl⟩, hat wx q⟩
          have HRF : Hid (∀ wx, Below wr.heap.size wr wx → RecV wx (.agg ((recF fs[i]).s.A I T)) (recF fs[i])) := fun wx q => (hrf.below q).recV
          have HQ : Hid ((off fs (i + 1) : Int) = (off fs i : Int) + (fs[i].size : Int)) := (by omega : (off fs (i + 1) : Int) = (off fs i : Int) + (fs[i].size : Int))
          have hq0 : (0 : Int) ≤ (off fs i : Int) := by omega
          have hq1 : (off fs i : Int) + (fs[i].size : Int) ≤ 464 := by omega
          have hq2 : (0 : Int) ≤ (fs[i].size : Int) := by omega
          have i1 : (i : Int) < (fs.length : Int) := by omega
          have hwD : IntKind.i64.wrap (1 + (off fs i : Int)) = 1 + (off fs i : Int) := by rw [IntKind.wrap_i64]; omega
          have hwE : RowKit.wrap64 (1 + (off fs i : Int)) = 1 + (off fs i : Int) := (IntWalk.i64_left _).symm.trans hwD
          clear hrg hrf hat hm hpl hop hfr hsm hos hD hD2 HOF HR3
          generalize recF fs[i] = rm at *
          obtain ⟨sm, im, tb⟩ := rm
          dsimp only at HRw HRF
          obtain ⟨FZ, HFZ⟩ : ∃ FZ : Int, FZ = (fs[i].size : Int) := ⟨_, rfl⟩
          rw [← HFZ] at CRO HQ hq1 hq2
          generalize (off fs i : Int) = D at *
          clear HFZ
          go_wp2_with (first
            | (go_at_call 31; refine (CRO.out _).mono ?_; rintro e w4 ⟨⟨v4, rfl, h4⟩, b4⟩; obtain ⟨J, U, rfl, hJ, hU⟩ := h4.recV.ex; dsimp only at hJ hU; have R4 := hR.below b4; clear h4)
            | (refine wpList_new_rc _ rfl rfl ?_; intro w5 b20 N5)
            | (refine wpList_at (Op.store 37 (.tmp 20) (.tmp 148)) rfl ?_; refine wpList_put_rc (s' := sm) (I' := J) (T' := U) _ rfl (.tmp 20) (.tmp 148) rfl rfl rfl N5.rc hJ.one hU.one ?_; intro w6 P6; have G := BdS.mk' b4 hJ hU N5 P6; have R6 := R4.below (N5.below.trans (P6.below (Nat.le_of_eq N5.eq.symm) N5.below.size)); clear N5 P6 hJ hU R4))
          have GD : BdS wr w6.drew b20 sm J U im tb := G.below ((Below.refl _ _).drew)
          have RD := R6.below ((Below.refl _ _).drew)
          clear G R6 hR
          have keep0 := And.intro GD.rc.row (HRw.out _ GD.bel)
          go_region_held3 (fun W => (W.cell? ⟨b20, 0, none⟩ = some (.int .i64 sm.kd) ∧ W.cell? ⟨b20, 1, none⟩ = some (.int .i64 sm.tx) ∧ W.cell? ⟨b20, 2, none⟩ = some (.int .i64 sm.pv) ∧ W.cell? ⟨b20, 3, none⟩ = some (.int .i64 sm.pg) ∧ W.cell? ⟨b20, 4, none⟩ = some (.int .i64 sm.ac) ∧ W.cell? ⟨b20, 5, none⟩ = some (.string sm.ky) ∧ W.cell? ⟨b20, 6, none⟩ = some (.string sm.ol) ∧ W.cell? ⟨b20, 7, none⟩ = some (.string sm.nw) ∧ W.cell? ⟨b20, 8, none⟩ = some (.int .i64 sm.nx) ∧ W.cell? ⟨b20, 9, none⟩ = some J ∧ W.cell? ⟨b20, 10, none⟩ = some U ∧ W.cell? ⟨b20, 11, none⟩ = some (.int .i64 sm.ep) ∧ W.cell? ⟨b20, 12, none⟩ = some (.int .i64 sm.nd)) ∧ (W.cell? ⟨g1, i * 13, none⟩ = some (.int .i64 sm.kd) ∧ W.cell? ⟨g1, i * 13 + 1, none⟩ = some (.int .i64 sm.tx) ∧ W.cell? ⟨g1, i * 13 + 2, none⟩ = some (.int .i64 sm.pv) ∧ W.cell? ⟨g1, i * 13 + 3, none⟩ = some (.int .i64 sm.pg) ∧ W.cell? ⟨g1, i * 13 + 4, none⟩ = some (.int .i64 sm.ac) ∧ W.cell? ⟨g1, i * 13 + 5, none⟩ = some (.string sm.ky) ∧ W.cell? ⟨g1, i * 13 + 6, none⟩ = some (.string sm.ol) ∧ W.cell? ⟨g1, i * 13 + 7, none⟩ = some (.string sm.nw) ∧ W.cell? ⟨g1, i * 13 + 8, none⟩ = some (.int .i64 sm.nx) ∧ W.cell? ⟨g1, i * 13 + 9, none⟩ = some I ∧ W.cell? ⟨g1, i * 13 + 10, none⟩ = some T ∧ W.cell? ⟨g1, i * 13 + 11, none⟩ = some (.int .i64 sm.ep) ∧ W.cell? ⟨g1, i * 13 + 12, none⟩ = some (.int .i64 sm.nd)) ∧ W.cell? ⟨g2, i, none⟩ = some (.int .i64 (1 + D))) (first | exact keep1 | exact keep0 | go_keep) ((go_at_call 32; refine (CSa.out _ _ _ ⟨J, U, rfl, GD.im, GD.tb⟩ (HRF.out _ GD.bel)).mono ?_; rintro e w8 ⟨rfl, b8⟩; have G1 := GD.below b8; have R1 := RD.below b8; clear GD RD; have GD := G1; have RD := R1; clear G1 R1; have keep1 := And.intro GD.rc.row (HRw.out _ GD.bel)))
          go_wp2
          go_roundw
          case rel => exact ⟨i + 1, by omega, by rw [HQ.out], by go_num, RD⟩
          case measure => simp [intOf]; omega
        · obtain rfl : i = fs.length := by omega
          have i1 : ¬ (fs.length : Int) < (fs.length : Int) := by omega
          have hst := hR.l.spl.stop
          have hoa := off_all fs
          rw [hoa] at hD ⊢
          have CRO : Hid (∀ wx, Calls Tryz.prog 31 #[.string acc, .int .i64 ((cat fs).size : Int)] wx fun e w' => (∃ v, e = .returned (.tuple #[v, .int .i64 (openM acc ((cat fs).size : Int)).2.1, .int .i64 (openM acc ((cat fs).size : Int)).2.2]) ∧ RecF w' v (openM acc ((cat fs).size : Int)).1 wx.heap.size) ∧ Below wx.heap.size wx w') := fun wx => Open_any (w := wx) acc ((cat fs).size : Int) (by omega)
          have hst2 : ((openM acc ((cat fs).size : Int)).2.2 != 0) = true := by simpa using hst
          generalize openM acc ((cat fs).size : Int) = om at *
          obtain ⟨⟨sm, im, tb⟩, n1, y1⟩ := om
          dsimp only at CRO hst2
          have CE : Hid (∀ wx, RwL w wx l acc fs → Calls Tryz.prog 24 #[.pointer (some ⟨l, 0, none⟩)] wx fun e w' => e = .returned (.int .i64 (((cat fs).size : Int) + 1)) ∧ w' = wx) := fun wx q => q.end_
          have CD : Hid (∀ wx, RwL w wx l acc fs → Calls Tryz.prog 25 #[.pointer (some ⟨l, 0, none⟩)] wx fun e w' => e = .returned (.int .i64 (((cat fs).size : Int) + 1)) ∧ w' = wx) := fun wx q => q.durable
          have hcz2 : ((cat fs).size : Int) ≤ 464 := by omega
          have hcz0 : (0 : Int) ≤ ((cat fs).size : Int) := by omega
          rw [show ((cat fs).size : Int) + 1 = 1 + ((cat fs).size : Int) by omega] at CE CD
          clear hlt hst hoa hD HOF HR3 hcz
          have L0 := hR.l
          clear hR
          generalize ((cat fs).size : Int) = D at *
          go_wp2_with (first
            | (go_at_call 31; refine (CRO.out _).mono ?_; rintro e w4 ⟨⟨v4, rfl, h4⟩, b4⟩; obtain ⟨J, U, rfl, hJ, hU⟩ := h4.recV.ex; dsimp only at hJ hU; have L4 := L0.below b4; clear h4 L0)
            | (refine wpList_new_rc _ rfl rfl ?_; intro w5 b20 N5)
            | (refine wpList_at (Op.store 37 (.tmp 23) (.tmp 178)) rfl ?_; refine wpList_put_rc (s' := sm) (I' := J) (T' := U) _ rfl (.tmp 23) (.tmp 178) rfl rfl rfl N5.rc hJ.one hU.one ?_; intro w6 P6; have L6 := L4.below (N5.below.trans (P6.below (Nat.le_of_eq N5.eq.symm) N5.below.size)); clear N5 P6 hJ hU L4)
            | (go_at_call 24; refine (CE.out _ L6).mono ?_; rintro e w7 ⟨rfl, rfl⟩)
            | (go_at_call 25; refine (CD.out _ L6).mono ?_; rintro e w8 ⟨rfl, rfl⟩)
            | (go_at_call 17; refine (CA.out _).mono ?_; rintro e w9 ⟨rfl, b9⟩))
          go_ret
          exact ⟨rfl, thn L6.bel b9⟩
end
end Go.Proofs.YtgcfbjecmmnlhaaGreat
