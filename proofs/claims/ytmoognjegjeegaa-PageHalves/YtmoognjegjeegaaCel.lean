/- The cells of a page, what they need, and the room that is left: cells, needOf, room. -/
import Derived.Test.YtmoognjegjeegaaRed
import Derived.Deep.OwnRows
namespace Go.Proofs.Ytmoognjegjeegaa
open Go.RowKit
set_option linter.unusedVariables false
set_option linter.unusedSimpArgs false
set_option maxRecDepth 100000

section
variable {w : World} {b : Nat} {s : List UInt8}
theorem thn {w w1 w2 : World} (h : Below w.heap.size w w1) (k : Below w1.heap.size w1 w2) : Below w.heap.size w w2 := h.trans (k.mono h.size)
theorem thnA {w w1 : World} (h : Below w.heap.size w w1) (o : Obj) : Below w.heap.size w (w1.alloc o) := h.alloc h.size o
theorem info_cellz : ∃ i, Try.prog.info? 28 = some i ∧ i.zero = some (.agg #[.string ⟨#[]⟩, .string ⟨#[]⟩]) ∧ i.size = 2 ∧ i.bytes = 32 :=
  info_parts (show (Try.prog.info? 28).map (fun i => (i.zero, i.size, i.bytes)) = some (some (.agg #[.string ⟨#[]⟩, .string ⟨#[]⟩]), 2, 32) by kernel_rfl)
def zc (n : Nat) : Array Value := madeCells #[.string ⟨#[]⟩, .string ⟨#[]⟩] (n * 2)
theorem make_cells (n : Nat) (hn : n ≤ 1000) (w : World) : (Instr.makeSlice 22 (.int .i64 (n : Int)) (.int .i64 (n : Int))).run Try.prog w = .ok (.slice (some ⟨w.heap.size, 0, none⟩) n n) (w.alloc (.cells (zc n) 28)) := by
  obtain ⟨i, hi, hz, hs, hb⟩ := info_cellz
  have hr := run_make (P := Try.prog) w 22 28 i _ Try.underlying22 hi hz .i64 .i64 n n (by omega) (Int.le_refl _) (by rw [hb]; omega) (by omega)
  simp only [Int.toNat_natCast, hs] at hr
  exact hr
/-- A block of cells, the first i of them laid. -/
structure Laid (w : World) (b n i : Nat) (L : List Cl) : Prop where
  ex : ∃ C : Array Value, w.heap[b]? = some (.cells C 28) ∧ C.size = n * 2 ∧ ∀ j (hj : j < L.length), j < i → C[j * 2]? = some (.string L[j].k) ∧ C[j * 2 + 1]? = some (.string L[j].v)
theorem Laid.lt {n i : Nat} {L : List Cl} (h : Laid w b n i L) : b < w.heap.size := by
  obtain ⟨C, h1, _⟩ := h.ex; exact (Array.getElem?_eq_some_iff.1 h1).1
theorem Laid.isS {n i j : Nat} {L : List Cl} (h : Laid w b n i L) (hj : j < n * 2) : (w.cell? ⟨b, j, none⟩).isSome = true := by
  obtain ⟨C, h1, h2, _⟩ := h.ex
  rw [cell_of_row w b _ C 28 (0, 0) h1]
  simp [h2, hj]
theorem Laid.unfrozen {n i : Nat} {L : List Cl} (h : Laid w b n i L) (j : Nat) : w.frozen? ⟨b, j, none⟩ = false := by
  obtain ⟨C, h1, _⟩ := h.ex; exact Joins.unfrozen_of_block h1 j
theorem Laid.below {w' : World} {n i : Nat} {L : List Cl} (h : Laid w b n i L) (hb : Below w.heap.size w w') : Laid w' b n i L := by
  obtain ⟨C, h1, h2⟩ := h.ex
  exact ⟨⟨C, (hb.block b h.lt).trans h1, h2⟩⟩
theorem Laid.put {n i : Nat} {L : List Cl} (h : Laid w b n i L) (hi : i < n) (hl : i < L.length) (k v : ByteArray) (hk : k = L[i].k) (hv : v = L[i].v) : Laid ((w.setCell ⟨b, i * 2, none⟩ (.string k)).setCell ⟨b, i * 2 + 1, none⟩ (.string v)) b n (i + 1) L := by
  obtain ⟨C, h1, h2, h3⟩ := h.ex
  subst hk hv
  refine ⟨⟨_, Joins.block_setCell (Joins.block_setCell h1 _) _, by simpa using h2, fun j hj hji => ?_⟩⟩
  by_cases e : j = i
  · subst e
    refine ⟨?_, ?_⟩
    · rw [Array.getElem?_setIfInBounds_ne (by omega), Array.getElem?_setIfInBounds_self_of_lt (by omega)]
    · rw [Array.getElem?_setIfInBounds_self_of_lt (by simp; omega)]
  · have := h3 j hj (by omega)
    refine ⟨?_, ?_⟩
    · rw [Array.getElem?_setIfInBounds_ne (by omega), Array.getElem?_setIfInBounds_ne (by omega)]; exact this.1
    · rw [Array.getElem?_setIfInBounds_ne (by omega), Array.getElem?_setIfInBounds_ne (by omega)]; exact this.2
theorem Laid.there {n i j : Nat} {L : List Cl} (h : Laid w b n i L) (hj : j < n) : w.there b (j * 2) 2 := fun t ht => ⟨h.isS (by omega), h.unfrozen _⟩
theorem Laid.cs {n : Nat} {L : List Cl} (h : Laid w b n n L) (hl : L.length = n) : Cs w (some ⟨b, 0, none⟩) L := ⟨fun i hi => by
  obtain ⟨C, h1, h2, h3⟩ := h.ex
  refine ⟨b, 0, rfl, h.lt, ?_, ?_⟩
  · rw [cell_of_row w b _ C 28 (0, 0) h1, Nat.zero_add]; exact (h3 i hi (by omega)).1
  · rw [cell_of_row w b _ C 28 (0, 0) h1, Nat.zero_add]; exact (h3 i hi (by omega)).2⟩

theorem cells_any (w : World) (h : Sh w b s) (hr : Right s) : Calls Try.prog 44 #[.pointer (some ⟨b, 0, none⟩)] w fun e w' => ∃ a, e = .returned (.slice (some ⟨a, 0, none⟩) (cnt s) (cnt s)) ∧ Cs w' (some ⟨a, 0, none⟩) (cells s) ∧ Below w.heap.size w w' := by
  have C1 : Hid (∀ w, Sh w b s → Calls Try.prog 39 #[.pointer (some ⟨b, 0, none⟩)] w fun e w' => e = .returned (.int .i64 (cnt s)) ∧ w' = w) := fun w h => count_any w h
  have H : Hid _ := h
  have hd := hr.head
  have hn := hd.slotlt
  have hmk := make_cells (cnt s) (by omega)
  have hbl := h.lt
  clear h
  go_enter Try.func44, Try.ntmps44
  go_wp2_with (go_at_call 39; refine (C1.out _ H.out).mono ?_; rintro e w' ⟨rfl, rfl⟩)
  go_loopw [10] (fun kv wr => ∃ i : Nat, kv = .int .i64 (i : Int) ∧ i ≤ cnt s ∧ Laid wr w'.heap.size (cnt s) i (cells s) ∧ Below w'.heap.size w' wr) (fun kv _ => cnt s - (intOf kv).toNat)
  case atStart => exact ⟨0, rfl, Nat.zero_le _, ⟨⟨_, (MapKept.heap_alloc w' _).1, by simp [zc, size_madeCells], fun j _ hj => absurd hj (Nat.not_lt_zero _)⟩⟩, (Below.refl _ _).alloc (Nat.le_refl _) _⟩
  case round =>
    obtain ⟨i, rfl, hi, hL, hbel⟩ := hrel
    by_cases hlt : i < cnt s
    · have hltI : (i : Int) < (cnt s : Int) := by omega
      have he : en s ≤ 223 := by have := hd.enn; omega
      have C3 : Hid (∀ w, Sh w b s → Calls Try.prog 40 #[.pointer (some ⟨b, 0, none⟩), .int .i64 (i : Int)] w fun e w' => e = .returned (.agg #[.string (cell s i).k, .string (cell s i).v]) ∧ Below w.heap.size w w') := fun w h => cell_any w h i (by omega) (hr.ok i hlt).at_ he
      have HS : Hid (Sh wr b s) := H.out.below hbel
      have hcg : Hid ((cells s)[i]'(by rw [cells_length]; exact hlt) = cell s i) := (cells_get' (by rw [cells_length]; exact hlt) : (cells s)[i]'(by rw [cells_length]; exact hlt) = cell s i)
      have HL : Hid _ := hL
      obtain ⟨c, hc⟩ : ∃ c, c = cell s i := ⟨_, rfl⟩
      rw [← hc] at C3 hcg
      clear hL hc hmk
      go_wp2_with (first | (go_at_call 40; refine (C3.out _ HS.out).mono ?_; rintro e w2 ⟨rfl, hb2⟩; have hL2 := HL.out.below hb2) | (refine wpList_cell_put _ rfl _ _ rfl rfl rfl (hL2.there hlt) ?_))
      go_roundw
      case rel =>
        have hz := hbel.size
        exact ⟨i + 1, by go_num, by omega, hL2.put hlt (by rw [cells_length]; exact hlt) _ _ (by rw [hcg.out]) (by rw [hcg.out]), ((hbel.trans (hb2.mono hz)).setCell (Nat.le_refl _) _).setCell (Nat.le_refl _) _⟩
      case measure => simp [intOf]; omega
    · have hie : i = cnt s := by omega
      subst hie
      have hlt' : ¬ (cnt s : Int) < (cnt s : Int) := by omega
      have HL : Hid _ := hL
      clear hL hmk
      go_wp2
      go_ret
      exact ⟨_, rfl, HL.out.cs (cells_length s), hbel⟩

structure Small (L : List Cl) : Prop where
  len : L.length ≤ 1000
  k : ∀ c ∈ L, c.k.size ≤ 16
  v : ∀ c ∈ L, c.v.size ≤ 32
theorem Small.nle {L : List Cl} (h : Small L) (i : Nat) : needs (L.take i) ≤ 51 * i := by
  induction i with
  | zero => simp [needs]
  | succ i ih =>
    by_cases hi : i < L.length
    · rw [needs_take_succ hi, need]
      have := h.k _ (List.getElem_mem hi)
      have := h.v _ (List.getElem_mem hi)
      omega
    · rw [List.take_of_length_le (by omega)]
      rw [List.take_of_length_le (by omega)] at ih
      omega
theorem Right.small {s : List UInt8} (h : Right s) : Small (cells s) := by
  have hn := h.head.slotlt
  refine ⟨by rw [cells_length]; omega, fun c hc => ?_, fun c hc => ?_⟩
  · obtain ⟨i, hi, rfl⟩ := List.mem_map.1 hc
    exact ((h.ok i (List.mem_range.1 hi)).need h.head).1
  · obtain ⟨i, hi, rfl⟩ := List.mem_map.1 hc
    exact ((h.ok i (List.mem_range.1 hi)).need h.head).2
theorem Cs.at' {a : Option Addr} {L : List Cl} {w w' : World} (h : Cs w a L) (hb : Below w.heap.size w w') {i : Nat} (hi : i < L.length) :
    ∃ b off, a = some ⟨b, off, none⟩ ∧ b < w.heap.size ∧ w'.cell? ⟨b, off + i * 2, none⟩ = some (.string L[i].k) ∧ w'.cell? ⟨b, off + i * 2 + 1, none⟩ = some (.string L[i].v) := by
  obtain ⟨b, off, h0, h1, h2, h3⟩ := h.at_ i hi
  exact ⟨b, off, h0, h1, (hb.cell (by exact h1)).trans h2, (hb.cell (by exact h1)).trans h3⟩

theorem needOf_any (w : World) {a : Option Addr} {L : List Cl} (cap : Nat) (h : Cs w a L) (hs : Small L) : Calls Try.prog 62 #[.slice a L.length cap] w fun e w' => e = .returned (.int .i64 (needs L : Nat)) ∧ Below w.heap.size w w' := by
  have hl := hs.len
  go_enter Try.func62, Try.ntmps62
  go_wp2
  go_loopw [3, 8] (fun nd kv wr => ∃ i : Nat, kv = .int .i64 (i : Int) ∧ nd = .int .i64 (needs (L.take i) : Nat) ∧ i ≤ L.length ∧ Below w.heap.size w wr) (fun _ kv _ => L.length - (intOf kv).toNat)
  case atStart => exact ⟨0, rfl, rfl, Nat.zero_le _, Below.refl _ _⟩
  case round =>
    obtain ⟨i, rfl, rfl, hi, hbel⟩ := hrel
    by_cases hlt : i < L.length
    · have hltI : (i : Int) < (L.length : Int) := by omega
      obtain ⟨b, off, rfl, hb, c0, c1⟩ := h.at' hbel hlt
      have hk := hs.k _ (List.getElem_mem hlt)
      have hv := hs.v _ (List.getElem_mem hlt)
      have hst := needs_take_succ hlt
      have hnl := hs.nle i
      have C4 : Hid (∀ w, Calls Try.prog 27 #[.agg #[.string L[i].k, .string L[i].v]] w fun e w' => e = .returned (.int .i64 (need L[i])) ∧ Below w.heap.size w w') := fun w => Need_any w _ (by omega) (by omega)
      have hnd : need L[i] ≤ 51 := by simp only [need]; omega
      obtain ⟨c, hc⟩ : ∃ c, c = L[i] := ⟨_, rfl⟩
      rw [← hc] at C4 hk hv hnd hst c0 c1
      obtain ⟨n, hn'⟩ : ∃ n, n = need c := ⟨_, rfl⟩
      rw [← hn'] at C4 hnd hst
      obtain ⟨m, hm⟩ : ∃ m, m = needs (L.take i) := ⟨_, rfl⟩
      rw [← hm] at hst hnl
      rw [← hm]
      have HST : Hid _ := hst
      clear hc hn' hm hst
      go_wp2_with (go_at_call 27; refine (C4.out _).mono ?_; rintro e w2 ⟨rfl, hb2⟩)
      go_roundw
      case rel =>
        have hz := hbel.size
        exact ⟨i + 1, by go_num, by rw [HST.out]; simp, by omega, thn (thnA hbel _) hb2⟩
      case measure => simp [intOf]; omega
    · have hie : i = L.length := by omega
      subst hie
      have hlt' : ¬ (L.length : Int) < (L.length : Int) := by omega
      have e : Hid (needs (L.take L.length) = needs L) := (by rw [List.take_length] : needs (L.take L.length) = needs L)
      generalize hm : needs (L.take L.length) = m at *
      go_wp2
      go_ret
      exact ⟨by rw [← e.out]; rfl, hbel⟩
/-- The room of a page. -/
def rm (s : List UInt8) : Nat := if g s 0 = 0 then 0 else 220 - needs (cells s)
theorem room_any (w : World) (h : Sh w b s) (hr : Right s) : Calls Try.prog 43 #[.pointer (some ⟨b, 0, none⟩)] w fun e w' => e = .returned (.int .i64 (rm s : Nat)) ∧ Below w.heap.size w w' := by
  have C1 : Hid (∀ w, Sh w b s → Calls Try.prog 41 #[.pointer (some ⟨b, 0, none⟩)] w fun e w' => e = .returned (.int .i64 (g s 0)) ∧ w' = w) := fun w h => kind_any w h
  have C2 : Hid (∀ w, Sh w b s → Calls Try.prog 44 #[.pointer (some ⟨b, 0, none⟩)] w fun e w' => ∃ a, e = .returned (.slice (some ⟨a, 0, none⟩) (cnt s) (cnt s)) ∧ Cs w' (some ⟨a, 0, none⟩) (cells s) ∧ Below w.heap.size w w') := fun w h => cells_any w h hr
  have C3 : Hid (∀ w a, Cs w a (cells s) → Calls Try.prog 62 #[.slice a (cnt s) (cnt s)] w fun e w' => e = .returned (.int .i64 (needs (cells s) : Nat)) ∧ Below w.heap.size w w') := fun w a h => by
    have := needOf_any w (cnt s) h hr.small
    rw [cells_length] at this
    exact this
  have hf := hr.fit
  have H : Hid _ := h
  clear h
  by_cases h0 : g s 0 = 0
  · have h0' : ((g s 0 : Int) == 0) = true := by simp [h0]
    have e : rm s = 0 := by simp [rm, h0]
    rw [e]
    generalize (g s 0) = k0 at *
    clear h0
    go_enter Try.func43, Try.ntmps43
    go_wp2_with (go_at_call 41; refine (C1.out _ H.out).mono ?_; rintro e w' ⟨rfl, rfl⟩)
    go_ret
    exact ⟨rfl, Below.refl _ _⟩
  · have h0' : ((g s 0 : Int) == 0) = false := by simp; omega
    have e : (rm s : Int) = 220 - (needs (cells s) : Int) := by simp only [rm, h0, if_false]; omega
    rw [e]
    generalize (g s 0) = k0 at *
    clear h0 e
    generalize needs (cells s) = m at *
    go_enter Try.func43, Try.ntmps43
    go_wp2_with (first | (go_at_call 41; refine (C1.out _ H.out).mono ?_; rintro e w' ⟨rfl, rfl⟩) | (go_at_call 44; refine (C2.out _ H.out).mono ?_; rintro e w2 ⟨a, rfl, hc2, hb2⟩) | (go_at_call 62; refine (C3.out _ _ hc2).mono ?_; rintro e w3 ⟨rfl, hb3⟩))
    go_ret
    exact ⟨rfl, thn hb2 hb3⟩
end
end Go.Proofs.Ytmoognjegjeegaa
