/- The store's parts: the four sectors of a page, whatever they have. -/
import Derived.Test.YtdgnfglghiecpaaStW
import Derived.Deep.RegionHeld3
namespace Go.Proofs.Ytdgnfglghiecpaa
open Go.RowKit Go.Maps Go.ChangeMaps
set_option linter.unusedVariables false
set_option linter.unusedSimpArgs false
set_option maxRecDepth 100000

variable {w w' : World} {db lb mb m sb : Nat} {S : Dk} {base pages gen : Nat}

/-! ### A sector, read -/
def rN (x : ByteArray × Int) (k : Int) : Nat × ByteArray × Int := Pk.rdNum x.1 x.2 k
def rR (x : ByteArray × Int) (k : Int) : ByteArray × ByteArray × Int := Pk.rdRaw x.1 x.2 k
/-- The generation, the record, the bytes of a sector. -/
def gnS (c : ByteArray) : Nat := (rN (c, 0) 2).1
def lnS (c : ByteArray) : Nat := (rN (rN (c, 0) 2).2 6).1
def txS (c : ByteArray) : ByteArray := (rR (rN (rN (c, 0) 2).2 6).2 56).1

theorem PkRead_any (s : ByteArray) (w : World) : Calls Try.prog 44 #[.string s] w fun e w' => e = .returned (.pointer (some ⟨w.heap.size, 0, none⟩)) ∧ w' = w.alloc (.cells #[.string s, .int .i64 0] 110) := by
  go_enter Try.func44, Try.ntmps44
  go_wp2
  go_ret
  exact ⟨rfl, rfl⟩

/-- A reader in block b, beside a block g of cells. -/
structure RP (w : World) (b g : Nat) (C : Array Value) (x : ByteArray × Int) : Prop where
  rd : Pk.isRd w b x.1 x.2
  sz : x.1.size ≤ 64
  blk : w.heap[g]? = some (.cells C 80)
  lt : g < w.heap.size
  ne : g ≠ b
theorem RP.c {b g : Nat} {C : Array Value} {x : ByteArray × Int} (h : RP w b g C x) (i : Nat) : w.cell? ⟨g, i, none⟩ = C[i]? := Joins.cell_of_block h.blk i
theorem RP.f {b g : Nat} {C : Array Value} {x : ByteArray × Int} (h : RP w b g C x) (i : Nat) : w.frozen? ⟨g, i, none⟩ = false := Joins.unfrozen_of_block h.blk i
theorem RP.set {b g : Nat} {C : Array Value} {x : ByteArray × Int} (h : RP w b g C x) (i : Nat) (v : Value) : RP (w.setCell ⟨g, i, none⟩ v) b g (C.setIfInBounds i v) x :=
  ⟨(Below.heap_setCell w _ v b h.ne.symm).trans h.rd, h.sz, Joins.block_setCell h.blk _, by have := h.lt; simpa [go_sem] using this, h.ne⟩
theorem RP.num {b g : Nat} {C : Array Value} {x : ByteArray × Int} (h : RP w b g C x) (k : Int) : Calls Try.prog 45 #[.pointer (some ⟨b, 0, none⟩), .int .i64 k] w fun e w' =>
    e = .returned (.int .i64 ((rN x k).1 : Int)) ∧ RP w' b g C (rN x k).2 ∧ Pk.Off b w w' := by
  refine (Pk.Num_any b x.1 x.2 k w (by have := h.sz; omega) h.rd).mono ?_
  rintro e w' ⟨he, hr, ho⟩
  exact ⟨he, ⟨hr, Nat.le_trans (Pk.rdNum_size _ _ _) h.sz, (ho.block g h.lt h.ne).trans h.blk, Nat.lt_of_lt_of_le h.lt ho.size, h.ne⟩, ho⟩
theorem RP.raw {b g : Nat} {C : Array Value} {x : ByteArray × Int} (h : RP w b g C x) (k : Int) : Calls Try.prog 46 #[.pointer (some ⟨b, 0, none⟩), .int .i64 k] w fun e w' =>
    e = .returned (.string (rR x k).1) ∧ RP w' b g C (rR x k).2 ∧ Pk.Off b w w' := by
  refine (Pk.Raw_any b x.1 x.2 k w (by have := h.sz; omega) h.rd).mono ?_
  rintro e w' ⟨he, hr, ho⟩
  exact ⟨he, ⟨hr, Nat.le_trans (Pk.rdRaw_size _ _ _) h.sz, (ho.block g h.lt h.ne).trans h.blk, Nat.lt_of_lt_of_le h.lt ho.size, h.ne⟩, ho⟩
/-- The first j parts lie in C. -/
structure PartsC (C : Array Value) (f : Nat → ByteArray) (j : Nat) : Prop where
  size : C.size = 12
  g : ∀ i, i < j → C[i * 3]? = some (.int .i64 (gnS (f i) : Int))
  l : ∀ i, i < j → C[i * 3 + 1]? = some (.int .i64 (lnS (f i) : Int))
  t : ∀ i, i < j → C[i * 3 + 2]? = some (.string (txS (f i)))
theorem PartsC.next {C : Array Value} {f : Nat → ByteArray} {j : Nat} (h : PartsC C f j) (hj : j < 4) :
    PartsC (((C.setIfInBounds (j * 3) (.int .i64 (gnS (f j) : Int))).setIfInBounds (j * 3 + 1) (.int .i64 (lnS (f j) : Int))).setIfInBounds (j * 3 + 2) (.string (txS (f j)))) f (j + 1) := by
  have hz := h.size
  refine ⟨by simp [hz], fun i hi => ?_, fun i hi => ?_, fun i hi => ?_⟩
  · by_cases e : i = j
    · subst e; simp [Array.getElem?_setIfInBounds]; omega
    · have := h.g i (by omega)
      rw [Array.getElem?_setIfInBounds, if_neg (by omega), Array.getElem?_setIfInBounds, if_neg (by omega), Array.getElem?_setIfInBounds, if_neg (by omega)]
      exact this
  · by_cases e : i = j
    · subst e; simp [Array.getElem?_setIfInBounds]; omega
    · have := h.l i (by omega)
      rw [Array.getElem?_setIfInBounds, if_neg (by omega), Array.getElem?_setIfInBounds, if_neg (by omega), Array.getElem?_setIfInBounds, if_neg (by omega)]
      exact this
  · by_cases e : i = j
    · subst e; simp [Array.getElem?_setIfInBounds]; omega
    · have := h.t i (by omega)
      rw [Array.getElem?_setIfInBounds, if_neg (by omega), Array.getElem?_setIfInBounds, if_neg (by omega), Array.getElem?_setIfInBounds, if_neg (by omega)]
      exact this
theorem make4 (w : World) : (Instr.makeSlice 76 (.int .i64 4) (.int .i64 4)).run Try.prog w = .ok (.slice (some ⟨w.heap.size, 0, none⟩) 4 4) (w.alloc (.cells #[.int .i64 0, .int .i64 0, .string ⟨#[]⟩, .int .i64 0, .int .i64 0, .string ⟨#[]⟩, .int .i64 0, .int .i64 0, .string ⟨#[]⟩, .int .i64 0, .int .i64 0, .string ⟨#[]⟩] 80)) := by kernel_rfl

set_option maxHeartbeats 1000000 in
theorem parts_any (w : World) (h : StIs w sb db base pages gen) (hD : DkIs w db lb mb m S) (hS : S.Ok) (hu : S.up = true) (id : Nat) (hid : id < pages) (hp : base + 4 * pages ≤ S.n) :
    Calls Try.prog 35 #[.pointer (some ⟨sb, 0, none⟩), .int .i64 (id : Int)] w fun e w' =>
      e = .returned (.tuple #[.slice (some ⟨w.heap.size, 0, none⟩) 4 4, .int .i64 0]) ∧ (∃ C, w'.heap[w.heap.size]? = some (.cells C 80) ∧ PartsC C (fun i => S.now (base + 4 * id + i)) 4) ∧ Below w.heap.size w w' := by
  have hn2 := hS.n2
  have CS : Hid (∀ w (j : Nat), StIs w sb db base pages gen → j ≤ 4 → Calls Try.prog 31 #[.pointer (some ⟨sb, 0, none⟩), .int .i64 (id : Int), .int .i64 (j : Int)] w fun e w' => e = .returned (.int .i64 ((base + 4 * id + j : Nat) : Int)) ∧ w' = w) :=
    fun w j h hj => sector_any w h id j (by omega)
  obtain ⟨f, hf⟩ : ∃ f, f = (fun i => S.now (base + 4 * id + i)) := ⟨_, rfl⟩
  have CR : Hid (∀ w (j : Nat), DkIs w db lb mb m S → j < 4 → Calls Try.prog 17 #[.pointer (some ⟨db, 0, none⟩), .int .i64 ((base + 4 * id + j : Nat) : Int)] w fun e w' =>
      e = .returned (.tuple #[.string (f j), .int .i64 0]) ∧ Below w.heap.size w w') := fun w j h hj => by
    have := Read_any w h hS (base + 4 * id + j) (by omega) hu
    rw [hf]; exact this
  have hfz : Hid (∀ j, j < 4 → (f j).size = 64) := fun j hj => by
    rw [hf]
    show (S.now _).size = 64
    unfold Dk.now
    cases hw : S.wait (base + 4 * id + j) with
    | none => exact hD.row.size _ (by omega)
    | some c => exact (hS.wait _ c hw).2
  rw [← hf]
  have hmk := make4
  have H : Hid _ := h
  have HD : Hid _ := hD
  have hsl := h.lt
  have hid2 : (id : Int) ≤ 8192 := by omega
  clear h hD hf hid hp hS
  go_enter Try.func35, Try.ntmps35
  go_wp2
  go_loopw [12] (fun i wr => ∃ (j : Nat) (C : Array Value), j ≤ 4 ∧ i = .int .i64 j ∧ wr.heap[w.heap.size]? = some (.cells C 80) ∧ PartsC C f j ∧ Below w.heap.size w wr) (fun i _ => 4 - (intOf i).toNat)
  case atStart =>
    exact ⟨0, _, by omega, rfl, (MapKept.heap_alloc w _).1, ⟨rfl, fun i hi => absurd hi (by omega), fun i hi => absurd hi (by omega), fun i hi => absurd hi (by omega)⟩, (Below.refl _ _).alloc (Nat.le_refl _) _⟩
  case round =>
    obtain ⟨j, C, hj, rfl, hC, hP, hb⟩ := hrel
    by_cases hlt : j < 4
    · have hs := H.out.below hb
      have hd := HD.out.below hb
      have hc0 := hs.c0
      have hslr := hs.lt
      have hgl : w.heap.size < wr.heap.size := by
        rcases Nat.lt_or_ge w.heap.size wr.heap.size with h' | h'
        · exact h'
        · simp [Array.getElem?_eq_none h'] at hC
      have hcz := hfz.out j hlt
      go_wp2
      go_region_held3 (fun W => W.cell? ⟨sb, 0, none⟩ = some (.pointer (some ⟨db, 0, none⟩))) (first | exact keep1 | exact hc0 | go_keep) (first
        | (go_at_call 31; refine (CS.out _ j ?_ ?_).mono ?_; exact hs.drew; exact hj; rintro e w2 ⟨rfl, rfl⟩)
        | (go_at_call 17; refine (CR.out _ j ?_ ?_).mono ?_; exact hd.drew; exact hlt; rintro e w3 ⟨rfl, b3⟩; have keep1 := (b3.cell (p := ⟨sb, 0, none⟩) hslr).trans hc0))
      have hb3 : Below w.heap.size w w3 := hb.drew.trans (b3.mono hb.size)
      have hC3 : w3.heap[w.heap.size]? = some (.cells C 80) := (b3.block _ hgl).trans hC
      have hgl3 : w.heap.size < w3.heap.size := Nat.lt_of_lt_of_le hgl b3.size
      have h1 : RP (w3.alloc (.cells #[.string (f j), .int .i64 0] 110)) w3.heap.size w.heap.size C (f j, 0) :=
        ⟨(MapKept.heap_alloc w3 _).1, by rw [hcz]; exact Nat.le_refl _, (Below.heap_alloc _ _ _ hgl3).trans hC3, by simp; omega, by omega⟩
      clear keep1 hc0 hs hd b3 hC
      obtain ⟨v0, e0⟩ : ∃ v, C[j * 3]? = some v := ⟨_, Array.getElem?_eq_getElem (by rw [hP.size]; omega)⟩
      obtain ⟨v1, e1⟩ : ∃ v, C[j * 3 + 1]? = some v := ⟨_, Array.getElem?_eq_getElem (by rw [hP.size]; omega)⟩
      obtain ⟨v2, e2⟩ : ∃ v, C[j * 3 + 2]? = some v := ⟨_, Array.getElem?_eq_getElem (by rw [hP.size]; omega)⟩
      have e2' : ∀ x y : Value, ((C.setIfInBounds (j * 3) x).setIfInBounds (j * 3 + 1) y)[j * 3 + 2]? = some v2 := fun x y => by
        rw [Array.getElem?_setIfInBounds, if_neg (by omega), Array.getElem?_setIfInBounds, if_neg (by omega)]; exact e2
      have BB : Hid (Below w.heap.size w (w3.alloc (.cells #[.string (f j), .int .i64 0] 110))) := hb3.alloc hb3.size _
      have hle := hb3.size
      clear hb3
      go_wp2_with (first
        | (go_at_call 44; refine (PkRead_any _ _).mono ?_; rintro e w4 ⟨rfl, rfl⟩)
        | (go_at_call 45; refine (h1.num _).mono ?_; clear h1; rintro e w5 ⟨rfl, h1, o1⟩; have k0 := (h1.c (j * 3)).trans e0; have k1 := (h1.c (j * 3 + 1)).trans e1; have k2 := (h1.c (j * 3 + 2)).trans e2; have hff := h1.f; have B2 : Hid (Below w.heap.size w w5) := BB.out.trans (o1.below hle BB.out.size); clear BB; have BB : Hid (Below w.heap.size w w5) := B2.out; clear B2 o1)
        | (go_at_call 46; refine (((h1.set _ _).set _ _).raw _).mono ?_; clear h1; rintro e w6 ⟨rfl, h1, o1⟩; have k2 := (h1.c (j * 3 + 2)).trans (e2' _ _); have hff := h1.f))
      have hle5 : w.heap.size ≤ w5.heap.size := BB.out.size
      have B5 : ∀ x y : Value, Below w.heap.size w ((w5.setCell ⟨w.heap.size, j * 3, none⟩ x).setCell ⟨w.heap.size, j * 3 + 1, none⟩ y) := fun x y => (BB.out.setCell (Nat.le_refl _) _).setCell (Nat.le_refl _) _
      have B6 : Below w.heap.size w w6 := (B5 _ _).trans (o1.below hle (B5 _ _).size)
      go_roundw
      case rel => exact ⟨j + 1, _, by omega, by go_num, (h1.set _ _).blk, hP.next hlt, B6.setCell (Nat.le_refl _) _⟩
      case measure => simp [intOf]; omega
    · obtain rfl : j = 4 := by omega
      go_wp2
      go_ret2
      exact ⟨rfl, ⟨C, hC, hP⟩, hb⟩
end Go.Proofs.Ytdgnfglghiecpaa
