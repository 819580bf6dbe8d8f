/- The store's Read and Is. -/
import Derived.Test.YtdgnfglghiecpaaStP
namespace Go.Proofs.Ytdgnfglghiecpaa
open Go.RowKit Go.Maps Go.ChangeMaps
set_option linter.unusedVariables false
set_option linter.unusedSimpArgs false
set_option maxRecDepth 100000

variable {w w' : World} {db lb mb m sb : Nat} {S : Dk} {base pages gen : Nat}

def txtJ (f : Nat → ByteArray) : Nat → ByteArray
  | 0 => ⟨#[]⟩
  | j + 1 => txtJ f j ++ txS (f j)
def knwJ (gen : Nat) (f : Nat → ByteArray) : Nat → Bool
  | 0 => false
  | j + 1 => knwJ gen f j || ((gnS (f j) : Int) == (gen : Int))
def whlJ (f : Nat → ByteArray) : Nat → Bool
  | 0 => true
  | j + 1 => whlJ f j && (((gnS (f j) : Int) == (gnS (f 0) : Int)) && ((lnS (f j) : Int) == (lnS (f 0) : Int)))
/-- What is read of four sectors. -/
def rdV (gen : Nat) (f : Nat → ByteArray) : ByteArray × Int × Int :=
  if knwJ gen f 4 = false then (⟨#[]⟩, 0, 8) else if whlJ f 4 = false then (⟨#[]⟩, 0, 10) else (txtJ f 4, (lnS (f 0) : Int), 0)
theorem txS_size (c : ByteArray) : (txS c).size ≤ 56 := Pk.rdRaw_size1 _ _ _ 56 (Int.le_refl _)
theorem txtJ_size (f : Nat → ByteArray) : ∀ j, (txtJ f j).size ≤ 56 * j
  | 0 => Nat.le_refl _
  | j + 1 => by
    have := txtJ_size f j
    have := txS_size (f j)
    rw [txtJ, ByteArray.size_append]; omega
theorem below_drewN (w : World) (n : Nat) : Below w.heap.size w (w.drewN n) := ⟨rfl, rfl, rfl, Nat.le_refl _, fun _ _ => rfl⟩

set_option maxHeartbeats 2000000 in
theorem StRead_good (w : World) (h : StIs w sb db base pages gen) (hD : DkIs w db lb mb m S) (hS : S.Ok) (hu : S.up = true) (id : Nat) (hid : id < pages) (hp : base + 4 * pages ≤ S.n) :
    Calls Try.prog 19 #[.pointer (some ⟨sb, 0, none⟩), .int .i64 (id : Int)] w fun e w' =>
      e = .returned (.tuple #[.string (rdV gen (fun i => S.now (base + 4 * id + i))).1, .int .i64 (rdV gen (fun i => S.now (base + 4 * id + i))).2.1, .int .i64 (rdV gen (fun i => S.now (base + 4 * id + i))).2.2]) ∧ Below w.heap.size w w' := by
  have C0 : Hid (∀ w, StIs w sb db base pages gen → Calls Try.prog 29 #[.pointer (some ⟨sb, 0, none⟩), .int .i64 (id : Int)] w fun e w' => e = .returned (.int .i64 0) ∧ w' = w) := fun w h => by
    have := strefusal_any w h (id : Int)
    have e : stRef pages (id : Int) = 0 := by simp [stRef]; omega
    rwa [e] at this
  obtain ⟨f, hf⟩ : ∃ f, f = (fun i => S.now (base + 4 * id + i)) := ⟨_, rfl⟩
  have CP : Hid (Calls Try.prog 35 #[.pointer (some ⟨sb, 0, none⟩), .int .i64 (id : Int)] w fun e w' =>
      e = .returned (.tuple #[.slice (some ⟨w.heap.size, 0, none⟩) 4 4, .int .i64 0]) ∧ (∃ C, w'.heap[w.heap.size]? = some (.cells C 80) ∧ PartsC C f 4) ∧ Below w.heap.size w w') := by
    rw [hf]; exact parts_any w h hD hS hu id hid hp
  rw [← hf]
  have H : Hid _ := h
  have hsl := h.lt
  clear h hD hf hid hp hS
  go_enter Try.func19, Try.ntmps19
  go_wp2_with (first
    | (go_at_call 29; refine (C0.out _ H.out).mono ?_; rintro e w' ⟨rfl, rfl⟩)
    | (go_at_call 35; refine CP.out.mono ?_; rintro e w1 ⟨rfl, ⟨C, hC, hP⟩, b1⟩; have q0 := (Joins.cell_of_block hC 0).trans (hP.g 0 (by omega)); have q1 := (Joins.cell_of_block hC 1).trans (hP.l 0 (by omega)))
    )
  have hle := b1.size
  have hs1 := H.out.below b1
  have hgl : w'.heap.size < w1.heap.size := by
    rcases Nat.lt_or_ge w'.heap.size w1.heap.size with h' | h'
    · exact h'
    · simp [Array.getElem?_eq_none h'] at hC
  clear C0 CP q0 q1
  go_loopw [11, 12, 13, 37] (fun t k v i wr => ∃ (j : Nat), j ≤ 4 ∧ i = .int .i64 j ∧ t = .string (txtJ f j) ∧ k = .bool (knwJ gen f j) ∧ v = .bool (whlJ f j) ∧ Below (w1.heap.size + 1) (w1.alloc (.cells #[.int .i64 (gnS (f 0) : Int), .int .i64 (lnS (f 0) : Int)] 68)) wr) (fun _ _ _ i _ => 4 - (intOf i).toNat)
  case atStart =>
    exact ⟨0, by omega, rfl, rfl, rfl, rfl, Below.refl _ _⟩
  case round =>
    obtain ⟨j, hj, rfl, rfl, rfl, rfl, hb⟩ := hrel
    have hsm : (w1.alloc (.cells #[.int .i64 (gnS (f 0) : Int), .int .i64 (lnS (f 0) : Int)] 68)).heap.size = w1.heap.size + 1 := by simp
    have hkl : w1.heap.size + 1 ≤ wr.heap.size := by have := hb.size; rwa [hsm] at this
    have d0 : wr.cell? ⟨w1.heap.size, 0, none⟩ = some (.int .i64 (gnS (f 0) : Int)) := (hb.cell (p := ⟨w1.heap.size, 0, none⟩) (Nat.lt_succ_self _)).trans (Joins.cell_of_block (MapKept.heap_alloc w1 _).1 0)
    have d1 : wr.cell? ⟨w1.heap.size, 1, none⟩ = some (.int .i64 (lnS (f 0) : Int)) := (hb.cell (p := ⟨w1.heap.size, 1, none⟩) (Nat.lt_succ_self _)).trans (Joins.cell_of_block (MapKept.heap_alloc w1 _).1 1)
    have bb : Below w'.heap.size w' wr := (b1.alloc hle _).trans (hb.mono (by omega))
    by_cases hlt : j < 4
    · have hs := H.out.below bb
      have hc3 := hs.c3
      have hslr := hs.lt
      have hCr : wr.heap[w'.heap.size]? = some (.cells C 80) := (hb.block _ (by omega)).trans ((Below.heap_alloc _ _ _ hgl).trans hC)
      have k0 := (Joins.cell_of_block hCr (j * 3)).trans (hP.g j hlt)
      have k1 := (Joins.cell_of_block hCr (j * 3 + 1)).trans (hP.l j hlt)
      have k2 := (Joins.cell_of_block hCr (j * 3 + 2)).trans (hP.t j hlt)
      have z1 := txtJ_size f j
      have z2 := txS_size (f j)
      have z3 : (txtJ f j).size ≤ 224 := by omega
      have et : txtJ f (j + 1) = txtJ f j ++ txS (f j) := rfl
      have ek : knwJ gen f (j + 1) = (knwJ gen f j || ((gnS (f j) : Int) == (gen : Int))) := rfl
      have ew : whlJ f (j + 1) = (whlJ f j && (((gnS (f j) : Int) == (gnS (f 0) : Int)) && ((lnS (f j) : Int) == (lnS (f 0) : Int)))) := rfl
      have HE : Hid _ := And.intro et (And.intro ek ew)
      have hkl2 : w1.heap.size < wr.heap.size := by omega
      have d0' : ∀ o n, ((wr.alloc o).drewN n).cell? ⟨w1.heap.size, 0, none⟩ = some (.int .i64 (gnS (f 0) : Int)) := fun o n => (World.cell?_alloc_lt _ _ _ hkl2).trans d0
      have d1' : ∀ o n, ((wr.alloc o).drewN n).cell? ⟨w1.heap.size, 1, none⟩ = some (.int .i64 (lnS (f 0) : Int)) := fun o n => (World.cell?_alloc_lt _ _ _ hkl2).trans d1
      clear et ek ew z1 hCr hs
      cases hk : knwJ gen f j
      · cases hw : whlJ f j
        · go_wp2
          go_quiet (fail)
          go_wp2
          go_roundw
          case rel =>
            refine ⟨j + 1, by omega, by go_num, by rw [HE.out.1], ?_, ?_, ?_⟩
            · rw [HE.out.2.1, hk]; simp
            · rw [HE.out.2.2, hw]; simp
            · exact (hb.alloc (by omega) _).trans ((below_drewN _ _).mono (by simp; omega))
          case measure => simp [intOf]; omega
        · by_cases e1 : (gnS (f j) : Int) = (gnS (f 0) : Int)
          · by_cases e2 : (lnS (f j) : Int) = (lnS (f 0) : Int)
            · go_wp2
              go_quiet (fail)
              go_wp2
              go_roundw
              case rel =>
                refine ⟨j + 1, by omega, by go_num, by rw [HE.out.1], ?_, ?_, ?_⟩
                · rw [HE.out.2.1, hk]; simp [e1, e2]
                · rw [HE.out.2.2, hw]; simp [e1, e2]
                · exact (hb.alloc (by omega) _).trans ((below_drewN _ _).mono (by simp; omega))
              case measure => simp [intOf]; omega
            · go_wp2
              go_quiet (fail)
              go_wp2
              go_roundw
              case rel =>
                refine ⟨j + 1, by omega, by go_num, by rw [HE.out.1], ?_, ?_, ?_⟩
                · rw [HE.out.2.1, hk]; simp [e1, e2]
                · rw [HE.out.2.2, hw]; simp [e1, e2]
                · exact (hb.alloc (by omega) _).trans ((below_drewN _ _).mono (by simp; omega))
              case measure => simp [intOf]; omega
          · go_wp2
            go_quiet (fail)
            go_wp2
            go_roundw
            case rel =>
              refine ⟨j + 1, by omega, by go_num, by rw [HE.out.1], ?_, ?_, ?_⟩
              · rw [HE.out.2.1, hk]; simp [e1]
              · rw [HE.out.2.2, hw]; simp [e1]
              · exact (hb.alloc (by omega) _).trans ((below_drewN _ _).mono (by simp; omega))
            case measure => simp [intOf]; omega
      · cases hw : whlJ f j
        · go_wp2
          go_quiet (fail)
          go_wp2
          go_roundw
          case rel =>
            refine ⟨j + 1, by omega, by go_num, by rw [HE.out.1], ?_, ?_, ?_⟩
            · rw [HE.out.2.1, hk]; simp
            · rw [HE.out.2.2, hw]; simp
            · exact (hb.alloc (by omega) _).trans ((below_drewN _ _).mono (by simp; omega))
          case measure => simp [intOf]; omega
        · by_cases e1 : (gnS (f j) : Int) = (gnS (f 0) : Int)
          · by_cases e2 : (lnS (f j) : Int) = (lnS (f 0) : Int)
            · go_wp2
              go_quiet (fail)
              go_wp2
              go_roundw
              case rel =>
                refine ⟨j + 1, by omega, by go_num, by rw [HE.out.1], ?_, ?_, ?_⟩
                · rw [HE.out.2.1, hk]; simp [e1, e2]
                · rw [HE.out.2.2, hw]; simp [e1, e2]
                · exact (hb.alloc (by omega) _).trans ((below_drewN _ _).mono (by simp; omega))
              case measure => simp [intOf]; omega
            · go_wp2
              go_quiet (fail)
              go_wp2
              go_roundw
              case rel =>
                refine ⟨j + 1, by omega, by go_num, by rw [HE.out.1], ?_, ?_, ?_⟩
                · rw [HE.out.2.1, hk]; simp [e1, e2]
                · rw [HE.out.2.2, hw]; simp [e1, e2]
                · exact (hb.alloc (by omega) _).trans ((below_drewN _ _).mono (by simp; omega))
              case measure => simp [intOf]; omega
          · go_wp2
            go_quiet (fail)
            go_wp2
            go_roundw
            case rel =>
              refine ⟨j + 1, by omega, by go_num, by rw [HE.out.1], ?_, ?_, ?_⟩
              · rw [HE.out.2.1, hk]; simp [e1]
              · rw [HE.out.2.2, hw]; simp [e1]
              · exact (hb.alloc (by omega) _).trans ((below_drewN _ _).mono (by simp; omega))
            case measure => simp [intOf]; omega
    · obtain rfl : j = 4 := by omega
      have z3 := txtJ_size f 4
      cases hk : knwJ gen f 4
      · go_wp2
        go_ret3
        unfold rdV
        rw [hk]
        exact ⟨rfl, bb⟩
      · cases hw : whlJ f 4
        · go_wp2
          go_ret3
          unfold rdV
          rw [hk, hw]
          exact ⟨rfl, bb⟩
        · go_wp2
          go_quiet (fail)
          go_wp2
          go_ret3
          unfold rdV
          rw [hk, hw]
          exact ⟨rfl, bb.trans ((below_drewN _ _).mono bb.size)⟩
end Go.Proofs.Ytdgnfglghiecpaa
