/- The disk's Write, Crash and Sync. -/
import Derived.Test.YtljedbakdlhlbaaDkPow
namespace Go.Proofs.Ytljedbakdlhlbaa
open Go.RowKit Go.Maps Go.ChangeMaps Go.Sort
set_option linter.unusedVariables false
set_option linter.unusedSimpArgs false
set_option maxRecDepth 100000

variable {w w' : World} {db lb mb m : Nat} {S : Dk}

/-- A text with noughts behind, up to a sector's bytes. -/
def pad (s : ByteArray) : ByteArray := ⟨s.data ++ Array.replicate (64 - s.size) 0⟩
theorem pad_size {s : ByteArray} (h : s.size ≤ 64) : (pad s).size = 64 := by
  show (s.data ++ Array.replicate (64 - s.size) 0).size = 64
  rw [Array.size_append, Array.size_replicate]
  have : s.data.size = s.size := rfl
  omega
theorem zsL : secL zs64 = List.replicate 64 (Value.int .u8 0) := by
  simp only [secL, zs64, Array.toList_replicate, Lib.byteCells, List.map_replicate]
  rfl
theorem pad_cells {s : ByteArray} (h : s.size ≤ 64) : (secL zs64).take 0 ++ Lib.byteCells s.data.toList ++ (secL zs64).drop (0 + s.size) = secL (pad s) := by
  rw [zsL, List.drop_replicate]
  simp only [secL, pad, Array.toList_append, Array.toList_replicate, Lib.byteCells, List.map_append, List.map_replicate, List.take_zero, List.nil_append, Nat.zero_add]
  rfl
theorem run_copy64 (w : World) (s : ByteArray) (h : s.size ≤ 64) (ty : TypeId) : (Builtin.copy_ #[67, 9] ty #[.slice (some ⟨w.heap.size, 0, none⟩) 64 64, .string s]).run Try.prog (w.alloc (.cells (secL zs64).toArray 65)) = .ok (.int .i64 s.size) (w.alloc (.cells (secL (pad s)).toArray 65)) := by
  have := Lib.run_copy_row_string (P := Try.prog) (w.alloc (.cells (secL zs64).toArray 65)) 67 9 ty 5 w.heap.size 0 64 64 s (secL zs64).toArray 65 Try.underlying67 (by kernel_rfl) (MapKept.heap_alloc w _).1 h (by rw [zsz]; omega)
  rw [this, World.setRow_alloc_new]
  simp only [List.toList_toArray]
  rw [pad_cells h]
  rfl
/-- What a write answers, and the disk behind it. -/
def writeE (S : Dk) (i : Int) (s : ByteArray) : Int := if refAt S.up S.n i ≠ 0 then refAt S.up S.n i else if 64 < s.size then 3 else actE S
def writeDk (S : Dk) (i : Int) (s : ByteArray) : Dk := if refAt S.up S.n i ≠ 0 then S else if 64 < s.size then S else if actE S ≠ 0 then actDk S else { actDk S with wait := upd S.wait i.toNat (some (pad s)) }
theorem actDk_n (S : Dk) : (actDk S).n = S.n := by unfold actDk offDk; split <;> (try split) <;> rfl
theorem actDk_go {S : Dk} (h : actE S = 0) : (actDk S).wait = S.wait ∧ (actDk S).sure = S.sure ∧ (actDk S).up = S.up := by
  have h1 : ¬ (S.set = true ∧ S.left = 0) := fun e => by simp [actE, e] at h
  simp only [actDk, h1, if_false]
  split <;> exact ⟨rfl, rfl, rfl⟩
theorem actE_is (S : Dk) : actE S = 0 ∨ actE S = 9 := by unfold actE; split; exact Or.inr rfl; exact Or.inl rfl
theorem writeDk_ok {S : Dk} (hS : S.Ok) (hd : S.downs < 1000000) (ha : S.acts < 1000000) (i : Int) (s : ByteArray) : (writeDk S i s).Ok := by
  unfold writeDk
  split
  · exact hS
  · rename_i hr
    split
    · exact hS
    · rename_i hz
      split
      · exact actDk_ok hS hd ha
      · rename_i he
        have h := actDk_ok hS hd ha
        obtain ⟨h1, h2, h3⟩ := actDk_go (S := S) (by omega)
        refine ⟨h.n1, h.n2, fun j c hj => ?_, h.l0, h.l1, h.k0, h.k1, h.a0, h.a1, h.d0, h.d1⟩
        by_cases e : j = i.toNat
        · subst e
          simp only [upd_same, Option.some.injEq] at hj
          subst hj
          refine ⟨?_, pad_size (by omega)⟩
          have hr' : refAt S.up S.n i = 0 := by omega
          simp only [refAt] at hr'
          split at hr'
          · split at hr'
            · cases hr'
            · simp only [actDk_n]; omega
          · cases hr'
        · simp only [upd_other _ _ e] at hj
          simp only [actDk_n]
          exact hS.wait j c hj

set_option maxHeartbeats 2000000 in
theorem Write_any (w : World) (h : DkIs w db lb mb m S) (hS : S.Ok) (hm : m < 1000000) (i : Int) (s : ByteArray) (hs : s.size ≤ 9223372036854775807) : Calls Try.prog 15 #[.pointer (some ⟨db, 0, none⟩), .int .i64 i, .string s] w fun e w' =>
    e = .returned (.int .i64 (writeE S i s)) ∧ DkIs w' db lb mb (m + 1) (writeDk S i s) ∧ Off (disk3 db lb mb) w w' := by
  have C : Hid (∀ w, DkIs w db lb mb m S → Calls Try.prog 28 #[.pointer (some ⟨db, 0, none⟩), .int .i64 i] w fun e w' => e = .returned (.int .i64 (refAt S.up S.n i)) ∧ w' = w) := fun w h => refusalAt_any w h hS.n1 i
  have CA : Hid (∀ w, DkIs w db lb mb m S → Calls Try.prog 29 #[.pointer (some ⟨db, 0, none⟩)] w fun e w' =>
    e = .returned (.int .i64 (actE S)) ∧ DkIs w' db lb mb m (actDk S) ∧ Off (disk3 db lb mb) w w') := fun w h => act_any w h hS (by omega)
  have H : Hid _ := h
  have hn1 := hS.n1
  have hn2 := hS.n2
  have hdb := h.lt
  have hlb := h.row.lt
  have hmb := h.map.lt
  clear h
  by_cases hr : refAt S.up S.n i = 0
  · rw [hr] at C
    by_cases hz : 64 < s.size
    · have hzI : (64 : Int) < (s.size : Int) := by omega
      have e1 : writeE S i s = 3 := by simp [writeE, hr, hz]
      have e2 : writeDk S i s = S := by simp [writeDk, hr, hz]
      rw [e1, e2]
      go_enter Try.func15, Try.ntmps15
      go_wp2_with (go_at_call 28; refine (C.out _ H.out).mono ?_; rintro e w' ⟨rfl, rfl⟩)
      go_ret
      exact ⟨rfl, H.out.mono (Nat.le_succ _), Off.refl _ _⟩
    · have hzI : ¬ (64 : Int) < (s.size : Int) := by omega
      rcases actE_is S with ha | ha
      · rw [ha] at CA
        have e1 : writeE S i s = 0 := by simp [writeE, hr, hz, ha]
        have e2 : writeDk S i s = { actDk S with wait := upd S.wait i.toNat (some (pad s)) } := by simp [writeDk, hr, hz, ha]
        rw [e1, e2]
        have hcp := fun w => run_copy64 w s (by omega)
        obtain ⟨j, hj, hjn⟩ : ∃ j : Nat, i = (j : Int) ∧ j < S.n := by
          refine ⟨i.toNat, ?_, ?_⟩ <;>
          · simp only [refAt] at hr
            split at hr
            · split at hr
              · cases hr
              · omega
            · cases hr
        subst hj
        have hgo := actDk_go ha
        have HG : Hid _ := hgo
        obtain ⟨cs, hcs⟩ : ∃ cs, cs = secL (pad s) := ⟨_, rfl⟩
        rw [← hcs] at hcp
        have HC : Hid _ := hcs
        have hcl : cs.length = 64 := by rw [hcs, secL_length, pad_size (by omega)]
        have hinf : (Try.prog.info? 65).map (·.size) = some cs.length := by rw [hcl]; exact info64
        have HL : Hid _ := hcl
        clear hgo hcs hcl
        go_enter Try.func15, Try.ntmps15
        go_wp2_with (first | (go_at_call 28; refine (C.out _ H.out).mono ?_; rintro e w' ⟨rfl, rfl⟩) | (go_at_call 29; refine (CA.out _ H.out).mono ?_; rintro e w1 ⟨rfl, hD, ho⟩) | (refine wpList_alloc64 _ rfl rfl ?_))
        have d1 : (w1.alloc (.cells cs.toArray 65)).drew.cell? ⟨db, 1, none⟩ = some (.map (some mb)) := (World.cell?_alloc_lt _ _ _ hD.lt).trans hD.c1
        have hbo : (w1.alloc (.cells cs.toArray 65)).heap[w1.heap.size]? = some (.cells cs.toArray 65) := (MapKept.heap_alloc w1 _).1
        have hra : (w1.alloc (.cells cs.toArray 65)).drew.rangeAt w1.heap.size 0 cs := fun j v hv => by
          rw [Joins.cell_of_block (w := (w1.alloc (.cells cs.toArray 65)).drew) hbo]; simpa using hv
        have hDa : DkIs (w1.alloc (.cells cs.toArray 65)).drew db lb mb m (actDk S) := (hD.below ((Below.refl _ _).alloc (Nat.le_refl _) _)).drew
        have hst := hDa.map.store (i := j) (by omega) hm (pad s)
        have e3 : secV (pad s) = .agg cs.toArray := by rw [secV, HC.out]
        rw [e3] at hst
        obtain ⟨w3, hrun, hm3, ht⟩ := hst
        have hk3 : w3.cell? ⟨db, 1, none⟩ = some (.map (some mb)) ∧ w3.rangeAt w1.heap.size 0 cs := by
          refine ⟨(World.cell?_of_block (w := (w1.alloc (.cells cs.toArray 65)).drew) (ht.grown.block db hDa.lt (fun e => hDa.mdb (by cases e; rfl)))).trans d1, fun j v hv => ?_⟩
          have hne : w1.heap.size ≠ mb := fun e => by have := hD.map.lt; omega
          rw [World.cell?_of_block (w := (w1.alloc (.cells cs.toArray 65)).drew) (w' := w3) (ht.grown.block w1.heap.size (by simp) (fun e => hne (by cases e; rfl)))]
          exact hra j v hv
        have HK : Hid _ := hk3
        have HD : Hid _ := hDa
        have HM : Hid _ := hm3
        have HT : Hid _ := ht
        have hrow := row64
        clear hk3 hDa hm3 ht hbo
        go_region_held_law (fun w' => w'.cell? ⟨db, 1, none⟩ = some (.map (some mb)) ∧ w'.rangeAt w1.heap.size 0 cs) (first | exact ⟨d1, hra⟩ | exact HK.out) (fail)
        go_wp2
        go_ret
        have hf := HD.out.turned (by rw [actDk_n]; exact hn1) HT.out HM.out
        rw [HG.out.1] at hf
        refine ⟨rfl, by simpa using hf, ?_⟩
        exact ((ho.alloc _).drew).turned HT.out (fun _ => d3c _ _ _)
      · rw [ha] at CA
        have e1 : writeE S i s = 9 := by simp [writeE, hr, hz, ha]
        have e2 : writeDk S i s = actDk S := by simp [writeDk, hr, hz, ha]
        rw [e1, e2]
        go_enter Try.func15, Try.ntmps15
        go_wp2_with (first | (go_at_call 28; refine (C.out _ H.out).mono ?_; rintro e w' ⟨rfl, rfl⟩) | (go_at_call 29; refine (CA.out _ H.out).mono ?_; rintro e w1 ⟨rfl, hD, ho⟩))
        go_ret
        exact ⟨rfl, hD.mono (Nat.le_succ _), ho⟩
  · have e1 : writeE S i s = refAt S.up S.n i := by simp [writeE, hr]
    have e2 : writeDk S i s = S := by simp [writeDk, hr]
    rw [e1, e2]
    obtain ⟨x, hx⟩ : ∃ x, x = refAt S.up S.n i := ⟨_, rfl⟩
    rw [← hx] at C hr ⊢
    have hr' : (x == 0) = false := by simpa using hr
    clear hx e1 e2
    go_enter Try.func15, Try.ntmps15
    go_wp2_with (go_at_call 28; refine (C.out _ H.out).mono ?_; rintro e w' ⟨rfl, rfl⟩)
    go_ret
    exact ⟨rfl, H.out.mono (Nat.le_succ _), Off.refl _ _⟩
end Go.Proofs.Ytljedbakdlhlbaa
