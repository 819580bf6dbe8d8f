/- The disk's Read and Write, where nothing lets the power go. The power goes: powerGoes, and an act. The disk's Write, Crash and Sync. The disk's Sync; the law's whole, first and awake. The law's awake: chapter 3's example. -/
import Derived.Test.YtgodjnbbocnckaaGreatMaa
import Derived.Deep.RegionHeldLaw
import Derived.Deep.WholeRow
import Derived.WalkSmall
namespace Go.Proofs.YtgodjnbbocnckaaGreat
open Go.RowKit Go.Maps Go.ChangeMaps
set_option linter.unusedVariables false
set_option linter.unusedSimpArgs false
set_option maxRecDepth 100000

variable {w w' : World} {db lb mb m : Nat} {S : Dk}

theorem wpList_alloc64 {ops : Array Oper} {rest : List Oper} {o : Oper} {a : Act} {Q : Exit → Act → World → Prop} (w : World) (hg : o.guard = none) (hop : o.op = Op.alloc 126)
    (h : wpList Tryz.prog ops Q rest (a.put o.dst (.pointer (some ⟨w.heap.size, 0, none⟩))) (w.alloc (.cells (secL zs64).toArray 126))) : wpList Tryz.prog ops Q (o :: rest) a w := by
  refine wpList_plain hg fun K' hK' => ?_
  unfold Oper.wp
  simp [execOp, hop, Instr.alloc, zero64, Result.andThen, secV, Value.cells]
  exact hK' _ _ h
theorem wpList_store_new64 {ops : Array Oper} {rest : List Oper} {o : Oper} {a : Act} {Q : Exit → Act → World → Prop} (w : World) (C : Array Value) (hg : o.guard = none) (x y : Operand) (hop : o.op = Op.store 126 x y)
    (hx : a.eval x = .pointer (some ⟨w.heap.size, 0, none⟩)) (c : ByteArray) (hy : a.eval y = secV c) (hc : c.size = 64) (hC : C.size = 64)
    (h : wpList Tryz.prog ops Q rest (a.put o.dst undef) (w.alloc (.cells (secL c).toArray 126))) : wpList Tryz.prog ops Q (o :: rest) a (w.alloc (.cells C 126)) := by
  refine wpList_plain hg fun K' hK' => ?_
  have hs : (secL c).toArray.size = 64 := by simp [secL_length, hc]
  have hrun := run_storeAt_new (P := Tryz.prog) w 126 C (secL c).toArray (by rw [hs]; exact info64) (by rw [hC, hs]) (all_oneCell_toArray (secL_one c))
  unfold Oper.wp
  simp [execOp, hop, hx, hy, secV, hrun, Result.andThen]
  exact hK' _ _ h
theorem wpList_load64 {ops : Array Oper} {rest : List Oper} {o : Oper} {a : Act} {Q : Exit → Act → World → Prop} (w : World) (hg : o.guard = none) (x : Operand) (hop : o.op = Op.load 126 x)
    (b of : Nat) (hx : a.eval x = .pointer (some ⟨b, of, none⟩)) (c : ByteArray) (hc : c.size = 64) (hr : w.rangeAt b of (secL c))
    (h : wpList Tryz.prog ops Q rest (a.put o.dst (secV c)) w) : wpList Tryz.prog ops Q (o :: rest) a w :=
  wpList_load_mid hg 126 x hop b of hx (secL c) _ hr row64 rfl (by rw [secL_length, hc]; exact info64) h
/-- What a read gives. -/
def Dk.now (S : Dk) (i : Nat) : ByteArray := (S.wait i).getD (S.sure i)
theorem zsz : (secL zs64).toArray.size = 64 := by simp [secL_length, zs64_size]
theorem conv64 {w : World} {b : Nat} {c : ByteArray} (hc : c.size = 64) (h : w.rangeAt b 0 (secL c)) : (convert 94 9 (.slice (some ⟨b, 0, none⟩) 64 64)).run Tryz.prog w = .ok (.string c) w := by
  have := Lib.run_convert_whole (P := Tryz.prog) w 94 5 9 Tryz.underlying94 Tryz.underlying5 Tryz.underlying9 b 0 c (fun i hi => by
    have := h i _ (secL_get c i hi)
    simpa using this) 64
  rw [hc] at this
  exact this
theorem rangeAt_new (w : World) (c : ByteArray) : (w.alloc (.cells (secL c).toArray 126)).rangeAt w.heap.size 0 (secL c) := fun j v hv => by
  rw [Joins.cell_of_block (MapKept.heap_alloc w _).1]; simpa using hv

set_option maxHeartbeats 1000000 in
theorem Read_any (w : World) (h : DkIs w db lb mb m S) (hS : S.Ok) (i : Nat) (hi : i < S.n) (hu : S.up = true) : Calls Tryz.prog 68 #[.pointer (some ⟨db, 0, none⟩), .int .i64 (i : Int)] w fun e w' => e = .returned (.tuple #[.string (S.now i), .int .i64 0]) ∧ Below w.heap.size w w' := by
  have hc0 := h.c0
  have hc1 := h.c1
  have C : Hid (∀ w, DkIs w db lb mb m S → Calls Tryz.prog 86 #[.pointer (some ⟨db, 0, none⟩), .int .i64 (i : Int)] w fun e w' => e = .returned (.int .i64 0) ∧ w' = w) := fun w h => by
    have := refusalAt_any w h hS.n1 (i : Int)
    have e : refAt S.up S.n i = 0 := by simp [refAt, hu]; omega
    rwa [e] at this
  have hlk := h.map.look (show i < 8192 by have := hS.n2; omega)
  have hrow := h.row.at_ i hi
  have hsz := h.row.size i hi
  have hws := hS.wait i
  have H : Hid _ := h
  clear h
  obtain ⟨s, hs⟩ : ∃ s, s = S.sure i := ⟨_, rfl⟩
  have hnow : S.now i = (S.wait i).getD s := by rw [hs]; rfl
  rw [hnow]
  rw [← hs] at hrow hsz
  clear hs hnow
  have hlt := H.out.row.lt
  have hn2 := hS.n2
  cases hw : S.wait i with
  | some c =>
    rw [hw] at hlk
    have hcz := (hws c hw).2
    clear hws hrow
    simp only [Option.getD_some, Option.isSome_some] at hlk ⊢
    have hcv := conv64 hcz (rangeAt_new w c)
    go_enter Tryz.func68, Tryz.ntmps68
    go_wp2_with (first | (go_at_call 86; refine (C.out _ H.out).mono ?_; rintro e w' ⟨rfl, rfl⟩) | (refine wpList_alloc64 _ rfl rfl ?_) | (refine wpList_store_new64 _ _ rfl _ _ rfl rfl c rfl hcz zsz ?_))
    go_ret2
    exact ⟨rfl, (Below.refl _ _).alloc (Nat.le_refl _) _⟩
  | none =>
    rw [hw] at hlk
    clear hws
    simp only [Option.getD_none, Option.isSome_none] at hlk ⊢
    have hcv := conv64 hsz (rangeAt_new w s)
    have hrow' := fun o => World.rangeAt_alloc hrow o
    have hiI : (i : Int) < (S.n : Int) := by omega
    have hdl := H.out.lt
    have hc0' : ∀ o, (w.alloc o).cell? ⟨db, 0, none⟩ = some (.slice (some ⟨lb, 0, none⟩) S.n S.n) := fun o => by rw [World.cell?_alloc_lt _ _ _ hdl]; exact hc0
    go_enter Tryz.func68, Tryz.ntmps68
    go_wp2_with (first | (go_at_call 86; refine (C.out _ H.out).mono ?_; rintro e w' ⟨rfl, rfl⟩) | (refine wpList_alloc64 _ rfl rfl ?_) | (refine wpList_store_new64 _ _ rfl _ _ rfl rfl zs64 rfl zs64_size zsz ?_) | (refine wpList_store_new64 _ _ rfl _ _ rfl rfl s rfl hsz zsz ?_) | (refine wpList_load64 _ rfl _ rfl lb (i * 64) rfl s hsz (hrow' _) ?_))
    go_ret2
    exact ⟨rfl, (Below.refl _ _).alloc (Nat.le_refl _) _⟩
theorem Read_ref (w : World) (h : DkIs w db lb mb m S) (hn : 1 ≤ S.n) (i : Int) (x : Int) (he : refAt S.up S.n i = x) (hx : x ≠ 0) : Calls Tryz.prog 68 #[.pointer (some ⟨db, 0, none⟩), .int .i64 i] w fun e w' => e = .returned (.tuple #[.string ⟨#[]⟩, .int .i64 x]) ∧ w' = w := by
  have C : Hid (∀ w, DkIs w db lb mb m S → Calls Tryz.prog 86 #[.pointer (some ⟨db, 0, none⟩), .int .i64 i] w fun e w' => e = .returned (.int .i64 x) ∧ w' = w) := fun w h => by
    have := refusalAt_any w h hn i
    rwa [he] at this
  have H : Hid _ := h
  have hx' : (x == 0) = false := by simpa using hx
  clear h he
  go_enter Tryz.func68, Tryz.ntmps68
  go_wp2_with (go_at_call 86; refine (C.out _ H.out).mono ?_; rintro e w' ⟨rfl, rfl⟩)
  go_ret2
  exact ⟨rfl, rfl⟩
end Go.Proofs.YtgodjnbbocnckaaGreat

namespace Go.Proofs.YtgodjnbbocnckaaGreat
open Go.RowKit Go.Maps Go.ChangeMaps Go.Sort
set_option linter.unusedVariables false
set_option linter.unusedSimpArgs false
set_option maxRecDepth 100000

variable {w w' : World} {db lb mb m : Nat} {S : Dk}

/-- Does the k-th last? -/
def bitK (keep : Int) (k : Nat) : Bool := decide (keep / 2 ^ (k % 64) % 2 = 1)
/-- How many that wait stand ahead of a sector. -/
def rank (f : Nat → Option ByteArray) (i : Nat) : Nat := ((List.range i).filter (fun j => (f j).isSome)).length
/-- What lasts when the power goes. -/
def lossF (sure : Nat → ByteArray) (wait : Nat → Option ByteArray) (keep : Int) (i : Nat) : ByteArray :=
  match wait i with
  | none => sure i
  | some c => if bitK keep (rank wait i) then c else sure i
def lossK (S : Dk) (keep : Int) (k : Nat) (i : Nat) : ByteArray := if i ∈ S.waitL.take k then lossF S.sure S.wait keep i else S.sure i
theorem rank_at (f : Nat → Option ByteArray) : ∀ (n k i : Nat), ((List.range n).filter (fun j => (f j).isSome))[k]? = some i → i < n ∧ (f i).isSome = true ∧ rank f i = k
  | 0, k, i, h => by simp at h
  | n + 1, k, i, h => by
    rw [List.range_succ, List.filter_append] at h
    by_cases hk : k < ((List.range n).filter (fun j => (f j).isSome)).length
    · rw [List.getElem?_append_left hk] at h
      obtain ⟨h1, h2, h3⟩ := rank_at f n k i h
      exact ⟨by omega, h2, h3⟩
    · rw [List.getElem?_append_right (by omega)] at h
      by_cases hn : (f n).isSome = true
      · have e : [n].filter (fun j => (f j).isSome) = [n] := by simp [hn]
        rw [e] at h
        have hk0 : k - ((List.range n).filter (fun j => (f j).isSome)).length = 0 := by
          rcases Nat.eq_zero_or_pos (k - ((List.range n).filter (fun j => (f j).isSome)).length) with h0 | h0
          · exact h0
          · rw [List.getElem?_eq_none (by simp; omega)] at h; cases h
        rw [hk0] at h
        simp at h
        subst h
        exact ⟨by omega, hn, by unfold rank; omega⟩
      · have e : [n].filter (fun j => (f j).isSome) = [] := by simp [hn]
        rw [e] at h
        simp at h
theorem lossK_zero (S : Dk) (keep : Int) : lossK S keep 0 = S.sure := by funext i; simp [lossK]
theorem lossK_all {S : Dk} (hS : S.Ok) (keep : Int) : lossK S keep S.waitL.length = lossF S.sure S.wait keep := by
  funext i
  simp only [lossK, List.take_length]
  split
  · rfl
  · rename_i h
    have : S.wait i = none := by
      cases hw : S.wait i with
      | none => rfl
      | some c => exact absurd ((waitL_mem hS i).2 (by rw [hw]; rfl)) h
    simp [lossF, this]
theorem lossK_step {S : Dk} (keep : Int) {k : Nat} (hk : k < S.waitL.length) {c : ByteArray} (hc : S.wait S.waitL[k] = some c) :
    lossK S keep (k + 1) = if bitK keep k then upd (lossK S keep k) S.waitL[k] c else lossK S keep k := by
  obtain ⟨h1, h2, h3⟩ := rank_at S.wait S.n k S.waitL[k] (by rw [show (List.range S.n).filter (fun j => (S.wait j).isSome) = S.waitL from rfl, List.getElem?_eq_getElem hk])
  have hnew : S.waitL[k] ∉ S.waitL.take k := fun hm => by
    obtain ⟨j, hj, he⟩ := List.mem_take_iff_getElem.1 hm
    have := List.pairwise_iff_getElem.1 (waitL_sorted S) j k (by omega) hk (by omega)
    rw [he] at this; omega
  have hl : lossF S.sure S.wait keep S.waitL[k] = if bitK keep k then c else S.sure S.waitL[k] := by
    rw [lossF, hc, h3]
  funext i
  have ht : S.waitL.take (k + 1) = S.waitL.take k ++ [S.waitL[k]] := List.take_succ_eq_append_getElem hk
  by_cases hi : i = S.waitL[k]
  · subst hi
    have hin : S.waitL[k] ∈ S.waitL.take (k + 1) := by rw [ht]; exact List.mem_append_right _ List.mem_cons_self
    cases hb : bitK keep k
    · have e1 : lossK S keep (k + 1) S.waitL[k] = lossF S.sure S.wait keep S.waitL[k] := if_pos hin
      have e2 : lossK S keep k S.waitL[k] = S.sure S.waitL[k] := if_neg hnew
      rw [e1, hl, hb]
      simp only [Bool.false_eq_true, if_false]
      exact e2.symm
    · have e1 : lossK S keep (k + 1) S.waitL[k] = lossF S.sure S.wait keep S.waitL[k] := if_pos hin
      rw [e1, hl, hb]
      simp only [if_true, upd_same]
  · have e1 : i ∈ S.waitL.take (k + 1) ↔ i ∈ S.waitL.take k := by rw [ht, List.mem_append, List.mem_singleton]; exact ⟨fun h => h.resolve_right hi, Or.inl⟩
    cases hb : bitK keep k
    · simp only [Bool.false_eq_true, if_false]
      unfold lossK
      simp only [e1]
    · simp only [if_true, upd_other _ _ hi]
      unfold lossK
      simp only [e1]
/-- A disk behind a loss of power. -/
def offDk (S : Dk) (keep : Int) : Dk := { S with sure := lossF S.sure S.wait keep, wait := fun _ => none, up := false, set := false, left := 0, keep := 0, downs := S.downs + 1 }
theorem lossK_size {S : Dk} (hS : S.Ok) (hz : ∀ i, i < S.n → (S.sure i).size = 64) (keep : Int) (k i : Nat) (hi : i < S.n) : (lossK S keep k i).size = 64 := by
  simp only [lossK, lossF]
  split
  · split
    · exact hz i hi
    · rename_i c hc
      split
      · exact (hS.wait i c hc).2
      · exact hz i hi
  · exact hz i hi

set_option maxHeartbeats 2000000 in
theorem powerGoes_any (w : World) (h : DkIs w db lb mb m S) (hS : S.Ok) (hm : m ≤ 1000000) (keep : Int) (k0 : 0 ≤ keep) (k1 : keep ≤ 18446744073709551615) : Calls Tryz.prog 46 #[.pointer (some ⟨db, 0, none⟩), .int .u64 keep] w fun e w' =>
    e = .returned (.tuple #[]) ∧ DkIs w' db lb mb 0 (offDk S keep) ∧ Off (disk3 db lb mb) w w' := by
  have hdb := h.lt
  have hlb := h.row.lt
  have hmb := h.map.lt
  have H : Hid _ := h
  have C : Hid (∀ w, DkIs w db lb mb m S → _) := fun w h => Waiting_any w h hS hm
  have hL := waitL_length S
  have hn2 := hS.n2
  clear h
  go_enter Tryz.func46, Tryz.ntmps46
  go_wp2_with (go_at_call 67; refine (C.out _ H.out).mono ?_; rintro e w1 ⟨a, g, cap, rfl, hag, hg, hcell, hbel⟩)
  go_loopw [9] (fun kv wr => ∃ k : Nat, kv = .int .i64 (k : Int) ∧ k ≤ S.waitL.length ∧ DkIs wr db lb mb m { S with sure := lossK S keep k } ∧ Off (disk3 db lb mb) w1 wr) (fun kv _ => S.waitL.length - (intOf kv).toNat)
  case atStart =>
    exact ⟨0, rfl, Nat.zero_le _, by rw [lossK_zero]; exact H.out.below hbel, Off.refl _ _⟩
  case round =>
    obtain ⟨k, rfl, hk, hD, hoff⟩ := hrel
    by_cases hkl : k < S.waitL.length
    · have ha : a = some ⟨g, 0, none⟩ := by
        rcases hag with ⟨_, hnil⟩ | h
        · rw [hnil] at hkl; simp at hkl
        · exact h
      subst ha
      have hcl := hcell k hkl
      have hg1 : g < w1.heap.size := World.block_lt_of_cell? _ _ hcl
      have hck : wr.cell? ⟨g, k, none⟩ = some (.int .i64 ((S.waitL[k] : Nat) : Int)) := by
        rw [hoff.cell hg1 (d3_not hdb hlb hmb hg)]; exact hcl
      obtain ⟨i, hi⟩ : ∃ i, i = S.waitL[k] := ⟨_, rfl⟩
      rw [← hi] at hck
      have hkI : (k : Int) < (S.waitL.length : Int) := by omega
      have hwi : (S.wait i).isSome = true := by rw [hi]; exact (waitL_mem hS _).1 (List.getElem_mem hkl)
      obtain ⟨c, hc⟩ := Option.isSome_iff_exists.1 hwi
      have hin := hS.wait i c hc
      have hstep : lossK S keep (k + 1) = if bitK keep k then upd (lossK S keep k) i c else lossK S keep k := by rw [hi]; exact lossK_step keep hkl (by rw [← hi]; exact hc)
      have HS : Hid _ := hstep
      clear hcell hcl hi hwi hstep
      have hbits : (bits BinOp.and IntKind.u64 (keep / 2 ^ (k % 64)) 1 == 1) = bitK keep k := by
        have h0 : 0 ≤ keep / 2 ^ (k % 64) := Int.ediv_nonneg k0 (Int.pow_nonneg (by decide))
        have h1 : keep / 2 ^ (k % 64) ≤ 18446744073709551615 := by
          have := Int.ediv_le_self (2 ^ (k % 64)) k0
          omega
        rw [and_one_u64 _ h0 h1]
        rfl
      cases hb : bitK keep k
      · rw [hb] at hbits
        rw [hb] at HS
        go_wp2
        refine ⟨⟨k + 1, by simp, hkl, ?_, hoff⟩, by simp [intOf]; omega⟩
        rw [HS.out]
        exact hD
      · rw [hb] at hbits
        rw [hb] at HS
        have d0 := hD.c0
        have d1 := hD.c1
        have hi2 : i < 8192 := by omega
        have hiI : (i : Int) < (S.n : Int) := by omega
        obtain ⟨cs, hcs⟩ : ∃ cs, cs = secL c := ⟨_, rfl⟩
        have hcl : cs.length = 64 := by rw [hcs, secL_length, hin.2]
        have hone : ∀ v ∈ cs, v.oneCell' = true := by rw [hcs]; exact secL_one c
        have hinf : (Tryz.prog.info? 126).map (·.size) = some cs.toArray.size := by simp only [List.size_toArray, hcl]; exact info64
        have hth : wr.drew.there lb (i * 64) cs.toArray.size := by simp only [List.size_toArray, hcl]; rw [World.there_drew]; exact hD.row.there i hin.1
        have hlk : (Instr.lookup 89 (.map (some mb)) (.int .i64 (i : Int)) false).run Tryz.prog wr.drew = .ok (.agg cs.toArray) wr.drew := by
          rw [hcs]; exact hD.drew.map.look1 hi2 hc
        have hkk : ∀ vs : List Value, (wr.drew.setCells lb (i * 64) vs).cell? ⟨db, 0, none⟩ = some (.slice (some ⟨lb, 0, none⟩) S.n S.n) ∧ (wr.drew.setCells lb (i * 64) vs).cell? ⟨db, 1, none⟩ = some (.map (some mb)) := fun vs =>
          ⟨(World.cell?_of_block (w := wr) ((setCells_facts lb vs (i * 64) wr.drew).2.2.2.2 db hD.ne)).trans d0, (World.cell?_of_block (w := wr) ((setCells_facts lb vs (i * 64) wr.drew).2.2.2.2 db hD.ne)).trans d1⟩
        have HC : Hid _ := hcs
        have HL : Hid _ := hcl
        have HK : Hid _ := hkk
        clear hkk
        clear hcs hcl
        go_wp2
        go_region_held_law (fun w' => w'.cell? ⟨db, 0, none⟩ = some (.slice (some ⟨lb, 0, none⟩) S.n S.n) ∧ w'.cell? ⟨db, 1, none⟩ = some (.map (some mb))) (first | exact ⟨d0, d1⟩ | exact HK.out _) (fail)
        go_wp2
        refine ⟨⟨k + 1, by simp, hkl, ?_, hoff.drew.setCells (d3b _ _ _) _ _⟩, by simp [intOf]; omega⟩
        rw [HS.out, HC.out]
        exact hD.drew.rowput hS.n1 hin.1 hin.2
    · have hke : k = S.waitL.length := by omega
      subst hke
      rw [lossK_all hS] at hD
      obtain ⟨w2, hrun, hm2, ht⟩ := hD.map.clear
      have hD2 := hD.turned hS.n1 ht hm2
      have c1 := hD.c1
      have d3 := hD2.c3
      have d4 := hD2.c4
      have d5 := hD2.c5
      have d2 := hD2.c2
      have d7 := hD2.c7
      have df := hD2.f
      have a0 := hS.d0
      have a1 := hS.d1
      have HD : Hid _ := hD2
      have HT : Hid _ := ht
      clear hD hD2 hcell ht hm2
      have hkI : ¬ ((S.waitL.length : Int) < (S.waitL.length : Int)) := by omega
      go_wp2
      go_end0
      have ho : Off (disk3 db lb mb) w w2 := ((Off.of_below hbel).trans hoff).turned HT.out (fun _ => d3c _ _ _)
      refine ⟨rfl, ?_, ((((ho.setCell (d3a _ _ _) _ _).setCell (d3a _ _ _) _ _).setCell (d3a _ _ _) _ _).setCell (d3a _ _ _) _ _).setCell (d3a _ _ _) _ _⟩
      exact ((((HD.out.setC 3 _ { S with sure := lossF S.sure S.wait keep, wait := fun _ => none, set := false } rfl rfl rfl rfl).setC 4 _ { S with sure := lossF S.sure S.wait keep, wait := fun _ => none, set := false, left := 0 } rfl rfl rfl rfl).setC 5 _ { S with sure := lossF S.sure S.wait keep, wait := fun _ => none, set := false, left := 0, keep := 0 } rfl rfl rfl rfl).setC 2 _ { S with sure := lossF S.sure S.wait keep, wait := fun _ => none, set := false, left := 0, keep := 0, up := false } rfl rfl rfl rfl).setC 7 _ (offDk S keep) rfl rfl rfl rfl

theorem offDk_ok {S : Dk} (hS : S.Ok) (keep : Int) (hd : S.downs < 1000000) : (offDk S keep).Ok :=
  ⟨hS.n1, hS.n2, fun i c h => (by cases h), by simp [offDk], by simp [offDk], by simp [offDk], by simp [offDk], hS.a0, hS.a1, by have := hS.d0; simp only [offDk]; omega, by simp only [offDk]; omega⟩
/-- What an act answers, and the disk behind it. -/
def actE (S : Dk) : Int := if S.set ∧ S.left = 0 then 9 else 0
def actDk (S : Dk) : Dk := if S.set ∧ S.left = 0 then offDk S S.keep else if S.set then { S with left := S.left - 1, acts := S.acts + 1 } else { S with acts := S.acts + 1 }
theorem act_any (w : World) (h : DkIs w db lb mb m S) (hS : S.Ok) (hm : m ≤ 1000000) : Calls Tryz.prog 111 #[.pointer (some ⟨db, 0, none⟩)] w fun e w' =>
    e = .returned (.int .i64 (actE S)) ∧ DkIs w' db lb mb m (actDk S) ∧ Off (disk3 db lb mb) w w' := by
  have hc3 := h.c3
  have hc4 := h.c4
  have hc5 := h.c5
  have hc6 := h.c6
  have hf := h.f
  have a0 := hS.a0
  have a1 := hS.a1
  have l0 := hS.l0
  have l1 := hS.l1
  have C : Hid (∀ w, DkIs w db lb mb m S → Calls Tryz.prog 46 #[.pointer (some ⟨db, 0, none⟩), .int .u64 S.keep] w fun e w' =>
    e = .returned (.tuple #[]) ∧ DkIs w' db lb mb 0 (offDk S S.keep) ∧ Off (disk3 db lb mb) w w') := fun w h => powerGoes_any w h hS hm S.keep hS.k0 hS.k1
  have H : Hid _ := h
  clear h
  cases hs : S.set
  · rw [hs] at hc3
    go_enter Tryz.func111, Tryz.ntmps111
    go_wp2
    go_ret
    have e1 : actE S = 0 := by simp [actE, hs]
    have e2 : actDk S = { S with acts := S.acts + 1 } := by simp [actDk, hs]
    rw [e1, e2]
    exact ⟨rfl, H.out.setC 6 _ _ rfl rfl rfl rfl, (Off.refl _ _).setCell (d3a _ _ _) _ _⟩
  · rw [hs] at hc3
    by_cases hl : S.left = 0
    · have e1 : actE S = 9 := by simp [actE, hs, hl]
      have e2 : actDk S = offDk S S.keep := by simp [actDk, hs, hl]
      rw [e1, e2]
      rw [hl] at hc4
      go_enter Tryz.func111, Tryz.ntmps111
      go_wp2_with (go_at_call 46; refine (C.out _ H.out).mono ?_; rintro e w1 ⟨rfl, hD, ho⟩)
      go_ret
      exact ⟨rfl, hD.mono (Nat.zero_le _), ho⟩
    · have e1 : actE S = 0 := by simp [actE, hs, hl]
      have e2 : actDk S = { S with left := S.left - 1, acts := S.acts + 1 } := by simp [actDk, hs, hl]
      rw [e1, e2]
      have hl' : (S.left == 0) = false := by simpa using hl
      go_enter Tryz.func111, Tryz.ntmps111
      go_wp2
      go_ret
      exact ⟨rfl, (H.out.setC 4 (.int .i64 (S.left - 1)) { S with left := S.left - 1 } rfl rfl rfl rfl).setC 6 _ _ rfl rfl rfl rfl, ((Off.refl _ _).setCell (d3a _ _ _) _ _).setCell (d3a _ _ _) _ _⟩
theorem actDk_ok {S : Dk} (hS : S.Ok) (hd : S.downs < 1000000) (ha : S.acts < 1000000) : (actDk S).Ok := by
  unfold actDk
  split
  · exact offDk_ok hS _ hd
  · split
    · rename_i h1 h2
      have : S.left ≠ 0 := fun e => h1 ⟨h2, e⟩
      have := hS.l0
      have := hS.l1
      have := hS.a0
      exact ⟨hS.n1, hS.n2, hS.wait, by simp only []; omega, by simp only []; omega, hS.k0, hS.k1, by simp only []; omega, by simp only []; omega, hS.d0, hS.d1⟩
    · have := hS.a0
      exact ⟨hS.n1, hS.n2, hS.wait, hS.l0, hS.l1, hS.k0, hS.k1, by simp only []; omega, by simp only []; omega, hS.d0, hS.d1⟩
end Go.Proofs.YtgodjnbbocnckaaGreat

namespace Go.Proofs.YtgodjnbbocnckaaGreat
open Go.RowKit Go.Maps Go.ChangeMaps Go.Sort
set_option linter.unusedVariables false
set_option linter.unusedSimpArgs false
set_option maxRecDepth 100000

variable {w w' : World} {db lb mb m : Nat} {S : Dk}

theorem Crash_ref (w : World) (h : DkIs w db lb mb m S) (hn : 1 ≤ S.n) (hu : S.up = false) (k : Int) : Calls Tryz.prog 17 #[.pointer (some ⟨db, 0, none⟩), .int .u64 k] w fun e w' => e = .returned (.int .i64 9) ∧ w' = w := by
  have C : Hid (∀ w, DkIs w db lb mb m S → Calls Tryz.prog 44 #[.pointer (some ⟨db, 0, none⟩)] w fun e w' => e = .returned (.int .i64 9) ∧ w' = w) := fun w h => by
    have := refusal_any w h hn
    rwa [hu] at this
  have H : Hid _ := h
  clear h
  go_enter Tryz.func17, Tryz.ntmps17
  go_wp2_with (go_at_call 44; refine (C.out _ H.out).mono ?_; rintro e w' ⟨rfl, rfl⟩)
  go_ret
  exact ⟨rfl, rfl⟩
theorem Crash_any (w : World) (h : DkIs w db lb mb m S) (hS : S.Ok) (hm : m ≤ 1000000) (hu : S.up = true) (k : Int) (k0 : 0 ≤ k) (k1 : k ≤ 18446744073709551615) : Calls Tryz.prog 17 #[.pointer (some ⟨db, 0, none⟩), .int .u64 k] w fun e w' =>
    e = .returned (.int .i64 0) ∧ DkIs w' db lb mb 0 (offDk S k) ∧ Off (disk3 db lb mb) w w' := by
  have C : Hid (∀ w, DkIs w db lb mb m S → Calls Tryz.prog 44 #[.pointer (some ⟨db, 0, none⟩)] w fun e w' => e = .returned (.int .i64 0) ∧ w' = w) := fun w h => by
    have := refusal_any w h hS.n1
    rwa [hu] at this
  have C2 : Hid (∀ w, DkIs w db lb mb m S → Calls Tryz.prog 46 #[.pointer (some ⟨db, 0, none⟩), .int .u64 k] w fun e w' =>
    e = .returned (.tuple #[]) ∧ DkIs w' db lb mb 0 (offDk S k) ∧ Off (disk3 db lb mb) w w') := fun w h => powerGoes_any w h hS hm k k0 k1
  have H : Hid _ := h
  clear h
  go_enter Tryz.func17, Tryz.ntmps17
  go_wp2_with (first | (go_at_call 44; refine (C.out _ H.out).mono ?_; rintro e w' ⟨rfl, rfl⟩) | (go_at_call 46; refine (C2.out _ H.out).mono ?_; rintro e w1 ⟨rfl, hD, ho⟩))
  go_ret
  exact ⟨rfl, hD, ho⟩

/-- A text with noughts behind, up to a sector's bytes. -/
def pad (s : ByteArray) : ByteArray := ⟨s.data ++ Array.replicate (64 - s.size) 0⟩
theorem pad_size {s : ByteArray} (h : s.size ≤ 64) : (pad s).size = 64 := by
  show (s.data ++ Array.replicate (64 - s.size) 0).size = 64
  rw [Array.size_append, Array.size_replicate]
  have : s.data.size = s.size := rfl
  omega
theorem zsL : secL zs64 = List.replicate 64 (Value.int .u8 0) := by
  simp only [secL, zs64, Array.toList_replicate, Lib.byteCells, List.map_replicate]
  rfl
theorem pad_cells {s : ByteArray} (h : s.size ≤ 64) : (secL zs64).take 0 ++ Lib.byteCells s.data.toList ++ (secL zs64).drop (0 + s.size) = secL (pad s) := by
  rw [zsL, List.drop_replicate]
  simp only [secL, pad, Array.toList_append, Array.toList_replicate, Lib.byteCells, List.map_append, List.map_replicate, List.take_zero, List.nil_append, Nat.zero_add]
  rfl
theorem run_copy64 (w : World) (s : ByteArray) (h : s.size ≤ 64) (ty : TypeId) : (Builtin.copy_ #[94, 9] ty #[.slice (some ⟨w.heap.size, 0, none⟩) 64 64, .string s]).run Tryz.prog (w.alloc (.cells (secL zs64).toArray 126)) = .ok (.int .i64 s.size) (w.alloc (.cells (secL (pad s)).toArray 126)) := by
  have := Lib.run_copy_row_string (P := Tryz.prog) (w.alloc (.cells (secL zs64).toArray 126)) 94 9 ty 5 w.heap.size 0 64 64 s (secL zs64).toArray 126 Tryz.underlying94 (by kernel_rfl) (MapKept.heap_alloc w _).1 h (by rw [zsz]; omega)
  rw [this, World.setRow_alloc_new]
  simp only [List.toList_toArray]
  rw [pad_cells h]
  rfl
/-- What a write answers, and the disk behind it. -/
def writeE (S : Dk) (i : Int) (s : ByteArray) : Int := if refAt S.up S.n i ≠ 0 then refAt S.up S.n i else if 64 < s.size then 3 else actE S
def writeDk (S : Dk) (i : Int) (s : ByteArray) : Dk := if refAt S.up S.n i ≠ 0 then S else if 64 < s.size then S else if actE S ≠ 0 then actDk S else { actDk S with wait := upd S.wait i.toNat (some (pad s)) }
theorem actDk_n (S : Dk) : (actDk S).n = S.n := by unfold actDk offDk; split <;> (try split) <;> rfl
theorem actDk_go {S : Dk} (h : actE S = 0) : (actDk S).wait = S.wait ∧ (actDk S).sure = S.sure ∧ (actDk S).up = S.up := by
  have h1 : ¬ (S.set = true ∧ S.left = 0) := fun e => by simp [actE, e] at h
  simp only [actDk, h1, if_false]
  split <;> exact ⟨rfl, rfl, rfl⟩
theorem actE_is (S : Dk) : actE S = 0 ∨ actE S = 9 := by unfold actE; split; exact Or.inr rfl; exact Or.inl rfl
theorem writeDk_ok {S : Dk} (hS : S.Ok) (hd : S.downs < 1000000) (ha : S.acts < 1000000) (i : Int) (s : ByteArray) : (writeDk S i s).Ok := by
  unfold writeDk
  split
  · exact hS
  · rename_i hr
    split
    · exact hS
    · rename_i hz
      split
      · exact actDk_ok hS hd ha
      · rename_i he
        have h := actDk_ok hS hd ha
        obtain ⟨h1, h2, h3⟩ := actDk_go (S := S) (by omega)
        refine ⟨h.n1, h.n2, fun j c hj => ?_, h.l0, h.l1, h.k0, h.k1, h.a0, h.a1, h.d0, h.d1⟩
        by_cases e : j = i.toNat
        · subst e
          simp only [upd_same, Option.some.injEq] at hj
          subst hj
          refine ⟨?_, pad_size (by omega)⟩
          have hr' : refAt S.up S.n i = 0 := by omega
          simp only [refAt] at hr'
          split at hr'
          · split at hr'
            · cases hr'
            · simp only [actDk_n]; omega
          · cases hr'
        · simp only [upd_other _ _ e] at hj
          simp only [actDk_n]
          exact hS.wait j c hj

set_option maxHeartbeats 2000000 in
theorem Write_any (w : World) (h : DkIs w db lb mb m S) (hS : S.Ok) (hm : m < 1000000) (i : Int) (s : ByteArray) (hs : s.size ≤ 9223372036854775807) : Calls Tryz.prog 109 #[.pointer (some ⟨db, 0, none⟩), .int .i64 i, .string s] w fun e w' =>
    e = .returned (.int .i64 (writeE S i s)) ∧ DkIs w' db lb mb (m + 1) (writeDk S i s) ∧ Off (disk3 db lb mb) w w' := by
  have C : Hid (∀ w, DkIs w db lb mb m S → Calls Tryz.prog 86 #[.pointer (some ⟨db, 0, none⟩), .int .i64 i] w fun e w' => e = .returned (.int .i64 (refAt S.up S.n i)) ∧ w' = w) := fun w h => refusalAt_any w h hS.n1 i
  have CA : Hid (∀ w, DkIs w db lb mb m S → Calls Tryz.prog 111 #[.pointer (some ⟨db, 0, none⟩)] w fun e w' =>
    e = .returned (.int .i64 (actE S)) ∧ DkIs w' db lb mb m (actDk S) ∧ Off (disk3 db lb mb) w w') := fun w h => act_any w h hS (by omega)
  have H : Hid _ := h
  have hn1 := hS.n1
  have hn2 := hS.n2
  have hdb := h.lt
  have hlb := h.row.lt
  have hmb := h.map.lt
  clear h
  by_cases hr : refAt S.up S.n i = 0
  · rw [hr] at C
    by_cases hz : 64 < s.size
    · have hzI : (64 : Int) < (s.size : Int) := by omega
      have e1 : writeE S i s = 3 := by simp [writeE, hr, hz]
      have e2 : writeDk S i s = S := by simp [writeDk, hr, hz]
      rw [e1, e2]
      go_enter Tryz.func109, Tryz.ntmps109
      go_wp2_with (go_at_call 86; refine (C.out _ H.out).mono ?_; rintro e w' ⟨rfl, rfl⟩)
      go_ret
      exact ⟨rfl, H.out.mono (Nat.le_succ _), Off.refl _ _⟩
    · have hzI : ¬ (64 : Int) < (s.size : Int) := by omega
      rcases actE_is S with ha | ha
      · rw [ha] at CA
        have e1 : writeE S i s = 0 := by simp [writeE, hr, hz, ha]
        have e2 : writeDk S i s = { actDk S with wait := upd S.wait i.toNat (some (pad s)) } := by simp [writeDk, hr, hz, ha]
        rw [e1, e2]
        have hcp := fun w => run_copy64 w s (by omega)
        obtain ⟨j, hj, hjn⟩ : ∃ j : Nat, i = (j : Int) ∧ j < S.n := by
          refine ⟨i.toNat, ?_, ?_⟩ <;>
          · simp only [refAt] at hr
            split at hr
            · split at hr
              · cases hr
              · omega
            · cases hr
        subst hj
        have hgo := actDk_go ha
        have HG : Hid _ := hgo
        obtain ⟨cs, hcs⟩ : ∃ cs, cs = secL (pad s) := ⟨_, rfl⟩
        rw [← hcs] at hcp
        have HC : Hid _ := hcs
        have hcl : cs.length = 64 := by rw [hcs, secL_length, pad_size (by omega)]
        have hinf : (Tryz.prog.info? 126).map (·.size) = some cs.length := by rw [hcl]; exact info64
        have HL : Hid _ := hcl
        clear hgo hcs hcl
        go_enter Tryz.func109, Tryz.ntmps109
        go_wp2_with (first | (go_at_call 86; refine (C.out _ H.out).mono ?_; rintro e w' ⟨rfl, rfl⟩) | (go_at_call 111; refine (CA.out _ H.out).mono ?_; rintro e w1 ⟨rfl, hD, ho⟩) | (refine wpList_alloc64 _ rfl rfl ?_))
        have d1 : (w1.alloc (.cells cs.toArray 126)).drew.cell? ⟨db, 1, none⟩ = some (.map (some mb)) := (World.cell?_alloc_lt _ _ _ hD.lt).trans hD.c1
        have hbo : (w1.alloc (.cells cs.toArray 126)).heap[w1.heap.size]? = some (.cells cs.toArray 126) := (MapKept.heap_alloc w1 _).1
        have hra : (w1.alloc (.cells cs.toArray 126)).drew.rangeAt w1.heap.size 0 cs := fun j v hv => by
          rw [Joins.cell_of_block (w := (w1.alloc (.cells cs.toArray 126)).drew) hbo]; simpa using hv
        have hDa : DkIs (w1.alloc (.cells cs.toArray 126)).drew db lb mb m (actDk S) := (hD.below ((Below.refl _ _).alloc (Nat.le_refl _) _)).drew
        have hst := hDa.map.store (i := j) (by omega) hm (pad s)
        have e3 : secV (pad s) = .agg cs.toArray := by rw [secV, HC.out]
        rw [e3] at hst
        obtain ⟨w3, hrun, hm3, ht⟩ := hst
        have hk3 : w3.cell? ⟨db, 1, none⟩ = some (.map (some mb)) ∧ w3.rangeAt w1.heap.size 0 cs := by
          refine ⟨(World.cell?_of_block (w := (w1.alloc (.cells cs.toArray 126)).drew) (ht.grown.block db hDa.lt (fun e => hDa.mdb (by cases e; rfl)))).trans d1, fun j v hv => ?_⟩
          have hne : w1.heap.size ≠ mb := fun e => by have := hD.map.lt; omega
          rw [World.cell?_of_block (w := (w1.alloc (.cells cs.toArray 126)).drew) (w' := w3) (ht.grown.block w1.heap.size (by simp) (fun e => hne (by cases e; rfl)))]
          exact hra j v hv
        have HK : Hid _ := hk3
        have HD : Hid _ := hDa
        have HM : Hid _ := hm3
        have HT : Hid _ := ht
        have hrow := row64
        clear hk3 hDa hm3 ht hbo
        go_region_held_law (fun w' => w'.cell? ⟨db, 1, none⟩ = some (.map (some mb)) ∧ w'.rangeAt w1.heap.size 0 cs) (first | exact ⟨d1, hra⟩ | exact HK.out) (fail)
        go_wp2
        go_ret
        have hf := HD.out.turned (by rw [actDk_n]; exact hn1) HT.out HM.out
        rw [HG.out.1] at hf
        refine ⟨rfl, by simpa using hf, ?_⟩
        exact ((ho.alloc _).drew).turned HT.out (fun _ => d3c _ _ _)
      · rw [ha] at CA
        have e1 : writeE S i s = 9 := by simp [writeE, hr, hz, ha]
        have e2 : writeDk S i s = actDk S := by simp [writeDk, hr, hz, ha]
        rw [e1, e2]
        go_enter Tryz.func109, Tryz.ntmps109
        go_wp2_with (first | (go_at_call 86; refine (C.out _ H.out).mono ?_; rintro e w' ⟨rfl, rfl⟩) | (go_at_call 111; refine (CA.out _ H.out).mono ?_; rintro e w1 ⟨rfl, hD, ho⟩))
        go_ret
        exact ⟨rfl, hD.mono (Nat.le_succ _), ho⟩
  · have e1 : writeE S i s = refAt S.up S.n i := by simp [writeE, hr]
    have e2 : writeDk S i s = S := by simp [writeDk, hr]
    rw [e1, e2]
    obtain ⟨x, hx⟩ : ∃ x, x = refAt S.up S.n i := ⟨_, rfl⟩
    rw [← hx] at C hr ⊢
    have hr' : (x == 0) = false := by simpa using hr
    clear hx e1 e2
    go_enter Tryz.func109, Tryz.ntmps109
    go_wp2_with (go_at_call 86; refine (C.out _ H.out).mono ?_; rintro e w' ⟨rfl, rfl⟩)
    go_ret
    exact ⟨rfl, H.out.mono (Nat.le_succ _), Off.refl _ _⟩
end Go.Proofs.YtgodjnbbocnckaaGreat

namespace Go.Proofs.YtgodjnbbocnckaaGreat
open Go.RowKit Go.Maps Go.ChangeMaps Go.Sort
set_option linter.unusedVariables false
set_option linter.unusedSimpArgs false
set_option maxRecDepth 100000

variable {w w' : World} {db lb mb m : Nat} {S : Dk}

theorem wpList_store_newL {ops : Array Oper} {rest : List Oper} {o : Oper} {a : Act} {Q : Exit → Act → World → Prop} (w : World) (C : Array Value) (hg : o.guard = none) (x y : Operand) (hop : o.op = Op.store 126 x y)
    (hx : a.eval x = .pointer (some ⟨w.heap.size, 0, none⟩)) (cs : List Value) (hy : a.eval y = .agg cs.toArray) (hc : cs.length = 64) (h1 : ∀ v ∈ cs, v.oneCell' = true) (hC : C.size = 64)
    (h : wpList Tryz.prog ops Q rest (a.put o.dst undef) (w.alloc (.cells cs.toArray 126))) : wpList Tryz.prog ops Q (o :: rest) a (w.alloc (.cells C 126)) := by
  refine wpList_plain hg fun K' hK' => ?_
  have hs : cs.toArray.size = 64 := by simp [hc]
  have hrun := run_storeAt_new (P := Tryz.prog) w 126 C cs.toArray (by rw [hs]; exact info64) (by rw [hC, hs]) (all_oneCell_toArray h1)
  unfold Oper.wp
  simp [execOp, hop, hx, hy, hrun, Result.andThen]
  exact hK' _ _ h
theorem grownBy_setCells (w : World) (b o : Nat) (vs : List Value) : w.grownBy (w.setCells b o vs) (some b) := by
  obtain ⟨h1, h2, h3, h4, h5⟩ := setCells_facts b vs o w
  exact ⟨h1, h2, h3, by rw [h4]; exact Nat.le_refl _, fun k _ hk => h5 k (fun e => hk (by rw [e]))⟩
theorem grownBy_drew (w : World) : w.grownBy w.drew none := ⟨rfl, rfl, rfl, Nat.le_refl _, fun _ _ _ => rfl⟩
theorem SecRow.congr {w : World} {lb n : Nat} {f g : Nat → ByteArray} (h : SecRow w lb n f) (hg : ∀ i, i < n → f i = g i) : SecRow w lb n g :=
  ⟨h.lt, fun i hi => by rw [← hg i hi]; exact h.at_ i hi, h.there, fun i hi => by rw [← hg i hi]; exact h.size i hi, h.ty⟩
theorem DkIs.congr (h : DkIs w db lb mb m S) {f : Nat → ByteArray} (hg : ∀ i, i < S.n → S.sure i = f i) : DkIs w db lb mb m { S with sure := f } := ⟨h.blk, h.row.congr hg, h.map, h.ne⟩

/-- How far a sync has come. -/
def SyncV (S : Dk) (left : Lit → Bool) (f : Nat → ByteArray) : Prop := ∀ i : Nat, f i = if left (.int .i64 (i : Int)) = true then S.sure i else S.now i
theorem SyncV.start {D : DataW Unit} (hv : MapV D S.wait) : SyncV S (Maps.has D) S.sure := fun i => by
  rw [hv.has]
  cases hw : S.wait i <;> simp [Dk.now, hw]
theorem SyncV.step {left : Lit → Bool} {f : Nat → ByteArray} (h : SyncV S left f) {i : Nat} {c : ByteArray} (hc : S.wait i = some c) : SyncV S (fun z => left z && !z.sameKey (.int .i64 (i : Int))) (upd f i c) := fun j => by
  by_cases e : j = i
  · subst e; simp [upd_same, Dk.now, hc, Lit.sameKey]
  · have : ¬ ((j : Int) = (i : Int)) := by omega
    rw [upd_other _ _ e, h j]; simp [Lit.sameKey, this]
def syncE (S : Dk) : Int := if S.up then actE S else 9
def syncDk (S : Dk) : Dk := if S.up then (if actE S = 0 then { actDk S with sure := S.now, wait := fun _ => none } else actDk S) else S
theorem syncDk_ok {S : Dk} (hS : S.Ok) (hd : S.downs < 1000000) (ha : S.acts < 1000000) : (syncDk S).Ok := by
  have h := actDk_ok hS hd ha
  unfold syncDk
  split
  · split
    · exact ⟨h.n1, h.n2, fun i c h => (by cases h), h.l0, h.l1, h.k0, h.k1, h.a0, h.a1, h.d0, h.d1⟩
    · exact h
  · exact hS

set_option maxHeartbeats 2000000 in
theorem Sync_any (w : World) (h : DkIs w db lb mb m S) (hS : S.Ok) (hm : m ≤ 1000000) : Calls Tryz.prog 93 #[.pointer (some ⟨db, 0, none⟩)] w fun e w' =>
    e = .returned (.int .i64 (syncE S)) ∧ DkIs w' db lb mb m (syncDk S) ∧ Off (disk3 db lb mb) w w' := by
  have C : Hid (∀ w, DkIs w db lb mb m S → Calls Tryz.prog 44 #[.pointer (some ⟨db, 0, none⟩)] w fun e w' => e = .returned (.int .i64 (refI S.up)) ∧ w' = w) := fun w h => refusal_any w h hS.n1
  have CA : Hid (∀ w, DkIs w db lb mb m S → Calls Tryz.prog 111 #[.pointer (some ⟨db, 0, none⟩)] w fun e w' =>
    e = .returned (.int .i64 (actE S)) ∧ DkIs w' db lb mb m (actDk S) ∧ Off (disk3 db lb mb) w w') := fun w h => act_any w h hS hm
  have H : Hid _ := h
  have hn1 := hS.n1
  have hn2 := hS.n2
  clear h
  cases hu : S.up
  · have e0 : refI false = 9 := rfl
    rw [hu, e0] at C
    have e1 : syncE S = 9 := by simp [syncE, hu]
    have e2 : syncDk S = S := by simp [syncDk, hu]
    rw [e1, e2]
    go_enter Tryz.func93, Tryz.ntmps93
    go_wp2_with (go_at_call 44; refine (C.out _ H.out).mono ?_; rintro e w' ⟨rfl, rfl⟩)
    go_ret
    exact ⟨rfl, H.out, Off.refl _ _⟩
  have e0 : refI true = 0 := rfl
  rw [hu, e0] at C
  rcases actE_is S with ha | ha
  · have e1 : syncE S = 0 := by simp [syncE, hu, ha]
    have e2 : syncDk S = { actDk S with sure := S.now, wait := fun _ => none } := by simp [syncDk, hu, ha]
    rw [e1, e2]
    rw [ha] at CA
    obtain ⟨g1, g2, g3⟩ := actDk_go ha
    have g4 := actDk_n S
    obtain ⟨S1, hS1⟩ : ∃ S1, S1 = actDk S := ⟨_, rfl⟩
    rw [← hS1] at CA g1 g2 g3 g4 ⊢
    have HS : Hid _ := g1
    have HS2 : Hid _ := g2
    have HS4 : Hid _ := g4
    clear g1 g2 g3 g4 hS1 e1 e2
    go_enter Tryz.func93, Tryz.ntmps93
    go_wp2_with (first | (go_at_call 44; refine (C.out _ H.out).mono ?_; rintro e w' ⟨rfl, rfl⟩) | (go_at_call 111; refine (CA.out _ H.out).mono ?_; rintro e w1 ⟨rfl, hD, ho⟩; have hc1 := hD.c1; have hDm : MapIs w1 mb m S.wait := (by rw [← HS.out]; exact hD.map); obtain ⟨D, hown, hv⟩ := hDm) | (at_range; refine wpList_range_own _ rfl _ 89 rfl 3 126 law3 Tryz.underlying89 _ mb m _ rfl hown ?_; intro w0 hrg0 hg0 hs0))
    go_frame
    go_loopw [5] (fun _ wr => ∃ (left : Lit → Bool) (cnt : Nat) (f : Nat → ByteArray), wr.ranges Tryz.prog 3 secR mb w1.heap.size m D left cnt ∧ Hid (SyncV S left f) ∧ DkIs wr db lb mb m { S1 with sure := f } ∧ Off (disk3 db lb mb) w1 wr)
      (fun _ wr => wr.rangeLeft mb w1.heap.size)
    case atStart =>
      refine ⟨_, _, S.sure, hrg0, SyncV.start hv, ?_, (Off.refl _ _).grown hg0 (fun k e => by cases e)⟩
      have e : { S1 with sure := S.sure } = S1 := by rw [← HS2.out]
      rw [e]
      exact hD.off (B := fun _ => False) ((Off.refl _ _).grown hg0 (fun k e => by cases e)) (fun h => h) (fun h => h) (fun h => h)
    case round =>
      obtain ⟨left, cnt, f, hrg, hY, hDr, hoff⟩ := hrel
      go_wp2_with (first
        | (at_next; refine wpList_next_ranges _ rfl _ rfl 3 law3 secR (Value.int .i64) (fun cs : List Value => Value.agg cs.toArray) (fun key kl hk => by obtain ⟨x, hx, _⟩ := Maps.keyOf_int_inv Tryz.underlying3 hk; exact ⟨x, hx⟩) (fun v y hv => by obtain ⟨cs, rfl⟩ := secR_agg hv; exact ⟨cs.toList, by simp⟩) mb w1.heap.size m _ _ _ rfl hrg ?_ ?_))
      · intro hc0 hl0
        obtain ⟨w2, hrun, hm2, ht⟩ := hDr.map.clear
        have hD2 := hDr.turned (by simp only [HS4.out]; exact hn1) ht hm2
        have d1 := hDr.c1
        have HD : Hid _ := hD2
        have HT : Hid _ := ht
        have HF : Hid (∀ i, f i = S.now i) := fun i => by have := hY.out i; rw [hl0] at this; simpa using this
        clear hD2 ht hm2
        go_wp2
        go_ret
        exact ⟨rfl, (HD.out.mono (Nat.zero_le _)).congr (f := S.now) (fun i _ => HF.out i), (ho.trans hoff).turned HT.out (fun _ => d3c _ _ _)⟩
      · intro x cs kl yd yp w2 cnt2 hkey hlk hv2 hat hrg2 hlt hg2 hs2 hen
        obtain ⟨x', ex, rfl, _⟩ := Maps.keyOf_int_inv Tryz.underlying3 hkey
        cases ex
        obtain ⟨i, hix⟩ := hv.keys _ (has_true_of_atKey hat)
        have hxi : x = (i : Int) := by simpa using hix
        subst hxi
        have hwi : (S.wait i).isSome = true := by rw [← hv.has]; exact has_true_of_atKey hat
        obtain ⟨c, hc⟩ := Option.isSome_iff_exists.1 hwi
        have hin := hS.wait i c hc
        have hcs : cs = secL c := by
          have h1 := hv.at_ i c hc (.lit (.bool false))
          rw [hat] at h1
          rw [h1] at hv2
          have := secR_inv hv2
          simpa [secV] using this
        have hcl : cs.length = 64 := by rw [hcs, secL_length, hin.2]
        have hone : ∀ v ∈ cs, v.oneCell' = true := by rw [hcs]; exact secL_one c
        have hD2 : DkIs w2 db lb mb m { S1 with sure := f } := hDr.off (B := fun k => k = w1.heap.size) ((Off.refl _ _).grown hg2 (fun k e _ => by cases e; rfl)) (fun e => by have := hD.lt; omega) (fun e => by have := hD.row.lt; omega) (fun e => by have := hD.map.lt; omega)
        have hDl := hD.lt
        have hDb := hD.row.lt
        have hDm := hD.map.lt
        have h12 := hoff.size
        have hmne : mb ≠ lb := hDr.mlb (by simp only [HS4.out]; exact hn1)
        have hoff2 : Off (disk3 db lb mb) w1 w2 := hoff.grown hg2 (fun k e hk => by cases e; omega)
        have HC : Hid _ := hcs
        have HL : Hid _ := hcl
        have HS3 : Hid _ := hs2
        clear hs2 hcs hwi hv2 hat hix hkey
        go_wp2_with (first | (refine wpList_alloc64 _ rfl rfl ?_) | (refine wpList_store_newL _ _ rfl _ _ rfl rfl cs rfl HL.out hone zsz ?_))
        have hDa : DkIs (w2.alloc (.cells cs.toArray 126)).drew db lb mb m { S1 with sure := f } := (hD2.below ((Below.refl _ _).alloc (Nat.le_refl _) _)).drew
        have d0 := hDa.c0
        have hbo : (w2.alloc (.cells cs.toArray 126)).drew.heap[w2.heap.size]? = some (.cells cs.toArray 126) := (MapKept.heap_alloc w2 _).1
        have hra : (w2.alloc (.cells cs.toArray 126)).drew.rangeAt w2.heap.size 0 cs := fun j v hv => by
          rw [Joins.cell_of_block hbo]; simpa using hv
        have hlbx : lb < w2.heap.size := hD2.row.lt
        have hth : (w2.alloc (.cells cs.toArray 126)).drew.there lb (i * 64) cs.toArray.size := by simp only [List.size_toArray, hcl]; exact hDa.row.there i (by simp only [HS4.out]; exact hin.1)
        have hinf : (Tryz.prog.info? 126).map (·.size) = some cs.toArray.size := by simp only [List.size_toArray, hcl]; exact info64
        have hinf2 : (Tryz.prog.info? 126).map (·.size) = some cs.length := by rw [hcl]; exact info64
        have hrow := row64
        have hn64 : S1.n = S.n := HS4.out
        rw [show ({ S1 with sure := f } : Dk).n = S.n from hn64] at d0
        have hiI : (i : Int) < (S.n : Int) := by have := hin.1; omega
        have hi64 : i < S.n := hin.1
        have HK : Hid (((w2.alloc (.cells cs.toArray 126)).drew.setCells lb (i * 64) cs).cell? ⟨db, 0, none⟩ = some (.slice (some ⟨lb, 0, none⟩) S.n S.n) ∧ ((w2.alloc (.cells cs.toArray 126)).drew.setCells lb (i * 64) cs).rangeAt w2.heap.size 0 cs) := by
          show _ ∧ _
          have h5 := (setCells_facts lb cs (i * 64) (w2.alloc (.cells cs.toArray 126)).drew).2.2.2.2
          exact ⟨(World.cell?_of_block (h5 db hD.ne)).trans d0, World.rangeAt_setCells_apart hra _ _ _ (Or.inl (by omega))⟩
        have HD : Hid _ := hDa
        have HRG : Hid (w2.ranges Tryz.prog 3 secR mb w1.heap.size m D (fun z => left z && !z.sameKey (.int .i64 (i : Int))) cnt2) := hrg2
        clear hDa hcl hbo hn64 hrg2
        go_region_held_law (fun w' => w'.cell? ⟨db, 0, none⟩ = some (.slice (some ⟨lb, 0, none⟩) S.n S.n) ∧ w'.rangeAt w2.heap.size 0 cs) (first | exact ⟨d0, hra⟩ | exact HK.out) (fail)
        have hne1 : w1.heap.size ≠ lb := by omega
        have hrg3 := ((HRG.out.alloc (.cells cs.toArray 126)).kept (grownBy_drew _) (by simp) (by simp)).kept (grownBy_setCells _ lb (i * 64) cs) (fun e => hmne (by cases e; rfl)) (fun e => hne1 (by cases e; rfl))
        go_wp2
        refine ⟨⟨_, cnt2, upd f i c, hrg3, hY.out.step hc, ?_, ((hoff2.alloc _).drew).setCells (d3b _ _ _) _ _⟩, by rw [hrg3.left_eq, hrg.left_eq]; exact hlt⟩
        have := HD.out.rowput (by simp only [HS4.out]; exact hn1) (i := i) (by simp only [HS4.out]; exact hin.1) hin.2
        rw [← HC.out] at this
        exact this
  · have e1 : syncE S = 9 := by simp [syncE, hu, ha]
    have e2 : syncDk S = actDk S := by simp [syncDk, hu, ha]
    rw [e1, e2]
    rw [ha] at CA
    go_enter Tryz.func93, Tryz.ntmps93
    go_wp2_with (first | (go_at_call 44; refine (C.out _ H.out).mono ?_; rintro e w' ⟨rfl, rfl⟩) | (go_at_call 111; refine (CA.out _ H.out).mono ?_; rintro e w1 ⟨rfl, hD, ho⟩))
    go_ret
    exact ⟨rfl, hD, ho⟩

theorem nul_append (s : ByteArray) (k : Nat) : (⟨s.data ++ Array.replicate k 0⟩ : ByteArray) ++ (⟨#[0]⟩ : ByteArray) = ⟨s.data ++ Array.replicate (k + 1) 0⟩ := by
  apply ByteArray.ext
  rw [ByteArray.data_append]
  show (s.data ++ Array.replicate k 0) ++ #[0] = s.data ++ Array.replicate (k + 1) 0
  rw [Array.append_assoc, Array.replicate_succ]
  congr 1
end Go.Proofs.YtgodjnbbocnckaaGreat

namespace Go.Proofs.YtgodjnbbocnckaaGreat
open Go.RowKit Go.Maps Go.ChangeMaps Go.Sort
set_option linter.unusedVariables false
set_option linter.unusedSimpArgs false
set_option maxRecDepth 100000

variable {w w' : World} {db lb mb m : Nat} {S : Dk}

/-- A write that goes well on a disk with no arm. -/
def wrDk (S : Dk) (i : Nat) (s : ByteArray) : Dk := { S with acts := S.acts + 1, wait := upd S.wait i (some (pad s)) }
theorem wrDk_ok (hS : S.Ok) (ha : S.acts < 1000000) {i : Nat} (hi : i < S.n) {s : ByteArray} (hs : s.size ≤ 64) : (wrDk S i s).Ok := by
  have := hS.a0
  refine ⟨hS.n1, hS.n2, fun j c hj => ?_, hS.l0, hS.l1, hS.k0, hS.k1, by simp only [wrDk]; omega, by simp only [wrDk]; omega, hS.d0, hS.d1⟩
  by_cases e : j = i
  · subst e
    simp only [wrDk, upd_same, Option.some.injEq] at hj
    subst hj
    exact ⟨hi, pad_size hs⟩
  · simp only [wrDk, upd_other _ _ e] at hj
    exact hS.wait j c hj
theorem Write_calm (w : World) (h : DkIs w db lb mb m S) (hS : S.Ok) (hm : m < 1000000) (hu : S.up = true) (hs : S.set = false) (i : Nat) (hi : i < S.n) (s : ByteArray) (hz : s.size ≤ 64) : Calls Tryz.prog 109 #[.pointer (some ⟨db, 0, none⟩), .int .i64 (i : Int), .string s] w fun e w' =>
    e = .returned (.int .i64 0) ∧ DkIs w' db lb mb (m + 1) (wrDk S i s) ∧ Off (disk3 db lb mb) w w' := by
  have := Write_any w h hS hm (i : Int) s (by omega)
  have hr : refAt S.up S.n i = 0 := by simp [refAt, hu]; omega
  have hz' : ¬ 64 < s.size := by omega
  have ha : actE S = 0 := by simp [actE, hs]
  have e1 : writeE S i s = 0 := by simp [writeE, hr, hz', ha]
  have e2 : writeDk S i s = wrDk S i s := by simp [writeDk, hr, hz', ha, wrDk, actDk, hs]
  rwa [e1, e2] at this
theorem Start_down (w : World) (h : DkIs w db lb mb m S) (hn : 1 ≤ S.n) (hu : S.up = false) : Calls Tryz.prog 19 #[.pointer (some ⟨db, 0, none⟩)] w fun e w' => e = .returned (.int .i64 0) ∧ DkIs w' db lb mb m { S with up := true } ∧ Off (disk3 db lb mb) w w' := by
  have := Start_any w h hn
  rwa [hu] at this
theorem up_ok (hS : S.Ok) (b : Bool) : ({ S with up := b } : Dk).Ok := ⟨hS.n1, hS.n2, hS.wait, hS.l0, hS.l1, hS.k0, hS.k1, hS.a0, hS.a1, hS.d0, hS.d1⟩
theorem below_step {B : Nat} {w w1 w2 : World} (hb : Below B w w1) (hB : B ≤ w.heap.size) (ho : Off (disk3 (B + 2) B (B + 1)) w1 w2) : Below B w w2 :=
  hb.trans (ho.below (fun k hk => by rcases hk with rfl | rfl | rfl <;> omega) (Nat.le_trans hB hb.size))

/-- A disk with no arm, whose counts are small. -/
structure G (k : Int) (u : Bool) (S : Dk) : Prop where
  ok : S.Ok
  up : S.up = u
  set : S.set = false
  acts : S.acts ≤ k
  downs : S.downs ≤ k
theorem G.wr {k : Int} (h : G k true S) (hk : k ≤ 1000) {i : Nat} (hi : i < S.n) {s : ByteArray} (hs : s.size ≤ 64) : G (k + 1) true (wrDk S i s) :=
  ⟨wrDk_ok h.ok (by have := h.acts; omega) hi hs, h.up, h.set, by have := h.acts; simp only [wrDk]; omega, by have := h.downs; simp only [wrDk]; omega⟩
theorem G.off {k : Int} {u : Bool} (h : G k u S) (hk : k ≤ 1000) (x : Int) : G (k + 1) false (offDk S x) :=
  ⟨offDk_ok h.ok _ (by have := h.downs; omega), rfl, rfl, by have := h.acts; simp only [offDk]; omega, by have := h.downs; simp only [offDk]; omega⟩
theorem G.off2 {k : Int} {u : Bool} {x : Int} (h : G k u S) (hk : k ≤ 1000) (hD : DkIs w db lb mb m (offDk S x)) : G (k + 1) false (offDk S x) := h.off hk x
theorem G.start {k : Int} {u : Bool} (h : G k u S) : G k true { S with up := true } := ⟨up_ok h.ok _, rfl, h.set, h.acts, h.downs⟩
theorem G.new {n : Nat} (h1 : 1 ≤ n) (h2 : n ≤ 8192) : G 0 true (newDk n) := ⟨newDk_ok h1 h2, rfl, rfl, Int.le_refl _, Int.le_refl _⟩

def tA : ByteArray := ⟨#[97]⟩
def upOff (S : Dk) (x : Int) : Dk := { offDk S x with up := true }
theorem G.upOff {k : Int} {u : Bool} (h : G k u S) (hk : k ≤ 1000) (x : Int) : G (k + 1) true (upOff S x) := (h.off hk x).start
theorem tz : tA.size ≤ 64 := by decide
theorem n3 : (upOff (wrDk (newDk 2) 0 tA) 0).now 0 = pad ⟨#[]⟩ := by
  simp [Dk.now, upOff, offDk, lossF, wrDk, upd_same, bitK, newDk, pad]; rfl
theorem n6 (S : Dk) : (upOff (wrDk S 0 tA) 1).now 0 = pad tA := by
  simp [Dk.now, upOff, offDk, lossF, wrDk, upd_same, bitK, rank]
end Go.Proofs.YtgodjnbbocnckaaGreat
