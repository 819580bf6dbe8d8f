/- The power goes: powerGoes, and an act. -/
import Derived.Test.YtljedbakdlhlbaaDkWait
import Derived.Test.YtljedbakdlhlbaaDkRw
import Derived.WalkSmall
namespace Go.Proofs.Ytljedbakdlhlbaa
open Go.RowKit Go.Maps Go.ChangeMaps Go.Sort
set_option linter.unusedVariables false
set_option linter.unusedSimpArgs false
set_option maxRecDepth 100000

variable {w w' : World} {db lb mb m : Nat} {S : Dk}

/-- Does the k-th last? -/
def bitK (keep : Int) (k : Nat) : Bool := decide (keep / 2 ^ (k % 64) % 2 = 1)
/-- How many that wait stand ahead of a sector. -/
def rank (f : Nat → Option ByteArray) (i : Nat) : Nat := ((List.range i).filter (fun j => (f j).isSome)).length
/-- What lasts when the power goes. -/
def lossF (sure : Nat → ByteArray) (wait : Nat → Option ByteArray) (keep : Int) (i : Nat) : ByteArray :=
  match wait i with
  | none => sure i
  | some c => if bitK keep (rank wait i) then c else sure i
def lossK (S : Dk) (keep : Int) (k : Nat) (i : Nat) : ByteArray := if i ∈ S.waitL.take k then lossF S.sure S.wait keep i else S.sure i
theorem rank_at (f : Nat → Option ByteArray) : ∀ (n k i : Nat), ((List.range n).filter (fun j => (f j).isSome))[k]? = some i → i < n ∧ (f i).isSome = true ∧ rank f i = k
  | 0, k, i, h => by simp at h
  | n + 1, k, i, h => by
    rw [List.range_succ, List.filter_append] at h
    by_cases hk : k < ((List.range n).filter (fun j => (f j).isSome)).length
    · rw [List.getElem?_append_left hk] at h
      obtain ⟨h1, h2, h3⟩ := rank_at f n k i h
      exact ⟨by omega, h2, h3⟩
    · rw [List.getElem?_append_right (by omega)] at h
      by_cases hn : (f n).isSome = true
      · have e : [n].filter (fun j => (f j).isSome) = [n] := by simp [hn]
        rw [e] at h
        have hk0 : k - ((List.range n).filter (fun j => (f j).isSome)).length = 0 := by
          rcases Nat.eq_zero_or_pos (k - ((List.range n).filter (fun j => (f j).isSome)).length) with h0 | h0
          · exact h0
          · rw [List.getElem?_eq_none (by simp; omega)] at h; cases h
        rw [hk0] at h
        simp at h
        subst h
        exact ⟨by omega, hn, by unfold rank; omega⟩
      · have e : [n].filter (fun j => (f j).isSome) = [] := by simp [hn]
        rw [e] at h
        simp at h
theorem lossK_zero (S : Dk) (keep : Int) : lossK S keep 0 = S.sure := by funext i; simp [lossK]
theorem lossK_all {S : Dk} (hS : S.Ok) (keep : Int) : lossK S keep S.waitL.length = lossF S.sure S.wait keep := by
  funext i
  simp only [lossK, List.take_length]
  split
  · rfl
  · rename_i h
    have : S.wait i = none := by
      cases hw : S.wait i with
      | none => rfl
      | some c => exact absurd ((waitL_mem hS i).2 (by rw [hw]; rfl)) h
    simp [lossF, this]
theorem lossK_step {S : Dk} (keep : Int) {k : Nat} (hk : k < S.waitL.length) {c : ByteArray} (hc : S.wait S.waitL[k] = some c) :
    lossK S keep (k + 1) = if bitK keep k then upd (lossK S keep k) S.waitL[k] c else lossK S keep k := by
  obtain ⟨h1, h2, h3⟩ := rank_at S.wait S.n k S.waitL[k] (by rw [show (List.range S.n).filter (fun j => (S.wait j).isSome) = S.waitL from rfl, List.getElem?_eq_getElem hk])
  have hnew : S.waitL[k] ∉ S.waitL.take k := fun hm => by
    obtain ⟨j, hj, he⟩ := List.mem_take_iff_getElem.1 hm
    have := List.pairwise_iff_getElem.1 (waitL_sorted S) j k (by omega) hk (by omega)
    rw [he] at this; omega
  have hl : lossF S.sure S.wait keep S.waitL[k] = if bitK keep k then c else S.sure S.waitL[k] := by
    rw [lossF, hc, h3]
  funext i
  have ht : S.waitL.take (k + 1) = S.waitL.take k ++ [S.waitL[k]] := List.take_succ_eq_append_getElem hk
  by_cases hi : i = S.waitL[k]
  · subst hi
    have hin : S.waitL[k] ∈ S.waitL.take (k + 1) := by rw [ht]; exact List.mem_append_right _ List.mem_cons_self
    cases hb : bitK keep k
    · have e1 : lossK S keep (k + 1) S.waitL[k] = lossF S.sure S.wait keep S.waitL[k] := if_pos hin
      have e2 : lossK S keep k S.waitL[k] = S.sure S.waitL[k] := if_neg hnew
      rw [e1, hl, hb]
      simp only [Bool.false_eq_true, if_false]
      exact e2.symm
    · have e1 : lossK S keep (k + 1) S.waitL[k] = lossF S.sure S.wait keep S.waitL[k] := if_pos hin
      rw [e1, hl, hb]
      simp only [if_true, upd_same]
  · have e1 : i ∈ S.waitL.take (k + 1) ↔ i ∈ S.waitL.take k := by rw [ht, List.mem_append, List.mem_singleton]; exact ⟨fun h => h.resolve_right hi, Or.inl⟩
    cases hb : bitK keep k
    · simp only [Bool.false_eq_true, if_false]
      unfold lossK
      simp only [e1]
    · simp only [if_true, upd_other _ _ hi]
      unfold lossK
      simp only [e1]
/-- A disk behind a loss of power. -/
def offDk (S : Dk) (keep : Int) : Dk := { S with sure := lossF S.sure S.wait keep, wait := fun _ => none, up := false, set := false, left := 0, keep := 0, downs := S.downs + 1 }
theorem lossK_size {S : Dk} (hS : S.Ok) (hz : ∀ i, i < S.n → (S.sure i).size = 64) (keep : Int) (k i : Nat) (hi : i < S.n) : (lossK S keep k i).size = 64 := by
  simp only [lossK, lossF]
  split
  · split
    · exact hz i hi
    · rename_i c hc
      split
      · exact (hS.wait i c hc).2
      · exact hz i hi
  · exact hz i hi

set_option maxHeartbeats 2000000 in
theorem powerGoes_any (w : World) (h : DkIs w db lb mb m S) (hS : S.Ok) (hm : m ≤ 1000000) (keep : Int) (k0 : 0 ≤ keep) (k1 : keep ≤ 18446744073709551615) : Calls Try.prog 39 #[.pointer (some ⟨db, 0, none⟩), .int .u64 keep] w fun e w' =>
    e = .returned (.tuple #[]) ∧ DkIs w' db lb mb 0 (offDk S keep) ∧ Off (disk3 db lb mb) w w' := by
  have hdb := h.lt
  have hlb := h.row.lt
  have hmb := h.map.lt
  have H : Hid _ := h
  have C : Hid (∀ w, DkIs w db lb mb m S → _) := fun w h => Waiting_any w h hS hm
  have hL := waitL_length S
  have hn2 := hS.n2
  clear h
  go_enter Try.func39, Try.ntmps39
  go_wp2_with (go_at_call 12; refine (C.out _ H.out).mono ?_; rintro e w1 ⟨a, g, cap, rfl, hag, hg, hcell, hbel⟩)
  go_loopw [9] (fun kv wr => ∃ k : Nat, kv = .int .i64 (k : Int) ∧ k ≤ S.waitL.length ∧ DkIs wr db lb mb m { S with sure := lossK S keep k } ∧ Off (disk3 db lb mb) w1 wr) (fun kv _ => S.waitL.length - (intOf kv).toNat)
  case atStart =>
    exact ⟨0, rfl, Nat.zero_le _, by rw [lossK_zero]; exact H.out.below hbel, Off.refl _ _⟩
  case round =>
    obtain ⟨k, rfl, hk, hD, hoff⟩ := hrel
    by_cases hkl : k < S.waitL.length
    · have ha : a = some ⟨g, 0, none⟩ := by
        rcases hag with ⟨_, hnil⟩ | h
        · rw [hnil] at hkl; simp at hkl
        · exact h
      subst ha
      have hcl := hcell k hkl
      have hg1 : g < w1.heap.size := World.block_lt_of_cell? _ _ hcl
      have hck : wr.cell? ⟨g, k, none⟩ = some (.int .i64 ((S.waitL[k] : Nat) : Int)) := by
        rw [hoff.cell hg1 (d3_not hdb hlb hmb hg)]; exact hcl
      obtain ⟨i, hi⟩ : ∃ i, i = S.waitL[k] := ⟨_, rfl⟩
      rw [← hi] at hck
      have hkI : (k : Int) < (S.waitL.length : Int) := by omega
      have hwi : (S.wait i).isSome = true := by rw [hi]; exact (waitL_mem hS _).1 (List.getElem_mem hkl)
      obtain ⟨c, hc⟩ := Option.isSome_iff_exists.1 hwi
      have hin := hS.wait i c hc
      have hstep : lossK S keep (k + 1) = if bitK keep k then upd (lossK S keep k) i c else lossK S keep k := by rw [hi]; exact lossK_step keep hkl (by rw [← hi]; exact hc)
      have HS : Hid _ := hstep
      clear hcell hcl hi hwi hstep
      have hbits : (bits BinOp.and IntKind.u64 (keep / 2 ^ (k % 64)) 1 == 1) = bitK keep k := by
        have h0 : 0 ≤ keep / 2 ^ (k % 64) := Int.ediv_nonneg k0 (Int.pow_nonneg (by decide))
        have h1 : keep / 2 ^ (k % 64) ≤ 18446744073709551615 := by
          have := Int.ediv_le_self (2 ^ (k % 64)) k0
          omega
        rw [and_one_u64 _ h0 h1]
        rfl
      cases hb : bitK keep k
      · rw [hb] at hbits
        rw [hb] at HS
        go_wp2
        refine ⟨⟨k + 1, by simp, hkl, ?_, hoff⟩, by simp [intOf]; omega⟩
        rw [HS.out]
        exact hD
      · rw [hb] at hbits
        rw [hb] at HS
        have d0 := hD.c0
        have d1 := hD.c1
        have hi2 : i < 8192 := by omega
        have hiI : (i : Int) < (S.n : Int) := by omega
        obtain ⟨cs, hcs⟩ : ∃ cs, cs = secL c := ⟨_, rfl⟩
        have hcl : cs.length = 64 := by rw [hcs, secL_length, hin.2]
        have hone : ∀ v ∈ cs, v.oneCell' = true := by rw [hcs]; exact secL_one c
        have hinf : (Try.prog.info? 65).map (·.size) = some cs.toArray.size := by simp only [List.size_toArray, hcl]; exact info64
        have hth : wr.drew.there lb (i * 64) cs.toArray.size := by simp only [List.size_toArray, hcl]; rw [World.there_drew]; exact hD.row.there i hin.1
        have hlk : (Instr.lookup 50 (.map (some mb)) (.int .i64 (i : Int)) false).run Try.prog wr.drew = .ok (.agg cs.toArray) wr.drew := by
          rw [hcs]; exact hD.drew.map.look1 hi2 hc
        have hkk : ∀ vs : List Value, (wr.drew.setCells lb (i * 64) vs).cell? ⟨db, 0, none⟩ = some (.slice (some ⟨lb, 0, none⟩) S.n S.n) ∧ (wr.drew.setCells lb (i * 64) vs).cell? ⟨db, 1, none⟩ = some (.map (some mb)) := fun vs =>
          ⟨(World.cell?_of_block (w := wr) ((setCells_facts lb vs (i * 64) wr.drew).2.2.2.2 db hD.ne)).trans d0, (World.cell?_of_block (w := wr) ((setCells_facts lb vs (i * 64) wr.drew).2.2.2.2 db hD.ne)).trans d1⟩
        have HC : Hid _ := hcs
        have HL : Hid _ := hcl
        have HK : Hid _ := hkk
        clear hkk
        clear hcs hcl
        go_wp2
        go_region_held_law (fun w' => w'.cell? ⟨db, 0, none⟩ = some (.slice (some ⟨lb, 0, none⟩) S.n S.n) ∧ w'.cell? ⟨db, 1, none⟩ = some (.map (some mb))) (first | exact ⟨d0, d1⟩ | exact HK.out _) (fail)
        go_wp2
        refine ⟨⟨k + 1, by simp, hkl, ?_, hoff.drew.setCells (d3b _ _ _) _ _⟩, by simp [intOf]; omega⟩
        rw [HS.out, HC.out]
        exact hD.drew.rowput hS.n1 hin.1 hin.2
    · have hke : k = S.waitL.length := by omega
      subst hke
      rw [lossK_all hS] at hD
      obtain ⟨w2, hrun, hm2, ht⟩ := hD.map.clear
      have hD2 := hD.turned hS.n1 ht hm2
      have c1 := hD.c1
      have d3 := hD2.c3
      have d4 := hD2.c4
      have d5 := hD2.c5
      have d2 := hD2.c2
      have d7 := hD2.c7
      have df := hD2.f
      have a0 := hS.d0
      have a1 := hS.d1
      have HD : Hid _ := hD2
      have HT : Hid _ := ht
      clear hD hD2 hcell ht hm2
      have hkI : ¬ ((S.waitL.length : Int) < (S.waitL.length : Int)) := by omega
      go_wp2
      go_end0
      have ho : Off (disk3 db lb mb) w w2 := ((Off.of_below hbel).trans hoff).turned HT.out (fun _ => d3c _ _ _)
      refine ⟨rfl, ?_, ((((ho.setCell (d3a _ _ _) _ _).setCell (d3a _ _ _) _ _).setCell (d3a _ _ _) _ _).setCell (d3a _ _ _) _ _).setCell (d3a _ _ _) _ _⟩
      exact ((((HD.out.setC 3 _ { S with sure := lossF S.sure S.wait keep, wait := fun _ => none, set := false } rfl rfl rfl rfl).setC 4 _ { S with sure := lossF S.sure S.wait keep, wait := fun _ => none, set := false, left := 0 } rfl rfl rfl rfl).setC 5 _ { S with sure := lossF S.sure S.wait keep, wait := fun _ => none, set := false, left := 0, keep := 0 } rfl rfl rfl rfl).setC 2 _ { S with sure := lossF S.sure S.wait keep, wait := fun _ => none, set := false, left := 0, keep := 0, up := false } rfl rfl rfl rfl).setC 7 _ (offDk S keep) rfl rfl rfl rfl

theorem offDk_ok {S : Dk} (hS : S.Ok) (keep : Int) (hd : S.downs < 1000000) : (offDk S keep).Ok :=
  ⟨hS.n1, hS.n2, fun i c h => (by cases h), by simp [offDk], by simp [offDk], by simp [offDk], by simp [offDk], hS.a0, hS.a1, by have := hS.d0; simp only [offDk]; omega, by simp only [offDk]; omega⟩
/-- What an act answers, and the disk behind it. -/
def actE (S : Dk) : Int := if S.set ∧ S.left = 0 then 9 else 0
def actDk (S : Dk) : Dk := if S.set ∧ S.left = 0 then offDk S S.keep else if S.set then { S with left := S.left - 1, acts := S.acts + 1 } else { S with acts := S.acts + 1 }
theorem act_any (w : World) (h : DkIs w db lb mb m S) (hS : S.Ok) (hm : m ≤ 1000000) : Calls Try.prog 29 #[.pointer (some ⟨db, 0, none⟩)] w fun e w' =>
    e = .returned (.int .i64 (actE S)) ∧ DkIs w' db lb mb m (actDk S) ∧ Off (disk3 db lb mb) w w' := by
  have hc3 := h.c3
  have hc4 := h.c4
  have hc5 := h.c5
  have hc6 := h.c6
  have hf := h.f
  have a0 := hS.a0
  have a1 := hS.a1
  have l0 := hS.l0
  have l1 := hS.l1
  have C : Hid (∀ w, DkIs w db lb mb m S → Calls Try.prog 39 #[.pointer (some ⟨db, 0, none⟩), .int .u64 S.keep] w fun e w' =>
    e = .returned (.tuple #[]) ∧ DkIs w' db lb mb 0 (offDk S S.keep) ∧ Off (disk3 db lb mb) w w') := fun w h => powerGoes_any w h hS hm S.keep hS.k0 hS.k1
  have H : Hid _ := h
  clear h
  cases hs : S.set
  · rw [hs] at hc3
    go_enter Try.func29, Try.ntmps29
    go_wp2
    go_ret
    have e1 : actE S = 0 := by simp [actE, hs]
    have e2 : actDk S = { S with acts := S.acts + 1 } := by simp [actDk, hs]
    rw [e1, e2]
    exact ⟨rfl, H.out.setC 6 _ _ rfl rfl rfl rfl, (Off.refl _ _).setCell (d3a _ _ _) _ _⟩
  · rw [hs] at hc3
    by_cases hl : S.left = 0
    · have e1 : actE S = 9 := by simp [actE, hs, hl]
      have e2 : actDk S = offDk S S.keep := by simp [actDk, hs, hl]
      rw [e1, e2]
      rw [hl] at hc4
      go_enter Try.func29, Try.ntmps29
      go_wp2_with (go_at_call 39; refine (C.out _ H.out).mono ?_; rintro e w1 ⟨rfl, hD, ho⟩)
      go_ret
      exact ⟨rfl, hD.mono (Nat.zero_le _), ho⟩
    · have e1 : actE S = 0 := by simp [actE, hs, hl]
      have e2 : actDk S = { S with left := S.left - 1, acts := S.acts + 1 } := by simp [actDk, hs, hl]
      rw [e1, e2]
      have hl' : (S.left == 0) = false := by simpa using hl
      go_enter Try.func29, Try.ntmps29
      go_wp2
      go_ret
      exact ⟨rfl, (H.out.setC 4 (.int .i64 (S.left - 1)) { S with left := S.left - 1 } rfl rfl rfl rfl).setC 6 _ _ rfl rfl rfl rfl, ((Off.refl _ _).setCell (d3a _ _ _) _ _).setCell (d3a _ _ _) _ _⟩
theorem actDk_ok {S : Dk} (hS : S.Ok) (hd : S.downs < 1000000) (ha : S.acts < 1000000) : (actDk S).Ok := by
  unfold actDk
  split
  · exact offDk_ok hS _ hd
  · split
    · rename_i h1 h2
      have : S.left ≠ 0 := fun e => h1 ⟨h2, e⟩
      have := hS.l0
      have := hS.l1
      have := hS.a0
      exact ⟨hS.n1, hS.n2, hS.wait, by simp only []; omega, by simp only []; omega, hS.k0, hS.k1, by simp only []; omega, by simp only []; omega, hS.d0, hS.d1⟩
    · have := hS.a0
      exact ⟨hS.n1, hS.n2, hS.wait, hS.l0, hS.l1, hS.k0, hS.k1, by simp only []; omega, by simp only []; omega, hS.d0, hS.d1⟩
end Go.Proofs.Ytljedbakdlhlbaa
