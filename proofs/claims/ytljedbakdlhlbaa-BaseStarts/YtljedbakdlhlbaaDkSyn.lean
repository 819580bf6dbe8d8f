/- The disk's Sync; the law's whole, first and awake. -/
import Derived.Test.YtljedbakdlhlbaaDkAct
namespace Go.Proofs.Ytljedbakdlhlbaa
open Go.RowKit Go.Maps Go.ChangeMaps Go.Sort
set_option linter.unusedVariables false
set_option linter.unusedSimpArgs false
set_option maxRecDepth 100000

variable {w w' : World} {db lb mb m : Nat} {S : Dk}

theorem wpList_store_newL {ops : Array Oper} {rest : List Oper} {o : Oper} {a : Act} {Q : Exit → Act → World → Prop} (w : World) (C : Array Value) (hg : o.guard = none) (x y : Operand) (hop : o.op = Op.store 65 x y)
    (hx : a.eval x = .pointer (some ⟨w.heap.size, 0, none⟩)) (cs : List Value) (hy : a.eval y = .agg cs.toArray) (hc : cs.length = 64) (h1 : ∀ v ∈ cs, v.oneCell' = true) (hC : C.size = 64)
    (h : wpList Try.prog ops Q rest (a.put o.dst undef) (w.alloc (.cells cs.toArray 65))) : wpList Try.prog ops Q (o :: rest) a (w.alloc (.cells C 65)) := by
  refine wpList_plain hg fun K' hK' => ?_
  have hs : cs.toArray.size = 64 := by simp [hc]
  have hrun := run_storeAt_new (P := Try.prog) w 65 C cs.toArray (by rw [hs]; exact info64) (by rw [hC, hs]) (all_oneCell_toArray h1)
  unfold Oper.wp
  simp [execOp, hop, hx, hy, hrun, Result.andThen]
  exact hK' _ _ h
theorem grownBy_setCells (w : World) (b o : Nat) (vs : List Value) : w.grownBy (w.setCells b o vs) (some b) := by
  obtain ⟨h1, h2, h3, h4, h5⟩ := setCells_facts b vs o w
  exact ⟨h1, h2, h3, by rw [h4]; exact Nat.le_refl _, fun k _ hk => h5 k (fun e => hk (by rw [e]))⟩
theorem grownBy_drew (w : World) : w.grownBy w.drew none := ⟨rfl, rfl, rfl, Nat.le_refl _, fun _ _ _ => rfl⟩
theorem SecRow.congr {w : World} {lb n : Nat} {f g : Nat → ByteArray} (h : SecRow w lb n f) (hg : ∀ i, i < n → f i = g i) : SecRow w lb n g :=
  ⟨h.lt, fun i hi => by rw [← hg i hi]; exact h.at_ i hi, h.there, fun i hi => by rw [← hg i hi]; exact h.size i hi, h.ty⟩
theorem DkIs.congr (h : DkIs w db lb mb m S) {f : Nat → ByteArray} (hg : ∀ i, i < S.n → S.sure i = f i) : DkIs w db lb mb m { S with sure := f } := ⟨h.blk, h.row.congr hg, h.map, h.ne⟩

/-- How far a sync has come. -/
def SyncV (S : Dk) (left : Lit → Bool) (f : Nat → ByteArray) : Prop := ∀ i : Nat, f i = if left (.int .i64 (i : Int)) = true then S.sure i else S.now i
theorem SyncV.start {D : DataW Unit} (hv : MapV D S.wait) : SyncV S (Maps.has D) S.sure := fun i => by
  rw [hv.has]
  cases hw : S.wait i <;> simp [Dk.now, hw]
theorem SyncV.step {left : Lit → Bool} {f : Nat → ByteArray} (h : SyncV S left f) {i : Nat} {c : ByteArray} (hc : S.wait i = some c) : SyncV S (fun z => left z && !z.sameKey (.int .i64 (i : Int))) (upd f i c) := fun j => by
  by_cases e : j = i
  · subst e; simp [upd_same, Dk.now, hc, Lit.sameKey]
  · have : ¬ ((j : Int) = (i : Int)) := by omega
    rw [upd_other _ _ e, h j]; simp [Lit.sameKey, this]
def syncE (S : Dk) : Int := if S.up then actE S else 9
def syncDk (S : Dk) : Dk := if S.up then (if actE S = 0 then { actDk S with sure := S.now, wait := fun _ => none } else actDk S) else S
theorem syncDk_ok {S : Dk} (hS : S.Ok) (hd : S.downs < 1000000) (ha : S.acts < 1000000) : (syncDk S).Ok := by
  have h := actDk_ok hS hd ha
  unfold syncDk
  split
  · split
    · exact ⟨h.n1, h.n2, fun i c h => (by cases h), h.l0, h.l1, h.k0, h.k1, h.a0, h.a1, h.d0, h.d1⟩
    · exact h
  · exact hS

set_option maxHeartbeats 2000000 in
theorem Sync_any (w : World) (h : DkIs w db lb mb m S) (hS : S.Ok) (hm : m ≤ 1000000) : Calls Try.prog 21 #[.pointer (some ⟨db, 0, none⟩)] w fun e w' =>
    e = .returned (.int .i64 (syncE S)) ∧ DkIs w' db lb mb m (syncDk S) ∧ Off (disk3 db lb mb) w w' := by
  have C : Hid (∀ w, DkIs w db lb mb m S → Calls Try.prog 30 #[.pointer (some ⟨db, 0, none⟩)] w fun e w' => e = .returned (.int .i64 (refI S.up)) ∧ w' = w) := fun w h => refusal_any w h hS.n1
  have CA : Hid (∀ w, DkIs w db lb mb m S → Calls Try.prog 29 #[.pointer (some ⟨db, 0, none⟩)] w fun e w' =>
    e = .returned (.int .i64 (actE S)) ∧ DkIs w' db lb mb m (actDk S) ∧ Off (disk3 db lb mb) w w') := fun w h => act_any w h hS hm
  have H : Hid _ := h
  have hn1 := hS.n1
  have hn2 := hS.n2
  clear h
  cases hu : S.up
  · have e0 : refI false = 9 := rfl
    rw [hu, e0] at C
    have e1 : syncE S = 9 := by simp [syncE, hu]
    have e2 : syncDk S = S := by simp [syncDk, hu]
    rw [e1, e2]
    go_enter Try.func21, Try.ntmps21
    go_wp2_with (go_at_call 30; refine (C.out _ H.out).mono ?_; rintro e w' ⟨rfl, rfl⟩)
    go_ret
    exact ⟨rfl, H.out, Off.refl _ _⟩
  have e0 : refI true = 0 := rfl
  rw [hu, e0] at C
  rcases actE_is S with ha | ha
  · have e1 : syncE S = 0 := by simp [syncE, hu, ha]
    have e2 : syncDk S = { actDk S with sure := S.now, wait := fun _ => none } := by simp [syncDk, hu, ha]
    rw [e1, e2]
    rw [ha] at CA
    obtain ⟨g1, g2, g3⟩ := actDk_go ha
    have g4 := actDk_n S
    obtain ⟨S1, hS1⟩ : ∃ S1, S1 = actDk S := ⟨_, rfl⟩
    rw [← hS1] at CA g1 g2 g3 g4 ⊢
    have HS : Hid _ := g1
    have HS2 : Hid _ := g2
    have HS4 : Hid _ := g4
    clear g1 g2 g3 g4 hS1 e1 e2
    go_enter Try.func21, Try.ntmps21
    go_wp2_with (first | (go_at_call 30; refine (C.out _ H.out).mono ?_; rintro e w' ⟨rfl, rfl⟩) | (go_at_call 29; refine (CA.out _ H.out).mono ?_; rintro e w1 ⟨rfl, hD, ho⟩; have hc1 := hD.c1; have hDm : MapIs w1 mb m S.wait := (by rw [← HS.out]; exact hD.map); obtain ⟨D, hown, hv⟩ := hDm) | (at_range; refine wpList_range_own _ rfl _ 50 rfl 3 65 law3 Try.underlying50 _ mb m _ rfl hown ?_; intro w0 hrg0 hg0 hs0))
    go_frame
    go_loopw [5] (fun _ wr => ∃ (left : Lit → Bool) (cnt : Nat) (f : Nat → ByteArray), wr.ranges Try.prog 3 secR mb w1.heap.size m D left cnt ∧ Hid (SyncV S left f) ∧ DkIs wr db lb mb m { S1 with sure := f } ∧ Off (disk3 db lb mb) w1 wr)
      (fun _ wr => wr.rangeLeft mb w1.heap.size)
    case atStart =>
      refine ⟨_, _, S.sure, hrg0, SyncV.start hv, ?_, (Off.refl _ _).grown hg0 (fun k e => by cases e)⟩
      have e : { S1 with sure := S.sure } = S1 := by rw [← HS2.out]
      rw [e]
      exact hD.off (B := fun _ => False) ((Off.refl _ _).grown hg0 (fun k e => by cases e)) (fun h => h) (fun h => h) (fun h => h)
    case round =>
      obtain ⟨left, cnt, f, hrg, hY, hDr, hoff⟩ := hrel
      go_wp2_with (first
        | (at_next; refine wpList_next_ranges _ rfl _ rfl 3 law3 secR (Value.int .i64) (fun cs : List Value => Value.agg cs.toArray) (fun key kl hk => by obtain ⟨x, hx, _⟩ := Maps.keyOf_int_inv Try.underlying3 hk; exact ⟨x, hx⟩) (fun v y hv => by obtain ⟨cs, rfl⟩ := secR_agg hv; exact ⟨cs.toList, by simp⟩) mb w1.heap.size m _ _ _ rfl hrg ?_ ?_))
      · intro hc0 hl0
        obtain ⟨w2, hrun, hm2, ht⟩ := hDr.map.clear
        have hD2 := hDr.turned (by simp only [HS4.out]; exact hn1) ht hm2
        have d1 := hDr.c1
        have HD : Hid _ := hD2
        have HT : Hid _ := ht
        have HF : Hid (∀ i, f i = S.now i) := fun i => by have := hY.out i; rw [hl0] at this; simpa using this
        clear hD2 ht hm2
        go_wp2
        go_ret
        exact ⟨rfl, (HD.out.mono (Nat.zero_le _)).congr (f := S.now) (fun i _ => HF.out i), (ho.trans hoff).turned HT.out (fun _ => d3c _ _ _)⟩
      · intro x cs kl yd yp w2 cnt2 hkey hlk hv2 hat hrg2 hlt hg2 hs2 hen
        obtain ⟨x', ex, rfl, _⟩ := Maps.keyOf_int_inv Try.underlying3 hkey
        cases ex
        obtain ⟨i, hix⟩ := hv.keys _ (has_true_of_atKey hat)
        have hxi : x = (i : Int) := by simpa using hix
        subst hxi
        have hwi : (S.wait i).isSome = true := by rw [← hv.has]; exact has_true_of_atKey hat
        obtain ⟨c, hc⟩ := Option.isSome_iff_exists.1 hwi
        have hin := hS.wait i c hc
        have hcs : cs = secL c := by
          have h1 := hv.at_ i c hc (.lit (.bool false))
          rw [hat] at h1
          rw [h1] at hv2
          have := secR_inv hv2
          simpa [secV] using this
        have hcl : cs.length = 64 := by rw [hcs, secL_length, hin.2]
        have hone : ∀ v ∈ cs, v.oneCell' = true := by rw [hcs]; exact secL_one c
        have hD2 : DkIs w2 db lb mb m { S1 with sure := f } := hDr.off (B := fun k => k = w1.heap.size) ((Off.refl _ _).grown hg2 (fun k e _ => by cases e; rfl)) (fun e => by have := hD.lt; omega) (fun e => by have := hD.row.lt; omega) (fun e => by have := hD.map.lt; omega)
        have hDl := hD.lt
        have hDb := hD.row.lt
        have hDm := hD.map.lt
        have h12 := hoff.size
        have hmne : mb ≠ lb := hDr.mlb (by simp only [HS4.out]; exact hn1)
        have hoff2 : Off (disk3 db lb mb) w1 w2 := hoff.grown hg2 (fun k e hk => by cases e; omega)
        have HC : Hid _ := hcs
        have HL : Hid _ := hcl
        have HS3 : Hid _ := hs2
        clear hs2 hcs hwi hv2 hat hix hkey
        go_wp2_with (first | (refine wpList_alloc64 _ rfl rfl ?_) | (refine wpList_store_newL _ _ rfl _ _ rfl rfl cs rfl HL.out hone zsz ?_))
        have hDa : DkIs (w2.alloc (.cells cs.toArray 65)).drew db lb mb m { S1 with sure := f } := (hD2.below ((Below.refl _ _).alloc (Nat.le_refl _) _)).drew
        have d0 := hDa.c0
        have hbo : (w2.alloc (.cells cs.toArray 65)).drew.heap[w2.heap.size]? = some (.cells cs.toArray 65) := (MapKept.heap_alloc w2 _).1
        have hra : (w2.alloc (.cells cs.toArray 65)).drew.rangeAt w2.heap.size 0 cs := fun j v hv => by
          rw [Joins.cell_of_block hbo]; simpa using hv
        have hlbx : lb < w2.heap.size := hD2.row.lt
        have hth : (w2.alloc (.cells cs.toArray 65)).drew.there lb (i * 64) cs.toArray.size := by simp only [List.size_toArray, hcl]; exact hDa.row.there i (by simp only [HS4.out]; exact hin.1)
        have hinf : (Try.prog.info? 65).map (·.size) = some cs.toArray.size := by simp only [List.size_toArray, hcl]; exact info64
        have hinf2 : (Try.prog.info? 65).map (·.size) = some cs.length := by rw [hcl]; exact info64
        have hrow := row64
        have hn64 : S1.n = S.n := HS4.out
        rw [show ({ S1 with sure := f } : Dk).n = S.n from hn64] at d0
        have hiI : (i : Int) < (S.n : Int) := by have := hin.1; omega
        have hi64 : i < S.n := hin.1
        have HK : Hid (((w2.alloc (.cells cs.toArray 65)).drew.setCells lb (i * 64) cs).cell? ⟨db, 0, none⟩ = some (.slice (some ⟨lb, 0, none⟩) S.n S.n) ∧ ((w2.alloc (.cells cs.toArray 65)).drew.setCells lb (i * 64) cs).rangeAt w2.heap.size 0 cs) := by
          show _ ∧ _
          have h5 := (setCells_facts lb cs (i * 64) (w2.alloc (.cells cs.toArray 65)).drew).2.2.2.2
          exact ⟨(World.cell?_of_block (h5 db hD.ne)).trans d0, World.rangeAt_setCells_apart hra _ _ _ (Or.inl (by omega))⟩
        have HD : Hid _ := hDa
        have HRG : Hid (w2.ranges Try.prog 3 secR mb w1.heap.size m D (fun z => left z && !z.sameKey (.int .i64 (i : Int))) cnt2) := hrg2
        clear hDa hcl hbo hn64 hrg2
        go_region_held_law (fun w' => w'.cell? ⟨db, 0, none⟩ = some (.slice (some ⟨lb, 0, none⟩) S.n S.n) ∧ w'.rangeAt w2.heap.size 0 cs) (first | exact ⟨d0, hra⟩ | exact HK.out) (fail)
        have hne1 : w1.heap.size ≠ lb := by omega
        have hrg3 := ((HRG.out.alloc (.cells cs.toArray 65)).kept (grownBy_drew _) (by simp) (by simp)).kept (grownBy_setCells _ lb (i * 64) cs) (fun e => hmne (by cases e; rfl)) (fun e => hne1 (by cases e; rfl))
        go_wp2
        refine ⟨⟨_, cnt2, upd f i c, hrg3, hY.out.step hc, ?_, ((hoff2.alloc _).drew).setCells (d3b _ _ _) _ _⟩, by rw [hrg3.left_eq, hrg.left_eq]; exact hlt⟩
        have := HD.out.rowput (by simp only [HS4.out]; exact hn1) (i := i) (by simp only [HS4.out]; exact hin.1) hin.2
        rw [← HC.out] at this
        exact this
  · have e1 : syncE S = 9 := by simp [syncE, hu, ha]
    have e2 : syncDk S = actDk S := by simp [syncDk, hu, ha]
    rw [e1, e2]
    rw [ha] at CA
    go_enter Try.func21, Try.ntmps21
    go_wp2_with (first | (go_at_call 30; refine (C.out _ H.out).mono ?_; rintro e w' ⟨rfl, rfl⟩) | (go_at_call 29; refine (CA.out _ H.out).mono ?_; rintro e w1 ⟨rfl, hD, ho⟩))
    go_ret
    exact ⟨rfl, hD, ho⟩

theorem nul_append (s : ByteArray) (k : Nat) : (⟨s.data ++ Array.replicate k 0⟩ : ByteArray) ++ (⟨#[0]⟩ : ByteArray) = ⟨s.data ++ Array.replicate (k + 1) 0⟩ := by
  apply ByteArray.ext
  rw [ByteArray.data_append]
  show (s.data ++ Array.replicate k 0) ++ #[0] = s.data ++ Array.replicate (k + 1) 0
  rw [Array.append_assoc, Array.replicate_succ]
  congr 1
end Go.Proofs.Ytljedbakdlhlbaa
