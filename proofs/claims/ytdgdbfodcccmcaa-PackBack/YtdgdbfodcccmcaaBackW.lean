/- PackBack: the walk: what was laid is read again, so the law returns true. -/
import Derived.Test.YtdgdbfodcccmcaaBackP
import Derived.Deep.RegionHeld3
namespace Go.Proofs.Ytdgdbfodcccmcaa
open Go.RowKit
set_option linter.unusedVariables false
set_option linter.unusedSimpArgs false
set_option maxRecDepth 100000

theorem info35 : (Try.prog.info? 35).map (fun i => (i.zero, i.size, i.bytes)) = some (some (.agg #[.int .i64 0, .int .i64 0, .string ⟨#[]⟩]), 3, 32) := by kernel_rfl
/-- The item that a round looks at lies in a block of its own. -/
def isBox (w : World) (b : Nat) (x : Int × Int × ByteArray) : Prop := w.heap[b]? = some (.cells #[.int .i64 x.1, .int .i64 x.2.1, .string x.2.2] 35)
theorem isBox.c0 {w : World} {b : Nat} {x : Int × Int × ByteArray} (h : isBox w b x) : w.cell? ⟨b, 0, none⟩ = some (.int .i64 x.1) := by
  unfold isBox at h; simp [World.cell?, h]
theorem isBox.c1 {w : World} {b : Nat} {x : Int × Int × ByteArray} (h : isBox w b x) : w.cell? ⟨b, 1, none⟩ = some (.int .i64 x.2.1) := by
  unfold isBox at h; simp [World.cell?, h]
theorem isBox.c2 {w : World} {b : Nat} {x : Int × Int × ByteArray} (h : isBox w b x) : w.cell? ⟨b, 2, none⟩ = some (.string x.2.2) := by
  unfold isBox at h; simp [World.cell?, h]
theorem isBox.lt {w : World} {b : Nat} {x : Int × Int × ByteArray} (h : isBox w b x) : b < w.heap.size := by
  unfold isBox at h
  rcases Nat.lt_or_ge b w.heap.size with h' | h'
  · exact h'
  · simp [Array.getElem?_eq_none h'] at h
theorem isBox.off {w w' : World} {b c : Nat} {x : Int × Int × ByteArray} (h : isBox w b x) (hb : Off c w w') (hn : b ≠ c) : isBox w' b x := (hb.block b h.lt hn).trans h
theorem box_new {wr w1 : World} {x : Int × Int × ByteArray} (hb : Below (wr.alloc (.cells #[.int .i64 x.1, .int .i64 x.2.1, .string x.2.2] 35)).heap.size (wr.alloc (.cells #[.int .i64 x.1, .int .i64 x.2.1, .string x.2.2] 35)) w1) :
    isBox w1 wr.heap.size x ∧ Below wr.heap.size wr w1 :=
  ⟨(hb.block wr.heap.size (by simp [go_sem])).trans (MapKept.heap_alloc wr _).1, ((Below.refl _ _).alloc (Nat.le_refl _) _).trans (hb.mono (by simp [go_sem]))⟩
theorem box_cells (w : World) (x : Int × Int × ByteArray) : ∀ j u, [Value.int .i64 x.1, .int .i64 x.2.1, .string x.2.2][j]? = some u → (w.alloc (.cells #[.int .i64 x.1, .int .i64 x.2.1, .string x.2.2] 35)).cell? ((⟨w.heap.size, 0, none⟩ : Addr).add j) = some u := by
  intro j u hj
  have hadd : (⟨w.heap.size, 0, none⟩ : Addr).add j = ⟨w.heap.size, j, none⟩ := by unfold Addr.add; split <;> simp_all
  rw [hadd, Joins.cell_of_block (MapKept.heap_alloc w _).1]
  match j, hj with
  | 0, hj => simpa using hj
  | 1, hj => simpa using hj
  | 2, hj => simpa using hj
theorem box_one (x : Int × Int × ByteArray) : ∀ u ∈ [Value.int .i64 x.1, .int .i64 x.2.1, .string x.2.2], u.oneCell' = true := by
  intro u hu
  simp at hu
  rcases hu with rfl | rfl | rfl <;> rfl

/-- What holds at the head of each round of the first loop. -/
def BackRel (w wr : World) (v : Value) (K : List (Int × Int × ByteArray)) : Prop :=
  wr.ownsRow (w.heap.size + 1) 35 3 v K.length (cellsK K) ∧ WrIs wr w.heap.size (encK K) 0 ∧ (∀ x ∈ K, okI x) ∧ (encK K).size ≤ 65537 * K.length ∧ Below w.heap.size w wr

theorem backrel_step {w w2 w3 : World} {v v' : Value} {K : List (Int × Int × ByteArray)} {x : Int × Int × ByteArray} {o : Obj}
    (hown2 : w2.ownsRow (w.heap.size + 1) 35 3 v K.length (cellsK K)) (hwr2 : WrIs w2 w.heap.size (encK K ++ encI x) 0) (hok : ∀ y ∈ K, okI y) (hx : okI x) (hsz : (encK K).size ≤ 65537 * K.length) (hbel : Below w.heap.size w w2)
    (hown3 : w3.ownsRow (w.heap.size + 1) 35 3 v' (K.length + 1) (cellsK K ++ [.int .i64 x.1, .int .i64 x.2.1, .string x.2.2])) (hgrow : (w2.alloc o).grownBy w3 v.ownBlock) : BackRel w w3 v' (K ++ [x]) := by
  have ha := hown2.alloc o
  have hba : Below w2.heap.size w2 (w2.alloc o) := (Below.refl _ _).alloc (Nat.le_refl _) o
  refine ⟨?_, ?_, ?_, ?_, ?_⟩
  · rw [cellsK_snoc, List.length_append]; exact hown3
  · rw [encK_snoc]; exact (hwr2.below hba).grown hgrow (owns_tag ha)
  · intro y hy
    rcases List.mem_append.1 hy with h | h
    · exact hok y h
    · rw [List.mem_singleton.1 h]; exact hx
  · rw [encK_snoc, ByteArray.size_append, List.length_append, List.length_singleton]
    have := encI_size hx
    omega
  · exact (hbel.trans (hba.mono hbel.size)).grown hgrow (Nat.le_trans hbel.size hba.size) (fun g hg => Nat.le_of_lt (ha.lt g hg).1)
theorem owns_rd {w w' : World} {b n base : Nat} {v : Value} {xs : List Value} {s : ByteArray} {e : Int} (h : w.ownsRow base 35 3 v n xs) (hr : isRd w b s e) (o : Off b w w') : w'.ownsRow base 35 3 v n xs := by
  refine ⟨h.1, h.2.imp id ?_⟩
  rintro ⟨g, cap, cur, hv, hg, hh, r⟩
  refine ⟨g, cap, cur, hv, hg, ?_, r⟩
  have hne : g ≠ b := fun e => by subst e; unfold isRd at hr; rw [hr] at hh; simp at hh
  rw [o.block g ?_ hne, hh]
  rcases Nat.lt_or_ge g w.heap.size with h' | h'
  · exact h'
  · simp [Array.getElem?_eq_none h'] at hh
theorem back_item {K : List (Int × Int × ByteArray)} {m : Nat} (hm : m < K.length) : ∃ x, K[m]? = some x ∧ x ∈ K ∧ encK (K.drop m) = encI x ++ encK (K.drop (m + 1)) :=
  ⟨K[m], List.getElem?_eq_getElem hm, List.getElem_mem hm, by rw [List.drop_eq_getElem_cons hm]; rfl⟩
theorem encK_size (K : List (Int × Int × ByteArray)) (m : Nat) : (encK (K.drop m)).size ≤ (encK K).size := by
  induction K generalizing m with
  | nil => simp
  | cons x K ih =>
    cases m with
    | zero => exact Nat.le_refl _
    | succ m =>
      have := ih m
      simp only [List.drop_succ_cons, encK, ByteArray.size_append]
      omega
theorem Readb_any (s : ByteArray) (w : World) : Calls Try.prog 17 #[.string s] w fun e w' => e = .returned (.pointer (some ⟨w.heap.size, 0, none⟩)) ∧ isRd w' w.heap.size s 0 ∧ Below w.heap.size w w' := by
  go_enter Try.func17, Try.ntmps17
  go_wp2
  go_ret
  exact ⟨rfl, (MapKept.heap_alloc w _).1, (Below.refl _ _).alloc (Nat.le_refl _) _⟩
theorem Endb (b : Nat) (w : World) (h : isRd w b ⟨#[]⟩ 0) : Calls Try.prog 21 #[.pointer (some ⟨b, 0, none⟩)] w fun r w' => r = .returned (.int .i64 0) ∧ Off b w w' :=
  (End_any b ⟨#[]⟩ 0 w (by decide) h).mono fun _ _ h => ⟨h.1, h.2.2⟩
theorem Leftb (b : Nat) (w : World) (h : isRd w b ⟨#[]⟩ 0) : Calls Try.prog 20 #[.pointer (some ⟨b, 0, none⟩)] w fun r w' => r = .returned (.int .i64 0) ∧ w' = w :=
  Left_any b ⟨#[]⟩ 0 w (by decide) h
theorem back_start (w : World) : BackRel w (w.alloc (.cells #[.pointer none, .int .i64 0, .int .i64 0] 33)) (.slice none 0 0) [] :=
  ⟨World.ownsRow_nil _ _ _ _, ⟨none, [], (MapKept.heap_alloc w _).1, rfl, rfl⟩, (fun _ h => by cases h), Nat.zero_le _, (Below.refl _ _).alloc (Nat.le_refl _) _⟩
theorem keepb_off {c : Nat} {w w' : World} {p : Addr} {v : Value} (h : Off c w w') (hp : p.block < w.heap.size) (hn : p.block ≠ c) (hv : w.cell? p = some v) : w'.cell? p = some v := (World.cell?_of_block (w := w) (h.block p.block hp hn)).trans hv
theorem Offb.of_drew {b : Nat} {w w' : World} (h : Off b w.drew w') : Off b w w' := ⟨h.os, h.tape, h.output, h.size, h.block⟩

set_option maxHeartbeats 8000000 in
theorem back_walk (ao : Option Addr) (len cap : Nat) (f : Nat → Int × Int × ByteArray) (w : World) (ho : IsItems w ao len f) :
    Calls Try.prog 6 #[.slice ao len cap] w fun e w' => e = .returned (.bool true) ∧ Below w.heap.size w w' := by
  have HO : Hid _ := ho
  have ST : Hid _ := back_start w
  obtain ⟨i0, hi, hz0, hz1, hz2⟩ := info_parts info35
  clear ho
  go_enter Try.func6, Try.ntmps6
  go_wp2
  go_loopw [4, 5] (fun v i wr => ∃ (k : Nat) (K : List (Int × Int × ByteArray)), k ≤ len ∧ k ≤ 60 ∧ i = .int .i64 k ∧ K.length ≤ k ∧ BackRel w wr v K) (fun _ i _ => 60 - (intOf i).toNat)
  case atStart => exact ⟨0, [], Nat.zero_le _, Nat.zero_le _, rfl, Nat.zero_le _, ST.out⟩
  case round =>
    obtain ⟨k, K, hk, hk2, rfl, hKl, hrel⟩ := hrel
    obtain ⟨hown, hwr, hok, hsz, hbel⟩ := hrel
    have HOK : Hid _ := hok
    clear hok ST
    by_cases hlt : k < len
    · by_cases hlt2 : k < 60
      · obtain ⟨b, off, rfl, hb, hc0, hc1, hc2⟩ := HO.out k hlt
        generalize f k = x at hc0 hc1 hc2
        have hq0 : wr.cell? ⟨b, off + k * 3, none⟩ = some (.int .i64 x.1) := (hbel.cell (by exact hb)).trans hc0
        have hq1 : wr.cell? ⟨b, off + k * 3 + 1, none⟩ = some (.int .i64 x.2.1) := (hbel.cell (by exact hb)).trans hc1
        have hq2 : wr.cell? ⟨b, off + k * 3 + 2, none⟩ = some (.string x.2.2) := (hbel.cell (by exact hb)).trans hc2
        clear hc0 hc1 hc2 HO
        have hSz : w.heap.size ≤ wr.heap.size := hbel.size
        have hwlt := hwr.lt
        have hXne : wr.heap.size ≠ w.heap.size := by omega
        have C0 : Hid _ := fun w1 => put_any ⟨#[]⟩ x.1 x.2.1 w1 (by decide)
        obtain ⟨pv, pe, hpv⟩ : ∃ pv pe, putV ⟨#[]⟩ x.1 x.2.1 = (pv, pe) := ⟨_, _, rfl⟩
        rw [hpv] at C0
        dsimp only at C0
        by_cases h0 : x.2.1 = 0
        · have h0' : (x.2.1 == 0) = true := by simpa using h0
          have h0'' : (x.2.1 != 0) = false := by simpa using h0
          by_cases hl : x.2.2.size ≤ 65535
          · have hl' : (x.2.2.size : Int) ≤ 65535 := by omega
            have C1 : Hid (∀ w1, WrIs w1 w.heap.size (encK K) 0 → Calls Try.prog 14 #[.pointer (some ⟨w.heap.size, 0, none⟩), .string x.2.2] w1 fun r w' => r = .returned (.tuple #[]) ∧ WrIs w' w.heap.size (encK K ++ encI x) 0 ∧ Off w.heap.size w1 w') := by
              intro w1 h1
              have c1 := WText_all w.heap.size (encK K) 0 x.2.2 w1 h1 (by omega)
              rw [textV_lay, textV_enc h0 hl] at c1
              exact c1
            have HX : Hid (okI x) := .inl ⟨h0, hl⟩
            clear hpv h0
            go_wp2_with (first | (go_at_call 10; refine (C0.out _).mono ?_; rintro _ w1 ⟨rfl, hb0⟩; have hbx := box_new hb0; have hx1 := hbx.1; have hb1 := hbx.2; clear hb0 hbx; have hd0 := hx1.c0; have hd1 := hx1.c1; have hd2 := hx1.c2) | (go_at_call 14; refine (C1.out _ (hwr.below hb1)).mono ?_; rintro _ w2 ⟨rfl, hwr2, o2⟩; have hx2 := hx1.off o2 hXne; have he0 := hx2.c0; have he1 := hx2.c1; have he2 := hx2.c2; have hown2 := owns_off (owns_below hown hb1) o2 (Nat.lt_succ_self _)) | (at_builtin; refine wpList_append_own _ rfl (.tmp 50) (.tmp 52) 29 rfl (w.heap.size + 1) 35 i0 (.agg #[.int .i64 0, .int .i64 0, .string ⟨#[]⟩]) 3 32 Try.underlying29 hi hz0 hz1 hz2 rfl (by decide) _ _ _ rfl (hown2.alloc _) ⟨w2.heap.size, 0, none⟩ 1 1 [.int .i64 x.1, .int .i64 x.2.1, .string x.2.2] rfl rfl (box_cells _ _) (box_one _) ?c3 ?c4 ?c5 ?_))
            case c3 => unfold maxLen; omega
            case c4 => omega
            case c5 => exact Nat.le_trans hwlt (Nat.le_trans hb1.size (Nat.le_trans o2.size (by simp [go_sem])))
            intro v' w3 hown3 hgrow _
            have R : Hid _ := backrel_step hown2 hwr2 HOK.out HX.out hsz ((hbel.trans (hb1.mono hSz)).trans (o2.below (Nat.le_refl _) (Nat.le_trans hSz hb1.size))) hown3 hgrow
            clear hown3 hgrow hown hown2 hwr2
            go_wp2
            go_roundw
            case rel => exact ⟨k + 1, K ++ [x], by omega, by omega, by go_num, by simp; omega, R.out⟩
            case measure => simp [intOf]; omega
          · have hl' : ¬ (x.2.2.size : Int) ≤ 65535 := by omega
            clear hpv h0
            go_wp2_with (go_at_call 10; refine (C0.out _).mono ?_; rintro _ w1 ⟨rfl, hb0⟩; have hbx := box_new hb0; have hx1 := hbx.1; have hb1 := hbx.2; clear hb0 hbx; have hd0 := hx1.c0; have hd1 := hx1.c1; have hd2 := hx1.c2)
            go_roundw
            case rel => exact ⟨k + 1, K, by omega, by omega, by go_num, by omega, owns_below hown hb1, hwr.below hb1, HOK.out, hsz, hbel.trans (hb1.mono hSz)⟩
            case measure => simp [intOf]; omega
        · have h0' : (x.2.1 == 0) = false := by simpa using h0
          have h0'' : (x.2.1 != 0) = true := by simpa using h0
          by_cases hpe : pe = 0
          · subst hpe
            have henc := fun A => putV_enc (x := x) h0 A (by rw [hpv])
            have C1 : Hid (∀ w1, WrIs w1 w.heap.size (encK K) 0 → Calls Try.prog 15 #[.pointer (some ⟨w.heap.size, 0, none⟩), .int .i64 x.1, .int .i64 x.2.1] w1 fun r w' => r = .returned (.tuple #[]) ∧ WrIs w' w.heap.size (encK K ++ encI x) 0 ∧ Off w.heap.size w1 w') := by
              intro w1 h1
              have c1 := WNum_any w.heap.size (encK K) 0 x.1 x.2.1 w1 h1 (by omega)
              rw [putV_lay, (henc _).1] at c1
              exact c1
            have HX : Hid (okI x) := (henc ⟨#[]⟩).2
            clear hpv h0 henc
            go_wp2_with (first | (go_at_call 10; refine (C0.out _).mono ?_; rintro _ w1 ⟨rfl, hb0⟩; have hbx := box_new hb0; have hx1 := hbx.1; have hb1 := hbx.2; clear hb0 hbx; have hd0 := hx1.c0; have hd1 := hx1.c1; have hd2 := hx1.c2) | (go_at_call 15; refine (C1.out _ (hwr.below hb1)).mono ?_; rintro _ w2 ⟨rfl, hwr2, o2⟩; have hx2 := hx1.off o2 hXne; have he0 := hx2.c0; have he1 := hx2.c1; have he2 := hx2.c2; have hown2 := owns_off (owns_below hown hb1) o2 (Nat.lt_succ_self _)) | (at_builtin; refine wpList_append_own _ rfl (.tmp 67) (.tmp 69) 29 rfl (w.heap.size + 1) 35 i0 (.agg #[.int .i64 0, .int .i64 0, .string ⟨#[]⟩]) 3 32 Try.underlying29 hi hz0 hz1 hz2 rfl (by decide) _ _ _ rfl (hown2.alloc _) ⟨w2.heap.size, 0, none⟩ 1 1 [.int .i64 x.1, .int .i64 x.2.1, .string x.2.2] rfl rfl (box_cells _ _) (box_one _) ?c3 ?c4 ?c5 ?_))
            case c3 => unfold maxLen; omega
            case c4 => omega
            case c5 => exact Nat.le_trans hwlt (Nat.le_trans hb1.size (Nat.le_trans o2.size (by simp [go_sem])))
            intro v' w3 hown3 hgrow _
            have R : Hid _ := backrel_step hown2 hwr2 HOK.out HX.out hsz ((hbel.trans (hb1.mono hSz)).trans (o2.below (Nat.le_refl _) (Nat.le_trans hSz hb1.size))) hown3 hgrow
            clear hown3 hgrow hown hown2 hwr2
            go_wp2
            go_roundw
            case rel => exact ⟨k + 1, K ++ [x], by omega, by omega, by go_num, by simp; omega, R.out⟩
            case measure => simp [intOf]; omega
          · have hpe' : (pe == 0) = false := by simpa using hpe
            clear hpv h0
            go_wp2_with (go_at_call 10; refine (C0.out _).mono ?_; rintro _ w1 ⟨rfl, hb0⟩; have hbx := box_new hb0; have hx1 := hbx.1; have hb1 := hbx.2; clear hb0 hbx; have hd0 := hx1.c0; have hd1 := hx1.c1; have hd2 := hx1.c2)
            go_roundw
            case rel => exact ⟨k + 1, K, by omega, by omega, by go_num, by omega, owns_below hown hb1, hwr.below hb1, HOK.out, hsz, hbel.trans (hb1.mono hSz)⟩
            case measure => simp [intOf]; omega
      · skip
        have hKz := encK_size K
        have hbig : (encK K).size ≤ 140737488351232 := by omega
        have CA : Hid _ := fun w1 h => All_any w.heap.size (encK K) w1 h hbig
        go_wp2_with (first | (go_at_call 16; refine (CA.out _ hwr).mono ?_; rintro _ w1 ⟨rfl, hb1⟩) | (go_at_call 17; refine (Readb_any _ _).mono ?_; rintro _ w2 ⟨rfl, hrd2, hb2⟩))
        have hown2 := owns_below (owns_below hown hb1) hb2
        have hbel2 := (hbel.trans (hb1.mono hbel.size)).trans (hb2.mono (Nat.le_trans hbel.size hb1.size))
        have hR : w.heap.size ≤ w1.heap.size := Nat.le_trans hbel.size hb1.size
        clear hown hwr hbel hb1 hb2 CA HO
        generalize w1.heap.size = R at *
        go_loopw [12] (fun j wr2 => ∃ m : Nat, m ≤ K.length ∧ j = .int .i64 m ∧ isRd wr2 R (encK (K.drop m)) 0 ∧ wr2.ownsRow (w.heap.size + 1) 35 3 u4 K.length (cellsK K) ∧ Below w.heap.size w wr2) (fun j _ => K.length - (intOf j).toNat)
        case atStart => exact ⟨0, Nat.zero_le _, rfl, hrd2, hown2, hbel2⟩
        case round =>
          clear hrd2 hown2 hbel2
          obtain ⟨m, hm, rfl, hrd, hown, hbel⟩ := hrel
          have hSz2 := hbel.size
          rcases Joins.ownsRow_forms hown with ⟨rfl, hn0⟩ | ⟨g, cp, rfl⟩
          · have hK : K = [] := List.eq_nil_of_length_eq_zero hn0
            subst hK
            have hm0 : m = 0 := by simpa using hm
            subst hm0
            have hrd' : isRd wr R ⟨#[]⟩ 0 := hrd
            go_wp2_with (first | (go_at_call 20; refine (Leftb _ _ hrd').mono ?_; rintro _ w3 ⟨rfl, rfl⟩) | (go_at_call 21; refine (Endb _ _ hrd').mono ?_; rintro _ w4 ⟨rfl, o4⟩) | (go_at_call 11; refine (awake_any _).mono ?_; rintro _ w5 ⟨rfl, hb5⟩))
            go_ret
            exact ⟨rfl, (hbel.trans (o4.below hR hSz2)).trans (hb5.mono (Nat.le_trans hSz2 o4.size))⟩
          · by_cases hmlt : m < K.length
            · obtain ⟨x, hx, hxm, henc⟩ := back_item hmlt
              have hxo := HOK.out x hxm
              obtain ⟨q0, q1, q2⟩ := cellsK_get K m x hx
              have hz0' : wr.cell? ⟨g, m * 3, none⟩ = some (.int .i64 x.1) := (hown.cellAt (m * 3) (by omega)).trans q0
              have hz1' : wr.cell? ⟨g, m * 3 + 1, none⟩ = some (.int .i64 x.2.1) := (hown.cellAt (m * 3 + 1) (by omega)).trans q1
              have hz2' : wr.cell? ⟨g, m * 3 + 2, none⟩ = some (.string x.2.2) := (hown.cellAt (m * 3 + 2) (by omega)).trans q2
              have hgl : g < wr.heap.size := (hown.lt g rfl).2
              have hgR : g ≠ R := fun e => by
                subst e
                obtain ⟨cur, fr, ht⟩ := owns_tag hown g rfl
                unfold isRd at hrd
                rw [hrd] at ht
                simp at ht
              have hez := encK_size K m
              rw [henc] at hrd hez
              have OW : Hid _ := hown
              clear q0 q1 q2 hx hown henc
              by_cases h0 : x.2.1 = 0
              · have h0' : (x.2.1 == 0) = true := by simpa using h0
                have C1 : Hid _ := fun w1 h => RText_any R (encI x ++ encK (K.drop (m + 1))) 0 65535 w1 (by omega) h
                rw [rdItem_text hxo h0] at C1
                dsimp only at C1
                go_wp2
                go_region_held3 (fun w' => w'.cell? ⟨g, m * 3 + 2, none⟩ = some (.string x.2.2)) (first | exact keep1 | exact hz2' | go_keep) (first | (go_at_call 18; refine (C1.out _ ?_).mono ?_; exact hrd; rintro _ w3 ⟨rfl, hrd3, o0⟩; have o3 := Offb.of_drew o0; clear o0; have keep1 := keepb_off o3 hgl hgR hz2'))
                go_wp2
                go_roundw
                case rel => exact ⟨m + 1, by omega, by go_num, hrd3, owns_rd OW.out hrd o3, hbel.trans (o3.below hR hSz2)⟩
                case measure => simp [intOf]; omega
              · have h0' : (x.2.1 == 0) = false := by simpa using h0
                have C1 : Hid _ := fun w1 h => Num_any R (encI x ++ encK (K.drop (m + 1))) 0 x.2.1 w1 (by omega) h
                obtain ⟨e1, e2⟩ := rdItem_num (b := encK (K.drop (m + 1))) hxo h0
                rw [e1] at C1
                dsimp only at C1
                rw [e2] at C1
                clear e1 e2
                go_wp2
                go_region_held3 (fun w' => w'.cell? ⟨g, m * 3, none⟩ = some (.int .i64 x.1) ∧ w'.cell? ⟨g, m * 3 + 1, none⟩ = some (.int .i64 x.2.1)) (first | exact keep1 | exact ⟨hz0', hz1'⟩ | go_keep) (first | (go_at_call 19; refine (C1.out _ ?_).mono ?_; exact hrd; rintro _ w3 ⟨rfl, hrd3, o0⟩; have o3 := Offb.of_drew o0; clear o0; have keep1 := And.intro (keepb_off o3 hgl hgR hz0') (keepb_off o3 hgl hgR hz1')))
                go_wp2
                go_roundw
                case rel => exact ⟨m + 1, by omega, by go_num, hrd3, owns_rd OW.out hrd o3, hbel.trans (o3.below hR hSz2)⟩
                case measure => simp [intOf]; omega
            · have hme : m = K.length := by omega
              have hrd' : isRd wr R ⟨#[]⟩ 0 := by rw [hme, List.drop_length] at hrd; exact hrd
              go_wp2_with (first | (go_at_call 20; refine (Leftb _ _ hrd').mono ?_; rintro _ w3 ⟨rfl, rfl⟩) | (go_at_call 21; refine (Endb _ _ hrd').mono ?_; rintro _ w4 ⟨rfl, o4⟩) | (go_at_call 11; refine (awake_any _).mono ?_; rintro _ w5 ⟨rfl, hb5⟩))
              go_ret
              exact ⟨rfl, (hbel.trans (o4.below hR hSz2)).trans (hb5.mono (Nat.le_trans hSz2 o4.size))⟩
    · skip
      have hKz := encK_size K
      have hbig : (encK K).size ≤ 140737488351232 := by omega
      have CA : Hid _ := fun w1 h => All_any w.heap.size (encK K) w1 h hbig
      go_wp2_with (first | (go_at_call 16; refine (CA.out _ hwr).mono ?_; rintro _ w1 ⟨rfl, hb1⟩) | (go_at_call 17; refine (Readb_any _ _).mono ?_; rintro _ w2 ⟨rfl, hrd2, hb2⟩))
      have hown2 := owns_below (owns_below hown hb1) hb2
      have hbel2 := (hbel.trans (hb1.mono hbel.size)).trans (hb2.mono (Nat.le_trans hbel.size hb1.size))
      have hR : w.heap.size ≤ w1.heap.size := Nat.le_trans hbel.size hb1.size
      clear hown hwr hbel hb1 hb2 CA HO
      generalize w1.heap.size = R at *
      go_loopw [12] (fun j wr2 => ∃ m : Nat, m ≤ K.length ∧ j = .int .i64 m ∧ isRd wr2 R (encK (K.drop m)) 0 ∧ wr2.ownsRow (w.heap.size + 1) 35 3 u4 K.length (cellsK K) ∧ Below w.heap.size w wr2) (fun j _ => K.length - (intOf j).toNat)
      case atStart => exact ⟨0, Nat.zero_le _, rfl, hrd2, hown2, hbel2⟩
      case round =>
        clear hrd2 hown2 hbel2
        obtain ⟨m, hm, rfl, hrd, hown, hbel⟩ := hrel
        have hSz2 := hbel.size
        rcases Joins.ownsRow_forms hown with ⟨rfl, hn0⟩ | ⟨g, cp, rfl⟩
        · have hK : K = [] := List.eq_nil_of_length_eq_zero hn0
          subst hK
          have hm0 : m = 0 := by simpa using hm
          subst hm0
          have hrd' : isRd wr R ⟨#[]⟩ 0 := hrd
          go_wp2_with (first | (go_at_call 20; refine (Leftb _ _ hrd').mono ?_; rintro _ w3 ⟨rfl, rfl⟩) | (go_at_call 21; refine (Endb _ _ hrd').mono ?_; rintro _ w4 ⟨rfl, o4⟩) | (go_at_call 11; refine (awake_any _).mono ?_; rintro _ w5 ⟨rfl, hb5⟩))
          go_ret
          exact ⟨rfl, (hbel.trans (o4.below hR hSz2)).trans (hb5.mono (Nat.le_trans hSz2 o4.size))⟩
        · by_cases hmlt : m < K.length
          · obtain ⟨x, hx, hxm, henc⟩ := back_item hmlt
            have hxo := HOK.out x hxm
            obtain ⟨q0, q1, q2⟩ := cellsK_get K m x hx
            have hz0' : wr.cell? ⟨g, m * 3, none⟩ = some (.int .i64 x.1) := (hown.cellAt (m * 3) (by omega)).trans q0
            have hz1' : wr.cell? ⟨g, m * 3 + 1, none⟩ = some (.int .i64 x.2.1) := (hown.cellAt (m * 3 + 1) (by omega)).trans q1
            have hz2' : wr.cell? ⟨g, m * 3 + 2, none⟩ = some (.string x.2.2) := (hown.cellAt (m * 3 + 2) (by omega)).trans q2
            have hgl : g < wr.heap.size := (hown.lt g rfl).2
            have hgR : g ≠ R := fun e => by
              subst e
              obtain ⟨cur, fr, ht⟩ := owns_tag hown g rfl
              unfold isRd at hrd
              rw [hrd] at ht
              simp at ht
            have hez := encK_size K m
            rw [henc] at hrd hez
            have OW : Hid _ := hown
            clear q0 q1 q2 hx hown henc
            by_cases h0 : x.2.1 = 0
            · have h0' : (x.2.1 == 0) = true := by simpa using h0
              have C1 : Hid _ := fun w1 h => RText_any R (encI x ++ encK (K.drop (m + 1))) 0 65535 w1 (by omega) h
              rw [rdItem_text hxo h0] at C1
              dsimp only at C1
              go_wp2
              go_region_held3 (fun w' => w'.cell? ⟨g, m * 3 + 2, none⟩ = some (.string x.2.2)) (first | exact keep1 | exact hz2' | go_keep) (first | (go_at_call 18; refine (C1.out _ ?_).mono ?_; exact hrd; rintro _ w3 ⟨rfl, hrd3, o0⟩; have o3 := Offb.of_drew o0; clear o0; have keep1 := keepb_off o3 hgl hgR hz2'))
              go_wp2
              go_roundw
              case rel => exact ⟨m + 1, by omega, by go_num, hrd3, owns_rd OW.out hrd o3, hbel.trans (o3.below hR hSz2)⟩
              case measure => simp [intOf]; omega
            · have h0' : (x.2.1 == 0) = false := by simpa using h0
              have C1 : Hid _ := fun w1 h => Num_any R (encI x ++ encK (K.drop (m + 1))) 0 x.2.1 w1 (by omega) h
              obtain ⟨e1, e2⟩ := rdItem_num (b := encK (K.drop (m + 1))) hxo h0
              rw [e1] at C1
              dsimp only at C1
              rw [e2] at C1
              clear e1 e2
              go_wp2
              go_region_held3 (fun w' => w'.cell? ⟨g, m * 3, none⟩ = some (.int .i64 x.1) ∧ w'.cell? ⟨g, m * 3 + 1, none⟩ = some (.int .i64 x.2.1)) (first | exact keep1 | exact ⟨hz0', hz1'⟩ | go_keep) (first | (go_at_call 19; refine (C1.out _ ?_).mono ?_; exact hrd; rintro _ w3 ⟨rfl, hrd3, o0⟩; have o3 := Offb.of_drew o0; clear o0; have keep1 := And.intro (keepb_off o3 hgl hgR hz0') (keepb_off o3 hgl hgR hz1')))
              go_wp2
              go_roundw
              case rel => exact ⟨m + 1, by omega, by go_num, hrd3, owns_rd OW.out hrd o3, hbel.trans (o3.below hR hSz2)⟩
              case measure => simp [intOf]; omega
          · have hme : m = K.length := by omega
            have hrd' : isRd wr R ⟨#[]⟩ 0 := by rw [hme, List.drop_length] at hrd; exact hrd
            go_wp2_with (first | (go_at_call 20; refine (Leftb _ _ hrd').mono ?_; rintro _ w3 ⟨rfl, rfl⟩) | (go_at_call 21; refine (Endb _ _ hrd').mono ?_; rintro _ w4 ⟨rfl, o4⟩) | (go_at_call 11; refine (awake_any _).mono ?_; rintro _ w5 ⟨rfl, hb5⟩))
            go_ret
            exact ⟨rfl, (hbel.trans (o4.below hR hSz2)).trans (hb5.mono (Nat.le_trans hSz2 o4.size))⟩
end Go.Proofs.Ytdgdbfodcccmcaa
