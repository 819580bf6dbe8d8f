/- The store's Write of a page that there is, of 224 bytes, of a record that has room. -/
import Derived.Test.YtdgnfglghiecpaaStM
import Derived.Deep.RegionHeld3
namespace Go.Proofs.Ytdgnfglghiecpaa
open Go.RowKit Go.Maps Go.ChangeMaps
set_option linter.unusedVariables false
set_option linter.unusedSimpArgs false
set_option maxRecDepth 100000

variable {w w' : World} {db lb mb m sb : Nat} {S : Dk} {base pages gen : Nat}

theorem Off.drewN {B : Nat → Prop} {a w : World} (h : Off B a w) (n : Nat) : Off B a (w.drewN n) := ⟨h.os, h.tape, h.output, h.size, h.block⟩
set_option maxHeartbeats 1000000 in
theorem StWrite_good (w : World) (h : StIs w sb db base pages gen) (hD : DkIs w db lb mb m S) {q : Nat} (hq : Dq q S) (hk : q ≤ 90000) (hm : m ≤ 90000) (hne : ¬ disk3 db lb mb sb) (hp : base + 4 * pages ≤ 8192)
    (id : Nat) (hid : id < pages) (hg : gen ≤ 65535) (text : ByteArray) (ht : text.size = 224) (l : Nat) (hl : l < 281474976710656) :
    Calls Try.prog 15 #[.pointer (some ⟨sb, 0, none⟩), .int .i64 (id : Int), .string text, .int .i64 (l : Int)] w fun e w' =>
      e = .returned (.int .i64 (wrK (base + 4 * id) (sec gen l text) S 4).2) ∧ DkIs w' db lb mb (m + 4) (wrK (base + 4 * id) (sec gen l text) S 4).1 ∧ Off (disk3 db lb mb) w w' := by
  have C0 : Hid (∀ w, StIs w sb db base pages gen → Calls Try.prog 29 #[.pointer (some ⟨sb, 0, none⟩), .int .i64 (id : Int)] w fun e w' => e = .returned (.int .i64 0) ∧ w' = w) := fun w h => by
    have := strefusal_any w h (id : Int)
    have e : stRef pages (id : Int) = 0 := by simp [stRef]; omega
    rwa [e] at this
  have CL : Hid (∀ w, Calls Try.prog 30 #[.agg #[.int .i64 (gen : Int), .int .i64 (l : Int)]] w fun e w' => e = .returned (.tuple #[.string (hd gen l), .int .i64 0]) ∧ Below w.heap.size w w') := fun w => by
    have := laid_any w gen (l : Int) hg
    have e : laidV gen (l : Int) = (hd gen l, 0) := by
      unfold laidV; rw [if_neg (by omega)]; rfl
    rwa [e] at this
  obtain ⟨T, hT⟩ : ∃ T, T = wrK (base + 4 * id) (sec gen l text) S := ⟨_, rfl⟩
  have hT0 : Hid (T 0 = (S, 0)) := by rw [hT]; rfl
  have hTd : Hid (∀ k, k ≤ 4 → Dq (q + k) (T k).1) := by rw [hT]; exact wrK_dq hq hk
  have hTe : Hid (∀ k, (T k).2 ≠ 0 → ∀ n, T (k + n) = T k) := by rw [hT]; exact fun k h => wrK_err h
  have hTs : Hid (∀ k, (T k).2 = 0 → T (k + 1) = (writeDk (T k).1 ((base + 4 * id + k : Nat) : Int) (sec gen l text k), writeE (T k).1 ((base + 4 * id + k : Nat) : Int) (sec gen l text k))) := by
    rw [hT]; intro k h; rw [wrK, if_pos h]
  rw [← hT]
  clear hT
  have CS : Hid (∀ w (j : Nat), StIs w sb db base pages gen → j ≤ 4 → Calls Try.prog 31 #[.pointer (some ⟨sb, 0, none⟩), .int .i64 (id : Int), .int .i64 (j : Int)] w fun e w' => e = .returned (.int .i64 ((base + 4 * id + j : Nat) : Int)) ∧ w' = w) :=
    fun w j h hj => sector_any w h id j (by omega)
  have CW : Hid (∀ w (j : Nat), DkIs w db lb mb (m + j) (T j).1 → j < 4 → (T j).2 = 0 → Calls Try.prog 21 #[.pointer (some ⟨db, 0, none⟩), .int .i64 ((base + 4 * id + j : Nat) : Int), .string (sec gen l text j)] w fun e w' =>
      e = .returned (.int .i64 (T (j + 1)).2) ∧ DkIs w' db lb mb (m + (j + 1)) (T (j + 1)).1 ∧ Off (disk3 db lb mb) w w') := fun w j h hj hz => by
    have := Write_any w h (hTd.out j (by omega)).ok (by omega) ((base + 4 * id + j : Nat) : Int) (sec gen l text j) (by rw [sec_size ht hj]; omega)
    rw [hTs.out j hz]; exact this
  have hsec : Hid (∀ j, hd gen l ++ text.extract (j * 56) ((j + 1) * 56) = sec gen l text j) := fun j => rfl
  have hz1 := hd_size gen l
  have hc3 := h.c3
  have hid2 : (id : Int) ≤ 8192 := by omega
  have H : Hid _ := h
  have HD : Hid _ := hD
  clear h hD hid hp hq
  generalize hd gen l = HH at *
  go_enter Try.func15, Try.ntmps15
  go_wp2_with (first
    | (go_at_call 29; refine (C0.out _ H.out).mono ?_; rintro e w' ⟨rfl, rfl⟩)
    | (go_at_call 30; refine (CL.out _).mono ?_; rintro e w1 ⟨rfl, b1⟩))
  go_loopw [37] (fun i wr => ∃ j : Nat, j ≤ 4 ∧ i = .int .i64 j ∧ Hid ((T j).2 = 0) ∧ DkIs wr db lb mb (m + j) (T j).1 ∧ StIs wr sb db base pages gen ∧ Off (disk3 db lb mb) w' wr) (fun i _ => 4 - (intOf i).toNat)
  case atStart =>
    refine ⟨0, by omega, rfl, ?_, ?_, H.out.below b1, Off.of_below b1⟩
    · show (T 0).2 = 0
      rw [hT0.out]
    · rw [hT0.out]; exact HD.out.below b1
  case round =>
    obtain ⟨j, hj, rfl, hz, hd, hs, ho⟩ := hrel
    by_cases hlt : j < 4
    · have hc0 := hs.c0
      have hzc : (text.extract (j * 56) ((j + 1) * 56)).size = 56 := by rw [ByteArray.size_extract, ht]; omega
      have hx1 : (j : Int) * 56 ≤ 224 := by omega
      have hx2 : ((j : Int) + 1) * 56 ≤ 224 := by omega
      have hcat : HH ++ text.extract (j * 56) ((j + 1) * 56) = sec gen l text j := hsec.out j
      have hsl := hs.lt
      go_wp2
      go_region_held3 (fun W => W.cell? ⟨sb, 0, none⟩ = some (.pointer (some ⟨db, 0, none⟩))) (first | exact keep1 | exact hc0 | go_keep) (first
        | (go_at_call 31; refine (CS.out _ j ?_ ?_).mono ?_; exact hs.drew; exact hj; rintro e w2 ⟨rfl, rfl⟩)
        | (go_at_call 21; refine (CW.out _ j ?_ ?_ ?_).mono ?_; exact hd.drew; exact hlt; exact hz.out; rintro e w3 ⟨rfl, hD3, o3⟩; have keep1 := (o3.cell (p := ⟨sb, 0, none⟩) hsl hne).trans hc0))
      clear keep1 hc0 hcat hx1 hx2 hzc
      have oo := ho.drew.trans o3
      have hs3 := hs.drew.off o3 hne
      by_cases he : (T (j + 1)).2 = 0
      · have heb : ((T (j + 1)).2 != 0) = false := by simpa using he
        go_wp2
        go_roundw
        case rel => exact ⟨j + 1, by omega, by go_num, he, hD3, hs3, oo⟩
        case measure => simp [intOf]; omega
      · have heb : ((T (j + 1)).2 != 0) = true := by simpa using he
        have hee : T 4 = T (j + 1) := by
          have := hTe.out (j + 1) he (3 - j)
          rwa [show j + 1 + (3 - j) = 4 by omega] at this
        have HE : Hid _ := hee
        clear hee
        go_wp2
        go_ret
        rw [HE.out]
        exact ⟨rfl, hD3.mono (by omega), oo⟩
    · obtain rfl : j = 4 := by omega
      go_wp2
      go_ret
      exact ⟨by rw [hz.out]; rfl, hd, ho⟩
/-- What Write tells, and the disk behind it. -/
def stOut (base pages gen : Nat) (S : Dk) (id : Int) (text : ByteArray) (l : Int) : Dk × Int :=
  if id < 0 ∨ (pages : Int) ≤ id then (S, 6) else if text.size ≠ 224 then (S, 4) else if l < 0 ∨ 281474976710656 ≤ l then (S, 6) else wrK (base + 4 * id.toNat) (sec gen l.toNat text) S 4
theorem StWrite_nil (id : Int) (text : ByteArray) (l : Int) (w : World) : Calls Try.prog 15 #[.pointer none, .int .i64 id, .string text, .int .i64 l] w fun e w' => e = .returned (.int .i64 11) ∧ w' = w := by
  go_enter Try.func15, Try.ntmps15
  go_wp2_with (go_at_call 29; refine (strefusal_nil _ _).mono ?_; rintro e w' ⟨rfl, rfl⟩)
  go_ret
  exact ⟨rfl, rfl⟩
theorem StWrite_bad (w : World) (h : StIs w sb db base pages gen) (id : Int) (text : ByteArray) (l : Int) (hid : id < 0 ∨ (pages : Int) ≤ id) :
    Calls Try.prog 15 #[.pointer (some ⟨sb, 0, none⟩), .int .i64 id, .string text, .int .i64 l] w fun e w' => e = .returned (.int .i64 6) ∧ w' = w := by
  have C0 : Hid (∀ w, StIs w sb db base pages gen → Calls Try.prog 29 #[.pointer (some ⟨sb, 0, none⟩), .int .i64 id] w fun e w' => e = .returned (.int .i64 6) ∧ w' = w) := fun w h => by
    have := strefusal_any w h id
    have e : stRef pages id = 6 := by unfold stRef; rw [if_pos hid]
    rwa [e] at this
  have H : Hid _ := h
  clear h hid
  go_enter Try.func15, Try.ntmps15
  go_wp2_with (go_at_call 29; refine (C0.out _ H.out).mono ?_; rintro e w' ⟨rfl, rfl⟩)
  go_ret
  exact ⟨rfl, rfl⟩
theorem StWrite_form (w : World) (h : StIs w sb db base pages gen) (id : Int) (text : ByteArray) (l : Int) (hid : ¬ (id < 0 ∨ (pages : Int) ≤ id)) (hs : text.size ≤ 140737488351232) (ht : text.size ≠ 224) :
    Calls Try.prog 15 #[.pointer (some ⟨sb, 0, none⟩), .int .i64 id, .string text, .int .i64 l] w fun e w' => e = .returned (.int .i64 4) ∧ w' = w := by
  have C0 : Hid (∀ w, StIs w sb db base pages gen → Calls Try.prog 29 #[.pointer (some ⟨sb, 0, none⟩), .int .i64 id] w fun e w' => e = .returned (.int .i64 0) ∧ w' = w) := fun w h => by
    have := strefusal_any w h id
    have e : stRef pages id = 0 := by unfold stRef; rw [if_neg hid]
    rwa [e] at this
  have hb : ((text.size : Int) != 224) = true := by simp; omega
  have H : Hid _ := h
  clear h hid
  go_enter Try.func15, Try.ntmps15
  go_wp2_with (go_at_call 29; refine (C0.out _ H.out).mono ?_; rintro e w' ⟨rfl, rfl⟩)
  go_ret
  exact ⟨rfl, rfl⟩
theorem StWrite_range (w : World) (h : StIs w sb db base pages gen) (id : Int) (text : ByteArray) (l : Int) (hid : ¬ (id < 0 ∨ (pages : Int) ≤ id)) (hg : gen ≤ 65535) (ht : text.size = 224) (hl : l < 0 ∨ 281474976710656 ≤ l) :
    Calls Try.prog 15 #[.pointer (some ⟨sb, 0, none⟩), .int .i64 id, .string text, .int .i64 l] w fun e w' => e = .returned (.int .i64 6) ∧ Below w.heap.size w w' := by
  have C0 : Hid (∀ w, StIs w sb db base pages gen → Calls Try.prog 29 #[.pointer (some ⟨sb, 0, none⟩), .int .i64 id] w fun e w' => e = .returned (.int .i64 0) ∧ w' = w) := fun w h => by
    have := strefusal_any w h id
    have e : stRef pages id = 0 := by unfold stRef; rw [if_neg hid]
    rwa [e] at this
  have CL : Hid (∀ w, Calls Try.prog 30 #[.agg #[.int .i64 (gen : Int), .int .i64 l]] w fun e w' => e = .returned (.tuple #[.string ⟨#[]⟩, .int .i64 6]) ∧ Below w.heap.size w w') := fun w => by
    have := laid_any w gen l hg
    have e : laidV gen l = (⟨#[]⟩, 6) := by unfold laidV; rw [if_pos hl]
    rwa [e] at this
  have hc3 := h.c3
  have H : Hid _ := h
  clear h hid hl
  go_enter Try.func15, Try.ntmps15
  go_wp2_with (first
    | (go_at_call 29; refine (C0.out _ H.out).mono ?_; rintro e w' ⟨rfl, rfl⟩)
    | (go_at_call 30; refine (CL.out _).mono ?_; rintro e w1 ⟨rfl, b1⟩))
  go_ret
  exact ⟨rfl, b1⟩
theorem StWrite_any (w : World) (h : StIs w sb db base pages gen) (hD : DkIs w db lb mb m S) {q : Nat} (hq : Dq q S) (hk : q ≤ 90000) (hm : m ≤ 90000) (hne : ¬ disk3 db lb mb sb) (hp : base + 4 * pages ≤ 8192)
    (hg : gen ≤ 65535) (id : Int) (text : ByteArray) (hs : text.size ≤ 140737488351232) (l : Int) :
    Calls Try.prog 15 #[.pointer (some ⟨sb, 0, none⟩), .int .i64 id, .string text, .int .i64 l] w fun e w' =>
      e = .returned (.int .i64 (stOut base pages gen S id text l).2) ∧ DkIs w' db lb mb (m + 4) (stOut base pages gen S id text l).1 ∧ Off (disk3 db lb mb) w w' := by
  unfold stOut
  by_cases h1 : id < 0 ∨ (pages : Int) ≤ id
  · rw [if_pos h1]
    refine (StWrite_bad w h id text l h1).mono ?_
    rintro e w' ⟨rfl, rfl⟩
    exact ⟨rfl, hD.mono (by omega), Off.refl _ _⟩
  · rw [if_neg h1]
    by_cases h2 : text.size = 224
    · rw [if_neg (by omega)]
      by_cases h3 : l < 0 ∨ 281474976710656 ≤ l
      · rw [if_pos h3]
        refine (StWrite_range w h id text l h1 hg h2 h3).mono ?_
        rintro e w' ⟨rfl, b⟩
        exact ⟨rfl, (hD.below b).mono (by omega), Off.of_below b⟩
      · rw [if_neg h3]
        have := StWrite_good w h hD hq hk hm hne hp id.toNat (by omega) hg text h2 l.toNat (by omega)
        rw [Int.toNat_of_nonneg (by omega), Int.toNat_of_nonneg (by omega)] at this
        exact this
    · rw [if_pos h2]
      refine (StWrite_form w h id text l h1 hs h2).mono ?_
      rintro e w' ⟨rfl, rfl⟩
      exact ⟨rfl, hD.mono (by omega), Off.refl _ _⟩
end Go.Proofs.Ytdgnfglghiecpaa
