/- The store's Read, Is, Sync, New for whatever arguments; a nil store. -/
import Derived.Test.YtdgnfglghiecpaaStR
namespace Go.Proofs.Ytdgnfglghiecpaa
open Go.RowKit Go.Maps Go.ChangeMaps
set_option linter.unusedVariables false
set_option linter.unusedSimpArgs false
set_option maxRecDepth 100000

variable {w w' : World} {db lb mb m sb : Nat} {S : Dk} {base pages gen : Nat}

def rdOut (base pages gen : Nat) (S : Dk) (id : Int) : ByteArray × Int × Int :=
  if id < 0 ∨ (pages : Int) ≤ id then (⟨#[]⟩, 0, 6) else rdV gen (fun i => S.now (base + 4 * id.toNat + i))
theorem StRead_nil (id : Int) (w : World) : Calls Try.prog 19 #[.pointer none, .int .i64 id] w fun e w' => e = .returned (.tuple #[.string ⟨#[]⟩, .int .i64 0, .int .i64 11]) ∧ w' = w := by
  go_enter Try.func19, Try.ntmps19
  go_wp2_with (go_at_call 29; refine (strefusal_nil _ _).mono ?_; rintro e w' ⟨rfl, rfl⟩)
  go_ret3
  exact ⟨rfl, rfl⟩
theorem StRead_any (w : World) (h : StIs w sb db base pages gen) (hD : DkIs w db lb mb m S) (hS : S.Ok) (hu : S.up = true) (hp : base + 4 * pages ≤ S.n) (id : Int) :
    Calls Try.prog 19 #[.pointer (some ⟨sb, 0, none⟩), .int .i64 id] w fun e w' =>
      e = .returned (.tuple #[.string (rdOut base pages gen S id).1, .int .i64 (rdOut base pages gen S id).2.1, .int .i64 (rdOut base pages gen S id).2.2]) ∧ Below w.heap.size w w' := by
  unfold rdOut
  by_cases h1 : id < 0 ∨ (pages : Int) ≤ id
  · rw [if_pos h1]
    have C0 : Hid (∀ w, StIs w sb db base pages gen → Calls Try.prog 29 #[.pointer (some ⟨sb, 0, none⟩), .int .i64 id] w fun e w' => e = .returned (.int .i64 6) ∧ w' = w) := fun w h => by
      have := strefusal_any w h id
      have e : stRef pages id = 6 := by unfold stRef; rw [if_pos h1]
      rwa [e] at this
    have H : Hid _ := h
    clear h h1 hD
    go_enter Try.func19, Try.ntmps19
    go_wp2_with (go_at_call 29; refine (C0.out _ H.out).mono ?_; rintro e w' ⟨rfl, rfl⟩)
    go_ret3
    exact ⟨rfl, Below.refl _ _⟩
  · rw [if_neg h1]
    have := StRead_good w h hD hS hu id.toNat (by omega) hp
    rw [Int.toNat_of_nonneg (by omega)] at this
    exact this
theorem StIs_nil (id l : Int) (w : World) : Calls Try.prog 20 #[.pointer none, .int .i64 id, .int .i64 l] w fun e w' => e = .returned (.bool false) ∧ w' = w := by
  go_enter Try.func20, Try.ntmps20
  go_wp2_with (go_at_call 19; refine (StRead_nil _ _).mono ?_; rintro e w' ⟨rfl, rfl⟩)
  go_ret
  exact ⟨rfl, rfl⟩
theorem StIs_any (w : World) (h : StIs w sb db base pages gen) (hD : DkIs w db lb mb m S) (hS : S.Ok) (hu : S.up = true) (hp : base + 4 * pages ≤ S.n) (id l : Int) :
    Calls Try.prog 20 #[.pointer (some ⟨sb, 0, none⟩), .int .i64 id, .int .i64 l] w fun e w' =>
      e = .returned (.bool ((rdOut base pages gen S id).2.2 == 0 && (rdOut base pages gen S id).2.1 == l)) ∧ Below w.heap.size w w' := by
  have cr := StRead_any w h hD hS hu hp id
  obtain ⟨T, hT⟩ : ∃ T, T = rdOut base pages gen S id := ⟨_, rfl⟩
  rw [← hT] at cr ⊢
  have CR : Hid (Calls Try.prog 19 #[.pointer (some ⟨sb, 0, none⟩), .int .i64 id] w fun e w' => e = .returned (.tuple #[.string T.1, .int .i64 T.2.1, .int .i64 T.2.2]) ∧ Below w.heap.size w w') := cr
  clear cr
  clear hT h hD
  by_cases e1 : T.2.2 = 0
  · have e1b : (T.2.2 == 0) = true := by simpa using e1
    go_enter Try.func20, Try.ntmps20
    go_wp2_with (go_at_call 19; refine CR.out.mono ?_; rintro e w' ⟨rfl, b1⟩)
    go_ret
    exact ⟨by simp [e1], b1⟩
  · have e1b : (T.2.2 == 0) = false := by simpa using e1
    go_enter Try.func20, Try.ntmps20
    go_wp2_with (go_at_call 19; refine CR.out.mono ?_; rintro e w' ⟨rfl, b1⟩)
    go_ret
    exact ⟨by simp [e1], b1⟩
theorem StSync_nil (w : World) : Calls Try.prog 24 #[.pointer none] w fun e w' => e = .returned (.int .i64 11) ∧ w' = w := by
  go_enter Try.func24, Try.ntmps24
  go_wp2
  go_ret
  exact ⟨rfl, rfl⟩
theorem StSync_any (w : World) (h : StIs w sb db base pages gen) (hD : DkIs w db lb mb m S) (hS : S.Ok) (hm : m ≤ 1000000) :
    Calls Try.prog 24 #[.pointer (some ⟨sb, 0, none⟩)] w fun e w' => e = .returned (.int .i64 (syncE S)) ∧ DkIs w' db lb mb m (syncDk S) ∧ Off (disk3 db lb mb) w w' := by
  have CS : Hid (∀ w, DkIs w db lb mb m S → Calls Try.prog 38 #[.pointer (some ⟨db, 0, none⟩)] w fun e w' =>
    e = .returned (.int .i64 (syncE S)) ∧ DkIs w' db lb mb m (syncDk S) ∧ Off (disk3 db lb mb) w w') := fun w h => Sync_any w h hS hm
  have hc0 := h.c0
  have HD : Hid _ := hD
  clear h hD
  go_enter Try.func24, Try.ntmps24
  go_wp2_with (go_at_call 38; refine (CS.out _ HD.out).mono ?_; rintro e w' ⟨rfl, hd, ho⟩)
  go_ret
  exact ⟨rfl, hd, ho⟩
theorem StNew_nil (b p g : Int) (w : World) : Calls Try.prog 11 #[.pointer none, .int .i64 b, .int .i64 p, .int .i64 g] w fun e w' => e = .returned (.tuple #[.pointer none, .int .i64 1]) ∧ w' = w := by
  go_enter Try.func11, Try.ntmps11
  go_wp2
  go_ret2
  exact ⟨rfl, rfl⟩
/-- Arguments that no store has. -/
def newArg (b p g : Int) : Prop := g < 1 ∨ 65535 < g ∨ b < 0 ∨ p < 1 ∨ 200 < p
theorem StNew_arg (b p g : Int) (w : World) (h : newArg b p g) : Calls Try.prog 11 #[.pointer (some ⟨db, 0, none⟩), .int .i64 b, .int .i64 p, .int .i64 g] w fun e w' => e = .returned (.tuple #[.pointer none, .int .i64 1]) ∧ w' = w := by
  unfold newArg at h
  by_cases h1 : g < 1
  · clear h
    go_enter Try.func11, Try.ntmps11
    go_wp2
    go_ret2
    exact ⟨rfl, rfl⟩
  · by_cases h2 : 65535 < g
    · clear h
      go_enter Try.func11, Try.ntmps11
      go_wp2
      go_ret2
      exact ⟨rfl, rfl⟩
    · by_cases h3 : b < 0
      · clear h
        go_enter Try.func11, Try.ntmps11
        go_wp2
        go_ret2
        exact ⟨rfl, rfl⟩
      · by_cases h4 : p < 1
        · clear h
          go_enter Try.func11, Try.ntmps11
          go_wp2
          go_ret2
          exact ⟨rfl, rfl⟩
        · have h5 : 200 < p := by omega
          clear h
          go_enter Try.func11, Try.ntmps11
          go_wp2
          go_ret2
          exact ⟨rfl, rfl⟩
theorem StNew_range (b p g : Int) (w : World) (hD : DkIs w db lb mb m S) (hS : S.Ok) (h : ¬ newArg b p g) (hb : b ≤ 9223372036854775807) (hr : (S.n : Int) - b < 4 * p) :
    Calls Try.prog 11 #[.pointer (some ⟨db, 0, none⟩), .int .i64 b, .int .i64 p, .int .i64 g] w fun e w' => e = .returned (.tuple #[.pointer none, .int .i64 6]) ∧ w' = w := by
  unfold newArg at h
  have hn2 := hS.n2
  have CZ : Hid (∀ w, DkIs w db lb mb m S → Calls Try.prog 28 #[.pointer (some ⟨db, 0, none⟩)] w fun e w' => e = .returned (.int .i64 S.n) ∧ w' = w) := fun w h => Size_any w h hS.n1
  have h1 : ¬ g < 1 := by omega
  have h2 : ¬ 65535 < g := by omega
  have h3 : ¬ b < 0 := by omega
  have h4 : ¬ p < 1 := by omega
  have h5 : ¬ 200 < p := by omega
  have h6 : (S.n : Int) - b < p * 4 := by omega
  have HD : Hid _ := hD
  clear h hD hr
  go_enter Try.func11, Try.ntmps11
  go_wp2_with (go_at_call 28; refine (CZ.out _ HD.out).mono ?_; rintro e w' ⟨rfl, rfl⟩)
  go_ret2
  exact ⟨rfl, rfl⟩
theorem StNew_good (b p g : Nat) (w : World) (hD : DkIs w db lb mb m S) (hS : S.Ok) (hg1 : 1 ≤ g) (hg2 : g ≤ 65535) (hp1 : 1 ≤ p) (hp2 : p ≤ 200) (hr : b + 4 * p ≤ S.n) :
    Calls Try.prog 11 #[.pointer (some ⟨db, 0, none⟩), .int .i64 (b : Int), .int .i64 (p : Int), .int .i64 (g : Int)] w fun e w' =>
      e = .returned (.tuple #[.pointer (some ⟨w.heap.size, 0, none⟩), .int .i64 0]) ∧ StIs w' w.heap.size db b p g ∧ Below w.heap.size w w' := by
  have hn2 := hS.n2
  have CZ : Hid (∀ w, DkIs w db lb mb m S → Calls Try.prog 28 #[.pointer (some ⟨db, 0, none⟩)] w fun e w' => e = .returned (.int .i64 S.n) ∧ w' = w) := fun w h => Size_any w h hS.n1
  have h1 : ¬ (g : Int) < 1 := by omega
  have h2 : ¬ 65535 < (g : Int) := by omega
  have h3 : ¬ (b : Int) < 0 := by omega
  have h4 : ¬ (p : Int) < 1 := by omega
  have h5 : ¬ 200 < (p : Int) := by omega
  have h6 : ¬ (S.n : Int) - (b : Int) < (p : Int) * 4 := by omega
  have h7 : (p : Int) * 4 ≤ 800 := by omega
  have h8 : (b : Int) ≤ 8192 := by omega
  have HD : Hid _ := hD
  clear hD hr
  go_enter Try.func11, Try.ntmps11
  go_wp2_with (go_at_call 28; refine (CZ.out _ HD.out).mono ?_; rintro e w' ⟨rfl, rfl⟩)
  go_ret2
  exact ⟨rfl, ⟨(MapKept.heap_alloc _ _).1⟩, (Below.refl _ _).alloc (Nat.le_refl _) _⟩
end Go.Proofs.Ytdgnfglghiecpaa
