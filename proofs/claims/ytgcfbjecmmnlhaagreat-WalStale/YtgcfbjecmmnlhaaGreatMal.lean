/- The law's few: a record of at most 2 images, and of at most 3 transactions. The law's awake: chapter 8's example. The law's awake is true. Open's refusals; the law WalOpens. -/
import Derived.Test.YtgcfbjecmmnlhaaGreatMaf
import Derived.Test.YtgcfbjecmmnlhaaGreatMak
namespace Go.Proofs.YtgcfbjecmmnlhaaGreat
open Go.RowKit
set_option linter.unusedVariables false
set_option linter.unusedSimpArgs false
set_option maxRecDepth 100000

def few8M (m : Rm) : Rm := ⟨m.s, m.im.take 2, m.tb.take 3⟩
section
variable {w : World} {s : Sc} {a a' : Option Addr} {n n' c c' : Nat}
set_option maxHeartbeats 400000 in
theorem few8_00 (hi : ¬ (2 : Int) < n) (hn : n ≤ 9223372036854775807) (ht : ¬ (3 : Int) < n') (hn' : n' ≤ 9223372036854775807) : Calls Tryz.prog 19 #[.agg (s.A (.slice a n c) (.slice a' n' c'))] w fun e w' => e = .returned (.agg (s.A (.slice a n c) (.slice a' n' c'))) ∧ Below w.heap.size w w' := by
  go_enter Tryz.func19, Tryz.ntmps19
  go_wp2_with (first
    | (refine wpList_box_rc (s := s) (I := _) (T := _) _ rfl _ rfl rfl ?_; intro w0 b0 N0)
    | (refine wpList_new_rc _ rfl rfl ?_; intro w1 b1 N1; have H := Fw.mk' N0 N1; clear N0 N1; have k9 := H.p.c9; have k10 := H.p.c10)
    | (refine wpList_fput (s' := s) (I' := .slice a 2 c) (T' := .slice a' n' c') _ rfl 34 (.tmp 10) (.tmp 9) rfl rfl rfl H.p (by omega) rfl (by kernel_rfl) rfl ?_; intro w4 P4; have H4 := H.put P4; clear H; have H := H4; clear H4 P4; have k9 := H.p.c9; have k10 := H.p.c10)
    | (refine wpList_fput (s' := s) (I' := _) (T' := .slice a' 3 c') _ rfl 35 (.tmp 18) (.tmp 17) rfl rfl rfl H.p (by omega) rfl (by kernel_rfl) rfl ?_; intro w4 P4; have H4 := H.put P4; clear H; have H := H4; clear H4 P4)
    | (refine wpList_load_rc _ rfl (.tmp 1) rfl rfl H.p ?_)
    | (refine wpList_put_rc (s' := s) (I' := _) (T' := _) _ rfl (.tmp 2) (.tmp 19) rfl rfl rfl H.r rfl rfl ?_; intro w9 P9))
  refine bodyPost_ret (results_rc1 rfl _ _ rfl P9.rc) rfl ?_
  exact ⟨rfl, H.bel.trans (P9.below H.l1 H.bel.size)⟩
set_option maxHeartbeats 400000 in
theorem few8_01 (hi : ¬ (2 : Int) < n) (hn : n ≤ 9223372036854775807) (ht : (3 : Int) < n') (hn' : n' ≤ 9223372036854775807) (hc' : n' ≤ c') (hs' : ∀ ad, a' = some ad → ad.spot = none) : Calls Tryz.prog 19 #[.agg (s.A (.slice a n c) (.slice a' n' c'))] w fun e w' => e = .returned (.agg (s.A (.slice a n c) (.slice a' 3 c'))) ∧ Below w.heap.size w w' := by
  have s2 := fun W => sliceT_to (n := n') 3 (show 3 ≤ c' by omega) hs' W
  have hc0' := hc'
  clear hs'
  go_enter Tryz.func19, Tryz.ntmps19
  go_wp2_with (first
    | (refine wpList_box_rc (s := s) (I := _) (T := _) _ rfl _ rfl rfl ?_; intro w0 b0 N0)
    | (refine wpList_new_rc _ rfl rfl ?_; intro w1 b1 N1; have H := Fw.mk' N0 N1; clear N0 N1; have k9 := H.p.c9; have k10 := H.p.c10)
    | (refine wpList_fput (s' := s) (I' := .slice a 2 c) (T' := .slice a' n' c') _ rfl 34 (.tmp 10) (.tmp 9) rfl rfl rfl H.p (by omega) rfl (by kernel_rfl) rfl ?_; intro w4 P4; have H4 := H.put P4; clear H; have H := H4; clear H4 P4; have k9 := H.p.c9; have k10 := H.p.c10)
    | (refine wpList_fput (s' := s) (I' := _) (T' := .slice a' 3 c') _ rfl 35 (.tmp 18) (.tmp 17) rfl rfl rfl H.p (by omega) rfl (by kernel_rfl) rfl ?_; intro w4 P4; have H4 := H.put P4; clear H; have H := H4; clear H4 P4)
    | (refine wpList_load_rc _ rfl (.tmp 1) rfl rfl H.p ?_)
    | (refine wpList_put_rc (s' := s) (I' := _) (T' := _) _ rfl (.tmp 2) (.tmp 19) rfl rfl rfl H.r rfl rfl ?_; intro w9 P9))
  refine bodyPost_ret (results_rc1 rfl _ _ rfl P9.rc) rfl ?_
  exact ⟨rfl, H.bel.trans (P9.below H.l1 H.bel.size)⟩
set_option maxHeartbeats 400000 in
theorem few8_10 (hi : (2 : Int) < n) (hn : n ≤ 9223372036854775807) (hc : n ≤ c) (ht : ¬ (3 : Int) < n') (hn' : n' ≤ 9223372036854775807) (hs : ∀ ad, a = some ad → ad.spot = none) : Calls Tryz.prog 19 #[.agg (s.A (.slice a n c) (.slice a' n' c'))] w fun e w' => e = .returned (.agg (s.A (.slice a 2 c) (.slice a' n' c'))) ∧ Below w.heap.size w w' := by
  have s1 := fun W => sliceI_to (n := n) 2 (show 2 ≤ c by omega) hs W
  have hc0 := hc
  clear hs
  go_enter Tryz.func19, Tryz.ntmps19
  go_wp2_with (first
    | (refine wpList_box_rc (s := s) (I := _) (T := _) _ rfl _ rfl rfl ?_; intro w0 b0 N0)
    | (refine wpList_new_rc _ rfl rfl ?_; intro w1 b1 N1; have H := Fw.mk' N0 N1; clear N0 N1; have k9 := H.p.c9; have k10 := H.p.c10)
    | (refine wpList_fput (s' := s) (I' := .slice a 2 c) (T' := .slice a' n' c') _ rfl 34 (.tmp 10) (.tmp 9) rfl rfl rfl H.p (by omega) rfl (by kernel_rfl) rfl ?_; intro w4 P4; have H4 := H.put P4; clear H; have H := H4; clear H4 P4; have k9 := H.p.c9; have k10 := H.p.c10)
    | (refine wpList_fput (s' := s) (I' := _) (T' := .slice a' 3 c') _ rfl 35 (.tmp 18) (.tmp 17) rfl rfl rfl H.p (by omega) rfl (by kernel_rfl) rfl ?_; intro w4 P4; have H4 := H.put P4; clear H; have H := H4; clear H4 P4)
    | (refine wpList_load_rc _ rfl (.tmp 1) rfl rfl H.p ?_)
    | (refine wpList_put_rc (s' := s) (I' := _) (T' := _) _ rfl (.tmp 2) (.tmp 19) rfl rfl rfl H.r rfl rfl ?_; intro w9 P9))
  refine bodyPost_ret (results_rc1 rfl _ _ rfl P9.rc) rfl ?_
  exact ⟨rfl, H.bel.trans (P9.below H.l1 H.bel.size)⟩
set_option maxHeartbeats 400000 in
theorem few8_11 (hi : (2 : Int) < n) (hn : n ≤ 9223372036854775807) (hc : n ≤ c) (ht : (3 : Int) < n') (hn' : n' ≤ 9223372036854775807) (hc' : n' ≤ c') (hs : ∀ ad, a = some ad → ad.spot = none) (hs' : ∀ ad, a' = some ad → ad.spot = none) : Calls Tryz.prog 19 #[.agg (s.A (.slice a n c) (.slice a' n' c'))] w fun e w' => e = .returned (.agg (s.A (.slice a 2 c) (.slice a' 3 c'))) ∧ Below w.heap.size w w' := by
  have s1 := fun W => sliceI_to (n := n) 2 (show 2 ≤ c by omega) hs W
  have hc0 := hc
  clear hs
  have s2 := fun W => sliceT_to (n := n') 3 (show 3 ≤ c' by omega) hs' W
  have hc0' := hc'
  clear hs'
  go_enter Tryz.func19, Tryz.ntmps19
  go_wp2_with (first
    | (refine wpList_box_rc (s := s) (I := _) (T := _) _ rfl _ rfl rfl ?_; intro w0 b0 N0)
    | (refine wpList_new_rc _ rfl rfl ?_; intro w1 b1 N1; have H := Fw.mk' N0 N1; clear N0 N1; have k9 := H.p.c9; have k10 := H.p.c10)
    | (refine wpList_fput (s' := s) (I' := .slice a 2 c) (T' := .slice a' n' c') _ rfl 34 (.tmp 10) (.tmp 9) rfl rfl rfl H.p (by omega) rfl (by kernel_rfl) rfl ?_; intro w4 P4; have H4 := H.put P4; clear H; have H := H4; clear H4 P4; have k9 := H.p.c9; have k10 := H.p.c10)
    | (refine wpList_fput (s' := s) (I' := _) (T' := .slice a' 3 c') _ rfl 35 (.tmp 18) (.tmp 17) rfl rfl rfl H.p (by omega) rfl (by kernel_rfl) rfl ?_; intro w4 P4; have H4 := H.put P4; clear H; have H := H4; clear H4 P4)
    | (refine wpList_load_rc _ rfl (.tmp 1) rfl rfl H.p ?_)
    | (refine wpList_put_rc (s' := s) (I' := _) (T' := _) _ rfl (.tmp 2) (.tmp 19) rfl rfl rfl H.r rfl rfl ?_; intro w9 P9))
  refine bodyPost_ret (results_rc1 rfl _ _ rfl P9.rc) rfl ?_
  exact ⟨rfl, H.bel.trans (P9.below H.l1 H.bel.size)⟩
end
theorem few8_any {w wx : World} {v : Value} {m : Rm} (h : RecV w v m) (hi : m.im.length ≤ 9223372036854775807) (ht : m.tb.length ≤ 9223372036854775807) : Calls Tryz.prog 19 #[v] wx fun e w' => (∃ v', e = .returned v' ∧ RecV w v' (few8M m)) ∧ Below wx.heap.size wx w' := by
  obtain ⟨s, l, g⟩ := m
  obtain ⟨I, T, rfl, hI, hT⟩ := h.ex
  obtain ⟨a, c, rfl, hcs, hnil, hle, hsp⟩ := hI.ex
  obtain ⟨a', c', rfl, hcs', hnil', hle', hsp'⟩ := hT.ex
  dsimp only at *
  have fI : ∀ k, (l.take 2).length = k → SlI w (.slice a k c) (l.take 2) := fun k hk => by
    refine ⟨a, c, by rw [hk], ?_, hnil, ?_, fun e => hsp (fun e' => e (by rw [e']; rfl))⟩
    · rw [encI_take]; exact hcs.take 2
    · rw [List.length_take]; omega
  have fT : ∀ k, (g.take 3).length = k → SlT w (.slice a' k c') (g.take 3) := fun k hk => by
    refine ⟨a', c', by rw [hk], ?_, hnil', ?_, fun e => hsp' (fun e' => e (by rw [e']; rfl))⟩
    · rw [encT_take]; exact hcs'.take 3
    · rw [List.length_take]; omega
  by_cases h1 : (2 : Int) < l.length
  · have nI : l ≠ [] := fun e => by rw [e] at h1; simp at h1
    by_cases h2 : (3 : Int) < g.length
    · have nT : g ≠ [] := fun e => by rw [e] at h2; simp at h2
      refine (few8_11 h1 hi hle h2 ht hle' (hsp nI) (hsp' nT)).mono ?_
      rintro e w' ⟨he, hb⟩
      exact ⟨⟨_, he, ⟨_, _, rfl, fI 2 (by rw [List.length_take]; omega), fT 3 (by rw [List.length_take]; omega)⟩⟩, hb⟩
    · refine (few8_10 h1 hi hle h2 ht (hsp nI)).mono ?_
      rintro e w' ⟨he, hb⟩
      exact ⟨⟨_, he, ⟨_, _, rfl, fI 2 (by rw [List.length_take]; omega), fT g.length (by rw [List.length_take]; omega)⟩⟩, hb⟩
  · by_cases h2 : (3 : Int) < g.length
    · have nT : g ≠ [] := fun e => by rw [e] at h2; simp at h2
      refine (few8_01 h1 hi h2 ht hle' (hsp' nT)).mono ?_
      rintro e w' ⟨he, hb⟩
      exact ⟨⟨_, he, ⟨_, _, rfl, fI l.length (by rw [List.length_take]; omega), fT 3 (by rw [List.length_take]; omega)⟩⟩, hb⟩
    · refine (few8_00 h1 hi h2 ht).mono ?_
      rintro e w' ⟨he, hb⟩
      exact ⟨⟨_, he, ⟨_, _, rfl, fI l.length (by rw [List.length_take]; omega), fT g.length (by rw [List.length_take]; omega)⟩⟩, hb⟩
theorem Held.few8 {m : Rm} (h : Held m) : Small (few8M m) := by
  refine ⟨?_, ?_, ?_, h.ky, h.ol, h.nw⟩
  · show (m.im.take 2).length ≤ 1000
    rw [List.length_take]; omega
  · show (m.tb.take 3).length ≤ 1000
    rw [List.length_take]; omega
  · intro p hp
    exact h.t p (List.mem_of_mem_take hp)
end Go.Proofs.YtgcfbjecmmnlhaaGreat

namespace Go.Proofs.YtgcfbjecmmnlhaaGreat
open Go.RowKit Go.Maps Go.ChangeMaps
set_option linter.unusedVariables false
set_option linter.unusedSimpArgs false
set_option maxRecDepth 100000

section
variable {B l k db bs sc run r r' sure lo : Nat} {w w' w0 wx : World} {S S' : Dk} {fs gs : List ByteArray} {Q : Nat → Sec}
theorem Lv.wt0 (h : Lv B w l k S db bs sc run fs sure) : Wt S bs sc run (fs.take sure) sure := by
  obtain ⟨Q, hQ, hs⟩ := h.q
  refine ⟨Q, hQ, fun rn hr => ⟨⟨#[]⟩, ?_, ?_⟩⟩
  · rw [hs.stands hr, app_nil]
  · rw [hs.stands hr]; unfold off; rw [List.take_take, Nat.min_self]; exact Nat.le_refl _
theorem new_wt (n bs sc : Nat) (h : 1 ≤ sc) : Wt (newDk n) bs sc 0 [] 0 := by
  refine ⟨fun _ => (0, ⟨#[]⟩), ⟨fun i hi => ?_, fun i hi => Nat.le_refl _, fun i hi => Nat.zero_le _, fun i => rfl⟩, fun rn hr => ⟨⟨#[]⟩, ?_, Nat.zero_le _⟩⟩
  · rw [enc_zero]; rfl
  · obtain ⟨m, rfl⟩ : ∃ m, sc = m + 1 := ⟨sc - 1, by omega⟩
    show cat [] = stK _ rn (m + 1) 0 1 ++ _
    rw [stK, if_pos (Or.inl (by show 0 < 1; omega))]
    rfl
theorem fit_nil (h0 : 1 ≤ sc) (h1 : sc ≤ 8000) : Fit sc [] := ⟨(fun f hf => by cases hf), Nat.zero_le _, h0, h1⟩
/-- Append of a record that has a frame, and room. -/
theorem Lv.append {v : Value} {m : Rm} (h : Lv B w l k S db bs sc run fs sure) (hv : RecV w v m) (hm : Small m) (he : (frameM m).2 = 0) (hn : (cat fs).size + (frameM m).1.size ≤ 58 * sc) :
    Calls Tryz.prog 20 #[.pointer (some ⟨l, 0, none⟩), v] w fun e w' => e = .returned (.tuple #[.int .i64 (((cat fs).size : Int) + 1), .int .i64 0]) ∧ Lv B w' l k S db bs sc run (fs ++ [(frameM m).1]) sure ∧ Kp isL B w w' := by
  refine (append_ok h.lx h.fit hv hm he hn).mono ?_
  rintro e w' ⟨he', h1, k1⟩
  refine ⟨he', h.grown (fun g hg => by rw [List.mem_singleton] at hg; subst hg; exact frm_good he) ?_ h1, k1⟩
  rw [cat, cat, app_nil]; exact hn
/-- A small record. -/
def cmS (n : Int) : Sc := {kS 7 with tx := n, pv := 1}
def cmM (n : Int) : Rm := ⟨cmS n, [], []⟩
theorem cm_body (n : Int) (h0 : 0 ≤ n) (h1 : n < 1000) : bodyM (cleanM (cmM n)) = (⟨#[]⟩ ++ Pk.beS 7 1 ++ Pk.beS n.toNat 6 ++ Pk.beS 1 6, 0) ∧ cleanM (cmM n) = cmM n := by
  have e : cleanM (cmM n) = cmM n := by simp [cleanM, cleanS, cmM, cmS, kS, zS]
  have hl : laidM (cmM n) = (⟨#[]⟩ ++ Pk.beS 7 1 ++ Pk.beS n.toNat 6 ++ Pk.beS 1 6, 0) := by
    show stepW (stepW (stepW (⟨#[]⟩, 0) 7 1) n 6) 1 6 = _
    rw [stepW_good (by omega) (by omega) (by omega) (by rw [Pk.limI_1]; omega), stepW_good (by omega) (by omega) (by omega) (by rw [Pk.limI_6]; omega), stepW_good (by omega) (by omega) (by omega) (by rw [Pk.limI_6]; omega)]
    rfl
  rw [e]
  refine ⟨?_, rfl⟩
  rw [bodyM_good (by simp [refM, formed, cmM, cmS, kS, zS, Pk.size_nil]) (by rw [hl]) (by rw [hl]; simp [ByteArray.size_append, Pk.beS_size, Pk.size_nil]), hl]
theorem cm_frame (n : Int) (h0 : 0 ≤ n) (h1 : n < 1000) : (frameM (cmM n)).2 = 0 ∧ (frameM (cmM n)).1.size = 19 ∧ recF (frameM (cmM n)).1 = cmM n := by
  obtain ⟨hb, hc⟩ := cm_body n h0 h1
  have e : frameM (cmM n) = (frameB (⟨#[]⟩ ++ Pk.beS 7 1 ++ Pk.beS n.toNat 6 ++ Pk.beS 1 6), 0) := by
    unfold frameM
    rw [hb]
    simp
  rw [e]
  refine ⟨rfl, ?_, ?_⟩
  · show (frameB _).size = 19
    rw [frameB_size]
    simp [ByteArray.size_append, Pk.beS_size, Pk.size_nil]
  · have h0 := open_frame hb ⟨#[]⟩ ⟨#[]⟩
    rw [nil_app, app_nil, hc] at h0
    have h1 : openM (frameB (⟨#[]⟩ ++ Pk.beS 7 1 ++ Pk.beS n.toNat 6 ++ Pk.beS 1 6)) 0 = _ := h0
    unfold recF
    rw [h1]
theorem small_cm (n : Int) : Small (cmM n) := ⟨Nat.zero_le _, Nat.zero_le _, (fun p hp => by cases hp), Nat.zero_le _, Nat.zero_le _, Nat.zero_le _⟩
theorem recV_cm (w : World) (n : Int) : RecV w (.agg ((cmS n).A nilV nilV)) (cmM n) := ⟨nilV, nilV, rfl, SlI.nil w, SlT.nil w⟩
theorem commit_any (n : Int) (w : World) : Calls Tryz.prog 49 #[.int .i64 n] w fun e w' => e = .returned (.agg ((cmS n).A nilV nilV)) ∧ Below w.heap.size w w' := by
  have hb : ∀ W, (Instr.build 37 #[(0, .int .i64 7), (1, .int .i64 n), (2, .int .i64 1)]).run Tryz.prog W = .ok (.agg ((cmS n).A nilV nilV)) W := fun W => by kernel_rfl
  go_enter Tryz.func49, Tryz.ntmps49
  go_wp2_with (first
    | (refine wpList_new_rc _ rfl rfl ?_; intro w1 b2 N1)
    | (refine wpList_put_rc (s' := cmS n) (I' := nilV) (T' := nilV) _ rfl (.tmp 2) (.tmp 4) rfl rfl rfl N1.rc rfl rfl ?_; intro w6 P6))
  refine bodyPost_ret (results_rc1 rfl _ _ rfl P6.rc) rfl ?_
  exact ⟨rfl, N1.below.trans (P6.below (by have := N1.eq; omega) N1.below.size)⟩
/-- The example's log. -/
structure AwS (w0 wx : World) (l k : Nat) (S : Dk) (db run : Nat) (fs : List ByteArray) (sure : Nat) : Prop where
  lv : Lv w0.heap.size wx l k S db 1 10 run fs sure
  set : S.set = false
  n : S.n = 20
  bel : Below w0.heap.size w0 wx
  sz : (cat fs).size = 19 * fs.length
/-- Its disk. -/
structure AwD (w0 wx : World) (k : Nat) (S : Dk) (db : Nat) (r : Nat) (fs : List ByteArray) (lo : Nat) : Prop where
  d : Ds w0.heap.size wx db k S
  wt : Wt S 1 10 r fs lo
  fit : Fit 10 fs
  hlo : lo = fs.length
  set : S.set = false
  n : S.n = 20
  bel : Below w0.heap.size w0 wx
  sz : (cat fs).size = 19 * fs.length
theorem AwD.below (h : AwD w0 wx k S db r fs lo) (hb : Below wx.heap.size wx w') : AwD w0 w' k S db r fs lo := ⟨h.d.below hb, h.wt, h.fit, h.hlo, h.set, h.n, thn h.bel hb, h.sz⟩
theorem AwS.below (h : AwS w0 wx l k S db run fs sure) (hb : Below wx.heap.size wx w') : AwS w0 w' l k S db run fs sure := ⟨h.lv.below hb, h.set, h.n, thn h.bel hb, h.sz⟩
theorem AwD.open_ (h : AwD w0 wx k S db r fs lo) (hk : k ≤ 1000) (hu : S.up = true) (hr : r < run) (hr2 : run ≤ 4294967295) : Calls Tryz.prog 10 #[.pointer (some ⟨db, 0, none⟩), .int .i64 1, .int .i64 10, .int .i64 (run : Int)] wx fun e w' => ∃ S' l, e = .returned (.tuple #[.pointer (some ⟨l, 0, none⟩), .int .i64 0]) ∧ AwS w0 w' l (k + 11) S' db run fs fs.length := by
  refine (h.wt.open_ (bs := 1) (sc := 10) h.fit (by rw [h.hlo]; exact Nat.le_refl _) h.d (by omega) hr hr2 (by rw [h.n]; omega) hu h.set).mono ?_
  rintro e w' ⟨j, S', l, he, ⟨h1, h2, h3, h4⟩, hlv, hk'⟩
  have hj : j = fs.length := by have := h.hlo; omega
  subst hj
  rw [List.take_length] at hlv
  exact ⟨S', l, he, hlv, h3, by rw [h4, h.n], h.bel.trans hk'.bel, h.sz⟩
theorem AwS.append (h : AwS w0 wx l k S db run fs sure) (n : Int) (h0 : 0 ≤ n) (h1 : n < 1000) (hl : fs.length ≤ 5) : Calls Tryz.prog 20 #[.pointer (some ⟨l, 0, none⟩), .agg ((cmS n).A nilV nilV)] wx fun e w' => (∃ x, e = .returned (.tuple #[.int .i64 x, .int .i64 0])) ∧ AwS w0 w' l k S db run (fs ++ [(frameM (cmM n)).1]) sure := by
  obtain ⟨e1, e2, _⟩ := cm_frame n h0 h1
  have hz := h.sz
  refine (h.lv.append (recV_cm _ n) (small_cm n) e1 (by rw [e2, hz]; omega)).mono ?_
  rintro e w' ⟨he, h2, k2⟩
  refine ⟨⟨_, he⟩, h2, h.set, h.n, h.bel.trans k2.bel, ?_⟩
  rw [cat_snoc, bsz, e2, hz, List.length_append, List.length_singleton]; omega
theorem AwS.flush (h : AwS w0 wx l k S db run fs sure) (hk : k ≤ 1000) : Calls Tryz.prog 21 #[.pointer (some ⟨l, 0, none⟩)] wx fun e w' => ∃ S', e = .returned (.int .i64 0) ∧ AwS w0 w' l (k + 11) S' db run fs fs.length := by
  refine (h.lv.flush (by omega)).mono ?_
  rintro e w' ⟨y, he, S', ⟨h1, h2, h3⟩, h4⟩
  obtain ⟨rfl, hs⟩ := h3 h.set
  rcases h4 with ⟨_, h4⟩ | ⟨h4, _⟩
  · exact ⟨S', he, h4, hs, by rw [h2, h.n], h.bel.trans h1.bel, h.sz⟩
  · cases h4
theorem sz_take {fs : List ByteArray} (h : ∀ f ∈ fs, f.size = 19) : (cat fs).size = 19 * fs.length := by
  induction fs with
  | nil => rfl
  | cons f l ih =>
    have h1 := h f (List.mem_cons_self ..)
    have h2 := ih (fun g hg => h g (List.mem_cons_of_mem _ hg))
    rw [cat, bsz, h1, h2, List.length_cons]; omega
theorem AwS.crash (h : AwS w0 wx l k S db run fs sure) (hk : k ≤ 1000) (hsz : (cat (fs.take sure)).size = 19 * (fs.take sure).length) (x : Int) (x0 : 0 ≤ x) (x1 : x ≤ 18446744073709551615) : Calls Tryz.prog 45 #[.pointer (some ⟨db, 0, none⟩), .int .u64 x] wx fun e w' => (∃ y, e = .returned (.int .i64 y)) ∧ AwD w0 w' (k + 1) (crDk S x) db run (fs.take sure) sure := by
  refine (h.lv.lx.d.crash (by omega) x x0 x1).mono ?_
  rintro e w' ⟨he, h1, k1⟩
  have hs : (crDk S x).set = false := by unfold crDk; split; rfl; exact h.set
  have hn : (crDk S x).n = S.n := by unfold crDk; split; rfl; rfl
  exact ⟨⟨_, he⟩, h1, h.lv.wt0.crash x, h.lv.fit.take sure, by rw [List.length_take]; have := h.lv.hs; omega, hs, by rw [hn, h.n], h.bel.trans k1.bel, hsz⟩
theorem AwD.start (h : AwD w0 wx k S db r fs lo) : Calls Tryz.prog 47 #[.pointer (some ⟨db, 0, none⟩)] wx fun e w' => (∃ y, e = .returned (.int .i64 y)) ∧ AwD w0 w' k { S with up := true } db r fs lo := by
  refine h.d.start.mono ?_
  rintro e w' ⟨he, h1, k1⟩
  exact ⟨⟨_, he⟩, h1, h.wt.eq rfl rfl, h.fit, h.hlo, h.set, h.n, h.bel.trans k1.bel, h.sz⟩
end
end Go.Proofs.YtgcfbjecmmnlhaaGreat

namespace Go.Proofs.YtgcfbjecmmnlhaaGreat
open Go.RowKit Go.Maps Go.ChangeMaps
set_option linter.unusedVariables false
set_option linter.unusedSimpArgs false
set_option maxRecDepth 100000

theorem aw_new (w : World) : Calls Tryz.prog 9 #[.int .i64 20] w fun e w' => e = .returned (.tuple #[.pointer (some ⟨w.heap.size + 2, 0, none⟩), .int .i64 0]) ∧ AwD w w' 0 (newDk 20) (w.heap.size + 2) 0 [] 0 := by
  refine (Ds.new 20 (by omega) (by omega) w).mono ?_
  rintro e w' ⟨he, h1, h2⟩
  exact ⟨he, h1, new_wt 20 1 10 (by omega), fit_nil (by omega) (by omega), rfl, rfl, rfl, h2, rfl⟩
set_option maxHeartbeats 4000000 in
theorem awake8 (w : World) : Calls Tryz.prog 17 #[] w fun e w' => e = .returned (.bool true) ∧ Below w.heap.size w w' := by
  have CN : Hid (Calls Tryz.prog 9 #[.int .i64 20] w fun e w' => e = .returned (.tuple #[.pointer (some ⟨w.heap.size + 2, 0, none⟩), .int .i64 0]) ∧ AwD w w' 0 (newDk 20) (w.heap.size + 2) 0 [] 0) := aw_new w
  obtain ⟨db, hdb⟩ : ∃ db, db = w.heap.size + 2 := ⟨_, rfl⟩
  rw [← hdb] at CN
  have hw0 : Hid (Below w.heap.size w w) := Below.refl _ _
  clear hdb
  obtain ⟨f1a, f1b, f1c⟩ := cm_frame 1 (by omega) (by omega)
  obtain ⟨f2a, f2b, f2c⟩ := cm_frame 2 (by omega) (by omega)
  obtain ⟨F1, hF1⟩ : ∃ F1, F1 = (frameM (cmM 1)).1 := ⟨_, rfl⟩
  obtain ⟨F2, hF2⟩ : ∃ F2, F2 = (frameM (cmM 2)).1 := ⟨_, rfl⟩
  obtain ⟨F3, hF3⟩ : ∃ F3, F3 = (frameM (cmM 3)).1 := ⟨_, rfl⟩
  rw [← hF1] at f1b
  rw [← hF2] at f2b f2c
  have O1 : Hid (∀ wx S1, AwD w wx 0 S1 db 0 [] 0 → S1.up = true → Calls Tryz.prog 10 #[.pointer (some ⟨db, 0, none⟩), .int .i64 1, .int .i64 10, .int .i64 1] wx fun e w' => ∃ S' l, e = .returned (.tuple #[.pointer (some ⟨l, 0, none⟩), .int .i64 0]) ∧ AwS w w' l 11 S' db 1 [] 0) := fun wx S1 h hu => h.open_ (run := 1) (by omega) hu (by omega) (by omega)
  have C1 : Hid (∀ wx l S1, AwS w wx l 11 S1 db 1 [] 0 → Calls Tryz.prog 20 #[.pointer (some ⟨l, 0, none⟩), .agg ((cmS 1).A nilV nilV)] wx fun e w' => (∃ x, e = .returned (.tuple #[.int .i64 x, .int .i64 0])) ∧ AwS w w' l 11 S1 db 1 [F1] 0) := fun wx l S1 h => by
    rw [hF1]
    exact h.append 1 (by omega) (by omega) (by simp)
  have C2 : Hid (∀ wx l S1, AwS w wx l 11 S1 db 1 [F1] 0 → Calls Tryz.prog 20 #[.pointer (some ⟨l, 0, none⟩), .agg ((cmS 2).A nilV nilV)] wx fun e w' => (∃ x, e = .returned (.tuple #[.int .i64 x, .int .i64 0])) ∧ AwS w w' l 11 S1 db 1 [F1, F2] 0) := fun wx l S1 h => by
    rw [hF2]
    exact h.append 2 (by omega) (by omega) (by simp)
  have CFl : Hid (∀ wx l S1, AwS w wx l 11 S1 db 1 [F1, F2] 0 → Calls Tryz.prog 21 #[.pointer (some ⟨l, 0, none⟩)] wx fun e w' => ∃ S', e = .returned (.int .i64 0) ∧ AwS w w' l 22 S' db 1 [F1, F2] 2) := fun wx l S1 h => h.flush (by omega)
  have C3 : Hid (∀ wx l S1, AwS w wx l 22 S1 db 1 [F1, F2] 2 → Calls Tryz.prog 20 #[.pointer (some ⟨l, 0, none⟩), .agg ((cmS 3).A nilV nilV)] wx fun e w' => (∃ x, e = .returned (.tuple #[.int .i64 x, .int .i64 0])) ∧ AwS w w' l 22 S1 db 1 [F1, F2, F3] 2) := fun wx l S1 h => by
    rw [hF3]
    exact h.append 3 (by omega) (by omega) (by simp)
  have CCr : Hid (∀ wx l S1, AwS w wx l 22 S1 db 1 [F1, F2, F3] 2 → Calls Tryz.prog 45 #[.pointer (some ⟨db, 0, none⟩), .int .u64 0] wx fun e w' => (∃ y, e = .returned (.int .i64 y)) ∧ ∃ S', AwD w w' 23 S' db 1 [F1, F2] 2) := fun wx l S1 h => by
    refine (h.crash (by omega) (sz_take (fun f hf => by
      have hf' : f ∈ [F1, F2] := hf
      simp at hf'
      rcases hf' with rfl | rfl
      · exact f1b
      · exact f2b)) 0 (by omega) (by omega)).mono ?_
    rintro e w' ⟨he, h1⟩
    exact ⟨he, _, h1⟩
  have CSt : Hid (∀ wx S1, AwD w wx 23 S1 db 1 [F1, F2] 2 → Calls Tryz.prog 47 #[.pointer (some ⟨db, 0, none⟩)] wx fun e w' => (∃ y, e = .returned (.int .i64 y)) ∧ ∃ S', S'.up = true ∧ AwD w w' 23 S' db 1 [F1, F2] 2) := fun wx S1 h => by
    refine h.start.mono ?_
    rintro e w' ⟨he, h1⟩
    exact ⟨he, _, rfl, h1⟩
  have O2 : Hid (∀ wx S1, AwD w wx 23 S1 db 1 [F1, F2] 2 → S1.up = true → Calls Tryz.prog 10 #[.pointer (some ⟨db, 0, none⟩), .int .i64 1, .int .i64 10, .int .i64 2] wx fun e w' => ∃ S' l, e = .returned (.tuple #[.pointer (some ⟨l, 0, none⟩), .int .i64 0]) ∧ AwS w w' l 34 S' db 2 [F1, F2] 2) := fun wx S1 h hu => h.open_ (run := 2) (by omega) hu (by omega) (by omega)
  have CR : Hid (∀ wx l S1, AwS w wx l 34 S1 db 2 [F1, F2] 2 → Calls Tryz.prog 30 #[.pointer (some ⟨l, 0, none⟩)] wx fun e w' => ∃ g c v2, e = .returned (.tuple #[.slice (some ⟨g, 0, none⟩) 2 c, v2]) ∧ w'.cell? ⟨g, 14, none⟩ = some (.int .i64 2) ∧ Below w.heap.size w w') := fun wx l S1 h => by
    refine (Records_any h.lv.lx h.lv.fit).mono ?_
    rintro e w' ⟨⟨v, v2, he, hR, _⟩, _, hK⟩
    obtain ⟨a, c, rfl⟩ := hR.slice
    obtain ⟨g, I, T, rfl, hr, _⟩ := hR.at_ (i := 1) (by simp)
    have hm : ([F1, F2].map recF)[1] = cmM 2 := f2c
    have hc := hr 1 (.int .i64 2) (by rw [hm]; rfl)
    exact ⟨g, c, v2, he, hc, h.bel.trans hK.bel⟩
  have CM : Hid (∀ n wx, Calls Tryz.prog 49 #[.int .i64 n] wx fun e w' => e = .returned (.agg ((cmS n).A nilV nilV)) ∧ Below wx.heap.size wx w') := commit_any
  generalize cmS = cs at *
  generalize nilV = nv at *
  clear hF1 hF2 hF3 f1a f1b f1c f2a f2b f2c
  go_enter Tryz.func17, Tryz.ntmps17
  go_wp2_with (first
    | (go_at_call 9; refine CN.out.mono ?_; rintro e w1 ⟨rfl, D1⟩)
    | (go_at_call 10; refine (O1.out _ _ D1 rfl).mono ?_; clear D1; rintro e w2 ⟨S2, l, rfl, A2⟩)
    | (go_at_call 49; refine (CM.out _ _).mono ?_; rintro e w3 ⟨rfl, b3⟩)
    | (go_at_call 20; refine (C1.out _ _ _ (A2.below b3)).mono ?_; clear A2; rintro e w4 ⟨⟨x1, rfl⟩, A4⟩; clear b3)
    | (go_at_call 20; refine (C2.out _ _ _ (A4.below b3)).mono ?_; clear A4; rintro e w5 ⟨⟨x2, rfl⟩, A5⟩; clear b3)
    | (go_at_call 21; refine (CFl.out _ _ _ A5).mono ?_; clear A5; rintro e w6 ⟨S6, rfl, A6⟩)
    | (go_at_call 20; refine (C3.out _ _ _ (A6.below b3)).mono ?_; clear A6; rintro e w7 ⟨⟨x3, rfl⟩, A7⟩; clear b3)
    | (go_at_call 45; refine (CCr.out _ _ _ A7).mono ?_; clear A7; rintro e w8 ⟨⟨x4, rfl⟩, S8, D8⟩)
    | (go_at_call 47; refine (CSt.out _ _ D8).mono ?_; clear D8; rintro e w9 ⟨⟨x5, rfl⟩, S9, u9, D9⟩)
    | (go_at_call 10; refine (O2.out _ _ D9 u9).mono ?_; clear D9; rintro e w10 ⟨S10, l10, rfl, A10⟩)
    | (go_at_call 30; refine (CR.out _ _ _ A10).mono ?_; clear A10; rintro e w11 ⟨g, c, v2, rfl, c14, b11⟩))
  go_ret
  exact ⟨rfl, b11⟩
end Go.Proofs.YtgcfbjecmmnlhaaGreat

namespace Go.Proofs.YtgcfbjecmmnlhaaGreat
open Go.RowKit Go.Maps Go.ChangeMaps
set_option linter.unusedVariables false
set_option linter.unusedSimpArgs false
set_option maxRecDepth 100000

theorem Open_nil (b n r : Int) (w : World) : Calls Tryz.prog 10 #[.pointer none, .int .i64 b, .int .i64 n, .int .i64 r] w fun e w' => e = .returned (.tuple #[.pointer none, .int .i64 1]) ∧ w' = w := by
  go_enter Tryz.func10, Tryz.ntmps10
  go_wp2
  go_ret2
  exact ⟨rfl, rfl⟩
theorem Open_arga (db : Nat) (b n r : Int) (h1 : b < 0) (w : World) : Calls Tryz.prog 10 #[.pointer (some ⟨db, 0, none⟩), .int .i64 b, .int .i64 n, .int .i64 r] w fun e w' => e = .returned (.tuple #[.pointer none, .int .i64 1]) ∧ w' = w := by
  go_enter Tryz.func10, Tryz.ntmps10
  go_wp2
  go_ret2
  exact ⟨rfl, rfl⟩
theorem Open_argb (db : Nat) (b n r : Int) (h1 : ¬ b < 0) (h2 : n < 1) (w : World) : Calls Tryz.prog 10 #[.pointer (some ⟨db, 0, none⟩), .int .i64 b, .int .i64 n, .int .i64 r] w fun e w' => e = .returned (.tuple #[.pointer none, .int .i64 1]) ∧ w' = w := by
  go_enter Tryz.func10, Tryz.ntmps10
  go_wp2
  go_ret2
  exact ⟨rfl, rfl⟩
theorem Open_argc (db : Nat) (b n r : Int) (h1 : ¬ b < 0) (h2 : ¬ n < 1) (h3 : r < 1) (w : World) : Calls Tryz.prog 10 #[.pointer (some ⟨db, 0, none⟩), .int .i64 b, .int .i64 n, .int .i64 r] w fun e w' => e = .returned (.tuple #[.pointer none, .int .i64 1]) ∧ w' = w := by
  go_enter Tryz.func10, Tryz.ntmps10
  go_wp2
  go_ret2
  exact ⟨rfl, rfl⟩
theorem Open_argd (db : Nat) (b n r : Int) (h1 : ¬ b < 0) (h2 : ¬ n < 1) (h3 : ¬ r < 1) (h4 : 4294967295 < r) (w : World) : Calls Tryz.prog 10 #[.pointer (some ⟨db, 0, none⟩), .int .i64 b, .int .i64 n, .int .i64 r] w fun e w' => e = .returned (.tuple #[.pointer none, .int .i64 1]) ∧ w' = w := by
  go_enter Tryz.func10, Tryz.ntmps10
  go_wp2
  go_ret2
  exact ⟨rfl, rfl⟩
theorem Open_range {B k : Nat} {w : World} {S : Dk} {db : Nat} (h : Ds B w db k S) (b n r : Int) (h1 : ¬ b < 0) (h2 : ¬ n < 1) (h3 : ¬ r < 1) (h4 : ¬ 4294967295 < r) (h5 : (S.n : Int) - b < n) (hb : b ≤ 9223372036854775807) : Calls Tryz.prog 10 #[.pointer (some ⟨db, 0, none⟩), .int .i64 b, .int .i64 n, .int .i64 r] w fun e w' => e = .returned (.tuple #[.pointer none, .int .i64 6]) ∧ w' = w := by
  have CZ : Hid (Calls Tryz.prog 37 #[.pointer (some ⟨db, 0, none⟩)] w fun e w' => e = .returned (.int .i64 (S.n : Int)) ∧ w' = w) := h.size
  have hn1 := h.q.ok.n1
  have hn2 := h.q.ok.n2
  have z1 : (0 : Int) ≤ (S.n : Int) := by omega
  have z2 : (S.n : Int) ≤ 8192 := by omega
  clear h hn1 hn2
  generalize (S.n : Int) = sn at *
  go_enter Tryz.func10, Tryz.ntmps10
  go_wp2_with (go_at_call 37; refine CZ.out.mono ?_; rintro e w0 ⟨rfl, rfl⟩)
  go_ret2
  exact ⟨rfl, rfl⟩
section
variable {w : World}
theorem opens_out (s b n r : Int) (h : s < 1 ∨ 100 < s) : Calls Tryz.prog 5 #[.int .i64 s, .int .i64 b, .int .i64 n, .int .i64 r] w fun e w' => e = .returned (.bool true) ∧ Below w.heap.size w w' := by
  have CA : Hid (∀ wx, Calls Tryz.prog 17 #[] wx fun e w' => e = .returned (.bool true) ∧ Below wx.heap.size wx w') := awake8
  by_cases h1 : s < 1
  · clear h
    go_enter Tryz.func5, Tryz.ntmps5
    go_wp2_with (go_at_call 17; refine (CA.out _).mono ?_; rintro e w1 ⟨rfl, b1⟩)
    go_ret
    exact ⟨rfl, b1⟩
  · have h2 : 100 < s := by omega
    clear h
    go_enter Tryz.func5, Tryz.ntmps5
    go_wp2_with (go_at_call 17; refine (CA.out _).mono ?_; rintro e w1 ⟨rfl, b1⟩)
    go_ret
    exact ⟨rfl, b1⟩
set_option maxHeartbeats 2000000 in
theorem opens_arga (s : Nat) (hs1 : 1 ≤ s) (hs2 : s ≤ 100) (b n r : Int) (h1 : b < 0) : Calls Tryz.prog 5 #[.int .i64 (s : Int), .int .i64 b, .int .i64 n, .int .i64 r] w fun e w' => e = .returned (.bool true) ∧ Below w.heap.size w w' := by
  have CA : Hid (∀ wx, Calls Tryz.prog 17 #[] wx fun e w' => e = .returned (.bool true) ∧ Below wx.heap.size wx w') := awake8
  have CN : Hid (Calls Tryz.prog 9 #[.int .i64 (s : Int)] w fun e w' => ∃ db, e = .returned (.tuple #[.pointer (some ⟨db, 0, none⟩), .int .i64 0]) ∧ Ds w.heap.size w' db 0 (newDk s) ∧ Below w.heap.size w w') := by
    refine (Ds.new s hs1 (by omega) w).mono ?_
    rintro e w' ⟨he, h1, h2⟩
    exact ⟨_, he, h1, h2⟩
  have CO : Hid (∀ wx, Calls Tryz.prog 10 #[.pointer none, .int .i64 b, .int .i64 n, .int .i64 r] wx fun e w' => e = .returned (.tuple #[.pointer none, .int .i64 1]) ∧ w' = wx) := Open_nil b n r
  have CG : Hid (∀ wx db, Calls Tryz.prog 10 #[.pointer (some ⟨db, 0, none⟩), .int .i64 b, .int .i64 n, .int .i64 r] wx fun e w' => e = .returned (.tuple #[.pointer none, .int .i64 1]) ∧ w' = wx) := fun wx db => Open_arga db b n r h1 wx
  have t1 : ¬ (s : Int) < 1 := by omega
  have t2 : ¬ (100 : Int) < (s : Int) := by omega
  clear hs1 hs2
  generalize (s : Int) = sI at *
  go_enter Tryz.func5, Tryz.ntmps5
  go_wp2_with (first
    | (go_at_call 9; refine CN.out.mono ?_; rintro e w1 ⟨db, rfl, D1, b1⟩)
    | (go_at_call 10; refine (CG.out _ _).mono ?_; clear CG; rintro e w2 ⟨rfl, rfl⟩)
    | (go_at_call 10; refine (CO.out _).mono ?_; clear CO; rintro e w3 ⟨rfl, rfl⟩)
    | (go_at_call 17; refine (CA.out _).mono ?_; rintro e w9 ⟨rfl, b9⟩))
  go_ret
  exact ⟨rfl, thn b1 b9⟩
set_option maxHeartbeats 2000000 in
theorem opens_argb (s : Nat) (hs1 : 1 ≤ s) (hs2 : s ≤ 100) (b n r : Int) (h1 : ¬ b < 0) (h2 : n < 1) : Calls Tryz.prog 5 #[.int .i64 (s : Int), .int .i64 b, .int .i64 n, .int .i64 r] w fun e w' => e = .returned (.bool true) ∧ Below w.heap.size w w' := by
  have CA : Hid (∀ wx, Calls Tryz.prog 17 #[] wx fun e w' => e = .returned (.bool true) ∧ Below wx.heap.size wx w') := awake8
  have CN : Hid (Calls Tryz.prog 9 #[.int .i64 (s : Int)] w fun e w' => ∃ db, e = .returned (.tuple #[.pointer (some ⟨db, 0, none⟩), .int .i64 0]) ∧ Ds w.heap.size w' db 0 (newDk s) ∧ Below w.heap.size w w') := by
    refine (Ds.new s hs1 (by omega) w).mono ?_
    rintro e w' ⟨he, h1, h2⟩
    exact ⟨_, he, h1, h2⟩
  have CO : Hid (∀ wx, Calls Tryz.prog 10 #[.pointer none, .int .i64 b, .int .i64 n, .int .i64 r] wx fun e w' => e = .returned (.tuple #[.pointer none, .int .i64 1]) ∧ w' = wx) := Open_nil b n r
  have CG : Hid (∀ wx db, Calls Tryz.prog 10 #[.pointer (some ⟨db, 0, none⟩), .int .i64 b, .int .i64 n, .int .i64 r] wx fun e w' => e = .returned (.tuple #[.pointer none, .int .i64 1]) ∧ w' = wx) := fun wx db => Open_argb db b n r h1 h2 wx
  have t1 : ¬ (s : Int) < 1 := by omega
  have t2 : ¬ (100 : Int) < (s : Int) := by omega
  clear hs1 hs2
  generalize (s : Int) = sI at *
  go_enter Tryz.func5, Tryz.ntmps5
  go_wp2_with (first
    | (go_at_call 9; refine CN.out.mono ?_; rintro e w1 ⟨db, rfl, D1, b1⟩)
    | (go_at_call 10; refine (CG.out _ _).mono ?_; clear CG; rintro e w2 ⟨rfl, rfl⟩)
    | (go_at_call 10; refine (CO.out _).mono ?_; clear CO; rintro e w3 ⟨rfl, rfl⟩)
    | (go_at_call 17; refine (CA.out _).mono ?_; rintro e w9 ⟨rfl, b9⟩))
  go_ret
  exact ⟨rfl, thn b1 b9⟩
set_option maxHeartbeats 2000000 in
theorem opens_argc (s : Nat) (hs1 : 1 ≤ s) (hs2 : s ≤ 100) (b n r : Int) (h1 : ¬ b < 0) (h2 : ¬ n < 1) (h3 : r < 1) : Calls Tryz.prog 5 #[.int .i64 (s : Int), .int .i64 b, .int .i64 n, .int .i64 r] w fun e w' => e = .returned (.bool true) ∧ Below w.heap.size w w' := by
  have CA : Hid (∀ wx, Calls Tryz.prog 17 #[] wx fun e w' => e = .returned (.bool true) ∧ Below wx.heap.size wx w') := awake8
  have CN : Hid (Calls Tryz.prog 9 #[.int .i64 (s : Int)] w fun e w' => ∃ db, e = .returned (.tuple #[.pointer (some ⟨db, 0, none⟩), .int .i64 0]) ∧ Ds w.heap.size w' db 0 (newDk s) ∧ Below w.heap.size w w') := by
    refine (Ds.new s hs1 (by omega) w).mono ?_
    rintro e w' ⟨he, h1, h2⟩
    exact ⟨_, he, h1, h2⟩
  have CO : Hid (∀ wx, Calls Tryz.prog 10 #[.pointer none, .int .i64 b, .int .i64 n, .int .i64 r] wx fun e w' => e = .returned (.tuple #[.pointer none, .int .i64 1]) ∧ w' = wx) := Open_nil b n r
  have CG : Hid (∀ wx db, Calls Tryz.prog 10 #[.pointer (some ⟨db, 0, none⟩), .int .i64 b, .int .i64 n, .int .i64 r] wx fun e w' => e = .returned (.tuple #[.pointer none, .int .i64 1]) ∧ w' = wx) := fun wx db => Open_argc db b n r h1 h2 h3 wx
  have t1 : ¬ (s : Int) < 1 := by omega
  have t2 : ¬ (100 : Int) < (s : Int) := by omega
  clear hs1 hs2
  generalize (s : Int) = sI at *
  go_enter Tryz.func5, Tryz.ntmps5
  go_wp2_with (first
    | (go_at_call 9; refine CN.out.mono ?_; rintro e w1 ⟨db, rfl, D1, b1⟩)
    | (go_at_call 10; refine (CG.out _ _).mono ?_; clear CG; rintro e w2 ⟨rfl, rfl⟩)
    | (go_at_call 10; refine (CO.out _).mono ?_; clear CO; rintro e w3 ⟨rfl, rfl⟩)
    | (go_at_call 17; refine (CA.out _).mono ?_; rintro e w9 ⟨rfl, b9⟩))
  go_ret
  exact ⟨rfl, thn b1 b9⟩
set_option maxHeartbeats 2000000 in
theorem opens_argd (s : Nat) (hs1 : 1 ≤ s) (hs2 : s ≤ 100) (b n r : Int) (h1 : ¬ b < 0) (h2 : ¬ n < 1) (h3 : ¬ r < 1) (h4 : 4294967295 < r) : Calls Tryz.prog 5 #[.int .i64 (s : Int), .int .i64 b, .int .i64 n, .int .i64 r] w fun e w' => e = .returned (.bool true) ∧ Below w.heap.size w w' := by
  have CA : Hid (∀ wx, Calls Tryz.prog 17 #[] wx fun e w' => e = .returned (.bool true) ∧ Below wx.heap.size wx w') := awake8
  have CN : Hid (Calls Tryz.prog 9 #[.int .i64 (s : Int)] w fun e w' => ∃ db, e = .returned (.tuple #[.pointer (some ⟨db, 0, none⟩), .int .i64 0]) ∧ Ds w.heap.size w' db 0 (newDk s) ∧ Below w.heap.size w w') := by
    refine (Ds.new s hs1 (by omega) w).mono ?_
    rintro e w' ⟨he, h1, h2⟩
    exact ⟨_, he, h1, h2⟩
  have CO : Hid (∀ wx, Calls Tryz.prog 10 #[.pointer none, .int .i64 b, .int .i64 n, .int .i64 r] wx fun e w' => e = .returned (.tuple #[.pointer none, .int .i64 1]) ∧ w' = wx) := Open_nil b n r
  have CG : Hid (∀ wx db, Calls Tryz.prog 10 #[.pointer (some ⟨db, 0, none⟩), .int .i64 b, .int .i64 n, .int .i64 r] wx fun e w' => e = .returned (.tuple #[.pointer none, .int .i64 1]) ∧ w' = wx) := fun wx db => Open_argd db b n r h1 h2 h3 h4 wx
  have t1 : ¬ (s : Int) < 1 := by omega
  have t2 : ¬ (100 : Int) < (s : Int) := by omega
  clear hs1 hs2
  generalize (s : Int) = sI at *
  go_enter Tryz.func5, Tryz.ntmps5
  go_wp2_with (first
    | (go_at_call 9; refine CN.out.mono ?_; rintro e w1 ⟨db, rfl, D1, b1⟩)
    | (go_at_call 10; refine (CG.out _ _).mono ?_; clear CG; rintro e w2 ⟨rfl, rfl⟩)
    | (go_at_call 10; refine (CO.out _).mono ?_; clear CO; rintro e w3 ⟨rfl, rfl⟩)
    | (go_at_call 17; refine (CA.out _).mono ?_; rintro e w9 ⟨rfl, b9⟩))
  go_ret
  exact ⟨rfl, thn b1 b9⟩
set_option maxHeartbeats 2000000 in
theorem opens_rangea (s : Nat) (hs1 : 1 ≤ s) (hs2 : s ≤ 100) (b n r : Int) (h1 : ¬ b < 0) (h2 : ¬ n < 1) (h3 : ¬ r < 1) (h4 : ¬ 4294967295 < r) (h6 : (s : Int) < b) (hb : b ≤ 9223372036854775807) : Calls Tryz.prog 5 #[.int .i64 (s : Int), .int .i64 b, .int .i64 n, .int .i64 r] w fun e w' => e = .returned (.bool true) ∧ Below w.heap.size w w' := by
  have CA : Hid (∀ wx, Calls Tryz.prog 17 #[] wx fun e w' => e = .returned (.bool true) ∧ Below wx.heap.size wx w') := awake8
  have CN : Hid (Calls Tryz.prog 9 #[.int .i64 (s : Int)] w fun e w' => ∃ db, e = .returned (.tuple #[.pointer (some ⟨db, 0, none⟩), .int .i64 0]) ∧ Ds w.heap.size w' db 0 (newDk s) ∧ Below w.heap.size w w') := by
    refine (Ds.new s hs1 (by omega) w).mono ?_
    rintro e w' ⟨he, h1, h2⟩
    exact ⟨_, he, h1, h2⟩
  have CO : Hid (∀ wx, Calls Tryz.prog 10 #[.pointer none, .int .i64 b, .int .i64 n, .int .i64 r] wx fun e w' => e = .returned (.tuple #[.pointer none, .int .i64 1]) ∧ w' = wx) := Open_nil b n r
  have CG : Hid (∀ wx db, Ds w.heap.size wx db 0 (newDk s) → Calls Tryz.prog 10 #[.pointer (some ⟨db, 0, none⟩), .int .i64 b, .int .i64 n, .int .i64 r] wx fun e w' => e = .returned (.tuple #[.pointer none, .int .i64 6]) ∧ w' = wx) := fun wx db h => Open_range h b n r h1 h2 h3 h4 (by show (s : Int) - b < n; omega) hb
  have z1 : (0 : Int) ≤ (s : Int) := by omega
  have z2 : (s : Int) ≤ 100 := by omega
  have t1 : ¬ (s : Int) < 1 := by omega
  have t2 : ¬ (100 : Int) < (s : Int) := by omega
  clear hs1 hs2
  generalize (s : Int) = sI at *
  go_enter Tryz.func5, Tryz.ntmps5
  go_wp2_with (first
    | (go_at_call 9; refine CN.out.mono ?_; rintro e w1 ⟨db, rfl, D1, b1⟩)
    | (go_at_call 10; refine (CG.out _ _ D1).mono ?_; clear CG; rintro e w2 ⟨rfl, rfl⟩)
    | (go_at_call 10; refine (CO.out _).mono ?_; clear CO; rintro e w3 ⟨rfl, rfl⟩)
    | (go_at_call 17; refine (CA.out _).mono ?_; rintro e w9 ⟨rfl, b9⟩))
  go_ret
  exact ⟨rfl, thn b1 b9⟩
set_option maxHeartbeats 2000000 in
theorem opens_rangeb (s : Nat) (hs1 : 1 ≤ s) (hs2 : s ≤ 100) (b n r : Int) (h1 : ¬ b < 0) (h2 : ¬ n < 1) (h3 : ¬ r < 1) (h4 : ¬ 4294967295 < r) (h6 : ¬ (s : Int) < b) (h7 : (s : Int) - b < n) (hb : b ≤ 9223372036854775807) : Calls Tryz.prog 5 #[.int .i64 (s : Int), .int .i64 b, .int .i64 n, .int .i64 r] w fun e w' => e = .returned (.bool true) ∧ Below w.heap.size w w' := by
  have CA : Hid (∀ wx, Calls Tryz.prog 17 #[] wx fun e w' => e = .returned (.bool true) ∧ Below wx.heap.size wx w') := awake8
  have CN : Hid (Calls Tryz.prog 9 #[.int .i64 (s : Int)] w fun e w' => ∃ db, e = .returned (.tuple #[.pointer (some ⟨db, 0, none⟩), .int .i64 0]) ∧ Ds w.heap.size w' db 0 (newDk s) ∧ Below w.heap.size w w') := by
    refine (Ds.new s hs1 (by omega) w).mono ?_
    rintro e w' ⟨he, h1, h2⟩
    exact ⟨_, he, h1, h2⟩
  have CO : Hid (∀ wx, Calls Tryz.prog 10 #[.pointer none, .int .i64 b, .int .i64 n, .int .i64 r] wx fun e w' => e = .returned (.tuple #[.pointer none, .int .i64 1]) ∧ w' = wx) := Open_nil b n r
  have CG : Hid (∀ wx db, Ds w.heap.size wx db 0 (newDk s) → Calls Tryz.prog 10 #[.pointer (some ⟨db, 0, none⟩), .int .i64 b, .int .i64 n, .int .i64 r] wx fun e w' => e = .returned (.tuple #[.pointer none, .int .i64 6]) ∧ w' = wx) := fun wx db h => Open_range h b n r h1 h2 h3 h4 (by show (s : Int) - b < n; omega) hb
  have z1 : (0 : Int) ≤ (s : Int) := by omega
  have z2 : (s : Int) ≤ 100 := by omega
  have t1 : ¬ (s : Int) < 1 := by omega
  have t2 : ¬ (100 : Int) < (s : Int) := by omega
  clear hs1 hs2
  generalize (s : Int) = sI at *
  go_enter Tryz.func5, Tryz.ntmps5
  go_wp2_with (first
    | (go_at_call 9; refine CN.out.mono ?_; rintro e w1 ⟨db, rfl, D1, b1⟩)
    | (go_at_call 10; refine (CG.out _ _ D1).mono ?_; clear CG; rintro e w2 ⟨rfl, rfl⟩)
    | (go_at_call 10; refine (CO.out _).mono ?_; clear CO; rintro e w3 ⟨rfl, rfl⟩)
    | (go_at_call 17; refine (CA.out _).mono ?_; rintro e w9 ⟨rfl, b9⟩))
  go_ret
  exact ⟨rfl, thn b1 b9⟩
set_option maxHeartbeats 4000000 in
theorem opens_good (s : Nat) (hs1 : 1 ≤ s) (hs2 : s ≤ 100) (b n r : Nat) (h2 : 1 ≤ n) (h3 : 1 ≤ r) (h4 : r ≤ 4294967295) (h5 : b + n ≤ s) : Calls Tryz.prog 5 #[.int .i64 (s : Int), .int .i64 (b : Int), .int .i64 (n : Int), .int .i64 (r : Int)] w fun e w' => e = .returned (.bool true) ∧ Below w.heap.size w w' := by
  have CA : Hid (∀ wx, Calls Tryz.prog 17 #[] wx fun e w' => e = .returned (.bool true) ∧ Below wx.heap.size wx w') := awake8
  have CN : Hid (Calls Tryz.prog 9 #[.int .i64 (s : Int)] w fun e w' => ∃ db, e = .returned (.tuple #[.pointer (some ⟨db, 0, none⟩), .int .i64 0]) ∧ Ds w.heap.size w' db 0 (newDk s) ∧ Below w.heap.size w w') := by
    refine (Ds.new s hs1 (by omega) w).mono ?_
    rintro e w' ⟨he, h1, h2⟩
    exact ⟨_, he, h1, h2⟩
  have CO : Hid (∀ wx, Calls Tryz.prog 10 #[.pointer none, .int .i64 (b : Int), .int .i64 (n : Int), .int .i64 (r : Int)] wx fun e w' => e = .returned (.tuple #[.pointer none, .int .i64 1]) ∧ w' = wx) := Open_nil _ _ _
  have CG : Hid (∀ wx db, Ds w.heap.size wx db 0 (newDk s) → Calls Tryz.prog 10 #[.pointer (some ⟨db, 0, none⟩), .int .i64 (b : Int), .int .i64 (n : Int), .int .i64 (r : Int)] wx fun e w' => ∃ S' l, e = .returned (.tuple #[.pointer (some ⟨l, 0, none⟩), .int .i64 0]) ∧ Lx w.heap.size w' l (0 + n + 1) S' (lgR db b n r [] 0 false) ∧ Below w.heap.size wx w') := fun wx db h => by
    refine ((new_wt s b n h2).open_ (fit_nil h2 (by omega)) (Nat.le_refl _) h (by omega) (by omega) h4 (by show b + n ≤ s; exact h5) rfl rfl).mono ?_
    rintro e w' ⟨j, S', l, he, ⟨_, hj, _, _⟩, hlv, hK⟩
    have hj0 : j = 0 := by simpa using hj
    subst hj0
    exact ⟨S', l, he, hlv.lx, hK.bel⟩
  have CE : Hid (∀ wx l db k S, Lx w.heap.size wx l k S (lgR db b n r [] 0 false) → Calls Tryz.prog 24 #[.pointer (some ⟨l, 0, none⟩)] wx fun e w' => e = .returned (.int .i64 1) ∧ w' = wx) := fun wx l db k S h => End_any h.g (Nat.zero_le _)
  have CD : Hid (∀ wx l db k S, Lx w.heap.size wx l k S (lgR db b n r [] 0 false) → Calls Tryz.prog 25 #[.pointer (some ⟨l, 0, none⟩)] wx fun e w' => e = .returned (.int .i64 1) ∧ w' = wx) := fun wx l db k S h => Durable_any h.g
  have CL : Hid (∀ wx l db k S, Lx w.heap.size wx l k S (lgR db b n r [] 0 false) → Calls Tryz.prog 26 #[.pointer (some ⟨l, 0, none⟩)] wx fun e w' => e = .returned (.int .i64 (58 * (n : Int))) ∧ Below wx.heap.size wx w') := fun wx l db k S h => by
    have := Left_any h.g (Nat.zero_le _) (by show (0 : Int) ≤ (n : Int); omega) (by show (n : Int) ≤ 10000; omega)
    rw [show (lgR db b n r [] 0 false).secs * 58 - ((lgR db b n r [] 0 false).T.size : Int) = 58 * (n : Int) by show (n : Int) * 58 - 0 = _; omega] at this
    exact this
  have CR : Hid (∀ wx l db k S, Lx w.heap.size wx l k S (lgR db b n r [] 0 false) → Calls Tryz.prog 27 #[.pointer (some ⟨l, 0, none⟩)] wx fun e w' => e = .returned (.int .i64 (r : Int)) ∧ w' = wx) := fun wx l db k S h => Run_any h.g
  have hb1 : bnd [] 1 = true := by decide
  have hb2 : bnd [] 2 = false := by decide
  have CB1 : Hid (∀ wx l db k S, Lx w.heap.size wx l k S (lgR db b n r [] 0 false) → Calls Tryz.prog 28 #[.pointer (some ⟨l, 0, none⟩), .int .i64 1] wx fun e w' => e = .returned (.bool true) ∧ Below wx.heap.size wx w') := fun wx l db k S h => by
    have := Bound_any h (fit_nil h2 (by omega)) 1
    rw [hb1] at this
    exact this
  have CB2 : Hid (∀ wx l db k S, Lx w.heap.size wx l k S (lgR db b n r [] 0 false) → Calls Tryz.prog 28 #[.pointer (some ⟨l, 0, none⟩), .int .i64 2] wx fun e w' => e = .returned (.bool false) ∧ Below wx.heap.size wx w') := fun wx l db k S h => by
    have := Bound_any h (fit_nil h2 (by omega)) 2
    rw [hb2] at this
    exact this
  have t1 : ¬ (s : Int) < 1 := by omega
  have t2 : ¬ (100 : Int) < (s : Int) := by omega
  have t3 : ¬ (b : Int) < 0 := by omega
  have t4 : ¬ (n : Int) < 1 := by omega
  have t5 : ¬ (r : Int) < 1 := by omega
  have t6 : ¬ (4294967295 : Int) < (r : Int) := by omega
  have t7 : ¬ (s : Int) < (b : Int) := by omega
  have t8 : ¬ (s : Int) - (b : Int) < (n : Int) := by omega
  have z1 : (0 : Int) ≤ (n : Int) := by omega
  have z2 : (n : Int) ≤ 100 := by omega
  have z3 : (0 : Int) ≤ (b : Int) := by omega
  have z4 : (s : Int) ≤ 100 := by omega
  have z5 : (0 : Int) ≤ (s : Int) := by omega
  have z6 : (b : Int) ≤ 100 := by omega
  clear hs1 hs2 h2 h3 h4 h5 hb1 hb2
  generalize (s : Int) = sI at *
  generalize (b : Int) = bI at *
  generalize (n : Int) = nI at *
  generalize (r : Int) = rI at *
  go_enter Tryz.func5, Tryz.ntmps5
  go_wp2_with (first
    | (go_at_call 9; refine CN.out.mono ?_; rintro e w1 ⟨db, rfl, D1, b1⟩)
    | (go_at_call 10; refine (CG.out _ _ D1).mono ?_; clear CG; rintro e w2 ⟨S2, l, rfl, L2, k2⟩; have bb : Below w.heap.size w w2 := b1.trans k2)
    | (go_at_call 10; refine (CO.out _).mono ?_; clear CO; rintro e w3 ⟨rfl, rfl⟩)
    | (go_at_call 24; refine (CE.out _ _ _ _ _ L2).mono ?_; rintro e w4 ⟨rfl, rfl⟩)
    | (go_at_call 25; refine (CD.out _ _ _ _ _ L2).mono ?_; rintro e w5 ⟨rfl, rfl⟩)
    | (go_at_call 26; refine (CL.out _ _ _ _ _ L2).mono ?_; rintro e w6 ⟨rfl, b6⟩; have L6 := L2.below b6; have bb6 := thn bb b6)
    | (go_at_call 27; refine (CR.out _ _ _ _ _ L6).mono ?_; rintro e w7 ⟨rfl, rfl⟩)
    | (go_at_call 28; refine (CB1.out _ _ _ _ _ L6).mono ?_; clear CB1; rintro e w8 ⟨rfl, b8⟩; have L8 := L6.below b8; have bb8 := thn bb6 b8)
    | (go_at_call 28; refine (CB2.out _ _ _ _ _ L8).mono ?_; clear CB2; rintro e w10 ⟨rfl, b10⟩; have bb10 := thn bb8 b10)
    | (go_at_call 17; refine (CA.out _).mono ?_; rintro e w9 ⟨rfl, b9⟩))
  go_ret
  exact ⟨rfl, thn bb10 b9⟩
theorem opens8_walk (s b n r : Int) (hb : b ≤ 9223372036854775807) : Calls Tryz.prog 5 #[.int .i64 s, .int .i64 b, .int .i64 n, .int .i64 r] w fun e w' => e = .returned (.bool true) ∧ Below w.heap.size w w' := by
  by_cases h0 : s < 1 ∨ 100 < s
  · exact opens_out s b n r h0
  obtain ⟨sn, rfl⟩ : ∃ m : Nat, s = m := ⟨s.toNat, by omega⟩
  by_cases h1 : b < 0
  · exact opens_arga sn (by omega) (by omega) b n r h1
  by_cases h2 : n < 1
  · exact opens_argb sn (by omega) (by omega) b n r h1 h2
  by_cases h3 : r < 1
  · exact opens_argc sn (by omega) (by omega) b n r h1 h2 h3
  by_cases h4 : 4294967295 < r
  · exact opens_argd sn (by omega) (by omega) b n r h1 h2 h3 h4
  by_cases h6 : (sn : Int) < b
  · exact opens_rangea sn (by omega) (by omega) b n r h1 h2 h3 h4 h6 hb
  by_cases h7 : (sn : Int) - b < n
  · exact opens_rangeb sn (by omega) (by omega) b n r h1 h2 h3 h4 h6 h7 hb
  obtain ⟨b', rfl⟩ : ∃ m : Nat, b = m := ⟨b.toNat, by omega⟩
  obtain ⟨n', rfl⟩ : ∃ m : Nat, n = m := ⟨n.toNat, by omega⟩
  obtain ⟨r', rfl⟩ : ∃ m : Nat, r = m := ⟨r.toNat, by omega⟩
  exact opens_good sn (by omega) (by omega) b' n' r' (by omega) (by omega) (by omega) (by omega)
end
end Go.Proofs.YtgcfbjecmmnlhaaGreat
