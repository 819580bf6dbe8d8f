/- What has a frame is opened as it is clean: mathematics. -/
import Derived.Test.YtakdfdnndogaiaaLwMat
namespace Go.Proofs.Ytakdfdnndogaiaa
open Go.RowKit
set_option linter.unusedVariables false
set_option linter.unusedSimpArgs false
set_option maxRecDepth 100000

def catT (t : ByteArray) : ByteArray := Pk.beS t.size 2 ++ t
def catV (s : Sc) : ByteArray := if actOf s = 3 then catT s.nw else if actOf s = 4 then catT s.ol else catT s.ol ++ catT s.nw
def catC (s : Sc) : ByteArray := Pk.beS s.pg.toNat 2 ++ (catT s.ky ++ catV s)
theorem stepT_cat {A : ByteArray × Int} {t : ByteArray} (ht : t.size ≤ 65535) (h : (stepT A t).2 = 0) : A.2 = 0 ∧ stepT A t = (A.1 ++ catT t, 0) := stepT_inv ht h
theorem layC_inv {s : Sc} {A : ByteArray × Int} (hy : s.ky.size ≤ 16) (ho : s.ol.size ≤ 32) (hw : s.nw.size ≤ 32) (h : (layC s A).2 = 0) : A.2 = 0 ∧ 0 ≤ s.pg ∧ s.pg < 65536 ∧ layC s A = (A.1 ++ catC s, 0) := by
  have key : ∀ B : ByteArray × Int, B = stepT (stepW A s.pg 2) s.ky → B.2 = 0 → A.2 = 0 ∧ 0 ≤ s.pg ∧ s.pg < 65536 ∧ B.1 = A.1 ++ Pk.beS s.pg.toNat 2 ++ catT s.ky := by
    intro B hB hB0
    rw [hB] at hB0
    obtain ⟨e1, e2⟩ := stepT_cat (by omega) hB0
    obtain ⟨f1, f2, f3, f4⟩ := stepW_inv (by omega) (by omega) e1
    rw [Pk.limI_2] at f3
    refine ⟨f1, f2, f3, ?_⟩
    rw [hB, e2, f4]
    rfl
  unfold layC layV at h ⊢
  unfold catC catV
  obtain ⟨B, hB⟩ : ∃ B, B = stepT (stepW A s.pg 2) s.ky := ⟨_, rfl⟩
  rw [← hB] at h ⊢
  have K := key B hB
  clear key hB
  by_cases h3 : actOf s = 3
  · rw [if_pos h3] at h ⊢
    rw [if_pos h3]
    obtain ⟨e1, e2⟩ := stepT_cat (by omega) h
    obtain ⟨k1, k2, k3, k4⟩ := K e1
    refine ⟨k1, k2, k3, ?_⟩
    rw [e2, k4]
    simp only [ByteArray.append_assoc]
  · by_cases h4 : actOf s = 4
    · rw [if_neg h3, if_pos h4] at h ⊢
      rw [if_neg h3, if_pos h4]
      obtain ⟨e1, e2⟩ := stepT_cat (by omega) h
      obtain ⟨k1, k2, k3, k4⟩ := K e1
      refine ⟨k1, k2, k3, ?_⟩
      rw [e2, k4]
      simp only [ByteArray.append_assoc]
    · rw [if_neg h3, if_neg h4] at h ⊢
      rw [if_neg h3, if_neg h4]
      obtain ⟨e1, e2⟩ := stepT_cat (by omega) h
      obtain ⟨f1, f2⟩ := stepT_cat (by omega) e1
      obtain ⟨k1, k2, k3, k4⟩ := K f1
      refine ⟨k1, k2, k3, ?_⟩
      rw [e2, f2, k4]
      simp only [ByteArray.append_assoc]
theorem rd_cat {t b : ByteArray} {M : Int} (h : t.size ≤ M) (hM : M ≤ 65535) : tT (catT t ++ b, 0) M = t ∧ sT (catT t ++ b, 0) M = (b, 0) := rd_text h hM
def putC (s0 s : Sc) : Sc := {s0 with pg := s.pg, ky := s.ky, ol := if actOf s = 3 then s0.ol else s.ol, nw := if actOf s = 4 then s0.nw else s.nw}
theorem rdChg_cat (s0 s : Sc) (b : ByteArray) (hy : s.ky.size ≤ 16) (ho : s.ol.size ≤ 32) (hw : s.nw.size ≤ 32) (h0 : 0 ≤ s.pg) (h1 : s.pg < 65536) : rdChg (actOf s) s0 (catC s ++ b, 0) = (putC s0 s, (b, 0)) := by
  have e0 : catC s ++ b = Pk.beS s.pg.toNat 2 ++ (catT s.ky ++ (catV s ++ b)) := by unfold catC; simp only [ByteArray.append_assoc]
  obtain ⟨n1, n2⟩ := rd_num (n := s.pg) (k := 2) (b := catT s.ky ++ (catV s ++ b)) (by omega) (by omega) h0 (by rw [Pk.limI_2]; exact h1)
  rw [show ((2 : Int)).toNat = 2 from rfl, ← e0] at n1 n2
  obtain ⟨t1, t2⟩ := rd_cat (t := s.ky) (b := catV s ++ b) (M := 16) (by omega) (by omega)
  rw [← n2] at t1 t2
  have q1 : rq1 (catC s ++ b, 0) = (catV s ++ b, 0) := t2
  have c1 : rc1 s0 (catC s ++ b, 0) = {s0 with pg := s.pg, ky := s.ky} := by unfold rc1; rw [n1, t1]
  unfold rdChg rcN rcO rcB
  rw [q1, c1]
  unfold putC catV
  by_cases h3 : actOf s = 3
  · rw [if_pos h3, if_pos h3, if_pos h3, if_neg (by rw [h3]; decide)]
    obtain ⟨u1, u2⟩ := rd_cat (t := s.nw) (b := b) (M := 32) (by omega) (by omega)
    rw [u1, u2]
  · by_cases h4 : actOf s = 4
    · rw [if_neg h3, if_pos h4, if_neg h3, if_pos h4, if_neg h3, if_pos h4]
      obtain ⟨u1, u2⟩ := rd_cat (t := s.ol) (b := b) (M := 32) (by omega) (by omega)
      rw [u1, u2]
    · rw [if_neg h3, if_neg h4, if_neg h3, if_neg h4, if_neg h3, if_neg h4]
      obtain ⟨u1, u2⟩ := rd_cat (t := s.ol) (b := catT s.nw ++ b) (M := 32) (by omega) (by omega)
      obtain ⟨v1, v2⟩ := rd_cat (t := s.nw) (b := b) (M := 32) (by omega) (by omega)
      rw [ByteArray.append_assoc, u1, u2, v1, v2]
theorem sN_cat {n k : Int} {b : ByteArray} {j : Nat} (hj : k = (j : Int)) (h1 : 1 ≤ k) (h6 : k ≤ 6) (h0 : 0 ≤ n) (hn : n < Pk.limI j) : nN (Pk.beS n.toNat j ++ b, 0) k = n ∧ sN (Pk.beS n.toNat j ++ b, 0) k = (b, 0) := by
  subst hj
  have := rd_num (n := n) (k := (j : Int)) (b := b) h1 h6 h0 (by rw [Int.toNat_natCast]; exact hn)
  rw [Int.toNat_natCast] at this
  exact this
/-- What a body's bytes are read as. -/
theorem rdM_body {m : Rm} {t : ByteArray} (hc : cleanM m = m) (hb : bodyM m = (t, 0)) : rdM t = (m, (⟨#[]⟩, 0)) := by
  have hr : refM m = 0 := by
    rcases Classical.em (refM m = 0) with h | h
    · exact h
    · rw [bodyM_ref h] at hb; exact absurd (congrArg Prod.snd hb) h
  have hl : laidM m = (t, 0) := by
    rcases Classical.em ((laidM m).2 = 0) with h | h
    · rcases Classical.em (4096 < (laidM m).1.size) with h' | h'
      · rw [bodyM_long hr h h'] at hb; exact absurd (congrArg Prod.snd hb) (by dsimp only; omega)
      · rw [bodyM_good hr h h'] at hb
        have h9 : (laidM m).1 = t := congrArg (fun x : ByteArray × Int => x.1) hb
        exact Prod.ext h9 h
    · rw [bodyM_err hr h] at hb; exact absurd (congrArg Prod.snd hb) h
  have hf := fine_of hr
  have hx := hf.texts
  have hwh := hf.whole
  obtain ⟨s, l, g⟩ := m
  have k1 := hf.k1
  have k2 := hf.k2
  have hy := hf.ky
  have ho := hf.ol
  have hw := hf.nw
  dsimp only at *
  have hl2 : (laidM ⟨s, l, g⟩).2 = 0 := by rw [hl]
  have htt : t = (laidM ⟨s, l, g⟩).1 := by rw [hl]
  clear hl hb
  unfold laidM laidF at hl2 htt
  dsimp only at hl2 htt
  have z0 : ∀ (X : ByteArray), (⟨#[]⟩ : ByteArray) ++ X = X := nil_app
  -- the kind's byte, and what is behind it
  have head : ∀ u : ByteArray, (stepW (⟨#[]⟩, 0) s.kd 1).2 = 0 → t = (stepW (⟨#[]⟩, 0) s.kd 1).1 ++ u → nN (t, 0) 1 = s.kd ∧ sN (t, 0) 1 = (u, 0) := by
    intro u h0 hu
    obtain ⟨f1, f2, f3, f4⟩ := stepW_inv (by omega) (by omega) h0
    rw [f4] at hu
    dsimp only at hu
    rw [z0, show ((1 : Int)).toNat = 1 from rfl] at hu
    rw [hu]
    exact sN_cat (j := 1) rfl (by omega) (by omega) f2 f3
  have hcs : cleanS s = s := congrArg Rm.s hc
  have hci : (if s.kd = 1 ∨ s.kd = 2 then l else []) = l := congrArg Rm.im hc
  have hcg : (if s.kd = 9 then g else []) = g := congrArg Rm.tb hc
  have w6 : ∀ (n : Int) (X : ByteArray × Int), (stepW X n 6).2 = 0 → X.2 = 0 ∧ 0 ≤ n ∧ n < 281474976710656 ∧ (stepW X n 6).1 = X.1 ++ Pk.beS n.toNat 6 := by
    intro n X h0
    obtain ⟨f1, f2, f3, f4⟩ := stepW_inv (by omega) (by omega) h0
    rw [Pk.limI_6] at f3
    exact ⟨f1, f2, f3, by rw [f4]; rfl⟩
  have r6 : ∀ (n : Int) (b : ByteArray), 0 ≤ n → n < 281474976710656 → nN (Pk.beS n.toNat 6 ++ b, 0) 6 = n ∧ sN (Pk.beS n.toNat 6 ++ b, 0) 6 = (b, 0) := by
    intro n b h0 h1
    exact sN_cat (j := 6) rfl (by omega) (by omega) h0 (by rw [show Pk.limI 6 = 281474976710656 from Pk.limI_6]; exact h1)
  have w1 : ∀ (n : Int) (X : ByteArray × Int), (stepW X n 1).2 = 0 → X.2 = 0 ∧ 0 ≤ n ∧ n < 256 ∧ (stepW X n 1).1 = X.1 ++ Pk.beS n.toNat 1 := by
    intro n X h0
    obtain ⟨f1, f2, f3, f4⟩ := stepW_inv (by omega) (by omega) h0
    rw [Pk.limI_1] at f3
    exact ⟨f1, f2, f3, by rw [f4]; rfl⟩
  have r1 : ∀ (n : Int) (b : ByteArray), 0 ≤ n → n < 256 → nN (Pk.beS n.toNat 1 ++ b, 0) 1 = n ∧ sN (Pk.beS n.toNat 1 ++ b, 0) 1 = (b, 0) := by
    intro n b h0 h1
    exact sN_cat (j := 1) rfl (by omega) (by omega) h0 (by rw [show Pk.limI 1 = 256 from Pk.limI_1]; exact h1)
  have fin : ∀ (x : Rm), x = cleanM ⟨s, l, g⟩ → (x, ((⟨#[]⟩ : ByteArray), (0 : Int))) = (⟨s, l, g⟩, (⟨#[]⟩, 0)) := by
    intro x hx; rw [hx, hc]
  obtain ⟨A1, hA1⟩ : ∃ A1, A1 = stepW (⟨#[]⟩, 0) s.kd 1 := ⟨_, rfl⟩
  rw [← hA1] at hl2 htt head
  clear hA1
  unfold rdM
  dsimp only
  by_cases h12 : s.kd = 1 ∨ s.kd = 2
  · rw [if_pos h12] at hl2 htt
    obtain ⟨gI, e⟩ := layI_inv (fun p hp => by have := hx h12 p hp; omega) hl2
    obtain ⟨c1, c2, c3, c4⟩ := w1 _ _ (layI_err hl2)
    rw [e] at htt
    dsimp only at htt
    rw [c4, ByteArray.append_assoc] at htt
    obtain ⟨a1, a2⟩ := head _ c1 htt
    obtain ⟨b1, b2⟩ := r1 (l.length : Int) (catI l) c2 c3
    have h224 : ∀ p ∈ l, p.2.size ≤ 224 := fun p hp => by
      have := (List.all_eq_true.1 (hwh h12)) p hp
      simp at this
      omega
    obtain ⟨d1, d2⟩ := rd_images l ⟨#[]⟩ gI h224
    rw [Pk.append_nil] at d1 d2
    rw [a1, a2, if_pos h12, b1, b2, Int.toNat_natCast, d1, d2]
    refine fin _ ?_
    rcases h12 with h | h <;> simp [cleanM, cleanS, h, kR, zS]
  rw [if_neg h12] at hl2 htt
  by_cases h345 : s.kd = 3 ∨ s.kd = 4 ∨ s.kd = 5
  · rw [if_pos h345] at hl2 htt
    obtain ⟨p1, p2, p3, p4⟩ := layC_inv hy ho hw hl2
    rw [p4] at htt
    dsimp only at htt
    have e1 : layP [s.tx, s.pv] A1 = stepW (stepW A1 s.tx 6) s.pv 6 := rfl
    rw [e1] at p1 htt
    obtain ⟨f1, f2, f3, f4⟩ := w6 _ _ p1
    obtain ⟨g1, g2, g3, g4⟩ := w6 _ _ f1
    rw [f4, g4, ByteArray.append_assoc, ByteArray.append_assoc] at htt
    obtain ⟨a1, a2⟩ := head _ g1 htt
    obtain ⟨b1, b2⟩ := r6 s.tx (Pk.beS s.pv.toNat 6 ++ catC s) g2 g3
    obtain ⟨d1, d2⟩ := r6 s.pv (catC s) f2 f3
    have hact : s.kd = actOf s := by unfold actOf; rw [if_neg (by omega)]
    have hch := rdChg_cat {kR s.kd with tx := s.tx, pv := s.pv} s ⟨#[]⟩ hy ho hw p2 p3
    rw [Pk.append_nil, ← hact] at hch
    rw [a1, a2, if_neg h12, if_pos h345, b1, b2, d1, d2, hch]
    refine fin _ ?_
    rcases h345 with h | h | h <;> simp [cleanM, cleanS, h, kR, zS, putC, actOf]
  rw [if_neg h345] at hl2 htt
  by_cases h6 : s.kd = 6
  · rw [if_pos h6] at hl2 htt
    obtain ⟨p1, p2, p3, p4⟩ := layC_inv hy ho hw hl2
    rw [p4] at htt
    dsimp only at htt
    have e1 : layP [s.tx, s.pv, s.nx] A1 = stepW (stepW (stepW A1 s.tx 6) s.pv 6) s.nx 6 := rfl
    rw [e1] at p1 htt
    obtain ⟨i1, i2, i3, i4⟩ := w1 _ _ p1
    obtain ⟨j1, j2, j3, j4⟩ := w6 _ _ i1
    obtain ⟨f1, f2, f3, f4⟩ := w6 _ _ j1
    obtain ⟨g1, g2, g3, g4⟩ := w6 _ _ f1
    rw [i4, j4, f4, g4, ByteArray.append_assoc, ByteArray.append_assoc, ByteArray.append_assoc, ByteArray.append_assoc] at htt
    obtain ⟨a1, a2⟩ := head _ g1 htt
    obtain ⟨b1, b2⟩ := r6 s.tx (Pk.beS s.pv.toNat 6 ++ (Pk.beS s.nx.toNat 6 ++ (Pk.beS s.ac.toNat 1 ++ catC s))) g2 g3
    obtain ⟨d1, d2⟩ := r6 s.pv (Pk.beS s.nx.toNat 6 ++ (Pk.beS s.ac.toNat 1 ++ catC s)) f2 f3
    obtain ⟨d3, d4⟩ := r6 s.nx (Pk.beS s.ac.toNat 1 ++ catC s) j2 j3
    obtain ⟨d5, d6⟩ := r1 s.ac (catC s) i2 i3
    have hact : s.ac = actOf s := by unfold actOf; rw [if_pos h6]
    have hch := rdChg_cat {kR s.kd with tx := s.tx, pv := s.pv, nx := s.nx, ac := s.ac} s ⟨#[]⟩ hy ho hw p2 p3
    rw [Pk.append_nil, ← hact] at hch
    rw [a1, a2, if_neg h12, if_neg h345, if_pos h6, b1, b2, d1, d2, d3, d4, d5, d6, hch]
    refine fin _ ?_
    simp [cleanM, cleanS, h6, kR, zS, putC, actOf]
  rw [if_neg h6] at hl2 htt
  by_cases h78 : s.kd = 7 ∨ s.kd = 8
  · rw [if_pos h78] at hl2 htt
    have e1 : layP [s.tx, s.pv] A1 = stepW (stepW A1 s.tx 6) s.pv 6 := rfl
    rw [e1] at hl2 htt
    obtain ⟨f1, f2, f3, f4⟩ := w6 _ _ hl2
    obtain ⟨g1, g2, g3, g4⟩ := w6 _ _ f1
    rw [f4, g4, ByteArray.append_assoc] at htt
    obtain ⟨a1, a2⟩ := head _ g1 htt
    obtain ⟨b1, b2⟩ := r6 s.tx (Pk.beS s.pv.toNat 6) g2 g3
    obtain ⟨d1, d2⟩ := r6 s.pv ⟨#[]⟩ f2 f3
    rw [Pk.append_nil] at d1 d2
    rw [a1, a2, if_neg h12, if_neg h345, if_neg h6, if_pos h78, b1, b2, d1, d2]
    refine fin _ ?_
    rcases h78 with h | h <;> simp [cleanM, cleanS, h, kR, zS]
  rw [if_neg h78] at hl2 htt
  by_cases h9 : s.kd = 9
  · rw [if_pos h9] at hl2 htt
    obtain ⟨gI, e⟩ := layB_inv hl2
    obtain ⟨c1, c2, c3, c4⟩ := w1 _ _ (layB_err hl2)
    rw [e] at htt
    dsimp only at htt
    rw [c4, ByteArray.append_assoc] at htt
    obtain ⟨a1, a2⟩ := head _ c1 htt
    obtain ⟨b1, b2⟩ := r1 (g.length : Int) (catB g) c2 c3
    obtain ⟨d1, d2⟩ := rd_table g ⟨#[]⟩ gI
    rw [Pk.append_nil] at d1 d2
    rw [a1, a2, if_neg h12, if_neg h345, if_neg h6, if_neg h78, if_pos h9, b1, b2, Int.toNat_natCast, d1, d2]
    refine fin _ ?_
    simp [cleanM, cleanS, h9, kR, zS]
  rw [if_neg h9] at hl2 htt
  have h10 : s.kd = 10 := by omega
  rw [if_pos h10] at hl2 htt
  obtain ⟨f1, f2, f3, f4⟩ := w1 _ _ hl2
  obtain ⟨g1, g2, g3, g4⟩ := stepW_inv (by omega) (by omega) f1
  rw [f4, g4, show ((4 : Int)).toNat = 4 from rfl] at htt
  dsimp only at htt
  rw [ByteArray.append_assoc] at htt
  obtain ⟨a1, a2⟩ := head _ g1 htt
  obtain ⟨b1, b2⟩ := sN_cat (n := s.ep) (k := 4) (j := 4) (b := Pk.beS s.nd.toNat 1) rfl (by omega) (by omega) g2 g3
  obtain ⟨d1, d2⟩ := r1 s.nd ⟨#[]⟩ f2 f3
  rw [Pk.append_nil] at d1 d2
  rw [a1, a2, if_neg h12, if_neg h345, if_neg h6, if_neg h78, if_neg h9, if_pos h10, b1, b2, d1, d2]
  refine fin _ ?_
  simp [cleanM, cleanS, h10, kR, zS]
theorem ofM_body {m : Rm} {t : ByteArray} (hc : cleanM m = m) (hb : bodyM m = (t, 0)) : ofM t = (m, 0) := by
  unfold ofM
  rw [rdM_body hc hb]
  dsimp only
  have e : Pk.rdEnd ⟨#[]⟩ 0 = (⟨#[]⟩, 0) := rfl
  rw [e]
  dsimp only
  rw [if_neg (by simp), hb, if_pos ⟨rfl, rfl⟩]
theorem cleanM_twice (m : Rm) : cleanM (cleanM m) = cleanM m := by
  obtain ⟨s, l, g⟩ := m
  have hk : (cleanS s).kd = s.kd := cleanS_kd s
  have h1 : cleanS (cleanS s) = cleanS s := by
    unfold cleanS actOf
    repeat' split
    all_goals simp_all
  unfold cleanM
  dsimp only
  rw [hk, h1]
  congr 1
  · split <;> rfl
  · split <;> rfl
end Go.Proofs.Ytakdfdnndogaiaa
