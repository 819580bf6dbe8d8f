/- What each sector of the laws' disk can have, whatever is written, synced and lost: one write's part, or noughts. -/
import Derived.Test.YtdgnfglghiecpaaOpsS
namespace Go.Proofs.Ytdgnfglghiecpaa
open Go.RowKit Go.Maps Go.ChangeMaps
set_option linter.unusedVariables false
set_option linter.unusedSimpArgs false
set_option maxRecDepth 100000

variable {S : Dk} {R R' : Nat → ByteArray → Prop}

/-- Each sector has, lasting and waiting, what R lets it have. -/
structure AllR (R : Nat → ByteArray → Prop) (S : Dk) : Prop where
  sure : ∀ i, R i (S.sure i)
  wait : ∀ i c, S.wait i = some c → R i c
theorem AllR.now (h : AllR R S) (i : Nat) : R i (S.now i) := by
  unfold Dk.now
  cases hw : S.wait i with
  | none => exact h.sure i
  | some c => exact h.wait i c hw
theorem AllR.mono (h : AllR R S) (hR : ∀ i c, R i c → R' i c) : AllR R' S := ⟨fun i => hR _ _ (h.sure i), fun i c hc => hR _ _ (h.wait i c hc)⟩
theorem AllR.off (h : AllR R S) (x : Int) : AllR R (offDk S x) := by
  refine ⟨fun i => ?_, fun i c hc => by cases hc⟩
  show R i (lossF S.sure S.wait x i)
  unfold lossF
  cases hw : S.wait i with
  | none => exact h.sure i
  | some c =>
    dsimp only
    split
    · exact h.wait i c hw
    · exact h.sure i
theorem AllR.act (h : AllR R S) : AllR R (actDk S) := by
  unfold actDk
  split
  · exact h.off _
  · split
    · exact ⟨h.sure, h.wait⟩
    · exact ⟨h.sure, h.wait⟩
theorem AllR.write (h : AllR R S) (i : Nat) (s : ByteArray) (hR : R i (pad s)) : AllR R (writeDk S (i : Int) s) := by
  unfold writeDk
  split
  · exact h
  · split
    · exact h
    · split
      · exact h.act
      · rename_i h1 h2 h3
        refine ⟨h.act.sure, fun j c hc => ?_⟩
        have hc' : upd S.wait (i : Int).toNat (some (pad s)) j = some c := hc
        rw [Int.toNat_natCast] at hc'
        by_cases e : j = i
        · subst e
          rw [upd_same] at hc'
          cases hc'
          exact hR
        · rw [upd_other _ _ e] at hc'
          exact h.wait j c hc'
theorem AllR.sync (h : AllR R S) : AllR R (syncDk S) := by
  unfold syncDk
  split
  · split
    · exact ⟨fun i => h.now i, fun i c hc => by cases hc⟩
    · exact h.act
  · exact h
theorem AllR.wrK (h : AllR R S) (b : Nat) (t : Nat → ByteArray) (hR : ∀ k, k < 4 → R (b + k) (pad (t k))) : ∀ k, k ≤ 4 → AllR R (wrK b t S k).1
  | 0, _ => h
  | k + 1, hk => by
    have ih := AllR.wrK h b t hR k (by omega)
    unfold Go.Proofs.Ytdgnfglghiecpaa.wrK
    split
    · exact ih.write (b + k) (t k) (hR k (by omega))
    · exact ih
theorem AllR.out (h : AllR R S) (id : Int) (t : ByteArray) (l : Int) (hR : t.size = 224 → 0 ≤ l → l < 281474976710656 → 0 ≤ id → id < 8 → ∀ k, k < 4 → R (5 + 4 * id.toNat + k) (sec 3 l.toNat t k)) : AllR R (stOut 5 8 3 S id t l).1 := by
  unfold stOut
  split
  · exact h
  · split
    · exact h
    · split
      · exact h
      · rename_i h1 h2 h3
        have ht : t.size = 224 := by omega
        exact h.wrK _ _ (fun k hk => by rw [pad_self (sec_size ht hk)]; exact hR ht (by omega) (by omega) (by omega) (by omega) k hk) 4 (Nat.le_refl _)
theorem AllR.crash (h : AllR R S) (x : Int) : AllR R (crDk S x) := by
  unfold crDk
  split
  · exact h.off x
  · exact h
theorem crDk_up (S : Dk) (x : Int) : (crDk S x).up = false := by
  unfold crDk
  cases hu : S.up
  · simp [hu]
  · simp [offDk]

/-- What a part of a page can have behind j writes. -/
def GoodS (f : Nat → Wr3) (j p q : Nat) (c : ByteArray) : Prop :=
  c = zs64 ∨ ∃ n, n < j ∧ (f n).id = (p : Int) ∧ c = sec 3 (n + 1) (fillS (f n).c.toNat) q
def RS (f : Nat → Wr3) (j i : Nat) (c : ByteArray) : Prop := ∀ p q, p < 8 → q < 4 → i = 5 + 4 * p + q → GoodS f j p q c
theorem RS.mono {f : Nat → Wr3} {j i : Nat} {c : ByteArray} (h : RS f j i c) : RS f (j + 1) i c := fun p q hp hq hi => by
  rcases h p q hp hq hi with e | ⟨n, h1, h2, h3⟩
  · exact Or.inl e
  · exact Or.inr ⟨n, by omega, h2, h3⟩
theorem RS.new (f : Nat → Wr3) : AllR (RS f 0) (newDk 40) := ⟨fun i p q _ _ _ => Or.inl rfl, fun i c hc => by cases hc⟩
theorem RS.out {f : Nat → Wr3} {j : Nat} (h : AllR (RS f j) S) : AllR (RS f (j + 1)) (stOut 5 8 3 S (f j).id (fillS (f j).c.toNat) ((j : Int) + 1)).1 := by
  refine (h.mono (fun i c h => h.mono)).out _ _ _ (fun ht h0 h1 h2 h3 k hk => ?_)
  intro p q hp hq hi
  refine Or.inr ⟨j, by omega, by omega, ?_⟩
  have e1 : ((j : Int) + 1).toNat = j + 1 := by omega
  have e2 : k = q := by omega
  rw [e1, e2]
theorem whl_all {c : Nat → ByteArray} (h : whlJ c 4 = true) : ∀ i, i < 4 → gnS (c i) = gnS (c 0) ∧ lnS (c i) = lnS (c 0) := by
  simp only [whlJ, Bool.and_eq_true, beq_iff_eq] at h
  intro i hi
  have : i = 0 ∨ i = 1 ∨ i = 2 ∨ i = 3 := by omega
  rcases this with rfl | rfl | rfl | rfl <;> omega
theorem knw_some {g : Nat} {c : Nat → ByteArray} (h : knwJ g c 4 = true) : ∃ i, i < 4 ∧ gnS (c i) = g := by
  simp only [knwJ, Bool.or_eq_true, beq_iff_eq] at h
  rcases h with (((h | h) | h) | h) | h
  · cases h
  · exact ⟨0, by omega, by omega⟩
  · exact ⟨1, by omega, by omega⟩
  · exact ⟨2, by omega, by omega⟩
  · exact ⟨3, by omega, by omega⟩
/-- A page is read as one write, or torn, or not there. -/
theorem read_good {f : Nat → Wr3} {j p : Nat} (hj : j ≤ 30) {c : Nat → ByteArray} (h : ∀ q, q < 4 → GoodS f j p q (c q)) :
    rdV 3 c = (⟨#[]⟩, 0, 8) ∨ rdV 3 c = (⟨#[]⟩, 0, 10) ∨ ∃ n, n < j ∧ (f n).id = (p : Int) ∧ rdV 3 c = (fillS (f n).c.toNat, (n : Int) + 1, 0) := by
  cases hk : knwJ 3 c 4
  · left; unfold rdV; rw [hk]; rfl
  · cases hw : whlJ c 4
    · right; left; unfold rdV; rw [hk, hw]; rfl
    · right; right
      have ha := whl_all hw
      obtain ⟨i, hi, hg⟩ := knw_some hk
      have hg0 : gnS (c 0) = 3 := by rw [← (ha i hi).1]; exact hg
      have hn : ∀ q, q < 4 → ∃ n, n < j ∧ (f n).id = (p : Int) ∧ c q = sec 3 (n + 1) (fillS (f n).c.toNat) q ∧ lnS (c q) = n + 1 := fun q hq => by
        rcases h q hq with e | ⟨n, h1, h2, h3⟩
        · have := (ha q hq).1
          rw [e, gnS_zero, hg0] at this
          omega
        · refine ⟨n, h1, h2, h3, ?_⟩
          rw [h3]
          exact (read_sec (g := 3) (l := n + 1) (by omega) (by omega) (fillS_size _) hq).2.1
      obtain ⟨n, h1, h2, h3, h4⟩ := hn 0 (by omega)
      refine ⟨n, h1, h2, ?_⟩
      have := rdV_whole (g := 3) (l := n + 1) (f := c) (by omega) (by omega) (fillS_size (f n).c.toNat) (fun q hq => by
        obtain ⟨n', k1, k2, k3, k4⟩ := hn q hq
        have e := (ha q hq).2
        rw [k4, h4] at e
        have e' : n' = n := by omega
        rw [k3, e'])
      rw [this]
      refine Prod.ext rfl (Prod.ext ?_ rfl)
      show ((n + 1 : Nat) : Int) = (n : Int) + 1
      omega
end Go.Proofs.Ytdgnfglghiecpaa
