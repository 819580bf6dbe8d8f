/- The program's reader and the law's answer alike, and are alike behind each call: lemmas on their values alone. -/
import Derived.Test.YtdgdbfodcccmcaaPl
namespace Go.Proofs.Ytdgdbfodcccmcaa
open Go.RowKit
set_option linter.unusedVariables false
set_option linter.unusedSimpArgs false

/-- The program's reader (l, e) and the law's (s, a, e) are alike. -/
def Sim (s : ByteArray) (a : Nat) (l : ByteArray) (e : Int) : Prop := a ≤ s.size ∧ (e = 0 → l = s.extract a s.size) ∧ (e ≠ 0 → l = ⟨#[]⟩)
theorem extract_extract (s : ByteArray) (a i j : Nat) (h : a + j ≤ s.size) : (s.extract a s.size).extract i j = s.extract (a + i) (a + j) := by
  apply ByteArray.ext
  simp [ByteArray.data_extract]
  congr 1
  omega
theorem sim_fail {s : ByteArray} {a : Nat} {l : ByteArray} {e x : Int} (h : Sim s a l e) (hx : x ≠ 0) : Sim s a (rdFail l e x).1 (rdFail l e x).2 ∧ (rdFail l e x).2 = if e = 0 then x else e := by
  unfold rdFail
  by_cases he : e = 0
  · simp only [he, if_true]
    exact ⟨⟨h.1, fun h => absurd h hx, fun _ => rfl⟩, trivial⟩
  · simp only [he, if_false]
    exact ⟨h, trivial⟩
theorem sim_raw {s : ByteArray} {a : Nat} {l : ByteArray} {e n : Int} (h : Sim s a l e) :
    (rdRaw l e n).1 = (plRaw s a e n).1 ∧ (rdRaw l e n).2.2 = (plRaw s a e n).2.2 ∧ Sim s (plRaw s a e n).2.1 (rdRaw l e n).2.1 (plRaw s a e n).2.2 := by
  obtain ⟨ha, h0, h1⟩ := h
  by_cases he : e = 0
  · subst he
    have hl := h0 rfl
    have hz : l.size = s.size - a := by rw [hl, ByteArray.size_extract]; omega
    by_cases hn : n < 0
    · rw [rdRaw_neg hn, plRaw_neg hn]
      exact ⟨rfl, rfl, ha, fun h => absurd h (by dsimp only; decide), fun _ => rfl⟩
    · by_cases hs : (l.size : Int) < n
      · rw [rdRaw_short hn hs, plRaw_short hn (by omega)]
        exact ⟨rfl, rfl, ha, fun h => absurd h (by dsimp only; decide), fun _ => rfl⟩
      · rw [rdRaw_fits hn hs, plRaw_fits hn (by omega)]
        refine ⟨?_, rfl, by dsimp only; omega, fun _ => ?_, fun h => absurd rfl h⟩
        · dsimp only
          rw [hl, extract_extract _ _ _ _ (by omega), Nat.add_zero]
        · dsimp only
          rw [hz, hl, extract_extract _ _ _ _ (by omega)]
          congr 1
          omega
  · rw [rdRaw_had he, plRaw_had he]
    exact ⟨rfl, rfl, ha, h0, h1⟩
theorem sim_num {s : ByteArray} {a : Nat} {l : ByteArray} {e k : Int} (h : Sim s a l e) :
    (rdNum l e k).1 = (plNum s a e k).1 ∧ (rdNum l e k).2.2 = (plNum s a e k).2.2 ∧ Sim s (plNum s a e k).2.1 (rdNum l e k).2.1 (plNum s a e k).2.2 := by
  have key : Sim s a (rdNumSt l e k).1 (rdNumSt l e k).2 ∧ (rdNumSt l e k).2 = plNumE e k := by
    unfold rdNumSt plNumE
    by_cases hk : k < 1 ∨ 6 < k
    · simp only [hk, if_true, and_true]
      exact sim_fail h (by decide)
    · simp only [hk, if_false, and_false]
      exact ⟨h, trivial⟩
  unfold rdNum plNum
  have r := sim_raw (n := k) key.1
  rw [← key.2]
  exact ⟨by dsimp only; rw [r.1], r.2.1, r.2.2⟩
theorem sim_text {s : ByteArray} {a : Nat} {l : ByteArray} {e m : Int} (h : Sim s a l e) :
    (rdText l e m).1 = (plText s a e m).1 ∧ (rdText l e m).2.2 = (plText s a e m).2.2 ∧ Sim s (plText s a e m).2.1 (rdText l e m).2.1 (plText s a e m).2.2 := by
  obtain ⟨r1, r2, r3⟩ := sim_num (k := 2) h
  have key : Sim s (plNum s a e 2).2.1 (rdTextSt l e m).1 (rdTextSt l e m).2 ∧ (rdTextSt l e m).2 = plTextE s a e m := by
    unfold rdTextSt plTextE
    rw [r1]
    by_cases hk : m < ((plNum s a e 2).1 : Int)
    · simp only [hk, if_true, and_true]
      rw [← r2] at r3 ⊢
      exact sim_fail r3 (by decide)
    · simp only [hk, if_false, and_false]
      rw [r2]
      exact ⟨r3, rfl⟩
  unfold rdText plText
  rw [r1, ← key.2]
  exact sim_raw key.1
theorem sim_left {s : ByteArray} {a : Nat} {l : ByteArray} {e : Int} (h : Sim s a l e) : (l.size : Int) = if e = 0 then (s.size : Int) - a else 0 := by
  by_cases he : e = 0
  · rw [if_pos he, h.2.1 he, ByteArray.size_extract]
    have := h.1
    omega
  · rw [if_neg he, h.2.2 he]
    rfl
theorem sim_end {s : ByteArray} {a : Nat} {l : ByteArray} {e : Int} (h : Sim s a l e) :
    (rdEnd l e).2 = (if e = 0 ∧ a < s.size then 4 else e) ∧ Sim s a (rdEnd l e).1 (rdEnd l e).2 := by
  have hz := sim_left h
  have ha := h.1
  unfold rdEnd
  by_cases he : e = 0
  · rw [if_pos he] at hz
    by_cases hl : 0 < l.size
    · rw [if_pos hl, if_pos ⟨he, by omega⟩]
      have := sim_fail (x := 4) h (by decide)
      rw [if_pos he] at this
      exact ⟨this.2, this.1⟩
    · rw [if_neg hl, if_neg (fun x => hl (by omega))]
      exact ⟨rfl, h⟩
  · rw [if_neg he] at hz
    rw [if_neg (by omega), if_neg (fun x => he x.1)]
    exact ⟨rfl, h⟩
theorem sim_start (s : ByteArray) : Sim s 0 s 0 := ⟨Nat.zero_le _, fun _ => by apply ByteArray.ext; simp [ByteArray.data_extract], fun h => absurd rfl h⟩
theorem sim_size {s : ByteArray} {a : Nat} {l : ByteArray} {e : Int} (h : Sim s a l e) : l.size ≤ s.size := by
  by_cases he : e = 0
  · rw [h.2.1 he, ByteArray.size_extract]; omega
  · rw [h.2.2 he]; exact Nat.zero_le _
theorem Off.cell {c : Nat} {w w' : World} {p : Addr} (h : Off c w w') (hp : p.block < w.heap.size) (hn : p.block ≠ c) : w'.cell? p = w.cell? p := World.cell?_of_block (w := w) (h.block p.block hp hn)
end Go.Proofs.Ytdgdbfodcccmcaa
