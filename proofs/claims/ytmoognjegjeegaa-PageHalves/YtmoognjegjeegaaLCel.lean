/- The law's own reading of bytes as a page: cells. -/
import Derived.Test.YtmoognjegjeegaaRow
namespace Go.Proofs.Ytmoognjegjeegaa
open Go.RowKit
set_option linter.unusedVariables false
set_option linter.unusedSimpArgs false
set_option maxRecDepth 100000

theorem idx_g (p : ByteArray) (j : Nat) (h : j < p.size) : (p[j]'h).toNat = g (bts p) j := by
  have : (bts p)[j]? = some (p[j]'h) := by
    show p.data.toList[j]? = _
    rw [Array.getElem?_toList, Array.getElem?_eq_getElem (by exact h)]
    rfl
  rw [g, this]; rfl
theorem extract_seg (p : ByteArray) (a b : Nat) : p.extract a b = tx (seg (bts p) a (b - a)) := by
  apply ByteArray.ext
  rw [ByteArray.data_extract]
  apply Array.toList_inj.1
  rw [Array.toList_extract]
  simp [tx, seg, bts, List.extract_eq_take_drop]
/-- A slice of cells that can be cut. -/
structure Sl (w : World) (a : Option Addr) (cap : Nat) (L : List Cl) : Prop where
  cs : Cs w a L
  room : L.length ≤ cap
  nil : a = none → cap = 0
  form : a = none ∨ ∃ b o, a = some ⟨b, o, none⟩
theorem Sl.below {w w' : World} {a : Option Addr} {cap : Nat} {L : List Cl} (h : Sl w a cap L) (hb : Below w.heap.size w w') : Sl w' a cap L := ⟨h.cs.below hb, h.room, h.nil, h.form⟩
theorem Row.sl {w : World} {a : Option Addr} {cap : Nat} {xs : List Cl} (h : Row w a cap xs) : Sl w a cap xs := by
  refine ⟨h.cs, ?_, fun e => ?_, ?_⟩
  · rcases h with ⟨_, rfl, rfl⟩ | ⟨g, cur, _, _, h1, _⟩
    · simp
    · exact h1
  · rcases h with ⟨_, h, _⟩ | ⟨g, cur, h, _⟩
    · exact h
    · rw [e] at h; cases h
  · rcases h with ⟨h, _, _⟩ | ⟨g, cur, h, _⟩
    · exact Or.inl h
    · exact Or.inr ⟨g, 0, h⟩
/-- What the law's cells gives. -/
structure LC (w' : World) (v : Value) (s : List UInt8) : Prop where
  ex : ∃ a cap, v = .slice a (cnt s) cap ∧ Sl w' a cap (cells s)

theorem lcells_size (w : World) (p : ByteArray) (hp : p.size ≠ 224) : Calls Try.prog 9 #[.string p] w fun e w' => e = .returned (.tuple #[.slice none 0 0, .bool false]) ∧ Below w.heap.size w w' := by
  have h1 : ((p.size : Int) != 224) = true := by simp; omega
  go_enter Try.func9, Try.ntmps9
  go_wp2
  go_ret2
  exact ⟨rfl, Below.refl _ _⟩
set_option maxHeartbeats 1000000 in
theorem lcells_head (w : World) (p : ByteArray) (hp : p.size = 224) (hh : ¬ Head (bts p)) : Calls Try.prog 9 #[.string p] w fun e w' => e = .returned (.tuple #[.slice none 0 0, .bool false]) ∧ Below w.heap.size w w' := by
  have hg := idx_g p
  have b0 := g_lt (bts p) 0
  have b1 := g_lt (bts p) 1
  have b2 := g_lt (bts p) 2
  have b3 := g_lt (bts p) 3
  have hno : ¬ (g (bts p) 0 ≤ 2 ∧ (g (bts p) 0 = 2 ∨ g (bts p) 1 = 0) ∧ (g (bts p) 0 = 0 → g (bts p) 2 = 0) ∧ 4 ≤ g (bts p) 3 ∧ g (bts p) 3 + g (bts p) 2 ≤ 224) := fun ⟨a, b, c, d, e⟩ => hh ⟨by rw [bts_length, hp], a, b, c, d, e⟩
  clear hh
  have i0 := fun h => hg 0 h
  have i1 := fun h => hg 1 h
  have i2 := fun h => hg 2 h
  have i3 := fun h => hg 3 h
  clear hg
  generalize g (bts p) 0 = k at *
  generalize g (bts p) 1 = l at *
  generalize g (bts p) 2 = n at *
  generalize g (bts p) 3 = e at *
  by_cases h1 : 2 < k
  · have h1' : (2 : Int) < (k : Int) := by omega
    clear hno
    go_enter Try.func9, Try.ntmps9
    go_wp2
    go_ret2
    exact ⟨rfl, Below.refl _ _⟩
  · have h1' : ¬ (2 : Int) < (k : Int) := by omega
    by_cases h2 : k = 2
    · have h2' : ((k : Int) != 2) = false := by simp; omega
      have h2'' : ((k : Int) == 0) = false := by simp; omega
      by_cases h6 : e < 4
      · have h6' : (e : Int) < 4 := by omega
        clear hno
        go_enter Try.func9, Try.ntmps9
        go_wp2
        go_quiet (fail)
        go_wp2
        go_ret2
        exact ⟨rfl, below_drewN (Below.refl _ _) _⟩
      · have h6' : ¬ (e : Int) < 4 := by omega
        have h7 : (224 : Int) - (n : Int) < (e : Int) := by omega
        clear hno
        go_enter Try.func9, Try.ntmps9
        go_wp2
        go_quiet (fail)
        go_wp2
        go_ret2
        exact ⟨rfl, below_drewN (Below.refl _ _) _⟩
    · have h2' : ((k : Int) != 2) = true := by simp; omega
      by_cases h3 : l = 0
      · have h3' : ((l : Int) != 0) = false := by simp; omega
        by_cases h4 : k = 0
        · have h4' : ((k : Int) == 0) = true := by simp; omega
          by_cases h5 : n = 0
          · have h5' : ((n : Int) != 0) = false := by simp; omega
            have hk : k = 0 := h4
            have hn : n = 0 := h5
            by_cases h6 : e < 4
            · have h6' : (e : Int) < 4 := by omega
              clear hno
              go_enter Try.func9, Try.ntmps9
              go_wp2
              go_quiet (fail)
              go_wp2
              go_ret2
              exact ⟨rfl, below_drewN (Below.refl _ _) _⟩
            · have h6' : ¬ (e : Int) < 4 := by omega
              have h7 : (224 : Int) - (n : Int) < (e : Int) := by omega
              clear hno
              go_enter Try.func9, Try.ntmps9
              go_wp2
              go_quiet (fail)
              go_wp2
              go_ret2
              exact ⟨rfl, below_drewN (Below.refl _ _) _⟩
          · have h5' : ((n : Int) != 0) = true := by simp; omega
            clear hno
            go_enter Try.func9, Try.ntmps9
            go_wp2
            go_ret2
            exact ⟨rfl, Below.refl _ _⟩
        · have h4' : ((k : Int) == 0) = false := by simp; omega
          by_cases h6 : e < 4
          · have h6' : (e : Int) < 4 := by omega
            clear hno
            go_enter Try.func9, Try.ntmps9
            go_wp2
            go_quiet (fail)
            go_wp2
            go_ret2
            exact ⟨rfl, below_drewN (Below.refl _ _) _⟩
          · have h6' : ¬ (e : Int) < 4 := by omega
            have h7 : (224 : Int) - (n : Int) < (e : Int) := by omega
            clear hno
            go_enter Try.func9, Try.ntmps9
            go_wp2
            go_quiet (fail)
            go_wp2
            go_ret2
            exact ⟨rfl, below_drewN (Below.refl _ _) _⟩
      · have h3' : ((l : Int) != 0) = true := by simp; omega
        clear hno
        go_enter Try.func9, Try.ntmps9
        go_wp2
        go_ret2
        exact ⟨rfl, Below.refl _ _⟩
end Go.Proofs.Ytmoognjegjeegaa
