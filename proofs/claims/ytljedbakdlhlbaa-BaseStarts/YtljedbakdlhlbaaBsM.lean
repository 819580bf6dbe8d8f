/- A base as seven numbers and as bytes: what a writer lays of it, what a reader takes back. Plain, with no walk. -/
import Derived.Test.YtljedbakdlhlbaaPkMath
import Derived.Test.YtljedbakdlhlbaaPkWr
namespace Go.Proofs.Ytljedbakdlhlbaa
open Go.RowKit
set_option linter.unusedVariables false
set_option linter.unusedSimpArgs false
set_option maxRecDepth 100000

/-- A base: its seven numbers. -/
structure Bs where
  nd : Int
  bt : Int
  gn : Int
  ck : Int
  rd : Int
  sn : Int
  jn : Int
def Bs.A (s : Bs) : Array Value := #[.int .i64 s.nd, .int .i64 s.bt, .int .i64 s.gn, .int .i64 s.ck, .int .i64 s.rd, .int .i64 s.sn, .int .i64 s.jn]
def Bs.zero : Bs := ⟨0, 0, 0, 0, 0, 0, 0⟩
/-- Its numbers with their widths. -/
def Bs.ps (s : Bs) : List (Int × Nat) := [(s.nd, 1), (s.bt, 4), (s.gn, 2), (s.ck, 6), (s.rd, 6), (s.sn, 4), (s.jn, 4)]
/-- A number that has room. -/
def Room (n : Int) (k : Nat) : Prop := 0 ≤ n ∧ n < Pk.limI k
def AllFit (l : List (Int × Nat)) : Prop := ∀ p ∈ l, Room p.1 p.2
def Fit (s : Bs) : Prop := AllFit s.ps
def cat : List (Int × Nat) → ByteArray
  | [] => ⟨#[]⟩
  | p :: r => Pk.beS p.1.toNat p.2 ++ cat r
def sign7 : ByteArray := ⟨#[103, 104, 97, 114, 114, 121, 49]⟩
def sig9 : ByteArray := ⟨#[0, 7, 103, 104, 97, 114, 114, 121, 49]⟩
def bB (s : Bs) : ByteArray := sig9 ++ cat s.ps
theorem sig9_eq : sig9 = Pk.beS 7 2 ++ sign7 := by
  apply ByteArray.ext
  rw [ByteArray.data_append]
  decide
theorem sig9_size : sig9.size = 9 := rfl
theorem sign7_size : sign7.size = 7 := rfl
theorem cat_size (s : Bs) : (cat s.ps).size = 27 := by simp [cat, Bs.ps, ByteArray.size_append, Pk.beS_size, Pk.size_nil]
theorem bB_size (s : Bs) : (bB s).size = 36 := by rw [bB, ByteArray.size_append, cat_size, sig9_size]
theorem AllFit.cons {p : Int × Nat} {l : List (Int × Nat)} : AllFit (p :: l) ↔ Room p.1 p.2 ∧ AllFit l := by simp [AllFit]
theorem AllFit.nil : AllFit [] := fun _ h => by cases h
theorem fit_iff (s : Bs) : Fit s ↔ Room s.nd 1 ∧ Room s.bt 4 ∧ Room s.gn 2 ∧ Room s.ck 6 ∧ Room s.rd 6 ∧ Room s.sn 4 ∧ Room s.jn 4 := by
  simp [Fit, Bs.ps, AllFit.cons, AllFit.nil]

/-! ### What the writer lays -/
def wrP (x : ByteArray × Int) (p : Int × Nat) : ByteArray × Int := Pk.wrLay x.1 x.2 (Pk.putV ⟨#[]⟩ p.1 (p.2 : Int)).1 (Pk.putV ⟨#[]⟩ p.1 (p.2 : Int)).2
theorem nil_append (s : ByteArray) : (⟨#[]⟩ : ByteArray) ++ s = s := by apply ByteArray.ext; simp [ByteArray.data_append]
theorem wrP_fit {all : ByteArray} {p : Int × Nat} (h : Room p.1 p.2) (h1 : 1 ≤ p.2) (h6 : p.2 ≤ 6) : wrP (all, 0) p = (all ++ Pk.beS p.1.toNat p.2, 0) := by
  unfold wrP
  obtain ⟨a, b⟩ := h
  rw [Pk.putV_fits (by omega) (by rw [Int.toNat_natCast]; omega)]
  simp [Pk.wrLay, nil_append]
theorem wrP_bad {all : ByteArray} {p : Int × Nat} (h : ¬ Room p.1 p.2) (h1 : 1 ≤ p.2) (h6 : p.2 ≤ 6) : wrP (all, 0) p = (⟨#[]⟩, 6) := by
  unfold wrP
  rw [Pk.putV_range (by omega) (by rw [Int.toNat_natCast]; unfold Room at h; omega)]
  simp [Pk.wrLay]
theorem wrP_had {all : ByteArray} {e : Int} {p : Int × Nat} (h : e ≠ 0) : wrP (all, e) p = (all, e) := by simp [wrP, Pk.wrLay, h]
theorem wrP_size (x : ByteArray × Int) (p : Int × Nat) : (wrP x p).1.size ≤ x.1.size + 6 := by
  have := (Pk.putV_size p.1 (p.2 : Int)).1
  unfold wrP Pk.wrLay
  split
  · exact Nat.le_add_right _ _
  · split
    · exact Nat.zero_le _
    · rw [ByteArray.size_append]; omega
def Wide (l : List (Int × Nat)) : Prop := ∀ p ∈ l, 1 ≤ p.2 ∧ p.2 ≤ 6
theorem foldl_had {e : Int} (h : e ≠ 0) : ∀ (l : List (Int × Nat)) (all : ByteArray), l.foldl wrP (all, e) = (all, e)
  | [], _ => rfl
  | p :: r, all => by rw [List.foldl_cons, wrP_had h]; exact foldl_had h r all
theorem foldl_fit : ∀ (l : List (Int × Nat)) (all : ByteArray), Wide l → AllFit l → l.foldl wrP (all, 0) = (all ++ cat l, 0)
  | [], all, _, _ => by simp [cat, Pk.append_nil]
  | p :: r, all, hw, hf => by
    obtain ⟨h1, h2⟩ := AllFit.cons.1 hf
    have hp := hw p (List.mem_cons_self ..)
    rw [List.foldl_cons, wrP_fit h1 hp.1 hp.2, foldl_fit r _ (fun q hq => hw q (List.mem_cons_of_mem _ hq)) h2, cat, ByteArray.append_assoc]
theorem foldl_bad : ∀ (l : List (Int × Nat)) (all : ByteArray), Wide l → ¬ AllFit l → l.foldl wrP (all, 0) = (⟨#[]⟩, 6)
  | [], all, _, hf => absurd AllFit.nil hf
  | p :: r, all, hw, hf => by
    have hp := hw p (List.mem_cons_self ..)
    rw [List.foldl_cons]
    by_cases h1 : Room p.1 p.2
    · rw [wrP_fit h1 hp.1 hp.2]
      exact foldl_bad r _ (fun q hq => hw q (List.mem_cons_of_mem _ hq)) (fun h2 => hf (AllFit.cons.2 ⟨h1, h2⟩))
    · rw [wrP_bad h1 hp.1 hp.2]
      exact foldl_had (by decide) r _
theorem wide_ps (s : Bs) : Wide s.ps := by
  intro p hp
  simp only [Bs.ps, List.mem_cons, List.not_mem_nil, or_false] at hp
  rcases hp with rfl | rfl | rfl | rfl | rfl | rfl | rfl <;> exact ⟨by dsimp only; decide, by dsimp only; decide⟩
theorem laid_fit {s : Bs} (h : Fit s) : s.ps.foldl wrP (sig9, 0) = (bB s, 0) := foldl_fit _ _ (wide_ps s) h
theorem laid_bad {s : Bs} (h : ¬ Fit s) : s.ps.foldl wrP (sig9, 0) = (⟨#[]⟩, 6) := foldl_bad _ _ (wide_ps s) h

/-! ### What the reader takes back -/
theorem be_snoc (n : Nat) : ∀ k, Pk.be n (k + 1) = Pk.be (n / 256) k ++ [UInt8.ofNat (n % 256)]
  | 0 => by simp [Pk.be]
  | k + 1 => by
    rw [Pk.be, be_snoc n k, Pk.be, List.cons_append]
    congr 2
    rw [Nat.div_div_eq_div_mul, Nat.pow_succ, Nat.mul_comm]
theorem be_beN (x : List UInt8) : Pk.be (Pk.beN x) x.length = x := by
  have key : ∀ (k : Nat) (x : List UInt8), x.length = k → Pk.be (Pk.beN x) k = x := by
    intro k
    induction k with
    | zero => intro x h; simp [List.length_eq_zero_iff.1 h, Pk.be]
    | succ k ih =>
      intro x h
      rcases List.eq_nil_or_concat x with rfl | ⟨y, c, rfl⟩
      · simp at h
      · rw [List.concat_eq_append] at h ⊢
        rw [List.length_append, List.length_singleton] at h
        have hc := c.toNat_lt
        rw [Pk.beN_snoc, be_snoc]
        have e1 : (256 * Pk.beN y + c.toNat) / 256 = Pk.beN y := by omega
        have e2 : (256 * Pk.beN y + c.toNat) % 256 = c.toNat := by omega
        rw [e1, e2, ih y (by omega)]
        simp
  exact key _ x rfl
theorem split_at (l : ByteArray) (k : Nat) (h : k ≤ l.size) : ∃ a m : ByteArray, l = a ++ m ∧ a.size = k ∧ m.size = l.size - k := by
  refine ⟨l.extract 0 k, l.extract k l.size, ?_, ?_, ?_⟩
  · apply ByteArray.ext
    rw [ByteArray.data_append, ByteArray.data_extract, ByteArray.data_extract]
    have hz : l.data.size = l.size := rfl
    rw [Array.extract_append_extract, Nat.min_eq_left (Nat.zero_le _), Nat.max_eq_right h, ← hz, Array.extract_size]
  · rw [ByteArray.size_extract]; omega
  · rw [ByteArray.size_extract]; omega
theorem beS_beN (a : ByteArray) : Pk.beS (Pk.beN a.data.toList) a.size = a := by
  apply ByteArray.ext
  show (Pk.be _ a.size).toArray = a.data
  have := be_beN a.data.toList
  rw [show a.data.toList.length = a.size from rfl] at this
  rw [this]
theorem num_split (l : ByteArray) (k : Nat) (h : k ≤ l.size) : ∃ (n : Nat) (m : ByteArray), n < 256 ^ k ∧ l = Pk.beS n k ++ m ∧ m.size = l.size - k := by
  obtain ⟨a, m, rfl, hz, hm⟩ := split_at l k h
  refine ⟨Pk.beN a.data.toList, m, ?_, ?_, hm⟩
  · have := Pk.beN_lt a.data.toList
    rw [show a.data.toList.length = a.size from rfl, hz] at this
    exact this
  · have := beS_beN a
    rw [hz] at this
    rw [this]
/-- These bytes begin with a base's. -/
structure Has (t : ByteArray) (s : Bs) : Prop where
  fit : Fit s
  is : ∃ r, t = bB s ++ r
theorem room_nat {n k : Nat} (h : n < 256 ^ k) : Room (n : Int) k := ⟨by omega, by rw [Pk.limI_nat]; omega⟩
theorem has_of_sig (t : ByteArray) (h : t.size = 64) (hs : t.extract 0 9 = sig9) : ∃ s, Has t s := by
  obtain ⟨a, m, rfl, hz, hm⟩ := split_at t 9 (by omega)
  have e : (a ++ m).extract 0 9 = a := by have := Pk.extract_left a m; rwa [hz] at this
  rw [e] at hs
  subst hs
  obtain ⟨n1, m1, b1, rfl, z1⟩ := num_split m 1 (by omega)
  obtain ⟨n2, m2, b2, rfl, z2⟩ := num_split m1 4 (by omega)
  obtain ⟨n3, m3, b3, rfl, z3⟩ := num_split m2 2 (by omega)
  obtain ⟨n4, m4, b4, rfl, z4⟩ := num_split m3 6 (by omega)
  obtain ⟨n5, m5, b5, rfl, z5⟩ := num_split m4 6 (by omega)
  obtain ⟨n6, m6, b6, rfl, z6⟩ := num_split m5 4 (by omega)
  obtain ⟨n7, m7, b7, rfl, z7⟩ := num_split m6 4 (by omega)
  refine ⟨⟨n1, n2, n3, n4, n5, n6, n7⟩, (fit_iff _).2 ⟨room_nat b1, room_nat b2, room_nat b3, room_nat b4, room_nat b5, room_nat b6, room_nat b7⟩, m7, ?_⟩
  simp only [bB, cat, Bs.ps, Int.toNat_natCast, ByteArray.append_assoc, nil_append]
theorem Has.sig {t : ByteArray} {s : Bs} (h : Has t s) : t.extract 0 9 = sig9 := by
  obtain ⟨r, rfl⟩ := h.is
  rw [bB, ByteArray.append_assoc]
  exact Pk.extract_left sig9 _
theorem Has.head {t : ByteArray} {s : Bs} (h : Has t s) : t.extract 0 36 = bB s := by
  obtain ⟨r, rfl⟩ := h.is
  have := Pk.extract_left (bB s) r
  rwa [bB_size] at this
theorem rdText_at (t b : ByteArray) (m : Int) (h : t.size ≤ 65535) (hm : (t.size : Int) ≤ m) : Pk.rdText (Pk.beS t.size 2 ++ t ++ b) 0 m = (t, b, 0) := by
  have h2 := Pk.rdNum_app t.size 2 (t ++ b) (by omega) (by omega) (by have : 256 ^ 2 = 65536 := by decide
                                                                      omega)
  rw [← ByteArray.append_assoc] at h2
  unfold Pk.rdText Pk.rdTextSt
  rw [show ((2 : Nat) : Int) = 2 from rfl] at h2
  rw [h2]
  dsimp only
  rw [if_neg (by omega)]
  exact Pk.rdRaw_app t b
theorem Has.text {t : ByteArray} {s : Bs} (h : Has t s) : ∃ r, t = bB s ++ r ∧ Pk.rdText t 0 7 = (sign7, cat s.ps ++ r, 0) := by
  obtain ⟨r, rfl⟩ := h.is
  refine ⟨r, rfl, ?_⟩
  have := rdText_at sign7 (cat s.ps ++ r) 7 (by decide) (by decide)
  rw [sign7_size] at this
  rw [bB, sig9_eq, ByteArray.append_assoc]
  exact this
theorem none_text (t : ByteArray) (h : t.size = 64) (hs : t.extract 0 9 ≠ sig9) : (Pk.rdText t 0 7).1 ≠ sign7 := by
  intro e
  obtain ⟨n, m, hn, rfl, hm⟩ := num_split t 2 (by omega)
  have h2 := Pk.rdNum_app n 2 m (by omega) (by omega) hn
  rw [show ((2 : Nat) : Int) = 2 from rfl] at h2
  unfold Pk.rdText Pk.rdTextSt at e
  rw [h2] at e
  dsimp only at e
  by_cases h7 : (7 : Int) < n
  · rw [if_pos h7, Pk.rdFail, if_pos rfl] at e
    dsimp only at e
    rw [Pk.rdRaw_had (by decide)] at e
    exact absurd (congrArg ByteArray.size e) (by decide)
  · rw [if_neg h7] at e
    obtain ⟨a, r, rfl, ha, hr⟩ := split_at m n (by omega)
    have h3 := Pk.rdRaw_app a r
    rw [ha] at h3
    dsimp only at e
    rw [h3] at e
    dsimp only at e
    subst e
    rw [sign7_size] at ha
    subst ha
    refine hs ?_
    rw [← ByteArray.append_assoc, ← sig9_eq]
    exact Pk.extract_left sig9 r
theorem num_back (n : Int) (k : Nat) (h : Room n k) (h1 : 1 ≤ k) (h6 : k ≤ 6) (m : ByteArray) : Pk.rdNum (Pk.beS n.toNat k ++ m) 0 (k : Int) = (n.toNat, m, 0) := by
  obtain ⟨a, b⟩ := h
  rw [Pk.limI_nat] at b
  exact Pk.rdNum_app n.toNat k m h1 h6 (by omega)
/-- A base is told by its bytes. -/
theorem beS_inj {n m k : Nat} (hn : n < 256 ^ k) (hm : m < 256 ^ k) (h : Pk.beS n k = Pk.beS m k) : n = m := by
  have e := congrArg (fun x : ByteArray => Pk.beN x.data.toList) h
  have e1 := Pk.beN_be k n hn
  have e2 := Pk.beN_be k m hm
  have e3 : Pk.beN (Pk.be n k) = Pk.beN (Pk.be m k) := e
  omega
end Go.Proofs.Ytljedbakdlhlbaa
