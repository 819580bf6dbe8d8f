/- The law's awake: chapter 3's example. -/
import Derived.Test.YtljedbakdlhlbaaDkSyn
namespace Go.Proofs.Ytljedbakdlhlbaa
open Go.RowKit Go.Maps Go.ChangeMaps Go.Sort
set_option linter.unusedVariables false
set_option linter.unusedSimpArgs false
set_option maxRecDepth 100000

variable {w w' : World} {db lb mb m : Nat} {S : Dk}

/-- A write that goes well on a disk with no arm. -/
def wrDk (S : Dk) (i : Nat) (s : ByteArray) : Dk := { S with acts := S.acts + 1, wait := upd S.wait i (some (pad s)) }
theorem wrDk_ok (hS : S.Ok) (ha : S.acts < 1000000) {i : Nat} (hi : i < S.n) {s : ByteArray} (hs : s.size ≤ 64) : (wrDk S i s).Ok := by
  have := hS.a0
  refine ⟨hS.n1, hS.n2, fun j c hj => ?_, hS.l0, hS.l1, hS.k0, hS.k1, by simp only [wrDk]; omega, by simp only [wrDk]; omega, hS.d0, hS.d1⟩
  by_cases e : j = i
  · subst e
    simp only [wrDk, upd_same, Option.some.injEq] at hj
    subst hj
    exact ⟨hi, pad_size hs⟩
  · simp only [wrDk, upd_other _ _ e] at hj
    exact hS.wait j c hj
theorem Write_calm (w : World) (h : DkIs w db lb mb m S) (hS : S.Ok) (hm : m < 1000000) (hu : S.up = true) (hs : S.set = false) (i : Nat) (hi : i < S.n) (s : ByteArray) (hz : s.size ≤ 64) : Calls Try.prog 15 #[.pointer (some ⟨db, 0, none⟩), .int .i64 (i : Int), .string s] w fun e w' =>
    e = .returned (.int .i64 0) ∧ DkIs w' db lb mb (m + 1) (wrDk S i s) ∧ Off (disk3 db lb mb) w w' := by
  have := Write_any w h hS hm (i : Int) s (by omega)
  have hr : refAt S.up S.n i = 0 := by simp [refAt, hu]; omega
  have hz' : ¬ 64 < s.size := by omega
  have ha : actE S = 0 := by simp [actE, hs]
  have e1 : writeE S i s = 0 := by simp [writeE, hr, hz', ha]
  have e2 : writeDk S i s = wrDk S i s := by simp [writeDk, hr, hz', ha, wrDk, actDk, hs]
  rwa [e1, e2] at this
theorem Start_down (w : World) (h : DkIs w db lb mb m S) (hn : 1 ≤ S.n) (hu : S.up = false) : Calls Try.prog 17 #[.pointer (some ⟨db, 0, none⟩)] w fun e w' => e = .returned (.int .i64 0) ∧ DkIs w' db lb mb m { S with up := true } ∧ Off (disk3 db lb mb) w w' := by
  have := Start_any w h hn
  rwa [hu] at this
theorem up_ok (hS : S.Ok) (b : Bool) : ({ S with up := b } : Dk).Ok := ⟨hS.n1, hS.n2, hS.wait, hS.l0, hS.l1, hS.k0, hS.k1, hS.a0, hS.a1, hS.d0, hS.d1⟩
theorem below_step {B : Nat} {w w1 w2 : World} (hb : Below B w w1) (hB : B ≤ w.heap.size) (ho : Off (disk3 (B + 2) B (B + 1)) w1 w2) : Below B w w2 :=
  hb.trans (ho.below (fun k hk => by rcases hk with rfl | rfl | rfl <;> omega) (Nat.le_trans hB hb.size))

/-- A disk with no arm, whose counts are small. -/
structure G (k : Int) (u : Bool) (S : Dk) : Prop where
  ok : S.Ok
  up : S.up = u
  set : S.set = false
  acts : S.acts ≤ k
  downs : S.downs ≤ k
theorem G.wr {k : Int} (h : G k true S) (hk : k ≤ 1000) {i : Nat} (hi : i < S.n) {s : ByteArray} (hs : s.size ≤ 64) : G (k + 1) true (wrDk S i s) :=
  ⟨wrDk_ok h.ok (by have := h.acts; omega) hi hs, h.up, h.set, by have := h.acts; simp only [wrDk]; omega, by have := h.downs; simp only [wrDk]; omega⟩
theorem G.off {k : Int} {u : Bool} (h : G k u S) (hk : k ≤ 1000) (x : Int) : G (k + 1) false (offDk S x) :=
  ⟨offDk_ok h.ok _ (by have := h.downs; omega), rfl, rfl, by have := h.acts; simp only [offDk]; omega, by have := h.downs; simp only [offDk]; omega⟩
theorem G.off2 {k : Int} {u : Bool} {x : Int} (h : G k u S) (hk : k ≤ 1000) (hD : DkIs w db lb mb m (offDk S x)) : G (k + 1) false (offDk S x) := h.off hk x
theorem G.start {k : Int} {u : Bool} (h : G k u S) : G k true { S with up := true } := ⟨up_ok h.ok _, rfl, h.set, h.acts, h.downs⟩
theorem G.new {n : Nat} (h1 : 1 ≤ n) (h2 : n ≤ 8192) : G 0 true (newDk n) := ⟨newDk_ok h1 h2, rfl, rfl, Int.le_refl _, Int.le_refl _⟩

def tA : ByteArray := ⟨#[97]⟩
def upOff (S : Dk) (x : Int) : Dk := { offDk S x with up := true }
theorem G.upOff {k : Int} {u : Bool} (h : G k u S) (hk : k ≤ 1000) (x : Int) : G (k + 1) true (upOff S x) := (h.off hk x).start
theorem tz : tA.size ≤ 64 := by decide
theorem n3 : (upOff (wrDk (newDk 2) 0 tA) 0).now 0 = pad ⟨#[]⟩ := by
  simp [Dk.now, upOff, offDk, lossF, wrDk, upd_same, bitK, newDk, pad]; rfl
theorem n6 (S : Dk) : (upOff (wrDk S 0 tA) 1).now 0 = pad tA := by
  simp [Dk.now, upOff, offDk, lossF, wrDk, upd_same, bitK, rank]
end Go.Proofs.Ytljedbakdlhlbaa
