/- maps.Copy of keys' maps. -/
import Derived.Test.YtjlhohljkedbbaaPsK
namespace Go.Proofs.Ytjlhohljkedbbaa.Pa
open Go.RowKit Gm Go.Maps
set_option linter.unusedVariables false
set_option linter.unusedSimpArgs false
set_option maxRecDepth 100000
/-- What a copy leaves while some keys are still to come. -/
def MgI (fo fd fs : Lit → Option Value) (left : Lit → Bool) : Prop := ∀ l, fo l = if left l then fd l else (fs l).or (fd l)
section
variable {w w' : World} {bd bs nd ns : Nat} {fd fs fo : Lit → Option Value} {left : Lit → Bool}
theorem MgI.start : MgI fd fd fs (fun l => (fs l).isSome) := fun l => by
  cases h : fs l <;> simp [h]
theorem MgI.step (h : MgI fo fd fs left) {x : List UInt8} {v : Value} (hv : fs (.string x) = some v) : MgI (updL fo (.string x) (some v)) fd fs (fun z => left z && !z.sameKey (.string x)) := fun l => by
  by_cases e : l = .string x
  · subst e
    have e3 : (Lit.string x).sameKey (.string x) = true := WideAt.sameKey_self (kS x)
    rw [updL_same _ (kS _), hv]
    simp [e3]
  · have e3 : l.sameKey (.string x) = false := sameKey_ne e
    rw [updL_other _ _ e, h l]
    simp [e3]
theorem MgI.done (h : MgI fo fd fs left) (hl : ∀ l, left l = false) (l : Lit) : (fs l).or (fd l) = fo l := by
  rw [h l, hl l]; rfl
theorem invS {key : Value} {l : Lit} (h : keyOf Try.prog 9 key = some l) : ∃ x : List UInt8, key = encStr x ∧ l = .string x := by
  obtain ⟨x, h1, h2, _⟩ := Maps.keyOf_str Try.underlying9 h
  exact ⟨x, h1, h2⟩
structure CpO (w w' : World) (bd nd ns : Nat) (fd fs : Lit → Option Value) : Prop where
  ex : ∃ n, Mp w' 9 bd n (fun l => (fs l).or (fd l)) ∧ n ≤ nd + ns
  grow : w.grownBy w' (some bd)
structure CpM (w wr : World) (bd bs rb nd ns : Nat) (fd fs : Lit → Option Value) (left : Lit → Bool) (cnt : Nat) : Prop where
  r : Mr wr 9 bs rb ns fs left cnt
  d : ∃ n fo, Mp wr 9 bd n fo ∧ n + cnt ≤ nd + ns ∧ MgI fo fd fs left
  g : w.grownBy wr (some bd)
set_option maxHeartbeats 1000000 in
theorem Copy_any (hd : Mp w 9 bd nd fd) (hs : Mp w 9 bs ns fs) (hne : bd ≠ bs) (hn : nd + ns < 1000000000) (hf : ∀ l v, fs l = some v → ∃ y : Ws, v = .agg y.A) : Calls Try.prog 28 #[.map (some bd), .map (some bs)] w fun e w' => e = .returned (.tuple #[]) ∧ CpO w w' bd nd ns fd fs := by
  have HD : Hid (Mp w 9 bd nd fd) := hd
  have HS : Hid (Mp w 9 bs ns fs) := hs
  have HF : Hid (∀ l v, fs l = some v → ∃ y : Ws, v = .agg y.A) := hf
  have HN : Hid (nd + ns < 1000000000 ∧ bd ≠ bs ∧ bd < w.heap.size ∧ bs < w.heap.size) := ⟨hn, hne, hd.lt, hs.lt⟩
  have h2 := stW
  clear hd hs hf hn hne
  go_enter Try.func28, Try.ntmps28
  go_wp2_with (first
    | (at_range; refine wpList_range_mp _ rfl _ rfl KS uK rfl HS.out ?_; intro w1 rb hr R1 B1)
    | go_in)
  have HR : Hid (rb = w.heap.size) := hr
  have D1 : Mp w1 9 bd nd fd := HD.out.bel B1
  clear hr
  go_frame
  go_loopw [8] (fun _ wr => ∃ (left : Lit → Bool) (cnt : Nat), CpM w wr bd bs rb nd ns fd fs left cnt) (fun _ wr => wr.rangeLeft bs rb)
  case atStart => exact ⟨_, ns, R1, ⟨nd, fd, D1, Nat.le_refl _, MgI.start⟩, ⟨B1.os, B1.tape, B1.output, B1.size, fun k hk _ => B1.block k hk⟩⟩
  case round =>
    obtain ⟨left, cnt, ⟨hr, ⟨n, fo, hm, hle, hi⟩, hg⟩⟩ := hrel
    have RR : Hid (Mr wr 9 bs rb ns fs left cnt) := hr
    have MM : Hid (Mp wr 9 bd n fo) := hm
    have HI : Hid (MgI fo fd fs left) := hi
    have HG : Hid (w.grownBy wr (some bd) ∧ n + cnt ≤ nd + ns) := ⟨hg, hle⟩
    clear hr hm hi hg hle R1 D1 B1
    go_wp2_with (first
      | (at_next; refine wpList_next_mp encStr Lit.string _ rfl _ rfl KS (fun key l => invS) rfl RR.out ?_ ?_)
      | go_in)
    · intro hc0 hl0
      go_wp2
      go_end0
      exact ⟨rfl, ⟨n, MM.out.ext (HI.out.done hl0), by have := HG.out.2; omega⟩, HG.out.1⟩
    · intro x v w5 cnt2 hk hl hv hr5 hlt ho hfr hen
      obtain ⟨y, rfl⟩ := HF.out _ _ hv
      have hrb : rb ≠ bd := by have := HN.out.2.2.1; have := HR.out; omega
      have M5 : Hid (Mp w5 9 bd n fo) := MM.out.keep (ho bd hrb.symm)
      have R5 : Hid (Mr w5 9 bs rb ns fs (fun z => left z && !z.sameKey (.string x)) cnt2) := hr5
      have HK : Hid (keyOf Try.prog 9 (encStr x) = some (.string x)) := hk
      have I5 : Hid (MgI (updL fo (.string x) (some (.agg y.A))) fd fs (fun z => left z && !z.sameKey (.string x))) := HI.out.step hv
      have G5 : Hid (w.grownBy w5 (some bd) ∧ cnt2 < cnt ∧ wr.rangeLeft bs rb = cnt ∧ rb ≠ bd) := ⟨⟨hfr.os.trans HG.out.1.os, hfr.tape.trans HG.out.1.tape, hfr.output.trans HG.out.1.output, Nat.le_trans HG.out.1.size hfr.size, fun k hk hne => (ho k (by have := HR.out; omega)).trans (HG.out.1.block k hk hne)⟩, hlt, RR.out.left_eq, hrb⟩
      clear hr5 ho hfr hv hl hlt hk hrb
      go_wp2_with first
        | (refine wpList_new_at (A := zW.A) _ zKv rfl rfl ?_; intro w6 b6 N6)
        | (refine wpList_put_at (A := zW.A) (A' := Ws.A y) h2 _ rfl _ _ rfl rfl rfl N6.is rfl rfl (oneW _) ?_; intro w7 P7; have B7 := np_bel N6 P7)
        | (refine wpList_load_at h2 (A := Ws.A y) _ rfl (.tmp 5) rfl rfl P7.is rfl ?_)
        | (refine wpList_store_mp _ rfl _ _ _ rfl KS uK (by have := HG.out.2; have := HN.out.1; omega) rfl (M5.out.bel B7) rfl rfl HK.out ?_; intro w8 M8 T8)
      have o8 := turned_off T8
      have R8 : Mr w8 9 bs rb ns fs (fun z => left z && !z.sameKey (.string x)) cnt2 := (R5.out.bel B7).keep (o8 _ (Ne.symm HN.out.2.1)) (o8 _ G5.out.2.2.2)
      go_roundw
      case rel => exact ⟨_, cnt2, R8, ⟨_, _, M8, by have := HG.out.2; have := G5.out.2.1; split <;> omega, I5.out⟩, ⟨(T8.grown.os.trans B7.os).trans G5.out.1.os, (T8.grown.tape.trans B7.tape).trans G5.out.1.tape, (T8.grown.output.trans B7.output).trans G5.out.1.output, Nat.le_trans (Nat.le_trans G5.out.1.size B7.size) T8.grown.size, fun k hk hne => (o8 k (fun e => hne (by rw [e]))).trans ((B7.block k (Nat.lt_of_lt_of_le hk G5.out.1.size)).trans (G5.out.1.block k hk hne))⟩⟩
      case measure => rw [R8.left_eq, G5.out.2.2.1]; exact G5.out.2.1
end
end Go.Proofs.Ytjlhohljkedbbaa.Pa
