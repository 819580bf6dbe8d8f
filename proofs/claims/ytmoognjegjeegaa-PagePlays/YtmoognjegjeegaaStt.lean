/- A page beside the list that it has: what each call leaves. -/
import Derived.Test.YtmoognjegjeegaaWit
import Derived.Test.YtmoognjegjeegaaOps
namespace Go.Proofs.Ytmoognjegjeegaa
open Go.RowKit
set_option linter.unusedVariables false
set_option linter.unusedSimpArgs false
set_option maxRecDepth 100000

/-- The page P is a leaf that has the cells L. -/
structure St (P : ByteArray) (L : List Cl) : Prop where
  right : Right (bts P)
  kind : g (bts P) 0 = 1
  cells : cells (bts P) = L
section
variable {P : ByteArray} {L : List Cl} {c : Cl} {x : ByteArray}
theorem St.turns (h : St P L) : Turns (bts P) := ⟨h.right, by rw [h.kind]; omega⟩
theorem St.small (h : St P L) : Small L := by rw [← h.cells]; exact h.right.small
theorem St.ris (h : St P L) : Ris L := by rw [← h.cells]; exact h.right.ris
theorem St.len (h : St P L) : cnt (bts P) = L.length := by rw [← h.cells, cells_length]
theorem St.fit (h : St P L) : needs L ≤ 220 := by rw [← h.cells]; exact h.right.fit
theorem St.few (h : St P L) : L.length ≤ 220 := by rw [← h.len]; exact h.right.head.slotlt
theorem St.room (h : St P L) : rm (bts P) = 220 - needs L := by rw [rm_turns h.turns, h.cells]
theorem St.ins (h : St P L) (hk : long c = 0) (ha : isAt L c.k = false) (hf : needs L + need c ≤ 220) : St (tx (layS (bts P) (plc L c.k) c)) (ins L (plc L c.k) c) := by
  have hl := plc_le L c.k
  have hc : CanLay (bts P) (plc L c.k) c := ⟨h.right, by rw [h.kind]; omega, by rw [h.len]; exact hl, long_k hk, long_v hk, by rw [h.cells]; exact hf⟩
  refine ⟨by rw [bts_tx]; exact hc.done (by rw [h.cells]; exact plc_take) (by rw [h.cells]; exact plc_drop h.ris ha), by rw [bts_tx, hc.low (by omega)]; exact h.kind, by rw [bts_tx, hc.cells, h.cells]⟩
theorem isAt_pl (ha : isAt L x = true) : plc L x < L.length := Decidable.byContradiction fun e => by rw [isAt_none e] at ha; cases ha
theorem isAt_key (ha : isAt L x = true) : (L[plc L x]'(isAt_pl ha)).k = x := by
  rw [isAt_get (isAt_pl ha)] at ha
  exact toList_inj (by simpa using ha)
theorem St.del (h : St P L) (ha : isAt L x = true) : St (tx (dropS (bts P) (plc L x))) (del L (plc L x)) := by
  have hl := isAt_pl ha
  have hlt : plc L x < cnt (bts P) := by rw [h.len]; exact hl
  exact ⟨by rw [bts_tx]; exact drop_right h.right hlt, by rw [bts_tx, drop_low h.right hlt (by omega)]; exact h.kind, by rw [bts_tx, drop_cells h.right hlt, h.cells]⟩
theorem St.upd (h : St P L) (hk : long c = 0) (ha : isAt L c.k = true) (hf : needs (Go.Proofs.Ytmoognjegjeegaa.del L (plc L c.k)) + need c ≤ 220) : St (tx (layS (dropS (bts P) (plc L c.k)) (plc L c.k) c)) (Go.Proofs.Ytmoognjegjeegaa.ins (Go.Proofs.Ytmoognjegjeegaa.del L (plc L c.k)) (plc L c.k) c) := by
  have hl := isAt_pl ha
  have hd := h.del ha
  have hkey := isAt_key ha
  have e := bts_tx (dropS (bts P) (plc L c.k))
  have hr := hd.right
  have hkd := hd.kind
  have hcs := hd.cells
  have hln := hd.len
  rw [e] at hr hkd hcs hln
  rw [del_length hl] at hln
  have hc : CanLay (dropS (bts P) (plc L c.k)) (plc L c.k) c := ⟨hr, by rw [hkd]; omega, by rw [hln]; omega, long_k hk, long_v hk, by rw [hcs]; exact hf⟩
  have e1 : (Go.Proofs.Ytmoognjegjeegaa.del L (plc L c.k)).take (plc L c.k) = L.take (plc L c.k) := by
    rw [Go.Proofs.Ytmoognjegjeegaa.del, List.take_left' (by rw [List.length_take]; omega)]
  have e2 : (Go.Proofs.Ytmoognjegjeegaa.del L (plc L c.k)).drop (plc L c.k) = L.drop (plc L c.k + 1) := by
    rw [Go.Proofs.Ytmoognjegjeegaa.del, List.drop_left' (by rw [List.length_take]; omega)]
  refine ⟨by rw [bts_tx]; exact hc.done (by rw [hcs, e1]; exact fun a ha' => by rw [← hkey]; exact at_take h.ris hl a ha') (by rw [hcs, e2]; exact fun a ha' => by rw [← hkey]; exact at_drop h.ris hl a ha'), by rw [bts_tx, hc.low (by omega)]; exact hkd, by rw [bts_tx, hc.cells, hcs]⟩
/-- What is told of such a page. -/
theorem St.Cells (h : St P L) (w : World) : Calls Try.prog 17 #[.string P] w fun e w' => ∃ a, e = .returned (.slice (some ⟨a, 0, none⟩) L.length L.length) ∧ Cs w' (some ⟨a, 0, none⟩) L ∧ Below w.heap.size w w' := by
  have := Cells_right w P h.right
  rw [h.len, h.cells] at this
  exact this
theorem St.Room (h : St P L) (w : World) : Calls Try.prog 16 #[.string P] w fun e w' => e = .returned (.int .i64 (220 - (needs L : Int))) ∧ Below w.heap.size w w' := by
  have := Room_right w P h.right
  have hf := h.fit
  rw [h.room, show ((220 - needs L : Nat) : Int) = 220 - (needs L : Int) by omega] at this
  exact this
theorem St.same (h : St P L) (w : World) (a a' : Option Addr) (cap cap' : Nat) (h1 : Cs w a L) (h2 : Cs w a' L) : Calls Try.prog 21 #[.slice a L.length cap, .slice a' L.length cap'] w fun e w' => e = .returned (.bool true) ∧ Below w.heap.size w w' :=
  same_any w cap cap' h1 h2 h.small.len
theorem St.lroom (h : St P L) (w : World) (a : Option Addr) (cap : Nat) (h1 : Cs w a L) : Calls Try.prog 20 #[.slice a L.length cap] w fun e w' => e = .returned (.int .i64 (220 - (needs L : Int))) ∧ Below w.heap.size w w' :=
  lroom_any w cap h1 h.small
theorem St.place (h : St P L) (w : World) (a : Option Addr) (cap : Nat) (h1 : Cs w a L) (x : ByteArray) : Calls Try.prog 19 #[.slice a L.length cap, .string x] w fun e w' => e = .returned (.tuple #[.int .i64 (plc L x : Nat), .bool (isAt L x)]) ∧ Below w.heap.size w w' :=
  place_any w cap h1 h.small.len x
end
theorem St.new : St (tx (packS 1 0 [])) [] := by
  have hp := packed_all [] (k := 1) (l := 0) ⟨by omega, by omega, by omega, fun _ => rfl, fun c hc => (by cases hc), fun c hc => (by cases hc), List.Pairwise.nil, by simp [needs]⟩
  exact ⟨by rw [bts_tx]; exact hp.right, by rw [bts_tx]; exact hp.gk, by rw [bts_tx]; exact hp.cells⟩
end Go.Proofs.Ytmoognjegjeegaa
