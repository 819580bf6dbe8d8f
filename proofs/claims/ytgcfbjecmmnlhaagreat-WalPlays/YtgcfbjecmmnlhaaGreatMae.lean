/- A record's bytes as they are laid: laid, body, Frame. Clean: a record with just what its kind has. A record's bytes, and its frame: body, Frame; the law's awake. What a law that cuts its record short leans on. The record that a law is handed: what lies in memory where it reads as data. The disk in memory: its struct, its row of sectors, its map of what waits; what stays as it was. The disk's small calls: of a disk that New gave, and of one that nobody made. -/
import Derived.Test.YtgcfbjecmmnlhaaGreatMac
import Derived.Test.YtgcfbjecmmnlhaaGreatMad
import Derived.Deep.RegionHeld3
import Derived.Deep.Slices
import Derived.OpenShut
import Derived.Test.YtgcfbjecmmnlhaaGreatProg
import Derived.WalkKit
import Derived.ProofKit
import Derived.WalkSpells
import Derived.WalkLawsBesides
import Derived.Deep.QuietTactic
import Derived.BigQuiet
import Derived.Deep.MidRow
import Derived.Lib.SmallJoins
import Derived.Lib.SlBytesRow
import Derived.Lib.BufferWrite
import Derived.Maps.RangeWalk
import Derived.Maps.OwnSet
import Derived.Maps.Ext
namespace Go.Proofs.YtgcfbjecmmnlhaaGreat
open Go.RowKit
set_option linter.unusedVariables false
set_option linter.unusedSimpArgs false
set_option maxRecDepth 100000

structure NewW (w w' : World) (b : Nat) : Prop where
  wS : WrS w' b (⟨#[]⟩, 0) 0
  below : Below w.heap.size w w'
  eq : b = w.heap.size
theorem zero_wr (w : World) : (zeroValue 139).run Tryz.prog w = .ok (.agg #[.pointer none, .int .i64 0, .int .i64 0]) w := by kernel_rfl
theorem wpList_new_wr {ops : Array Oper} {rest : List Oper} {o : Oper} {a : Act} {Q : Exit → Act → World → Prop} (w : World) (hg : o.guard = none) (hop : o.op = Op.alloc 139)
    (h : ∀ w' b, NewW w w' b → wpList Tryz.prog ops Q rest (a.put o.dst (.pointer (some ⟨b, 0, none⟩))) w') : wpList Tryz.prog ops Q (o :: rest) a w := by
  refine wpList_plain hg fun K' hK' => ?_
  unfold Oper.wp
  simp [execOp, hop, Instr.alloc, zero_wr, Result.andThen, Value.cells]
  exact hK' _ _ (h _ _ ⟨⟨⟨none, [], (MapKept.heap_alloc w _).1, rfl, rfl⟩, Nat.le_refl _⟩, (Below.refl _ _).alloc (Nat.le_refl _) _, rfl⟩)
theorem All_both (b : Nat) (all : ByteArray) (e : Int) (w : World) (h : Pk.WrIs w b all e) (hsz : all.size ≤ 140737488351232) (he : e ≠ 0 → all = ⟨#[]⟩) :
    Calls Tryz.prog 100 #[.pointer (some ⟨b, 0, none⟩)] w fun r w' => r = .returned (.tuple #[.string all, .int .i64 e]) ∧ Below w.heap.size w w' := by
  by_cases h0 : e = 0
  · subst h0; exact Pk.All_any b all w h hsz
  · rw [he h0]; exact Pk.All_err b all e w h h0
section
variable {w wr wq : World} {b0 b j j' : Nat} {s : Sc} {I T : Value} {A A' : ByteArray × Int}
theorem LdS.start {w0 w1 : World} {b1 : Nat} (N0 : NewR w w0 b0 s I T) (N1 : NewW w0 w1 b1) : LdS w w1 b0 b1 s I T (⟨#[]⟩, 0) 0 :=
  ⟨N0.rc.below N1.below, N1.wS, by have := N0.rc.lt; have := N1.eq; omega, Pk.Off.of_below (thn N0.below N1.below)⟩
theorem LdS.places2 (h : LdS w wr b0 b s I T A j) (hj : j ≤ 100000000000) (p q : Int) : Calls Tryz.prog 97 #[.pointer (some ⟨b, 0, none⟩), .slice (some ⟨wr.heap.size, 0, none⟩) 2 2] (wr.alloc (.cells #[.int .i64 p, .int .i64 q] 3)) fun r w' => r = .returned (.tuple #[]) ∧ LdS w w' b0 b s I T (layP [p, q] A) (j + 12) := by
  have hb : Below wr.heap.size wr (wr.alloc (.cells #[.int .i64 p, .int .i64 q] 3)) := (Below.refl _ _).alloc (Nat.le_refl _) _
  have hl := h.wS.lt
  refine (layPlaces_any (n := 2) (h.wS.below hb) (by omega) [p, q] (MapKept.heap_alloc wr _).1 (by omega) rfl (by omega)).mono ?_
  rintro e w' ⟨he, h1, o1⟩
  exact ⟨he, h.step h1 ((Pk.Off.of_below hb).trans o1)⟩
theorem LdS.places3 (h : LdS w wr b0 b s I T A j) (hj : j ≤ 100000000000) (p q x : Int) : Calls Tryz.prog 97 #[.pointer (some ⟨b, 0, none⟩), .slice (some ⟨wr.heap.size, 0, none⟩) 3 3] (wr.alloc (.cells #[.int .i64 p, .int .i64 q, .int .i64 x] 3)) fun r w' => r = .returned (.tuple #[]) ∧ LdS w w' b0 b s I T (layP [p, q, x] A) (j + 18) := by
  have hb : Below wr.heap.size wr (wr.alloc (.cells #[.int .i64 p, .int .i64 q, .int .i64 x] 3)) := (Below.refl _ _).alloc (Nat.le_refl _) _
  have hl := h.wS.lt
  refine (layPlaces_any (n := 3) (h.wS.below hb) (by omega) [p, q, x] (MapKept.heap_alloc wr _).1 (by omega) rfl (by omega)).mono ?_
  rintro e w' ⟨he, h1, o1⟩
  exact ⟨he, h.step h1 ((Pk.Off.of_below hb).trans o1)⟩
theorem LdS.change (h : LdS w wr b0 b s I T A j) (hj : j ≤ 100000000000) (hk : s.ky.size ≤ 1000) (ho : s.ol.size ≤ 1000) (hw : s.nw.size ≤ 1000) : Calls Tryz.prog 98 #[.pointer (some ⟨b, 0, none⟩), .agg (s.A I T)] wr fun r w' => r = .returned (.tuple #[]) ∧ LdS w w' b0 b s I T (layC s A) (j + 300000) :=
  (layChange_any h.wS hj hk ho hw).mono fun e w' ⟨he, h1, o1⟩ => ⟨he, h.step h1 o1⟩
theorem LdS.images {a : Option Addr} {c : Nat} {l : List Im} (h : LdS w wr b0 b s I T A j) (hj : j ≤ 100000000000) (hn : l.length ≤ 1000) (hcs : Cs w a (encI l)) (hb : w.heap.size ≤ b) (ht : ∀ p ∈ l, p.2.size ≤ 1000) : Calls Tryz.prog 96 #[.pointer (some ⟨b, 0, none⟩), .slice a l.length c] wr fun r w' => r = .returned (.tuple #[]) ∧ LdS w w' b0 b s I T (layI l (stepW A l.length 1)) (j + 6 + 65543 * l.length) := by
  have hne : l ≠ [] → ∀ b'' off', a = some ⟨b'', off', none⟩ → b'' ≠ b := by
    intro hl b'' off' e
    obtain ⟨b', off, e', hlt, _⟩ := hcs.at_ 0 (by rw [encI_length]; exact List.length_pos_iff.2 hl)
    rw [e'] at e
    cases e
    omega
  have hcs' : Cs wr a (encI l) := by
    by_cases hl : l = []
    · subst hl; exact Cs.nil _ _
    · exact hcs.off h.off (hne hl)
  refine (layImages_any h.wS hj l rfl hn hcs' hne ht).mono ?_
  rintro e w' ⟨he, h1, o1⟩
  exact ⟨he, h.step h1 o1⟩
theorem LdS.table {a : Option Addr} {c : Nat} {l : List Tb} (h : LdS w wr b0 b s I T A j) (hj : j ≤ 100000000000) (hn : l.length ≤ 1000) (hcs : Cs w a (encT l)) (hb : w.heap.size ≤ b) : Calls Tryz.prog 99 #[.pointer (some ⟨b, 0, none⟩), .slice a l.length c] wr fun r w' => r = .returned (.tuple #[]) ∧ LdS w w' b0 b s I T (layB l (stepW A l.length 1)) (j + 6 + 12 * l.length) := by
  have hne : l ≠ [] → ∀ b'' off', a = some ⟨b'', off', none⟩ → b'' ≠ b := by
    intro hl b'' off' e
    obtain ⟨b', off, e', hlt, _⟩ := hcs.at_ 0 (by rw [encT_length]; exact List.length_pos_iff.2 hl)
    rw [e'] at e
    cases e
    omega
  have hcs' : Cs wr a (encT l) := by
    by_cases hl : l = []
    · subst hl; exact Cs.nil _ _
    · exact hcs.off h.off (hne hl)
  refine (layTable_any h.wS hj l rfl hn hcs' hne).mono ?_
  rintro e w' ⟨he, h1, o1⟩
  exact ⟨he, h.step h1 o1⟩
/-- What the last call leaves. -/
theorem LdS.all (h : LdS w wr b0 b s I T A j) (hj : j ≤ 100000000000) (hb : w.heap.size ≤ b) (hB : Bare A) : Calls Tryz.prog 100 #[.pointer (some ⟨b, 0, none⟩)] wr fun r w' => r = .returned (.tuple #[.string A.1, .int .i64 A.2]) ∧ Below w.heap.size w w' := by
  have hz := h.wS.sz
  have hl := h.off.below hb (Nat.le_refl _)
  exact (All_both b A.1 A.2 wr h.wS.wr (by omega) hB).mono fun e w' ⟨he, h1⟩ => ⟨he, thn hl h1⟩
end

section
variable {w : World} {s : Sc} {I T : Value}
set_option maxHeartbeats 1000000 in
theorem laid_1 (hk : s.kd = 1) {a : Option Addr} {c : Nat} {l : List Im} (hn : l.length ≤ 1000) (hcs : Cs w a (encI l)) (ht : ∀ p ∈ l, p.2.size ≤ 1000) : Calls Tryz.prog 75 #[.agg (s.A (.slice a l.length c) T)] w fun r w' => r = .returned (.tuple #[.string (layI l (stepW (stepW (⟨#[]⟩, 0) s.kd 1) l.length 1)).1, .int .i64 (layI l (stepW (stepW (⟨#[]⟩, 0) s.kd 1) l.length 1)).2]) ∧ Below w.heap.size w w' := by
  have e1 : (s.kd == 1) = true := by rw [hk]; rfl
  clear hk
  go_enter Tryz.func75, Tryz.ntmps75
  go_wp2_with (first
    | (refine wpList_box_rc (s := s) (I := _) (T := _) _ rfl _ rfl rfl ?_; intro w0 b0 N0)
    | (refine wpList_new_wr _ rfl rfl ?_; intro w1 b1 N1; have H := LdS.start N0 N1; have hb1 : w.heap.size ≤ b1 := (Nat.le_trans N0.below.size (Nat.le_of_eq N1.eq.symm)); clear N0 N1; have k0 := H.rc.c0; have k9 := H.rc.c9)
    | (go_at_call 95; refine (H.num (by omega) _ _).mono ?_; clear H; rintro e w3 ⟨rfl, H⟩; have k0 := H.rc.c0; have k9 := H.rc.c9)
    | (go_at_call 96; refine (H.images (by omega) hn hcs hb1 ht).mono ?_; clear H; rintro e w3 ⟨rfl, H⟩)
    | (go_at_call 100; refine (H.all (by omega) hb1 (((bare0.stepW _ _).stepW _ _).layI _)).mono ?_; rintro e w9 ⟨rfl, b9⟩))
  go_ret2
  exact ⟨rfl, b9⟩
set_option maxHeartbeats 1000000 in
theorem laid_2 (hk : s.kd = 2) {a : Option Addr} {c : Nat} {l : List Im} (hn : l.length ≤ 1000) (hcs : Cs w a (encI l)) (ht : ∀ p ∈ l, p.2.size ≤ 1000) : Calls Tryz.prog 75 #[.agg (s.A (.slice a l.length c) T)] w fun r w' => r = .returned (.tuple #[.string (layI l (stepW (stepW (⟨#[]⟩, 0) s.kd 1) l.length 1)).1, .int .i64 (layI l (stepW (stepW (⟨#[]⟩, 0) s.kd 1) l.length 1)).2]) ∧ Below w.heap.size w w' := by
  have e1 : (s.kd == 1) = false := by rw [hk]; rfl
  have e2 : (s.kd == 2) = true := by rw [hk]; rfl
  clear hk
  go_enter Tryz.func75, Tryz.ntmps75
  go_wp2_with (first
    | (refine wpList_box_rc (s := s) (I := _) (T := _) _ rfl _ rfl rfl ?_; intro w0 b0 N0)
    | (refine wpList_new_wr _ rfl rfl ?_; intro w1 b1 N1; have H := LdS.start N0 N1; have hb1 : w.heap.size ≤ b1 := (Nat.le_trans N0.below.size (Nat.le_of_eq N1.eq.symm)); clear N0 N1; have k0 := H.rc.c0; have k9 := H.rc.c9)
    | (go_at_call 95; refine (H.num (by omega) _ _).mono ?_; clear H; rintro e w3 ⟨rfl, H⟩; have k0 := H.rc.c0; have k9 := H.rc.c9)
    | (go_at_call 96; refine (H.images (by omega) hn hcs hb1 ht).mono ?_; clear H; rintro e w3 ⟨rfl, H⟩)
    | (go_at_call 100; refine (H.all (by omega) hb1 (((bare0.stepW _ _).stepW _ _).layI _)).mono ?_; rintro e w9 ⟨rfl, b9⟩))
  go_ret2
  exact ⟨rfl, b9⟩
set_option maxHeartbeats 1000000 in
theorem laid_3 (hk : s.kd = 3) (hy : s.ky.size ≤ 1000) (ho : s.ol.size ≤ 1000) (hw : s.nw.size ≤ 1000) : Calls Tryz.prog 75 #[.agg (s.A I T)] w fun r w' => r = .returned (.tuple #[.string (layC s (layP [s.tx, s.pv] (stepW (⟨#[]⟩, 0) s.kd 1))).1, .int .i64 (layC s (layP [s.tx, s.pv] (stepW (⟨#[]⟩, 0) s.kd 1))).2]) ∧ Below w.heap.size w w' := by
  have e1 : (s.kd == 1) = false := by rw [hk]; rfl
  have e2 : (s.kd == 2) = false := by rw [hk]; rfl
  have e3 : (s.kd == 3) = true := by rw [hk]; rfl
  clear hk
  go_enter Tryz.func75, Tryz.ntmps75
  go_wp2_with (first
    | (refine wpList_box_rc (s := s) (I := _) (T := _) _ rfl _ rfl rfl ?_; intro w0 b0 N0)
    | (refine wpList_new_wr _ rfl rfl ?_; intro w1 b1 N1; have H := LdS.start N0 N1; have hb1 : w.heap.size ≤ b1 := (Nat.le_trans N0.below.size (Nat.le_of_eq N1.eq.symm)); clear N0 N1; have k0 := H.rc.c0; have k1 := H.rc.c1; have k2 := H.rc.c2)
    | (go_at_call 95; refine (H.num (by omega) _ _).mono ?_; clear H; rintro e w3 ⟨rfl, H⟩; have k0 := H.rc.c0; have k1 := H.rc.c1; have k2 := H.rc.c2)
    | (go_at_call 97; refine (H.places2 (by omega) _ _).mono ?_; clear H; rintro e w3 ⟨rfl, H⟩; have k0 := H.rc.c0; have k1 := H.rc.c1; have k2 := H.rc.c2)
    | (refine wpList_load_rc _ rfl _ rfl rfl H.rc ?_)
    | (go_at_call 98; refine (H.change (by omega) hy ho hw).mono ?_; clear H; rintro e w3 ⟨rfl, H⟩)
    | (go_at_call 100; refine (H.all (by omega) hb1 (((bare0.stepW _ _).layP _).layC _)).mono ?_; rintro e w9 ⟨rfl, b9⟩))
  go_ret2
  exact ⟨rfl, b9⟩
set_option maxHeartbeats 1000000 in
theorem laid_4 (hk : s.kd = 4) (hy : s.ky.size ≤ 1000) (ho : s.ol.size ≤ 1000) (hw : s.nw.size ≤ 1000) : Calls Tryz.prog 75 #[.agg (s.A I T)] w fun r w' => r = .returned (.tuple #[.string (layC s (layP [s.tx, s.pv] (stepW (⟨#[]⟩, 0) s.kd 1))).1, .int .i64 (layC s (layP [s.tx, s.pv] (stepW (⟨#[]⟩, 0) s.kd 1))).2]) ∧ Below w.heap.size w w' := by
  have e1 : (s.kd == 1) = false := by rw [hk]; rfl
  have e2 : (s.kd == 2) = false := by rw [hk]; rfl
  have e3 : (s.kd == 3) = false := by rw [hk]; rfl
  have e4 : (s.kd == 4) = true := by rw [hk]; rfl
  clear hk
  go_enter Tryz.func75, Tryz.ntmps75
  go_wp2_with (first
    | (refine wpList_box_rc (s := s) (I := _) (T := _) _ rfl _ rfl rfl ?_; intro w0 b0 N0)
    | (refine wpList_new_wr _ rfl rfl ?_; intro w1 b1 N1; have H := LdS.start N0 N1; have hb1 : w.heap.size ≤ b1 := (Nat.le_trans N0.below.size (Nat.le_of_eq N1.eq.symm)); clear N0 N1; have k0 := H.rc.c0; have k1 := H.rc.c1; have k2 := H.rc.c2)
    | (go_at_call 95; refine (H.num (by omega) _ _).mono ?_; clear H; rintro e w3 ⟨rfl, H⟩; have k0 := H.rc.c0; have k1 := H.rc.c1; have k2 := H.rc.c2)
    | (go_at_call 97; refine (H.places2 (by omega) _ _).mono ?_; clear H; rintro e w3 ⟨rfl, H⟩; have k0 := H.rc.c0; have k1 := H.rc.c1; have k2 := H.rc.c2)
    | (refine wpList_load_rc _ rfl _ rfl rfl H.rc ?_)
    | (go_at_call 98; refine (H.change (by omega) hy ho hw).mono ?_; clear H; rintro e w3 ⟨rfl, H⟩)
    | (go_at_call 100; refine (H.all (by omega) hb1 (((bare0.stepW _ _).layP _).layC _)).mono ?_; rintro e w9 ⟨rfl, b9⟩))
  go_ret2
  exact ⟨rfl, b9⟩
set_option maxHeartbeats 1000000 in
theorem laid_5 (hk : s.kd = 5) (hy : s.ky.size ≤ 1000) (ho : s.ol.size ≤ 1000) (hw : s.nw.size ≤ 1000) : Calls Tryz.prog 75 #[.agg (s.A I T)] w fun r w' => r = .returned (.tuple #[.string (layC s (layP [s.tx, s.pv] (stepW (⟨#[]⟩, 0) s.kd 1))).1, .int .i64 (layC s (layP [s.tx, s.pv] (stepW (⟨#[]⟩, 0) s.kd 1))).2]) ∧ Below w.heap.size w w' := by
  have e1 : (s.kd == 1) = false := by rw [hk]; rfl
  have e2 : (s.kd == 2) = false := by rw [hk]; rfl
  have e3 : (s.kd == 3) = false := by rw [hk]; rfl
  have e4 : (s.kd == 4) = false := by rw [hk]; rfl
  have e5 : (s.kd == 5) = true := by rw [hk]; rfl
  clear hk
  go_enter Tryz.func75, Tryz.ntmps75
  go_wp2_with (first
    | (refine wpList_box_rc (s := s) (I := _) (T := _) _ rfl _ rfl rfl ?_; intro w0 b0 N0)
    | (refine wpList_new_wr _ rfl rfl ?_; intro w1 b1 N1; have H := LdS.start N0 N1; have hb1 : w.heap.size ≤ b1 := (Nat.le_trans N0.below.size (Nat.le_of_eq N1.eq.symm)); clear N0 N1; have k0 := H.rc.c0; have k1 := H.rc.c1; have k2 := H.rc.c2)
    | (go_at_call 95; refine (H.num (by omega) _ _).mono ?_; clear H; rintro e w3 ⟨rfl, H⟩; have k0 := H.rc.c0; have k1 := H.rc.c1; have k2 := H.rc.c2)
    | (go_at_call 97; refine (H.places2 (by omega) _ _).mono ?_; clear H; rintro e w3 ⟨rfl, H⟩; have k0 := H.rc.c0; have k1 := H.rc.c1; have k2 := H.rc.c2)
    | (refine wpList_load_rc _ rfl _ rfl rfl H.rc ?_)
    | (go_at_call 98; refine (H.change (by omega) hy ho hw).mono ?_; clear H; rintro e w3 ⟨rfl, H⟩)
    | (go_at_call 100; refine (H.all (by omega) hb1 (((bare0.stepW _ _).layP _).layC _)).mono ?_; rintro e w9 ⟨rfl, b9⟩))
  go_ret2
  exact ⟨rfl, b9⟩
set_option maxHeartbeats 1000000 in
theorem laid_6 (hk : s.kd = 6) (hy : s.ky.size ≤ 1000) (ho : s.ol.size ≤ 1000) (hw : s.nw.size ≤ 1000) : Calls Tryz.prog 75 #[.agg (s.A I T)] w fun r w' => r = .returned (.tuple #[.string (layC s (stepW (layP [s.tx, s.pv, s.nx] (stepW (⟨#[]⟩, 0) s.kd 1)) s.ac 1)).1, .int .i64 (layC s (stepW (layP [s.tx, s.pv, s.nx] (stepW (⟨#[]⟩, 0) s.kd 1)) s.ac 1)).2]) ∧ Below w.heap.size w w' := by
  have e1 : (s.kd == 1) = false := by rw [hk]; rfl
  have e2 : (s.kd == 2) = false := by rw [hk]; rfl
  have e3 : (s.kd == 3) = false := by rw [hk]; rfl
  have e4 : (s.kd == 4) = false := by rw [hk]; rfl
  have e5 : (s.kd == 5) = false := by rw [hk]; rfl
  have e6 : (s.kd == 6) = true := by rw [hk]; rfl
  clear hk
  go_enter Tryz.func75, Tryz.ntmps75
  go_wp2_with (first
    | (refine wpList_box_rc (s := s) (I := _) (T := _) _ rfl _ rfl rfl ?_; intro w0 b0 N0)
    | (refine wpList_new_wr _ rfl rfl ?_; intro w1 b1 N1; have H := LdS.start N0 N1; have hb1 : w.heap.size ≤ b1 := (Nat.le_trans N0.below.size (Nat.le_of_eq N1.eq.symm)); clear N0 N1; have k0 := H.rc.c0; have k1 := H.rc.c1; have k2 := H.rc.c2; have k8 := H.rc.c8; have k4 := H.rc.c4)
    | (go_at_call 95; refine (H.num (by omega) _ _).mono ?_; clear H; rintro e w3 ⟨rfl, H⟩; have k0 := H.rc.c0; have k1 := H.rc.c1; have k2 := H.rc.c2; have k8 := H.rc.c8; have k4 := H.rc.c4)
    | (go_at_call 97; refine (H.places3 (by omega) _ _ _).mono ?_; clear H; rintro e w3 ⟨rfl, H⟩; have k0 := H.rc.c0; have k1 := H.rc.c1; have k2 := H.rc.c2; have k8 := H.rc.c8; have k4 := H.rc.c4)
    | (refine wpList_load_rc _ rfl _ rfl rfl H.rc ?_)
    | (go_at_call 98; refine (H.change (by omega) hy ho hw).mono ?_; clear H; rintro e w3 ⟨rfl, H⟩)
    | (go_at_call 100; refine (H.all (by omega) hb1 ((((bare0.stepW _ _).layP _).stepW _ _).layC _)).mono ?_; rintro e w9 ⟨rfl, b9⟩))
  go_ret2
  exact ⟨rfl, b9⟩
set_option maxHeartbeats 1000000 in
theorem laid_7 (hk : s.kd = 7)  : Calls Tryz.prog 75 #[.agg (s.A I T)] w fun r w' => r = .returned (.tuple #[.string (layP [s.tx, s.pv] (stepW (⟨#[]⟩, 0) s.kd 1)).1, .int .i64 (layP [s.tx, s.pv] (stepW (⟨#[]⟩, 0) s.kd 1)).2]) ∧ Below w.heap.size w w' := by
  have e1 : (s.kd == 1) = false := by rw [hk]; rfl
  have e2 : (s.kd == 2) = false := by rw [hk]; rfl
  have e3 : (s.kd == 3) = false := by rw [hk]; rfl
  have e4 : (s.kd == 4) = false := by rw [hk]; rfl
  have e5 : (s.kd == 5) = false := by rw [hk]; rfl
  have e6 : (s.kd == 6) = false := by rw [hk]; rfl
  have e7 : (s.kd == 7) = true := by rw [hk]; rfl
  clear hk
  go_enter Tryz.func75, Tryz.ntmps75
  go_wp2_with (first
    | (refine wpList_box_rc (s := s) (I := _) (T := _) _ rfl _ rfl rfl ?_; intro w0 b0 N0)
    | (refine wpList_new_wr _ rfl rfl ?_; intro w1 b1 N1; have H := LdS.start N0 N1; have hb1 : w.heap.size ≤ b1 := (Nat.le_trans N0.below.size (Nat.le_of_eq N1.eq.symm)); clear N0 N1; have k0 := H.rc.c0; have k1 := H.rc.c1; have k2 := H.rc.c2)
    | (go_at_call 95; refine (H.num (by omega) _ _).mono ?_; clear H; rintro e w3 ⟨rfl, H⟩; have k0 := H.rc.c0; have k1 := H.rc.c1; have k2 := H.rc.c2)
    | (go_at_call 97; refine (H.places2 (by omega) _ _).mono ?_; clear H; rintro e w3 ⟨rfl, H⟩; have k0 := H.rc.c0; have k1 := H.rc.c1; have k2 := H.rc.c2)
    | (go_at_call 100; refine (H.all (by omega) hb1 ((bare0.stepW _ _).layP _)).mono ?_; rintro e w9 ⟨rfl, b9⟩))
  go_ret2
  exact ⟨rfl, b9⟩
set_option maxHeartbeats 1000000 in
theorem laid_8 (hk : s.kd = 8)  : Calls Tryz.prog 75 #[.agg (s.A I T)] w fun r w' => r = .returned (.tuple #[.string (layP [s.tx, s.pv] (stepW (⟨#[]⟩, 0) s.kd 1)).1, .int .i64 (layP [s.tx, s.pv] (stepW (⟨#[]⟩, 0) s.kd 1)).2]) ∧ Below w.heap.size w w' := by
  have e1 : (s.kd == 1) = false := by rw [hk]; rfl
  have e2 : (s.kd == 2) = false := by rw [hk]; rfl
  have e3 : (s.kd == 3) = false := by rw [hk]; rfl
  have e4 : (s.kd == 4) = false := by rw [hk]; rfl
  have e5 : (s.kd == 5) = false := by rw [hk]; rfl
  have e6 : (s.kd == 6) = false := by rw [hk]; rfl
  have e7 : (s.kd == 7) = false := by rw [hk]; rfl
  have e8 : (s.kd == 8) = true := by rw [hk]; rfl
  clear hk
  go_enter Tryz.func75, Tryz.ntmps75
  go_wp2_with (first
    | (refine wpList_box_rc (s := s) (I := _) (T := _) _ rfl _ rfl rfl ?_; intro w0 b0 N0)
    | (refine wpList_new_wr _ rfl rfl ?_; intro w1 b1 N1; have H := LdS.start N0 N1; have hb1 : w.heap.size ≤ b1 := (Nat.le_trans N0.below.size (Nat.le_of_eq N1.eq.symm)); clear N0 N1; have k0 := H.rc.c0; have k1 := H.rc.c1; have k2 := H.rc.c2)
    | (go_at_call 95; refine (H.num (by omega) _ _).mono ?_; clear H; rintro e w3 ⟨rfl, H⟩; have k0 := H.rc.c0; have k1 := H.rc.c1; have k2 := H.rc.c2)
    | (go_at_call 97; refine (H.places2 (by omega) _ _).mono ?_; clear H; rintro e w3 ⟨rfl, H⟩; have k0 := H.rc.c0; have k1 := H.rc.c1; have k2 := H.rc.c2)
    | (go_at_call 100; refine (H.all (by omega) hb1 ((bare0.stepW _ _).layP _)).mono ?_; rintro e w9 ⟨rfl, b9⟩))
  go_ret2
  exact ⟨rfl, b9⟩
set_option maxHeartbeats 1000000 in
theorem laid_9 (hk : s.kd = 9) {a : Option Addr} {c : Nat} {l : List Tb} (hn : l.length ≤ 1000) (hcs : Cs w a (encT l)) : Calls Tryz.prog 75 #[.agg (s.A I (.slice a l.length c))] w fun r w' => r = .returned (.tuple #[.string (layB l (stepW (stepW (⟨#[]⟩, 0) s.kd 1) l.length 1)).1, .int .i64 (layB l (stepW (stepW (⟨#[]⟩, 0) s.kd 1) l.length 1)).2]) ∧ Below w.heap.size w w' := by
  have e1 : (s.kd == 1) = false := by rw [hk]; rfl
  have e2 : (s.kd == 2) = false := by rw [hk]; rfl
  have e3 : (s.kd == 3) = false := by rw [hk]; rfl
  have e4 : (s.kd == 4) = false := by rw [hk]; rfl
  have e5 : (s.kd == 5) = false := by rw [hk]; rfl
  have e6 : (s.kd == 6) = false := by rw [hk]; rfl
  have e7 : (s.kd == 7) = false := by rw [hk]; rfl
  have e8 : (s.kd == 8) = false := by rw [hk]; rfl
  have e9 : (s.kd == 9) = true := by rw [hk]; rfl
  clear hk
  go_enter Tryz.func75, Tryz.ntmps75
  go_wp2_with (first
    | (refine wpList_box_rc (s := s) (I := _) (T := _) _ rfl _ rfl rfl ?_; intro w0 b0 N0)
    | (refine wpList_new_wr _ rfl rfl ?_; intro w1 b1 N1; have H := LdS.start N0 N1; have hb1 : w.heap.size ≤ b1 := (Nat.le_trans N0.below.size (Nat.le_of_eq N1.eq.symm)); clear N0 N1; have k0 := H.rc.c0; have k10 := H.rc.c10)
    | (go_at_call 95; refine (H.num (by omega) _ _).mono ?_; clear H; rintro e w3 ⟨rfl, H⟩; have k0 := H.rc.c0; have k10 := H.rc.c10)
    | (go_at_call 99; refine (H.table (by omega) hn hcs hb1).mono ?_; clear H; rintro e w3 ⟨rfl, H⟩)
    | (go_at_call 100; refine (H.all (by omega) hb1 (((bare0.stepW _ _).stepW _ _).layB _)).mono ?_; rintro e w9 ⟨rfl, b9⟩))
  go_ret2
  exact ⟨rfl, b9⟩
set_option maxHeartbeats 1000000 in
theorem laid_10 (hk : s.kd = 10)  : Calls Tryz.prog 75 #[.agg (s.A I T)] w fun r w' => r = .returned (.tuple #[.string (stepW (stepW (stepW (⟨#[]⟩, 0) s.kd 1) s.ep 4) s.nd 1).1, .int .i64 (stepW (stepW (stepW (⟨#[]⟩, 0) s.kd 1) s.ep 4) s.nd 1).2]) ∧ Below w.heap.size w w' := by
  have e1 : (s.kd == 1) = false := by rw [hk]; rfl
  have e2 : (s.kd == 2) = false := by rw [hk]; rfl
  have e3 : (s.kd == 3) = false := by rw [hk]; rfl
  have e4 : (s.kd == 4) = false := by rw [hk]; rfl
  have e5 : (s.kd == 5) = false := by rw [hk]; rfl
  have e6 : (s.kd == 6) = false := by rw [hk]; rfl
  have e7 : (s.kd == 7) = false := by rw [hk]; rfl
  have e8 : (s.kd == 8) = false := by rw [hk]; rfl
  have e9 : (s.kd == 9) = false := by rw [hk]; rfl
  have e10 : (s.kd == 10) = true := by rw [hk]; rfl
  clear hk
  go_enter Tryz.func75, Tryz.ntmps75
  go_wp2_with (first
    | (refine wpList_box_rc (s := s) (I := _) (T := _) _ rfl _ rfl rfl ?_; intro w0 b0 N0)
    | (refine wpList_new_wr _ rfl rfl ?_; intro w1 b1 N1; have H := LdS.start N0 N1; have hb1 : w.heap.size ≤ b1 := (Nat.le_trans N0.below.size (Nat.le_of_eq N1.eq.symm)); clear N0 N1; have k0 := H.rc.c0; have k11 := H.rc.c11; have k12 := H.rc.c12)
    | (go_at_call 95; refine (H.num (by omega) _ _).mono ?_; clear H; rintro e w3 ⟨rfl, H⟩; have k0 := H.rc.c0; have k11 := H.rc.c11; have k12 := H.rc.c12)
    | (go_at_call 100; refine (H.all (by omega) hb1 (((bare0.stepW _ _).stepW _ _).stepW _ _)).mono ?_; rintro e w9 ⟨rfl, b9⟩))
  go_ret2
  exact ⟨rfl, b9⟩
end
end Go.Proofs.YtgcfbjecmmnlhaaGreat

namespace Go.Proofs.YtgcfbjecmmnlhaaGreat
open Go.RowKit
set_option linter.unusedVariables false
set_option linter.unusedSimpArgs false
set_option maxRecDepth 100000

def kS (k : Int) : Sc := {zS with kd := k}
/-- The parameter, the result and the record that is made, in three blocks. -/
structure Cl3 (w wr : World) (b0 b1 b2 : Nat) (s : Sc) (I T : Value) (c : Sc) (J U : Value) : Prop where
  p : RcAt wr b0 s I T
  r : RcAt wr b1 zS nilV nilV
  c : RcAt wr b2 c J U
  bel : Below w.heap.size w wr
  n02 : b0 ≠ b2
  n12 : b1 ≠ b2
  l1 : w.heap.size ≤ b1
  l2 : w.heap.size ≤ b2
section
variable {w wr wq : World} {b0 b1 b2 : Nat} {s c c' : Sc} {I T J U J' U' : Value}
theorem Cl3.mk' {w0 w1 w2 w3 : World} (N0 : NewR w w0 b0 s I T) (N1 : NewR w0 w1 b1 zS nilV nilV) (N2 : NewR w1 w2 b2 zS nilV nilV) (P : PutR w2 w3 b2 c J U) : Cl3 w w3 b0 b1 b2 s I T c J U := by
  have e0 := N0.eq
  have e1 := N1.eq
  have e2 := N2.eq
  have z0 := N0.rc.lt
  have z1 := N1.rc.lt
  have z2 := N0.below.size
  have z3 := N1.below.size
  have z4 := N2.below.size
  refine ⟨((N0.rc.below N1.below).below N2.below).off P.off (by omega), (N1.rc.below N2.below).off P.off (by omega), P.rc, (thn (thn N0.below N1.below) N2.below).trans (P.below (by omega) (by omega)), by omega, by omega, by omega, by omega⟩
theorem Cl3.put (h : Cl3 w wr b0 b1 b2 s I T c J U) (hr : RcAt wq b2 c' J' U') (o : Pk.Off b2 wr wq) : Cl3 w wq b0 b1 b2 s I T c' J' U' :=
  ⟨h.p.off o h.n02, h.r.off o h.n12, hr, h.bel.trans (o.below h.l2 h.bel.size), h.n02, h.n12, h.l1, h.l2⟩
theorem Cl3.set (h : Cl3 w wr b0 b1 b2 s I T c J U) {k : Nat} {v : Value} (e : (c.A J U).setIfInBounds k v = c'.A J' U') : Cl3 w (wr.setCell ⟨b2, k, none⟩ v) b0 b1 b2 s I T c' J' U' :=
  h.put (h.c.set e) ((Pk.Off.refl _ _).setCell _ _)
theorem Cl3.below (h : Cl3 w wr b0 b1 b2 s I T c J U) (hb : Below wr.heap.size wr wq) : Cl3 w wq b0 b1 b2 s I T c J U :=
  ⟨h.p.below hb, h.r.below hb, h.c.below hb, thn h.bel hb, h.n02, h.n12, h.l1, h.l2⟩
theorem Cl3.ret (h : Cl3 w wr b0 b1 b2 s I T c J U) (P : PutR wr wq b1 c J U) : RcAt wq b1 c J U ∧ Below w.heap.size w wq := ⟨P.rc, h.bel.trans (P.below h.l1 h.bel.size)⟩
end
section
variable {w : World} {v : Value} {s : Sc} {I T : Value}
set_option maxHeartbeats 1000000 in
theorem clean_7 (hk : s.kd = 7) : Calls Tryz.prog 51 #[.agg (s.A I T)] w fun e w' => e = .returned (.agg (({kS s.kd with tx := s.tx, pv := s.pv} : Sc).A nilV nilV)) ∧ Below w.heap.size w w' := by
  have e1 : (s.kd == 1) = false := by rw [hk]; rfl
  have e2 : (s.kd == 2) = false := by rw [hk]; rfl
  have e3 : (s.kd == 3) = false := by rw [hk]; rfl
  have e4 : (s.kd == 4) = false := by rw [hk]; rfl
  have e5 : (s.kd == 5) = false := by rw [hk]; rfl
  have e6 : (s.kd == 6) = false := by rw [hk]; rfl
  have e7 : (s.kd == 7) = true := by rw [hk]; rfl
  clear hk
  go_enter Tryz.func51, Tryz.ntmps51
  go_wp2_with (first
    | (refine wpList_box_rc (s := s) (I := _) (T := _) _ rfl _ rfl rfl ?_; intro w0 b0 N0)
    | (have := N1; refine wpList_new_rc _ rfl rfl ?_; intro w2 b2 N2; have k00 := ((N0.rc.below N1.below).below N2.below).c0)
    | (refine wpList_new_rc _ rfl rfl ?_; intro w1 b1 N1; have k00 := (N0.rc.below N1.below).c0)
    | (refine wpList_at (Op.store 37 (.tmp 3) (.tmp 6)) rfl ?_; refine wpList_put_rc (s' := kS s.kd) (I' := nilV) (T' := nilV) _ rfl (.tmp 3) (.tmp 6) rfl rfl rfl N2.rc rfl rfl ?_; intro w3 P3; have H := Cl3.mk' N0 N1 N2 P3; clear N0 N1 N2 P3 k00; have k00 := H.p.c0; have q0 := H.c.f; have p1 := H.p.c1; have c1 := H.c.c1; have p2 := H.p.c2; have c2 := H.c.c2)
    | (refine wpList_at (Op.store 3 (.tmp 51) (.tmp 48)) rfl ?_; refine wpList_fput (s' := {kS s.kd with tx := s.tx}) (I' := nilV) (T' := nilV) _ rfl 3 (.tmp 51) (.tmp 48) rfl rfl rfl H.c (by omega) rfl (by kernel_rfl) rfl ?_; intro w4 P4; have H4 := H.put P4.rc P4.off; clear H; have H := H4; clear H4 P4)
    | (refine wpList_at (Op.store 3 (.tmp 52) (.tmp 50)) rfl ?_; refine wpList_fput (s' := {kS s.kd with tx := s.tx, pv := s.pv}) (I' := nilV) (T' := nilV) _ rfl 3 (.tmp 52) (.tmp 50) rfl rfl rfl H.c (by omega) rfl (by kernel_rfl) rfl ?_; intro w4 P4; have H4 := H.put P4.rc P4.off; clear H; have H := H4; clear H4 P4)
    | (refine wpList_load_rc _ rfl (.tmp 3) rfl rfl H.c ?_)
    | (refine wpList_at (Op.store 37 (.tmp 2) (.tmp 69)) rfl ?_; refine wpList_put_rc (s' := {kS s.kd with tx := s.tx, pv := s.pv}) (I' := nilV) (T' := nilV) _ rfl (.tmp 2) (.tmp 69) rfl rfl rfl H.r rfl rfl ?_; intro w9 P9))
  obtain ⟨g1, g2⟩ := H.ret P9
  refine bodyPost_ret (results_rc1 rfl _ _ rfl g1) rfl ?_
  exact ⟨rfl, g2⟩
set_option maxHeartbeats 1000000 in
theorem clean_8 (hk : s.kd = 8) : Calls Tryz.prog 51 #[.agg (s.A I T)] w fun e w' => e = .returned (.agg (({kS s.kd with tx := s.tx, pv := s.pv} : Sc).A nilV nilV)) ∧ Below w.heap.size w w' := by
  have e1 : (s.kd == 1) = false := by rw [hk]; rfl
  have e2 : (s.kd == 2) = false := by rw [hk]; rfl
  have e3 : (s.kd == 3) = false := by rw [hk]; rfl
  have e4 : (s.kd == 4) = false := by rw [hk]; rfl
  have e5 : (s.kd == 5) = false := by rw [hk]; rfl
  have e6 : (s.kd == 6) = false := by rw [hk]; rfl
  have e7 : (s.kd == 7) = false := by rw [hk]; rfl
  have e8 : (s.kd == 8) = true := by rw [hk]; rfl
  clear hk
  go_enter Tryz.func51, Tryz.ntmps51
  go_wp2_with (first
    | (refine wpList_box_rc (s := s) (I := _) (T := _) _ rfl _ rfl rfl ?_; intro w0 b0 N0)
    | (have := N1; refine wpList_new_rc _ rfl rfl ?_; intro w2 b2 N2; have k00 := ((N0.rc.below N1.below).below N2.below).c0)
    | (refine wpList_new_rc _ rfl rfl ?_; intro w1 b1 N1; have k00 := (N0.rc.below N1.below).c0)
    | (refine wpList_at (Op.store 37 (.tmp 3) (.tmp 6)) rfl ?_; refine wpList_put_rc (s' := kS s.kd) (I' := nilV) (T' := nilV) _ rfl (.tmp 3) (.tmp 6) rfl rfl rfl N2.rc rfl rfl ?_; intro w3 P3; have H := Cl3.mk' N0 N1 N2 P3; clear N0 N1 N2 P3 k00; have k00 := H.p.c0; have q0 := H.c.f; have p1 := H.p.c1; have c1 := H.c.c1; have p2 := H.p.c2; have c2 := H.c.c2)
    | (refine wpList_at (Op.store 3 (.tmp 51) (.tmp 48)) rfl ?_; refine wpList_fput (s' := {kS s.kd with tx := s.tx}) (I' := nilV) (T' := nilV) _ rfl 3 (.tmp 51) (.tmp 48) rfl rfl rfl H.c (by omega) rfl (by kernel_rfl) rfl ?_; intro w4 P4; have H4 := H.put P4.rc P4.off; clear H; have H := H4; clear H4 P4)
    | (refine wpList_at (Op.store 3 (.tmp 52) (.tmp 50)) rfl ?_; refine wpList_fput (s' := {kS s.kd with tx := s.tx, pv := s.pv}) (I' := nilV) (T' := nilV) _ rfl 3 (.tmp 52) (.tmp 50) rfl rfl rfl H.c (by omega) rfl (by kernel_rfl) rfl ?_; intro w4 P4; have H4 := H.put P4.rc P4.off; clear H; have H := H4; clear H4 P4)
    | (refine wpList_load_rc _ rfl (.tmp 3) rfl rfl H.c ?_)
    | (refine wpList_at (Op.store 37 (.tmp 2) (.tmp 69)) rfl ?_; refine wpList_put_rc (s' := {kS s.kd with tx := s.tx, pv := s.pv}) (I' := nilV) (T' := nilV) _ rfl (.tmp 2) (.tmp 69) rfl rfl rfl H.r rfl rfl ?_; intro w9 P9))
  obtain ⟨g1, g2⟩ := H.ret P9
  refine bodyPost_ret (results_rc1 rfl _ _ rfl g1) rfl ?_
  exact ⟨rfl, g2⟩
set_option maxHeartbeats 1000000 in
theorem clean_10 (hk : s.kd = 10) : Calls Tryz.prog 51 #[.agg (s.A I T)] w fun e w' => e = .returned (.agg (({kS s.kd with ep := s.ep, nd := s.nd} : Sc).A nilV nilV)) ∧ Below w.heap.size w w' := by
  have e1 : (s.kd == 1) = false := by rw [hk]; rfl
  have e2 : (s.kd == 2) = false := by rw [hk]; rfl
  have e3 : (s.kd == 3) = false := by rw [hk]; rfl
  have e4 : (s.kd == 4) = false := by rw [hk]; rfl
  have e5 : (s.kd == 5) = false := by rw [hk]; rfl
  have e6 : (s.kd == 6) = false := by rw [hk]; rfl
  have e7 : (s.kd == 7) = false := by rw [hk]; rfl
  have e8 : (s.kd == 8) = false := by rw [hk]; rfl
  have e9 : (s.kd == 9) = false := by rw [hk]; rfl
  have e10 : (s.kd == 10) = true := by rw [hk]; rfl
  clear hk
  go_enter Tryz.func51, Tryz.ntmps51
  go_wp2_with (first
    | (refine wpList_box_rc (s := s) (I := _) (T := _) _ rfl _ rfl rfl ?_; intro w0 b0 N0)
    | (have := N1; refine wpList_new_rc _ rfl rfl ?_; intro w2 b2 N2; have k00 := ((N0.rc.below N1.below).below N2.below).c0)
    | (refine wpList_new_rc _ rfl rfl ?_; intro w1 b1 N1; have k00 := (N0.rc.below N1.below).c0)
    | (refine wpList_at (Op.store 37 (.tmp 3) (.tmp 6)) rfl ?_; refine wpList_put_rc (s' := kS s.kd) (I' := nilV) (T' := nilV) _ rfl (.tmp 3) (.tmp 6) rfl rfl rfl N2.rc rfl rfl ?_; intro w3 P3; have H := Cl3.mk' N0 N1 N2 P3; clear N0 N1 N2 P3 k00; have k00 := H.p.c0; have q0 := H.c.f; have p11 := H.p.c11; have c11 := H.c.c11; have p12 := H.p.c12; have c12 := H.c.c12)
    | (refine wpList_at (Op.store 3 (.tmp 67) (.tmp 64)) rfl ?_; refine wpList_fput (s' := {kS s.kd with ep := s.ep}) (I' := nilV) (T' := nilV) _ rfl 3 (.tmp 67) (.tmp 64) rfl rfl rfl H.c (by omega) rfl (by kernel_rfl) rfl ?_; intro w4 P4; have H4 := H.put P4.rc P4.off; clear H; have H := H4; clear H4 P4)
    | (refine wpList_at (Op.store 3 (.tmp 68) (.tmp 66)) rfl ?_; refine wpList_fput (s' := {kS s.kd with ep := s.ep, nd := s.nd}) (I' := nilV) (T' := nilV) _ rfl 3 (.tmp 68) (.tmp 66) rfl rfl rfl H.c (by omega) rfl (by kernel_rfl) rfl ?_; intro w4 P4; have H4 := H.put P4.rc P4.off; clear H; have H := H4; clear H4 P4)
    | (refine wpList_load_rc _ rfl (.tmp 3) rfl rfl H.c ?_)
    | (refine wpList_at (Op.store 37 (.tmp 2) (.tmp 69)) rfl ?_; refine wpList_put_rc (s' := {kS s.kd with ep := s.ep, nd := s.nd}) (I' := nilV) (T' := nilV) _ rfl (.tmp 2) (.tmp 69) rfl rfl rfl H.r rfl rfl ?_; intro w9 P9))
  obtain ⟨g1, g2⟩ := H.ret P9
  refine bodyPost_ret (results_rc1 rfl _ _ rfl g1) rfl ?_
  exact ⟨rfl, g2⟩
set_option maxHeartbeats 1000000 in
theorem clean_o (h1 : s.kd ≠ 1) (h2 : s.kd ≠ 2) (h3 : s.kd ≠ 3) (h4 : s.kd ≠ 4) (h5 : s.kd ≠ 5) (h6 : s.kd ≠ 6) (h7 : s.kd ≠ 7) (h8 : s.kd ≠ 8) (h9 : s.kd ≠ 9) (h10 : s.kd ≠ 10) : Calls Tryz.prog 51 #[.agg (s.A I T)] w fun e w' => e = .returned (.agg ((kS s.kd : Sc).A nilV nilV)) ∧ Below w.heap.size w w' := by
  have e1 : (s.kd == 1) = false := by simpa using h1
  have e2 : (s.kd == 2) = false := by simpa using h2
  have e3 : (s.kd == 3) = false := by simpa using h3
  have e4 : (s.kd == 4) = false := by simpa using h4
  have e5 : (s.kd == 5) = false := by simpa using h5
  have e6 : (s.kd == 6) = false := by simpa using h6
  have e7 : (s.kd == 7) = false := by simpa using h7
  have e8 : (s.kd == 8) = false := by simpa using h8
  have e9 : (s.kd == 9) = false := by simpa using h9
  have e10 : (s.kd == 10) = false := by simpa using h10
  clear h1 h2 h3 h4 h5 h6 h7 h8 h9 h10
  go_enter Tryz.func51, Tryz.ntmps51
  go_wp2_with (first
    | (refine wpList_box_rc (s := s) (I := _) (T := _) _ rfl _ rfl rfl ?_; intro w0 b0 N0)
    | (have := N1; refine wpList_new_rc _ rfl rfl ?_; intro w2 b2 N2; have k00 := ((N0.rc.below N1.below).below N2.below).c0)
    | (refine wpList_new_rc _ rfl rfl ?_; intro w1 b1 N1; have k00 := (N0.rc.below N1.below).c0)
    | (refine wpList_at (Op.store 37 (.tmp 3) (.tmp 6)) rfl ?_; refine wpList_put_rc (s' := kS s.kd) (I' := nilV) (T' := nilV) _ rfl (.tmp 3) (.tmp 6) rfl rfl rfl N2.rc rfl rfl ?_; intro w3 P3; have H := Cl3.mk' N0 N1 N2 P3; clear N0 N1 N2 P3 k00; have k00 := H.p.c0)
    | (refine wpList_load_rc _ rfl (.tmp 3) rfl rfl H.c ?_)
    | (refine wpList_at (Op.store 37 (.tmp 2) (.tmp 69)) rfl ?_; refine wpList_put_rc (s' := kS s.kd) (I' := nilV) (T' := nilV) _ rfl (.tmp 2) (.tmp 69) rfl rfl rfl H.r rfl rfl ?_; intro w9 P9))
  obtain ⟨g1, g2⟩ := H.ret P9
  refine bodyPost_ret (results_rc1 rfl _ _ rfl g1) rfl ?_
  exact ⟨rfl, g2⟩
set_option maxHeartbeats 1000000 in
theorem clean_3 (hk : s.kd = 3) : Calls Tryz.prog 51 #[.agg (s.A I T)] w fun e w' => e = .returned (.agg ((copyS {kS s.kd with tx := s.tx, pv := s.pv} s : Sc).A nilV nilV)) ∧ Below w.heap.size w w' := by
  have e1 : (s.kd == 1) = false := by rw [hk]; rfl
  have e2 : (s.kd == 2) = false := by rw [hk]; rfl
  have e3 : (s.kd == 3) = true := by rw [hk]; rfl
  have ha : actOf s = actOf {kS s.kd with tx := s.tx, pv := s.pv} := by simp [actOf, kS, hk]
  clear hk
  go_enter Tryz.func51, Tryz.ntmps51
  go_wp2_with (first
    | (refine wpList_box_rc (s := s) (I := _) (T := _) _ rfl _ rfl rfl ?_; intro w0 b0 N0)
    | (have := N1; refine wpList_new_rc _ rfl rfl ?_; intro w2 b2 N2; have k00 := ((N0.rc.below N1.below).below N2.below).c0)
    | (refine wpList_new_rc _ rfl rfl ?_; intro w1 b1 N1; have k00 := (N0.rc.below N1.below).c0)
    | (refine wpList_at (Op.store 37 (.tmp 3) (.tmp 6)) rfl ?_; refine wpList_put_rc (s' := kS s.kd) (I' := nilV) (T' := nilV) _ rfl (.tmp 3) (.tmp 6) rfl rfl rfl N2.rc rfl rfl ?_; intro w3 P3; have H := Cl3.mk' N0 N1 N2 P3; clear N0 N1 N2 P3 k00; have k00 := H.p.c0; have q0 := H.c.f; have p1 := H.p.c1; have c1 := H.c.c1; have p2 := H.p.c2; have c2 := H.c.c2)
    | (refine wpList_at (Op.store 3 (.tmp 26) (.tmp 23)) rfl ?_; refine wpList_fput (s' := {kS s.kd with tx := s.tx}) (I' := nilV) (T' := nilV) _ rfl 3 (.tmp 26) (.tmp 23) rfl rfl rfl H.c (by omega) rfl (by kernel_rfl) rfl ?_; intro w4 P4; have H4 := H.put P4.rc P4.off; clear H; have H := H4; clear H4 P4)
    | (refine wpList_at (Op.store 3 (.tmp 27) (.tmp 25)) rfl ?_; refine wpList_fput (s' := {kS s.kd with tx := s.tx, pv := s.pv}) (I' := nilV) (T' := nilV) _ rfl 3 (.tmp 27) (.tmp 25) rfl rfl rfl H.c (by omega) rfl (by kernel_rfl) rfl ?_; intro w4 P4; have H4 := H.put P4.rc P4.off; clear H; have H := H4; clear H4 P4)
    | (go_at_call 76; refine (copy_any H.c H.p (fun e => H.n02 e.symm) ha).mono ?_; rintro e w5 ⟨rfl, r5, o5⟩; have H5 := H.put r5 o5; clear H; have H := H5; clear H5 r5 o5)
    | (refine wpList_load_rc _ rfl (.tmp 3) rfl rfl H.c ?_)
    | (refine wpList_at (Op.store 37 (.tmp 2) (.tmp 69)) rfl ?_; refine wpList_put_rc (s' := copyS {kS s.kd with tx := s.tx, pv := s.pv} s) (I' := nilV) (T' := nilV) _ rfl (.tmp 2) (.tmp 69) rfl rfl rfl H.r rfl rfl ?_; intro w9 P9))
  obtain ⟨g1, g2⟩ := H.ret P9
  refine bodyPost_ret (results_rc1 rfl _ _ rfl g1) rfl ?_
  exact ⟨rfl, g2⟩
set_option maxHeartbeats 1000000 in
theorem clean_4 (hk : s.kd = 4) : Calls Tryz.prog 51 #[.agg (s.A I T)] w fun e w' => e = .returned (.agg ((copyS {kS s.kd with tx := s.tx, pv := s.pv} s : Sc).A nilV nilV)) ∧ Below w.heap.size w w' := by
  have e1 : (s.kd == 1) = false := by rw [hk]; rfl
  have e2 : (s.kd == 2) = false := by rw [hk]; rfl
  have e3 : (s.kd == 3) = false := by rw [hk]; rfl
  have e4 : (s.kd == 4) = true := by rw [hk]; rfl
  have ha : actOf s = actOf {kS s.kd with tx := s.tx, pv := s.pv} := by simp [actOf, kS, hk]
  clear hk
  go_enter Tryz.func51, Tryz.ntmps51
  go_wp2_with (first
    | (refine wpList_box_rc (s := s) (I := _) (T := _) _ rfl _ rfl rfl ?_; intro w0 b0 N0)
    | (have := N1; refine wpList_new_rc _ rfl rfl ?_; intro w2 b2 N2; have k00 := ((N0.rc.below N1.below).below N2.below).c0)
    | (refine wpList_new_rc _ rfl rfl ?_; intro w1 b1 N1; have k00 := (N0.rc.below N1.below).c0)
    | (refine wpList_at (Op.store 37 (.tmp 3) (.tmp 6)) rfl ?_; refine wpList_put_rc (s' := kS s.kd) (I' := nilV) (T' := nilV) _ rfl (.tmp 3) (.tmp 6) rfl rfl rfl N2.rc rfl rfl ?_; intro w3 P3; have H := Cl3.mk' N0 N1 N2 P3; clear N0 N1 N2 P3 k00; have k00 := H.p.c0; have q0 := H.c.f; have p1 := H.p.c1; have c1 := H.c.c1; have p2 := H.p.c2; have c2 := H.c.c2)
    | (refine wpList_at (Op.store 3 (.tmp 26) (.tmp 23)) rfl ?_; refine wpList_fput (s' := {kS s.kd with tx := s.tx}) (I' := nilV) (T' := nilV) _ rfl 3 (.tmp 26) (.tmp 23) rfl rfl rfl H.c (by omega) rfl (by kernel_rfl) rfl ?_; intro w4 P4; have H4 := H.put P4.rc P4.off; clear H; have H := H4; clear H4 P4)
    | (refine wpList_at (Op.store 3 (.tmp 27) (.tmp 25)) rfl ?_; refine wpList_fput (s' := {kS s.kd with tx := s.tx, pv := s.pv}) (I' := nilV) (T' := nilV) _ rfl 3 (.tmp 27) (.tmp 25) rfl rfl rfl H.c (by omega) rfl (by kernel_rfl) rfl ?_; intro w4 P4; have H4 := H.put P4.rc P4.off; clear H; have H := H4; clear H4 P4)
    | (go_at_call 76; refine (copy_any H.c H.p (fun e => H.n02 e.symm) ha).mono ?_; rintro e w5 ⟨rfl, r5, o5⟩; have H5 := H.put r5 o5; clear H; have H := H5; clear H5 r5 o5)
    | (refine wpList_load_rc _ rfl (.tmp 3) rfl rfl H.c ?_)
    | (refine wpList_at (Op.store 37 (.tmp 2) (.tmp 69)) rfl ?_; refine wpList_put_rc (s' := copyS {kS s.kd with tx := s.tx, pv := s.pv} s) (I' := nilV) (T' := nilV) _ rfl (.tmp 2) (.tmp 69) rfl rfl rfl H.r rfl rfl ?_; intro w9 P9))
  obtain ⟨g1, g2⟩ := H.ret P9
  refine bodyPost_ret (results_rc1 rfl _ _ rfl g1) rfl ?_
  exact ⟨rfl, g2⟩
set_option maxHeartbeats 1000000 in
theorem clean_5 (hk : s.kd = 5) : Calls Tryz.prog 51 #[.agg (s.A I T)] w fun e w' => e = .returned (.agg ((copyS {kS s.kd with tx := s.tx, pv := s.pv} s : Sc).A nilV nilV)) ∧ Below w.heap.size w w' := by
  have e1 : (s.kd == 1) = false := by rw [hk]; rfl
  have e2 : (s.kd == 2) = false := by rw [hk]; rfl
  have e3 : (s.kd == 3) = false := by rw [hk]; rfl
  have e4 : (s.kd == 4) = false := by rw [hk]; rfl
  have e5 : (s.kd == 5) = true := by rw [hk]; rfl
  have ha : actOf s = actOf {kS s.kd with tx := s.tx, pv := s.pv} := by simp [actOf, kS, hk]
  clear hk
  go_enter Tryz.func51, Tryz.ntmps51
  go_wp2_with (first
    | (refine wpList_box_rc (s := s) (I := _) (T := _) _ rfl _ rfl rfl ?_; intro w0 b0 N0)
    | (have := N1; refine wpList_new_rc _ rfl rfl ?_; intro w2 b2 N2; have k00 := ((N0.rc.below N1.below).below N2.below).c0)
    | (refine wpList_new_rc _ rfl rfl ?_; intro w1 b1 N1; have k00 := (N0.rc.below N1.below).c0)
    | (refine wpList_at (Op.store 37 (.tmp 3) (.tmp 6)) rfl ?_; refine wpList_put_rc (s' := kS s.kd) (I' := nilV) (T' := nilV) _ rfl (.tmp 3) (.tmp 6) rfl rfl rfl N2.rc rfl rfl ?_; intro w3 P3; have H := Cl3.mk' N0 N1 N2 P3; clear N0 N1 N2 P3 k00; have k00 := H.p.c0; have q0 := H.c.f; have p1 := H.p.c1; have c1 := H.c.c1; have p2 := H.p.c2; have c2 := H.c.c2)
    | (refine wpList_at (Op.store 3 (.tmp 26) (.tmp 23)) rfl ?_; refine wpList_fput (s' := {kS s.kd with tx := s.tx}) (I' := nilV) (T' := nilV) _ rfl 3 (.tmp 26) (.tmp 23) rfl rfl rfl H.c (by omega) rfl (by kernel_rfl) rfl ?_; intro w4 P4; have H4 := H.put P4.rc P4.off; clear H; have H := H4; clear H4 P4)
    | (refine wpList_at (Op.store 3 (.tmp 27) (.tmp 25)) rfl ?_; refine wpList_fput (s' := {kS s.kd with tx := s.tx, pv := s.pv}) (I' := nilV) (T' := nilV) _ rfl 3 (.tmp 27) (.tmp 25) rfl rfl rfl H.c (by omega) rfl (by kernel_rfl) rfl ?_; intro w4 P4; have H4 := H.put P4.rc P4.off; clear H; have H := H4; clear H4 P4)
    | (go_at_call 76; refine (copy_any H.c H.p (fun e => H.n02 e.symm) ha).mono ?_; rintro e w5 ⟨rfl, r5, o5⟩; have H5 := H.put r5 o5; clear H; have H := H5; clear H5 r5 o5)
    | (refine wpList_load_rc _ rfl (.tmp 3) rfl rfl H.c ?_)
    | (refine wpList_at (Op.store 37 (.tmp 2) (.tmp 69)) rfl ?_; refine wpList_put_rc (s' := copyS {kS s.kd with tx := s.tx, pv := s.pv} s) (I' := nilV) (T' := nilV) _ rfl (.tmp 2) (.tmp 69) rfl rfl rfl H.r rfl rfl ?_; intro w9 P9))
  obtain ⟨g1, g2⟩ := H.ret P9
  refine bodyPost_ret (results_rc1 rfl _ _ rfl g1) rfl ?_
  exact ⟨rfl, g2⟩
set_option maxHeartbeats 1000000 in
theorem clean_6 (hk : s.kd = 6) : Calls Tryz.prog 51 #[.agg (s.A I T)] w fun e w' => e = .returned (.agg ((copyS {kS s.kd with tx := s.tx, pv := s.pv, nx := s.nx, ac := s.ac} s : Sc).A nilV nilV)) ∧ Below w.heap.size w w' := by
  have e1 : (s.kd == 1) = false := by rw [hk]; rfl
  have e2 : (s.kd == 2) = false := by rw [hk]; rfl
  have e3 : (s.kd == 3) = false := by rw [hk]; rfl
  have e4 : (s.kd == 4) = false := by rw [hk]; rfl
  have e5 : (s.kd == 5) = false := by rw [hk]; rfl
  have e6 : (s.kd == 6) = true := by rw [hk]; rfl
  have ha : actOf s = actOf {kS s.kd with tx := s.tx, pv := s.pv, nx := s.nx, ac := s.ac} := by simp [actOf, kS, hk]
  clear hk
  go_enter Tryz.func51, Tryz.ntmps51
  go_wp2_with (first
    | (refine wpList_box_rc (s := s) (I := _) (T := _) _ rfl _ rfl rfl ?_; intro w0 b0 N0)
    | (have := N1; refine wpList_new_rc _ rfl rfl ?_; intro w2 b2 N2; have k00 := ((N0.rc.below N1.below).below N2.below).c0)
    | (refine wpList_new_rc _ rfl rfl ?_; intro w1 b1 N1; have k00 := (N0.rc.below N1.below).c0)
    | (refine wpList_at (Op.store 37 (.tmp 3) (.tmp 6)) rfl ?_; refine wpList_put_rc (s' := kS s.kd) (I' := nilV) (T' := nilV) _ rfl (.tmp 3) (.tmp 6) rfl rfl rfl N2.rc rfl rfl ?_; intro w3 P3; have H := Cl3.mk' N0 N1 N2 P3; clear N0 N1 N2 P3 k00; have k00 := H.p.c0; have q0 := H.c.f; have p1 := H.p.c1; have c1 := H.c.c1; have p2 := H.p.c2; have c2 := H.c.c2; have p4 := H.p.c4; have c4 := H.c.c4; have p8 := H.p.c8; have c8 := H.c.c8)
    | (refine wpList_at (Op.store 3 (.tmp 39) (.tmp 32)) rfl ?_; refine wpList_fput (s' := {kS s.kd with tx := s.tx}) (I' := nilV) (T' := nilV) _ rfl 3 (.tmp 39) (.tmp 32) rfl rfl rfl H.c (by omega) rfl (by kernel_rfl) rfl ?_; intro w4 P4; have H4 := H.put P4.rc P4.off; clear H; have H := H4; clear H4 P4)
    | (refine wpList_at (Op.store 3 (.tmp 40) (.tmp 34)) rfl ?_; refine wpList_fput (s' := {kS s.kd with tx := s.tx, pv := s.pv}) (I' := nilV) (T' := nilV) _ rfl 3 (.tmp 40) (.tmp 34) rfl rfl rfl H.c (by omega) rfl (by kernel_rfl) rfl ?_; intro w4 P4; have H4 := H.put P4.rc P4.off; clear H; have H := H4; clear H4 P4)
    | (refine wpList_at (Op.store 3 (.tmp 41) (.tmp 36)) rfl ?_; refine wpList_fput (s' := {kS s.kd with tx := s.tx, pv := s.pv, nx := s.nx}) (I' := nilV) (T' := nilV) _ rfl 3 (.tmp 41) (.tmp 36) rfl rfl rfl H.c (by omega) rfl (by kernel_rfl) rfl ?_; intro w4 P4; have H4 := H.put P4.rc P4.off; clear H; have H := H4; clear H4 P4)
    | (refine wpList_at (Op.store 3 (.tmp 42) (.tmp 38)) rfl ?_; refine wpList_fput (s' := {kS s.kd with tx := s.tx, pv := s.pv, nx := s.nx, ac := s.ac}) (I' := nilV) (T' := nilV) _ rfl 3 (.tmp 42) (.tmp 38) rfl rfl rfl H.c (by omega) rfl (by kernel_rfl) rfl ?_; intro w4 P4; have H4 := H.put P4.rc P4.off; clear H; have H := H4; clear H4 P4)
    | (go_at_call 76; refine (copy_any H.c H.p (fun e => H.n02 e.symm) ha).mono ?_; rintro e w5 ⟨rfl, r5, o5⟩; have H5 := H.put r5 o5; clear H; have H := H5; clear H5 r5 o5)
    | (refine wpList_load_rc _ rfl (.tmp 3) rfl rfl H.c ?_)
    | (refine wpList_at (Op.store 37 (.tmp 2) (.tmp 69)) rfl ?_; refine wpList_put_rc (s' := copyS {kS s.kd with tx := s.tx, pv := s.pv, nx := s.nx, ac := s.ac} s) (I' := nilV) (T' := nilV) _ rfl (.tmp 2) (.tmp 69) rfl rfl rfl H.r rfl rfl ?_; intro w9 P9))
  obtain ⟨g1, g2⟩ := H.ret P9
  refine bodyPost_ret (results_rc1 rfl _ _ rfl g1) rfl ?_
  exact ⟨rfl, g2⟩
set_option maxHeartbeats 1000000 in
theorem clean_1 {l : List Im} (hk : s.kd = 1) (hI : SlI w I l) (hl : l.length ≤ 1000) : Calls Tryz.prog 51 #[.agg (s.A I T)] w fun e w' => ∃ J, e = .returned (.agg ((kS s.kd).A J nilV)) ∧ SlI w' J l ∧ Below w.heap.size w w' := by
  obtain ⟨a, c, rfl, hcs, hnil, hle, _⟩ := hI.ex
  have e1 : (s.kd == 1) = true := by rw [hk]; rfl
  clear hk hI
  go_enter Tryz.func51, Tryz.ntmps51
  go_wp2_with (first
    | (refine wpList_box_rc (s := s) (I := _) (T := _) _ rfl _ rfl rfl ?_; intro w0 b0 N0)
    | (have := N1; refine wpList_new_rc _ rfl rfl ?_; intro w2 b2 N2; have k00 := ((N0.rc.below N1.below).below N2.below).c0)
    | (refine wpList_new_rc _ rfl rfl ?_; intro w1 b1 N1; have k00 := (N0.rc.below N1.below).c0)
    | (refine wpList_at (Op.store 37 (.tmp 3) (.tmp 6)) rfl ?_; refine wpList_put_rc (s' := kS s.kd) (I' := nilV) (T' := nilV) _ rfl (.tmp 3) (.tmp 6) rfl rfl rfl N2.rc rfl rfl ?_; intro w3 P3; have H := Cl3.mk' N0 N1 N2 P3; clear N0 N1 N2 P3 k00; have k00 := H.p.c0; have q0 := H.c.f; have p9 := H.p.c9; have c9 := H.c.c9; unfold nilV at c9)
    | (have lb2 := H.c.lt; have lb1 := H.r.lt; refine wpList_append_own' two_im (B := _) rfl (.tmp 13) (.tmp 15) rfl rfl (n := 0) (xs := []) rfl (Own.nil _ _ _) (Nat.le_refl _) rfl (encI_length l) hnil (hcs.below H.bel) (encI_ones l) (by omega) ?_; intro a4 cap4 w4 O4 B4; have H4 := H.below B4; clear H; have H := H4; clear H4; have F := O4.frI l; clear O4)
    | (refine wpList_at (Op.store 34 (.tmp 17) (.tmp 16)) rfl ?_; refine wpList_fput (s' := kS s.kd) (I' := .slice a4 l.length cap4) (T' := nilV) _ rfl 34 (.tmp 17) (.tmp 16) rfl rfl rfl H.c (by omega) rfl (by kernel_rfl) rfl ?_; intro w4 P4; have F4 := F.off P4.off lb2; clear F; have F := F4; clear F4; have H4 := H.put P4.rc P4.off; clear H; have H := H4; clear H4 P4)
    | (refine wpList_load_rc _ rfl (.tmp 3) rfl rfl H.c ?_)
    | (refine wpList_at (Op.store 37 (.tmp 2) (.tmp 69)) rfl ?_; refine wpList_put_rc (s' := kS s.kd) (I' := .slice a4 l.length cap4) (T' := nilV) _ rfl (.tmp 2) (.tmp 69) rfl rfl rfl H.r rfl rfl ?_; intro w9 P9))
  obtain ⟨g1, g2⟩ := H.ret P9
  refine bodyPost_ret (results_rc1 rfl _ _ rfl g1) rfl ?_
  exact ⟨_, rfl, (F.off P9.off lb1).slI, g2⟩
set_option maxHeartbeats 1000000 in
theorem clean_2 {l : List Im} (hk : s.kd = 2) (hI : SlI w I l) (hl : l.length ≤ 1000) : Calls Tryz.prog 51 #[.agg (s.A I T)] w fun e w' => ∃ J, e = .returned (.agg ((kS s.kd).A J nilV)) ∧ SlI w' J l ∧ Below w.heap.size w w' := by
  obtain ⟨a, c, rfl, hcs, hnil, hle, _⟩ := hI.ex
  have e1 : (s.kd == 1) = false := by rw [hk]; rfl
  have e2 : (s.kd == 2) = true := by rw [hk]; rfl
  clear hk hI
  go_enter Tryz.func51, Tryz.ntmps51
  go_wp2_with (first
    | (refine wpList_box_rc (s := s) (I := _) (T := _) _ rfl _ rfl rfl ?_; intro w0 b0 N0)
    | (have := N1; refine wpList_new_rc _ rfl rfl ?_; intro w2 b2 N2; have k00 := ((N0.rc.below N1.below).below N2.below).c0)
    | (refine wpList_new_rc _ rfl rfl ?_; intro w1 b1 N1; have k00 := (N0.rc.below N1.below).c0)
    | (refine wpList_at (Op.store 37 (.tmp 3) (.tmp 6)) rfl ?_; refine wpList_put_rc (s' := kS s.kd) (I' := nilV) (T' := nilV) _ rfl (.tmp 3) (.tmp 6) rfl rfl rfl N2.rc rfl rfl ?_; intro w3 P3; have H := Cl3.mk' N0 N1 N2 P3; clear N0 N1 N2 P3 k00; have k00 := H.p.c0; have q0 := H.c.f; have p9 := H.p.c9; have c9 := H.c.c9; unfold nilV at c9)
    | (have lb2 := H.c.lt; have lb1 := H.r.lt; refine wpList_append_own' two_im (B := _) rfl (.tmp 13) (.tmp 15) rfl rfl (n := 0) (xs := []) rfl (Own.nil _ _ _) (Nat.le_refl _) rfl (encI_length l) hnil (hcs.below H.bel) (encI_ones l) (by omega) ?_; intro a4 cap4 w4 O4 B4; have H4 := H.below B4; clear H; have H := H4; clear H4; have F := O4.frI l; clear O4)
    | (refine wpList_at (Op.store 34 (.tmp 17) (.tmp 16)) rfl ?_; refine wpList_fput (s' := kS s.kd) (I' := .slice a4 l.length cap4) (T' := nilV) _ rfl 34 (.tmp 17) (.tmp 16) rfl rfl rfl H.c (by omega) rfl (by kernel_rfl) rfl ?_; intro w4 P4; have F4 := F.off P4.off lb2; clear F; have F := F4; clear F4; have H4 := H.put P4.rc P4.off; clear H; have H := H4; clear H4 P4)
    | (refine wpList_load_rc _ rfl (.tmp 3) rfl rfl H.c ?_)
    | (refine wpList_at (Op.store 37 (.tmp 2) (.tmp 69)) rfl ?_; refine wpList_put_rc (s' := kS s.kd) (I' := .slice a4 l.length cap4) (T' := nilV) _ rfl (.tmp 2) (.tmp 69) rfl rfl rfl H.r rfl rfl ?_; intro w9 P9))
  obtain ⟨g1, g2⟩ := H.ret P9
  refine bodyPost_ret (results_rc1 rfl _ _ rfl g1) rfl ?_
  exact ⟨_, rfl, (F.off P9.off lb1).slI, g2⟩
set_option maxHeartbeats 1000000 in
theorem clean_9 {l : List Tb} (hk : s.kd = 9) (hI : SlT w T l) (hl : l.length ≤ 1000) : Calls Tryz.prog 51 #[.agg (s.A I T)] w fun e w' => ∃ J, e = .returned (.agg ((kS s.kd).A nilV J)) ∧ SlT w' J l ∧ Below w.heap.size w w' := by
  obtain ⟨a, c, rfl, hcs, hnil, hle, _⟩ := hI.ex
  have e1 : (s.kd == 1) = false := by rw [hk]; rfl
  have e2 : (s.kd == 2) = false := by rw [hk]; rfl
  have e3 : (s.kd == 3) = false := by rw [hk]; rfl
  have e4 : (s.kd == 4) = false := by rw [hk]; rfl
  have e5 : (s.kd == 5) = false := by rw [hk]; rfl
  have e6 : (s.kd == 6) = false := by rw [hk]; rfl
  have e7 : (s.kd == 7) = false := by rw [hk]; rfl
  have e8 : (s.kd == 8) = false := by rw [hk]; rfl
  have e9 : (s.kd == 9) = true := by rw [hk]; rfl
  clear hk hI
  go_enter Tryz.func51, Tryz.ntmps51
  go_wp2_with (first
    | (refine wpList_box_rc (s := s) (I := _) (T := _) _ rfl _ rfl rfl ?_; intro w0 b0 N0)
    | (have := N1; refine wpList_new_rc _ rfl rfl ?_; intro w2 b2 N2; have k00 := ((N0.rc.below N1.below).below N2.below).c0)
    | (refine wpList_new_rc _ rfl rfl ?_; intro w1 b1 N1; have k00 := (N0.rc.below N1.below).c0)
    | (refine wpList_at (Op.store 37 (.tmp 3) (.tmp 6)) rfl ?_; refine wpList_put_rc (s' := kS s.kd) (I' := nilV) (T' := nilV) _ rfl (.tmp 3) (.tmp 6) rfl rfl rfl N2.rc rfl rfl ?_; intro w3 P3; have H := Cl3.mk' N0 N1 N2 P3; clear N0 N1 N2 P3 k00; have k00 := H.p.c0; have q0 := H.c.f; have p10 := H.p.c10; have c10 := H.c.c10; unfold nilV at c10)
    | (have lb2 := H.c.lt; have lb1 := H.r.lt; refine wpList_append_own' two_tb (B := _) rfl (.tmp 56) (.tmp 58) rfl rfl (n := 0) (xs := []) rfl (Own.nil _ _ _) (Nat.le_refl _) rfl (encT_length l) hnil (hcs.below H.bel) (encT_ones l) (by omega) ?_; intro a4 cap4 w4 O4 B4; have H4 := H.below B4; clear H; have H := H4; clear H4; have F := O4.frT l; clear O4)
    | (refine wpList_at (Op.store 35 (.tmp 60) (.tmp 59)) rfl ?_; refine wpList_fput (s' := kS s.kd) (I' := nilV) (T' := .slice a4 l.length cap4) _ rfl 35 (.tmp 60) (.tmp 59) rfl rfl rfl H.c (by omega) rfl (by kernel_rfl) rfl ?_; intro w4 P4; have F4 := F.off P4.off lb2; clear F; have F := F4; clear F4; have H4 := H.put P4.rc P4.off; clear H; have H := H4; clear H4 P4)
    | (refine wpList_load_rc _ rfl (.tmp 3) rfl rfl H.c ?_)
    | (refine wpList_at (Op.store 37 (.tmp 2) (.tmp 69)) rfl ?_; refine wpList_put_rc (s' := kS s.kd) (I' := nilV) (T' := .slice a4 l.length cap4) _ rfl (.tmp 2) (.tmp 69) rfl rfl rfl H.r rfl rfl ?_; intro w9 P9))
  obtain ⟨g1, g2⟩ := H.ret P9
  refine bodyPost_ret (results_rc1 rfl _ _ rfl g1) rfl ?_
  exact ⟨_, rfl, (F.off P9.off lb1).slT, g2⟩
end

theorem clean_any {w : World} {v : Value} {m : Rm} (h : RecV w v m) (hi : m.im.length ≤ 1000) (ht : m.tb.length ≤ 1000) : Calls Tryz.prog 51 #[v] w fun e w' => (∃ v', e = .returned v' ∧ RecV w' v' (cleanM m)) ∧ Below w.heap.size w w' := by
  obtain ⟨s, l, g⟩ := m
  obtain ⟨I, T, rfl, hI, hT⟩ := h.ex
  dsimp only at hI hT hi ht
  by_cases h1 : s.kd = 1
  · refine (clean_1 h1 hI hi).mono ?_
    rintro e w' ⟨J, rfl, hJ, hb⟩
    refine ⟨⟨_, rfl, ⟨J, nilV, ?_, ?_, ?_⟩⟩, hb⟩
    · simp [cleanM, cleanS, h1, kS, zS]
    · simpa [cleanM, h1] using hJ
    · simpa [cleanM, h1] using SlT.nil w'
  by_cases h2 : s.kd = 2
  · refine (clean_2 h2 hI hi).mono ?_
    rintro e w' ⟨J, rfl, hJ, hb⟩
    refine ⟨⟨_, rfl, ⟨J, nilV, ?_, ?_, ?_⟩⟩, hb⟩
    · simp [cleanM, cleanS, h2, kS, zS]
    · simpa [cleanM, h2] using hJ
    · simpa [cleanM, h2] using SlT.nil w'
  by_cases h9 : s.kd = 9
  · refine (clean_9 h9 hT ht).mono ?_
    rintro e w' ⟨J, rfl, hJ, hb⟩
    refine ⟨⟨_, rfl, ⟨nilV, J, ?_, ?_, ?_⟩⟩, hb⟩
    · simp [cleanM, cleanS, h9, kS, zS]
    · simpa [cleanM, h9] using SlI.nil w'
    · simpa [cleanM, h9] using hJ
  have fin : ∀ (w' : World) (c : Sc), cleanS s = c → RecV w' (.agg (c.A nilV nilV)) (cleanM ⟨s, l, g⟩) := fun w' c hc => by
    refine ⟨nilV, nilV, ?_, ?_, ?_⟩
    · simp [cleanM, hc]
    · simpa [cleanM, h1, h2] using SlI.nil w'
    · simpa [cleanM, h9] using SlT.nil w'
  by_cases h3 : s.kd = 3
  · refine (clean_3 h3).mono ?_
    rintro e w' ⟨rfl, hb⟩
    exact ⟨⟨_, rfl, fin w' _ (by simp [cleanS, h3, kS, zS, copyS, actOf])⟩, hb⟩
  by_cases h4 : s.kd = 4
  · refine (clean_4 h4).mono ?_
    rintro e w' ⟨rfl, hb⟩
    exact ⟨⟨_, rfl, fin w' _ (by simp [cleanS, h4, kS, zS, copyS, actOf])⟩, hb⟩
  by_cases h5 : s.kd = 5
  · refine (clean_5 h5).mono ?_
    rintro e w' ⟨rfl, hb⟩
    exact ⟨⟨_, rfl, fin w' _ (by simp [cleanS, h5, kS, zS, copyS, actOf])⟩, hb⟩
  by_cases h6 : s.kd = 6
  · refine (clean_6 h6).mono ?_
    rintro e w' ⟨rfl, hb⟩
    exact ⟨⟨_, rfl, fin w' _ (by simp [cleanS, h6, kS, zS, copyS, actOf])⟩, hb⟩
  by_cases h7 : s.kd = 7
  · refine (clean_7 h7).mono ?_
    rintro e w' ⟨rfl, hb⟩
    exact ⟨⟨_, rfl, fin w' _ (by simp [cleanS, h7, kS, zS])⟩, hb⟩
  by_cases h8 : s.kd = 8
  · refine (clean_8 h8).mono ?_
    rintro e w' ⟨rfl, hb⟩
    exact ⟨⟨_, rfl, fin w' _ (by simp [cleanS, h8, kS, zS])⟩, hb⟩
  by_cases h10 : s.kd = 10
  · refine (clean_10 h10).mono ?_
    rintro e w' ⟨rfl, hb⟩
    exact ⟨⟨_, rfl, fin w' _ (by simp [cleanS, h10, kS, zS])⟩, hb⟩
  · refine (clean_o h1 h2 h3 h4 h5 h6 h7 h8 h9 h10).mono ?_
    rintro e w' ⟨rfl, hb⟩
    exact ⟨⟨_, rfl, fin w' _ (by simp [cleanS, h1, h2, h3, h4, h5, h6, h7, h8, h9, h10, kS, zS])⟩, hb⟩
end Go.Proofs.YtgcfbjecmmnlhaaGreat

namespace Go.Proofs.YtgcfbjecmmnlhaaGreat
open Go.RowKit
set_option linter.unusedVariables false
set_option linter.unusedSimpArgs false
set_option maxRecDepth 100000

/-- A record that memory can hold, of few images and few that go on. -/
structure Small (m : Rm) : Prop where
  im : m.im.length ≤ 1000
  tb : m.tb.length ≤ 1000
  t : ∀ p ∈ m.im, p.2.size ≤ 9223372036854775807
  ky : m.s.ky.size ≤ 9223372036854775807
  ol : m.s.ol.size ≤ 9223372036854775807
  nw : m.s.nw.size ≤ 9223372036854775807
theorem Small.clean {m : Rm} (h : Small m) : Small (cleanM m) := by
  obtain ⟨s, l, g⟩ := m
  have h1 := h.im
  have h2 := h.tb
  have h3 := h.t
  have h4 := h.ky
  have h5 := h.ol
  have h6 := h.nw
  dsimp only at h1 h2 h3 h4 h5 h6
  have z : (⟨#[]⟩ : ByteArray).size ≤ 9223372036854775807 := Nat.zero_le _
  refine ⟨?_, ?_, ?_, ?_, ?_, ?_⟩
  · unfold cleanM; dsimp only; split
    · exact h1
    · exact Nat.zero_le _
  · unfold cleanM; dsimp only; split
    · exact h2
    · exact Nat.zero_le _
  · unfold cleanM; dsimp only; split
    · exact h3
    · intro p hp; cases hp
  · unfold cleanM cleanS; dsimp only; repeat' split
    all_goals assumption
  · unfold cleanM cleanS; dsimp only; repeat' split
    all_goals assumption
  · unfold cleanM cleanS; dsimp only; repeat' split
    all_goals assumption
/-- What refM says of one that is not refused. -/
structure Fine (m : Rm) : Prop where
  k1 : 1 ≤ m.s.kd
  k2 : m.s.kd ≤ 10
  f : formed m = true
  ky : m.s.ky.size ≤ 16
  ol : m.s.ol.size ≤ 32
  nw : m.s.nw.size ≤ 32
theorem fine_of {m : Rm} (h : refM m = 0) : Fine m := by
  unfold refM at h
  split at h
  · cases h
  · split at h
    · cases h
    · split at h
      · cases h
      · split at h
        · cases h
        · rename_i h1 h2 h3 h4
          exact ⟨by omega, by omega, by simpa using h2, by omega, by omega, by omega⟩
theorem Fine.whole {m : Rm} (h : Fine m) (hk : m.s.kd = 1 ∨ m.s.kd = 2) : whole m.im = true := by
  have f := h.f
  unfold formed at f
  rcases hk with hk | hk
  · rw [if_pos hk] at f
    simpa using (by simpa using f : m.im.length = 1 ∧ Go.Proofs.YtgcfbjecmmnlhaaGreat.whole m.im = true).2
  · rw [if_neg (by omega), if_pos hk] at f
    exact f
theorem Fine.texts {m : Rm} (h : Fine m) (hk : m.s.kd = 1 ∨ m.s.kd = 2) : ∀ p ∈ m.im, p.2.size ≤ 1000 := by
  have f := h.whole hk
  intro p hp
  have := (List.all_eq_true.1 f) p hp
  simp at this
  omega
theorem laid_any {w : World} {v : Value} {m : Rm} (h : RecV w v m) (hs : Small m) (hf : Fine m) : Calls Tryz.prog 75 #[v] w fun r w' => r = .returned (.tuple #[.string (laidM m).1, .int .i64 (laidM m).2]) ∧ Below w.heap.size w w' := by
  obtain ⟨I, T, rfl, hI, hT⟩ := h.ex
  have hk1 := hf.k1
  have hk2 := hf.k2
  have hy := hf.ky
  have ho := hf.ol
  have hw := hf.nw
  have hx := hf.texts
  obtain ⟨s, l, g⟩ := m
  have hl := hs.im
  have hg := hs.tb
  dsimp only at *
  have hk : s.kd = 1 ∨ s.kd = 2 ∨ s.kd = 3 ∨ s.kd = 4 ∨ s.kd = 5 ∨ s.kd = 6 ∨ s.kd = 7 ∨ s.kd = 8 ∨ s.kd = 9 ∨ s.kd = 10 := by omega
  unfold laidM laidF
  dsimp only
  rcases hk with hk | hk | hk | hk | hk | hk | hk | hk | hk | hk
  · obtain ⟨a, c, rfl, hcs, _⟩ := hI.ex
    rw [if_pos (by omega)]
    exact laid_1 hk hl hcs (hx (by omega))
  · obtain ⟨a, c, rfl, hcs, _⟩ := hI.ex
    rw [if_pos (by omega)]
    exact laid_2 hk hl hcs (hx (by omega))
  · rw [if_neg (by omega), if_pos (by omega)]
    exact laid_3 hk (by omega) (by omega) (by omega)
  · rw [if_neg (by omega), if_pos (by omega)]
    exact laid_4 hk (by omega) (by omega) (by omega)
  · rw [if_neg (by omega), if_pos (by omega)]
    exact laid_5 hk (by omega) (by omega) (by omega)
  · rw [if_neg (by omega), if_neg (by omega), if_pos (by omega)]
    exact laid_6 hk (by omega) (by omega) (by omega)
  · rw [if_neg (by omega), if_neg (by omega), if_neg (by omega), if_pos (by omega)]
    exact laid_7 hk
  · rw [if_neg (by omega), if_neg (by omega), if_neg (by omega), if_pos (by omega)]
    exact laid_8 hk
  · obtain ⟨a, c, rfl, hcs, _⟩ := hT.ex
    rw [if_neg (by omega), if_neg (by omega), if_neg (by omega), if_neg (by omega), if_pos (by omega)]
    exact laid_9 hk hg hcs
  · rw [if_neg (by omega), if_neg (by omega), if_neg (by omega), if_neg (by omega), if_neg (by omega), if_pos (by omega)]
    exact laid_10 hk
theorem laidM_size {m : Rm} (hs : Small m) : (laidM m).1.size ≤ 100000000 := by
  have hl := hs.im
  have hg := hs.tb
  have z0 : ((⟨#[]⟩ : ByteArray), (0 : Int)).1.size = 0 := rfl
  have z1 := stepW_size (⟨#[]⟩, 0) m.s.kd 1
  unfold laidM laidF
  dsimp only
  repeat' split
  · have z2 := stepW_size (stepW (⟨#[]⟩, 0) m.s.kd 1) m.im.length 1
    have z3 := layI_size m.im (stepW (stepW (⟨#[]⟩, 0) m.s.kd 1) m.im.length 1)
    omega
  · have z2 := layP_size [m.s.tx, m.s.pv] (stepW (⟨#[]⟩, 0) m.s.kd 1)
    have z3 := layC_size m.s (layP [m.s.tx, m.s.pv] (stepW (⟨#[]⟩, 0) m.s.kd 1))
    simp only [List.length_cons, List.length_nil] at z2
    omega
  · have z2 := layP_size [m.s.tx, m.s.pv, m.s.nx] (stepW (⟨#[]⟩, 0) m.s.kd 1)
    have z4 := stepW_size (layP [m.s.tx, m.s.pv, m.s.nx] (stepW (⟨#[]⟩, 0) m.s.kd 1)) m.s.ac 1
    have z3 := layC_size m.s (stepW (layP [m.s.tx, m.s.pv, m.s.nx] (stepW (⟨#[]⟩, 0) m.s.kd 1)) m.s.ac 1)
    simp only [List.length_cons, List.length_nil] at z2
    omega
  · have z2 := layP_size [m.s.tx, m.s.pv] (stepW (⟨#[]⟩, 0) m.s.kd 1)
    simp only [List.length_cons, List.length_nil] at z2
    omega
  · have z2 := stepW_size (stepW (⟨#[]⟩, 0) m.s.kd 1) m.tb.length 1
    have z3 := layB_size m.tb (stepW (stepW (⟨#[]⟩, 0) m.s.kd 1) m.tb.length 1)
    omega
  · have z2 := stepW_size (stepW (⟨#[]⟩, 0) m.s.kd 1) m.s.ep 4
    have z3 := stepW_size (stepW (stepW (⟨#[]⟩, 0) m.s.kd 1) m.s.ep 4) m.s.nd 1
    omega
  · omega
set_option maxHeartbeats 1000000 in
theorem body_any {w : World} {v : Value} {m : Rm} (h : RecV w v m) (hs : Small m) : Calls Tryz.prog 50 #[v] w fun r w' => r = .returned (.tuple #[.string (bodyM m).1, .int .i64 (bodyM m).2]) ∧ Below w.heap.size w w' := by
  have hv := h
  obtain ⟨I, T, rfl, hI, hT⟩ := h.ex
  have CR : Hid (∀ w', Below w.heap.size w w' → Calls Tryz.prog 74 #[.agg (m.s.A I T)] w' fun r w'' => r = .returned (.int .i64 (refM m)) ∧ Below w'.heap.size w' w'') := fun w' hb => by
    obtain ⟨a, c, rfl, hcs, _⟩ := hI.ex
    exact refusalR_any (g := m.tb) hs.im (hcs.below hb) hs.t hs.ky hs.ol hs.nw
  by_cases hr : refM m = 0
  · have CL : Hid (∀ w', Below w.heap.size w w' → Calls Tryz.prog 75 #[.agg (m.s.A I T)] w' fun r w'' => r = .returned (.tuple #[.string (laidM m).1, .int .i64 (laidM m).2]) ∧ Below w'.heap.size w' w'') := fun w' hb => laid_any (hv.below hb) hs (fine_of hr)
    have hz := laidM_size hs
    by_cases he : (laidM m).2 = 0
    · by_cases hl : 4096 < (laidM m).1.size
      · rw [bodyM_long hr he hl]
        rw [hr] at CR
        rw [he] at CL
        generalize (laidM m).1 = Z at *
        clear hr he hv h hI hT hs
        go_enter Tryz.func50, Tryz.ntmps50
        go_wp2_with (first
          | (refine wpList_box_rc (s := m.s) (I := I) (T := T) _ rfl _ rfl rfl ?_; intro w0 b0 N0; have R := N0.rc)
          | (refine wpList_load_rc _ rfl _ rfl rfl R ?_)
          | (go_at_call 74; refine (CR.out _ N0.below).mono ?_; rintro e w1 ⟨rfl, b1⟩; have R1 := R.below b1; clear R; have R := R1; clear R1)
          | (go_at_call 75; refine (CL.out _ (thn N0.below b1)).mono ?_; rintro e w2 ⟨rfl, b2⟩))
        go_ret2
        exact ⟨rfl, thn (thn N0.below b1) b2⟩
      · rw [bodyM_good hr he hl]
        rw [hr] at CR
        rw [he] at CL
        generalize (laidM m).1 = Z at *
        clear hr he hv h hI hT hs
        go_enter Tryz.func50, Tryz.ntmps50
        go_wp2_with (first
          | (refine wpList_box_rc (s := m.s) (I := I) (T := T) _ rfl _ rfl rfl ?_; intro w0 b0 N0; have R := N0.rc)
          | (refine wpList_load_rc _ rfl _ rfl rfl R ?_)
          | (go_at_call 74; refine (CR.out _ N0.below).mono ?_; rintro e w1 ⟨rfl, b1⟩; have R1 := R.below b1; clear R; have R := R1; clear R1)
          | (go_at_call 75; refine (CL.out _ (thn N0.below b1)).mono ?_; rintro e w2 ⟨rfl, b2⟩))
        go_ret2
        exact ⟨rfl, thn (thn N0.below b1) b2⟩
    · rw [bodyM_err hr he]
      rw [hr] at CR
      generalize (laidM m).1 = Z at *
      generalize (laidM m).2 = E at *
      have he' : (E != 0) = true := by simpa using he
      clear hr he hv h hI hT hs
      go_enter Tryz.func50, Tryz.ntmps50
      go_wp2_with (first
        | (refine wpList_box_rc (s := m.s) (I := I) (T := T) _ rfl _ rfl rfl ?_; intro w0 b0 N0; have R := N0.rc)
        | (refine wpList_load_rc _ rfl _ rfl rfl R ?_)
        | (go_at_call 74; refine (CR.out _ N0.below).mono ?_; rintro e w1 ⟨rfl, b1⟩; have R1 := R.below b1; clear R; have R := R1; clear R1)
        | (go_at_call 75; refine (CL.out _ (thn N0.below b1)).mono ?_; rintro e w2 ⟨rfl, b2⟩))
      go_ret2
      exact ⟨rfl, thn (thn N0.below b1) b2⟩
  · rw [bodyM_ref hr]
    generalize refM m = E at *
    have he' : (E != 0) = true := by simpa using hr
    clear hr hv h hI hT hs
    go_enter Tryz.func50, Tryz.ntmps50
    go_wp2_with (first
      | (refine wpList_box_rc (s := m.s) (I := I) (T := T) _ rfl _ rfl rfl ?_; intro w0 b0 N0; have R := N0.rc)
      | (refine wpList_load_rc _ rfl _ rfl rfl R ?_)
      | (go_at_call 74; refine (CR.out _ N0.below).mono ?_; rintro e w1 ⟨rfl, b1⟩))
    go_ret2
    exact ⟨rfl, thn N0.below b1⟩
/-- A record's frame, or why it has none. -/
def frameB (t : ByteArray) : ByteArray := Pk.beS t.size 2 ++ Sm.sealV t
def frameM (m : Rm) : ByteArray × Int := if (bodyM (cleanM m)).2 ≠ 0 then (⟨#[]⟩, (bodyM (cleanM m)).2) else (frameB (bodyM (cleanM m)).1, 0)
theorem put_len (t : ByteArray) (h : t.size ≤ 4096) (w : World) : Calls Tryz.prog 52 #[.string ⟨#[]⟩, .int .i64 (t.size : Int), .int .i64 2] w fun e w' => e = .returned (.tuple #[.string (Pk.beS t.size 2), .int .i64 0]) ∧ Below w.heap.size w w' := by
  have := Pk.Put_any ⟨#[]⟩ (t.size : Int) 2 w (Nat.zero_le _)
  rw [Pk.putV_fits (by omega) (by rw [Pk.limI_2]; omega)] at this
  dsimp only at this
  rw [Sm.nil_append] at this
  exact this
theorem sealV_size (t : ByteArray) : (Sm.sealV t).size = 4 + t.size := by unfold Sm.sealV; rw [ByteArray.size_append, Pk.beS_size]
theorem frameB_size (t : ByteArray) : (frameB t).size = 6 + t.size := by unfold frameB; rw [ByteArray.size_append, Pk.beS_size, sealV_size]; omega
set_option maxHeartbeats 1000000 in
theorem Frame_any {w : World} {v : Value} {m : Rm} (h : RecV w v m) (hs : Small m) : Calls Tryz.prog 18 #[v] w fun r w' => r = .returned (.tuple #[.string (frameM m).1, .int .i64 (frameM m).2]) ∧ Below w.heap.size w w' := by
  have hv := h
  obtain ⟨I, T, rfl, hI, hT⟩ := h.ex
  have CC : Hid (∀ w', Below w.heap.size w w' → Calls Tryz.prog 51 #[.agg (m.s.A I T)] w' fun e w'' => (∃ v', e = .returned v' ∧ RecV w'' v' (cleanM m)) ∧ Below w'.heap.size w' w'') := fun w' hb => clean_any (hv.below hb) hs.im hs.tb
  have CB : Hid (∀ w' v', RecV w' v' (cleanM m) → Calls Tryz.prog 50 #[v'] w' fun r w'' => r = .returned (.tuple #[.string (bodyM (cleanM m)).1, .int .i64 (bodyM (cleanM m)).2]) ∧ Below w'.heap.size w' w'') := fun w' v' h' => body_any h' hs.clean
  have hz := bodyM_size (cleanM m)
  unfold frameM
  by_cases he : (bodyM (cleanM m)).2 = 0
  · rw [if_neg (by simpa using he)]
    rw [he] at CB
    generalize (bodyM (cleanM m)).1 = Z at *
    have CP : Hid (∀ w, Calls Tryz.prog 52 #[.string ⟨#[]⟩, .int .i64 (Z.size : Int), .int .i64 2] w fun e w' => e = .returned (.tuple #[.string (Pk.beS Z.size 2), .int .i64 0]) ∧ Below w.heap.size w w') := fun w => put_len Z hz w
    have CS : Hid (∀ w, Calls Tryz.prog 53 #[.string Z] w fun e w' => e = .returned (.string (Sm.sealV Z)) ∧ Below w.heap.size w w') := fun w => Sm.Seal_any Z w (by omega)
    have HF : Hid (frameB Z = Pk.beS Z.size 2 ++ Sm.sealV Z) := by rfl
    have z1 : (Pk.beS Z.size 2).size ≤ 6 := by rw [Pk.beS_size]; omega
    have z2 : (Sm.sealV Z).size ≤ 5000 := by rw [sealV_size]; omega
    generalize frameB Z = F at *
    generalize Pk.beS Z.size 2 = L at *
    generalize Sm.sealV Z = SZ at *
    clear he hv h hI hT hs
    go_enter Tryz.func18, Tryz.ntmps18
    go_wp2_with (first
      | (refine wpList_box_rc (s := m.s) (I := I) (T := T) _ rfl _ rfl rfl ?_; intro w0 b0 N0)
      | (refine wpList_load_rc _ rfl _ rfl rfl N0.rc ?_)
      | (go_at_call 51; refine (CC.out _ N0.below).mono ?_; rintro e w1 ⟨⟨v', rfl, h1⟩, b1⟩)
      | (go_at_call 50; refine (CB.out _ _ h1).mono ?_; rintro e w2 ⟨rfl, b2⟩)
      | (go_at_call 52; refine (CP.out _).mono ?_; rintro e w3 ⟨rfl, b3⟩)
      | (go_at_call 53; refine (CS.out _).mono ?_; rintro e w4 ⟨rfl, b4⟩))
    go_ret2
    rw [HF.out]
    exact ⟨rfl, thn (thn (thn (thn N0.below b1) b2) b3) b4⟩
  · rw [if_pos he]
    generalize (bodyM (cleanM m)).1 = Z at *
    generalize (bodyM (cleanM m)).2 = E at *
    have he' : (E != 0) = true := by simpa using he
    clear he hv h hI hT hs
    go_enter Tryz.func18, Tryz.ntmps18
    go_wp2_with (first
      | (refine wpList_box_rc (s := m.s) (I := I) (T := T) _ rfl _ rfl rfl ?_; intro w0 b0 N0)
      | (refine wpList_load_rc _ rfl _ rfl rfl N0.rc ?_)
      | (go_at_call 51; refine (CC.out _ N0.below).mono ?_; rintro e w1 ⟨⟨v', rfl, h1⟩, b1⟩)
      | (go_at_call 50; refine (CB.out _ _ h1).mono ?_; rintro e w2 ⟨rfl, b2⟩))
    go_ret2
    exact ⟨rfl, thn (thn N0.below b1) b2⟩
def comm : Rm := ⟨{kS 7 with tx := 5, pv := 3}, [], []⟩
theorem comm_frame : (frameM comm).2 = 0 ∧ (frameM comm).1.size = 19 := by
  have e : cleanM comm = comm := by simp [cleanM, cleanS, comm, kS, zS]
  have hl : laidM comm = (⟨#[]⟩ ++ Pk.beS 7 1 ++ Pk.beS 5 6 ++ Pk.beS 3 6, 0) := by
    show stepW (stepW (stepW (⟨#[]⟩, 0) 7 1) 5 6) 3 6 = _
    rw [stepW_good (by omega) (by omega) (by omega) (by rw [Pk.limI_1]; omega), stepW_good (by omega) (by omega) (by omega) (by rw [Pk.limI_6]; omega), stepW_good (by omega) (by omega) (by omega) (by rw [Pk.limI_6]; omega)]
    rfl
  have hb : bodyM comm = (⟨#[]⟩ ++ Pk.beS 7 1 ++ Pk.beS 5 6 ++ Pk.beS 3 6, 0) := by
    rw [bodyM_good (by simp [refM, formed, comm, kS, zS, Pk.size_nil]) (by rw [hl]) (by rw [hl]; simp [ByteArray.size_append, Pk.beS_size, Pk.size_nil]), hl]
  unfold frameM
  rw [e, hb]
  dsimp only
  rw [if_neg (by simp), frameB_size]
  simp [ByteArray.size_append, Pk.beS_size, Pk.size_nil]
theorem small_comm : Small comm := ⟨Nat.zero_le _, Nat.zero_le _, (fun p hp => by cases hp), Nat.zero_le _, Nat.zero_le _, Nat.zero_le _⟩
end Go.Proofs.YtgcfbjecmmnlhaaGreat

namespace Go.Proofs.YtgcfbjecmmnlhaaGreat
open Go.RowKit
set_option linter.unusedVariables false
set_option linter.unusedSimpArgs false
set_option maxRecDepth 100000

structure Fw (w wr : World) (b0 b1 : Nat) (s : Sc) (I T : Value) : Prop where
  p : RcAt wr b0 s I T
  r : RcAt wr b1 zS nilV nilV
  bel : Below w.heap.size w wr
  ne : b1 ≠ b0
  l0 : w.heap.size ≤ b0
  l1 : w.heap.size ≤ b1
section
variable {w wr wq : World} {b0 b1 : Nat} {s : Sc} {I T J U : Value}
theorem Fw.mk' {w0 w1 : World} (N0 : NewR w w0 b0 s I T) (N1 : NewR w0 w1 b1 zS nilV nilV) : Fw w w1 b0 b1 s I T := by
  have e0 := N0.eq
  have e1 := N1.eq
  have z0 := N0.rc.lt
  exact ⟨N0.rc.below N1.below, N1.rc, thn N0.below N1.below, by omega, by omega, by omega⟩
theorem Fw.put (h : Fw w wr b0 b1 s I T) (P : PutR wr wq b0 s J U) : Fw w wq b0 b1 s J U :=
  ⟨P.rc, h.r.off P.off h.ne, h.bel.trans (P.below h.l0 h.bel.size), h.ne, h.l0, h.l1⟩
end
theorem sliceI_to {a : Option Addr} {n c : Nat} (i : Nat) (hi : i ≤ c) (hsp : ∀ ad, a = some ad → ad.spot = none) (W : World) : (Instr.slice 34 (.slice a n c) none (some (.int .i64 (i : Int))) none).run Tryz.prog W = .ok (.slice a i c) W := by
  have hr := run_slice_h (P := Tryz.prog) W 34 a n c (by kernel_rfl) .i64 (i : Int) (by omega) (by omega)
  have hz : ∀ w, (Go.sizeOf (Tryz.prog.elem 34)).run Tryz.prog w = .ok 2 w := fun w => by kernel_rfl
  rw [hr, hz]
  simp only [Result.andThen, sliced, Int.toNat_natCast, Nat.sub_zero, Nat.zero_mul]
  cases a with
  | none => split <;> rfl
  | some ad =>
    obtain ⟨b, off, sp⟩ := ad
    have := hsp _ rfl
    dsimp only at this
    subst this
    split
    · rfl
    · simp [Addr.add_mid]
theorem sliceT_to {a : Option Addr} {n c : Nat} (i : Nat) (hi : i ≤ c) (hsp : ∀ ad, a = some ad → ad.spot = none) (W : World) : (Instr.slice 35 (.slice a n c) none (some (.int .i64 (i : Int))) none).run Tryz.prog W = .ok (.slice a i c) W := by
  have hr := run_slice_h (P := Tryz.prog) W 35 a n c (by kernel_rfl) .i64 (i : Int) (by omega) (by omega)
  have hz : ∀ w, (Go.sizeOf (Tryz.prog.elem 35)).run Tryz.prog w = .ok 2 w := fun w => by kernel_rfl
  rw [hr, hz]
  simp only [Result.andThen, sliced, Int.toNat_natCast, Nat.sub_zero, Nat.zero_mul]
  cases a with
  | none => split <;> rfl
  | some ad =>
    obtain ⟨b, off, sp⟩ := ad
    have := hsp _ rfl
    dsimp only at this
    subst this
    split
    · rfl
    · simp [Addr.add_mid]
/-- A record that the law is handed. -/
structure Held (m : Rm) : Prop where
  im : m.im.length ≤ 9223372036854775807
  tb : m.tb.length ≤ 9223372036854775807
  t : ∀ p ∈ m.im, p.2.size ≤ 9223372036854775807
  ky : m.s.ky.size ≤ 9223372036854775807
  ol : m.s.ol.size ≤ 9223372036854775807
  nw : m.s.nw.size ≤ 9223372036854775807
end Go.Proofs.YtgcfbjecmmnlhaaGreat

namespace Go.Proofs.YtgcfbjecmmnlhaaGreat
open Go.RowKit
set_option linter.unusedVariables false
set_option linter.unusedSimpArgs false
set_option maxRecDepth 100000

section
variable {H : Type} {enc : TypeId × Value → H} {w : World}
theorem open_imgs {fuel : Nat} {cs : List Value} {x : DataW H × List MemPlace} (h : DataW.trod enc Tryz.prog w 0 (fun _ => true) true fuel 34 cs = some x) :
    ∃ v l, cs = [v] ∧ SlI w v l ∧ l.length ≤ 9223372036854775807 ∧ ∀ p ∈ l, p.2.size ≤ 9223372036854775807 := by
  rcases Go.Deep.open_slice Tryz.underlying34 h with ⟨hcs, _⟩ | ⟨ad, len, cap, m, n, D, Pl, hcs, _, hl, hm, hmm, _, hall⟩
  · exact ⟨_, [], hcs, SlI.nil w, Nat.zero_le _, fun p hp => by cases hp⟩
  · rw [if_pos rfl] at hmm
    subst hmm
    have h2 : Tryz.prog.cellsOf 111 = 2 := by kernel_rfl
    have h3 : Tryz.prog.cellsOf 3 = 1 := by kernel_rfl
    have h9 : Tryz.prog.cellsOf 9 = 1 := by kernel_rfl
    have each : ∀ i, i < m → ∃ q : Im, (w.cell? (ad.add (i * 2)) = some (.int .i64 q.1) ∧ w.cell? (ad.add (i * 2 + 1)) = some (.string q.2)) ∧ q.2.size ≤ 9223372036854775807 := by
      intro i hi
      obtain ⟨cs', g1, g2⟩ := hall i hi
      rw [h2] at g1
      obtain ⟨_, hlen, hcell⟩ := World.cells?_some g1
      obtain ⟨xs, k, hk, _, _, hxl, hf⟩ := DataW.trod_struct Tryz.underlying111 g2
      match xs, hxl, cs', hlen with
      | [y0, y1], _, [v0, v1], _ =>
        have e0 := hcell 0 (by omega)
        have e1 := hcell 1 (by omega)
        rw [Go.Deep.add_add] at e0 e1
        have f0 := hf 0 _ rfl
        have f1 := hf 1 _ rfl
        simp [h3, h9] at f0 f1
        obtain ⟨n0, i0, _, _⟩ := DataW.trod_int Tryz.underlying3 f0
        obtain ⟨s1, i1, _, z1⟩ := DataW.trod_string Tryz.underlying9 f1
        simp at i0 i1
        subst i0 i1
        exact ⟨(n0, s1), ⟨by simpa using e0, by simpa using e1⟩, z1⟩
    haveI : Inhabited Im := ⟨(0, ⟨#[]⟩)⟩
    obtain ⟨q, hq⟩ := Go.Deep.choose_lt each
    have hlm : len ≤ m := hl
    have hz : ((List.range len).map q).length = len := by simp
    obtain ⟨b, off, spot⟩ := ad
    have hsp : 0 < m → spot = none := fun hi => by
      have g0 := (hq 0 hi).1.1
      simpa [Addr.add] using World.cell?_spot g0
    refine ⟨_, (List.range len).map q, hcs, ⟨some ⟨b, off, spot⟩, m, by rw [hz], ?_, (fun e => by cases e), by rw [hz]; exact hl, ?_⟩, by rw [hz]; exact Nat.le_trans hl hm, ?_⟩
    · refine ⟨fun i hi => ?_⟩
      rw [encI_length, hz] at hi
      have := hsp (by omega)
      subst this
      obtain ⟨⟨g1, g2⟩, _⟩ := hq i (by omega)
      have hadd : ∀ k, (⟨b, off, none⟩ : Addr).add k = ⟨b, off + k, none⟩ := fun k => by unfold Addr.add; split <;> simp_all
      rw [hadd] at g1 g2
      refine ⟨b, off, rfl, ?_, ?_, ?_⟩
      · rcases Nat.lt_or_ge b w.heap.size with h' | h'
        · exact h'
        · simp [World.cell?, Array.getElem?_eq_none h'] at g1
      · simpa [encI] using g1
      · simpa [encI, Nat.add_assoc] using g2
    · intro hne ad' e
      cases e
      have : 0 < len := by
        rcases Nat.eq_zero_or_pos len with h0 | h0
        · subst h0; exact absurd rfl hne
        · exact h0
      exact hsp (by omega)
    · intro p hp
      obtain ⟨i, hi, rfl⟩ := List.mem_map.1 hp
      exact (hq i (by have := List.mem_range.1 hi; omega)).2
theorem open_tabs {fuel : Nat} {cs : List Value} {x : DataW H × List MemPlace} (h : DataW.trod enc Tryz.prog w 0 (fun _ => true) true fuel 35 cs = some x) :
    ∃ v l, cs = [v] ∧ SlT w v l ∧ l.length ≤ 9223372036854775807 := by
  rcases Go.Deep.open_slice Tryz.underlying35 h with ⟨hcs, _⟩ | ⟨ad, len, cap, m, n, D, Pl, hcs, _, hl, hm, hmm, _, hall⟩
  · exact ⟨_, [], hcs, SlT.nil w, Nat.zero_le _⟩
  · rw [if_pos rfl] at hmm
    subst hmm
    have h2 : Tryz.prog.cellsOf 113 = 2 := by kernel_rfl
    have h3 : Tryz.prog.cellsOf 3 = 1 := by kernel_rfl
    have each : ∀ i, i < m → ∃ q : Tb, w.cell? (ad.add (i * 2)) = some (.int .i64 q.1) ∧ w.cell? (ad.add (i * 2 + 1)) = some (.int .i64 q.2) := by
      intro i hi
      obtain ⟨cs', g1, g2⟩ := hall i hi
      rw [h2] at g1
      obtain ⟨_, hlen, hcell⟩ := World.cells?_some g1
      obtain ⟨xs, k, hk, _, _, hxl, hf⟩ := DataW.trod_struct Tryz.underlying113 g2
      match xs, hxl, cs', hlen with
      | [y0, y1], _, [v0, v1], _ =>
        have e0 := hcell 0 (by omega)
        have e1 := hcell 1 (by omega)
        rw [Go.Deep.add_add] at e0 e1
        have f0 := hf 0 _ rfl
        have f1 := hf 1 _ rfl
        simp [h3] at f0 f1
        obtain ⟨n0, i0, _, _⟩ := DataW.trod_int Tryz.underlying3 f0
        obtain ⟨n1, i1, _, _⟩ := DataW.trod_int Tryz.underlying3 f1
        simp at i0 i1
        subst i0 i1
        exact ⟨(n0, n1), by simpa using e0, by simpa using e1⟩
    haveI : Inhabited Tb := ⟨(0, 0)⟩
    obtain ⟨q, hq⟩ := Go.Deep.choose_lt each
    have hlm : len ≤ m := hl
    have hz : ((List.range len).map q).length = len := by simp
    obtain ⟨b, off, spot⟩ := ad
    have hsp : 0 < m → spot = none := fun hi => by
      have g0 := (hq 0 hi).1
      simpa [Addr.add] using World.cell?_spot g0
    refine ⟨_, (List.range len).map q, hcs, ⟨some ⟨b, off, spot⟩, m, by rw [hz], ?_, (fun e => by cases e), by rw [hz]; exact hl, ?_⟩, by rw [hz]; exact Nat.le_trans hl hm⟩
    · refine ⟨fun i hi => ?_⟩
      rw [encT_length, hz] at hi
      have := hsp (by omega)
      subst this
      obtain ⟨g1, g2⟩ := hq i (by omega)
      have hadd : ∀ k, (⟨b, off, none⟩ : Addr).add k = ⟨b, off + k, none⟩ := fun k => by unfold Addr.add; split <;> simp_all
      rw [hadd] at g1 g2
      refine ⟨b, off, rfl, ?_, ?_, ?_⟩
      · rcases Nat.lt_or_ge b w.heap.size with h' | h'
        · exact h'
        · simp [World.cell?, Array.getElem?_eq_none h'] at g1
      · simpa [encT] using g1
      · simpa [encT, Nat.add_assoc] using g2
    · intro hne ad' e
      cases e
      have : 0 < len := by
        rcases Nat.eq_zero_or_pos len with h0 | h0
        · subst h0; exact absurd rfl hne
        · exact h0
      exact hsp (by omega)
theorem open_rec {fuel : Nat} {cs : Array Value} {x : DataW H × List MemPlace} (hcs : cs.size = Tryz.prog.cellsOf 37)
    (h : DataW.trod enc Tryz.prog w 0 (fun _ => true) true fuel 37 cs.toList = some x) : ∃ m : Rm, RecV w (.agg cs) m ∧ Held m := by
  have h13 : Tryz.prog.cellsOf 37 = 13 := by kernel_rfl
  have h3 : Tryz.prog.cellsOf 3 = 1 := by kernel_rfl
  have h9 : Tryz.prog.cellsOf 9 = 1 := by kernel_rfl
  have hi : Tryz.prog.cellsOf 34 = 1 := by kernel_rfl
  have ht : Tryz.prog.cellsOf 35 = 1 := by kernel_rfl
  rw [h13] at hcs
  obtain ⟨xs, k, hk, hx, _, hxl, hf⟩ := DataW.trod_struct Tryz.underlying37 h
  obtain ⟨l⟩ := cs
  match xs, hxl, l, hcs with
  | [y0, y1, y2, y3, y4, y5, y6, y7, y8, y9, y10, y11, y12], _, [v0, v1, v2, v3, v4, v5, v6, v7, v8, v9, v10, v11, v12], _ =>
    have f0 := hf 0 _ rfl
    have f1 := hf 1 _ rfl
    have f2 := hf 2 _ rfl
    have f3 := hf 3 _ rfl
    have f4 := hf 4 _ rfl
    have f5 := hf 5 _ rfl
    have f6 := hf 6 _ rfl
    have f7 := hf 7 _ rfl
    have f8 := hf 8 _ rfl
    have f9 := hf 9 _ rfl
    have f10 := hf 10 _ rfl
    have f11 := hf 11 _ rfl
    have f12 := hf 12 _ rfl
    simp [h3, h9, hi, ht] at f0 f1 f2 f3 f4 f5 f6 f7 f8 f9 f10 f11 f12
    obtain ⟨n0, i0, _, _⟩ := DataW.trod_int Tryz.underlying3 f0
    obtain ⟨n1, i1, _, _⟩ := DataW.trod_int Tryz.underlying3 f1
    obtain ⟨n2, i2, _, _⟩ := DataW.trod_int Tryz.underlying3 f2
    obtain ⟨n3, i3, _, _⟩ := DataW.trod_int Tryz.underlying3 f3
    obtain ⟨n4, i4, _, _⟩ := DataW.trod_int Tryz.underlying3 f4
    obtain ⟨s5, i5, _, z5⟩ := DataW.trod_string Tryz.underlying9 f5
    obtain ⟨s6, i6, _, z6⟩ := DataW.trod_string Tryz.underlying9 f6
    obtain ⟨s7, i7, _, z7⟩ := DataW.trod_string Tryz.underlying9 f7
    obtain ⟨n8, i8, _, _⟩ := DataW.trod_int Tryz.underlying3 f8
    obtain ⟨w9, l9, i9, hI, zI, tI⟩ := open_imgs f9
    obtain ⟨w10, l10, i10, hT, zT⟩ := open_tabs f10
    obtain ⟨n11, i11, _, _⟩ := DataW.trod_int Tryz.underlying3 f11
    obtain ⟨n12, i12, _, _⟩ := DataW.trod_int Tryz.underlying3 f12
    simp at i0 i1 i2 i3 i4 i5 i6 i7 i8 i9 i10 i11 i12
    subst i0 i1 i2 i3 i4 i5 i6 i7 i8 i9 i10 i11 i12
    exact ⟨⟨⟨n0, n1, n2, n3, n4, s5, s6, s7, n8, n11, n12⟩, l9, l10⟩, ⟨_, _, rfl, hI, hT⟩, ⟨zI, zT, tI, z5, z6, z7⟩⟩
end
end Go.Proofs.YtgcfbjecmmnlhaaGreat

namespace Go.Proofs.YtgcfbjecmmnlhaaGreat
open Go.RowKit Go.Maps Go.ChangeMaps
set_option linter.unusedVariables false
set_option linter.unusedSimpArgs false
set_option maxRecDepth 100000

/-- All blocks but those of B are as they were; new ones may have come. -/
structure Off (B : Nat → Prop) (w w' : World) : Prop where
  os : w'.os = w.os
  tape : w'.tape = w.tape
  output : w'.output = w.output
  size : w.heap.size ≤ w'.heap.size
  block : ∀ k, k < w.heap.size → ¬ B k → w'.heap[k]? = w.heap[k]?
theorem Off.refl (B : Nat → Prop) (w : World) : Off B w w := ⟨rfl, rfl, rfl, Nat.le_refl _, fun _ _ _ => rfl⟩
theorem Off.trans {B : Nat → Prop} {a b c : World} (h : Off B a b) (k : Off B b c) : Off B a c :=
  ⟨k.os.trans h.os, k.tape.trans h.tape, k.output.trans h.output, Nat.le_trans h.size k.size, fun i hi hn => (k.block i (Nat.lt_of_lt_of_le hi h.size) hn).trans (h.block i hi hn)⟩
theorem Off.mono {B B' : Nat → Prop} {a b : World} (h : Off B a b) (hB : ∀ k, B k → B' k) : Off B' a b :=
  ⟨h.os, h.tape, h.output, h.size, fun k hk hn => h.block k hk (fun x => hn (hB k x))⟩
theorem Off.of_below {B : Nat → Prop} {w w' : World} (h : Below w.heap.size w w') : Off B w w' := ⟨h.os, h.tape, h.output, h.size, fun k hk _ => h.block k hk⟩
theorem Off.below {B : Nat → Prop} {b : Nat} {w w' : World} (h : Off B w w') (hb : ∀ k, B k → b ≤ k) (hB : b ≤ w.heap.size) : Below b w w' :=
  ⟨h.os, h.tape, h.output, h.size, fun k hk => h.block k (Nat.lt_of_lt_of_le hk hB) (fun x => by have := hb k x; omega)⟩
theorem Off.alloc {B : Nat → Prop} {a w : World} (h : Off B a w) (o : Obj) : Off B a (w.alloc o) :=
  h.trans (Off.of_below ((Below.refl _ _).alloc (Nat.le_refl _) o))
theorem Off.drew {B : Nat → Prop} {a w : World} (h : Off B a w) : Off B a w.drew := ⟨h.os, h.tape, h.output, h.size, h.block⟩
theorem Off.setCell {B : Nat → Prop} {a w : World} (h : Off B a w) {b : Nat} (hb : B b) (i : Nat) (v : Value) : Off B a (w.setCell ⟨b, i, none⟩ v) := by
  refine h.trans ⟨rfl, rfl, rfl, ?_, fun k _ hk => Below.heap_setCell w _ v k (fun e => hk (by rw [e]; exact hb))⟩
  simp [go_sem]
theorem setCells_facts (b : Nat) : ∀ (vs : List Value) (o : Nat) (w : World), (w.setCells b o vs).os = w.os ∧ (w.setCells b o vs).tape = w.tape ∧ (w.setCells b o vs).output = w.output ∧ (w.setCells b o vs).heap.size = w.heap.size ∧ ∀ k, k ≠ b → (w.setCells b o vs).heap[k]? = w.heap[k]?
  | [], _, _ => ⟨rfl, rfl, rfl, rfl, fun _ _ => rfl⟩
  | v :: r, o, w => by
    obtain ⟨h1, h2, h3, h4, h5⟩ := setCells_facts b r (o + 1) (w.setCell ⟨b, o, none⟩ v)
    rw [World.setCells]
    refine ⟨h1.trans rfl, h2.trans rfl, h3.trans rfl, h4.trans (by simp [go_sem]), fun k hk => (h5 k hk).trans (Below.heap_setCell w _ v k hk)⟩
theorem Off.setCells {B : Nat → Prop} {a w : World} (h : Off B a w) {b : Nat} (hb : B b) (o : Nat) (vs : List Value) : Off B a (w.setCells b o vs) := by
  obtain ⟨h1, h2, h3, h4, h5⟩ := setCells_facts b vs o w
  exact h.trans ⟨h1, h2, h3, by rw [h4]; exact Nat.le_refl _, fun k _ hk => h5 k (fun e => hk (by rw [e]; exact hb))⟩
theorem Off.grown {B : Nat → Prop} {a w w' : World} {row : Option Nat} (h : Off B a w) (hg : w.grownBy w' row) (hr : ∀ k, row = some k → k < a.heap.size → B k) : Off B a w' :=
  ⟨hg.os.trans h.os, hg.tape.trans h.tape, hg.output.trans h.output, Nat.le_trans h.size hg.size, fun k hk hn => (hg.block k (Nat.lt_of_lt_of_le hk h.size) (fun e => hn (hr k e.symm hk))).trans (h.block k hk hn)⟩
theorem Off.cell {B : Nat → Prop} {w w' : World} (h : Off B w w') {p : Addr} (hp : p.block < w.heap.size) (hn : ¬ B p.block) : w'.cell? p = w.cell? p := World.cell?_of_block (h.block _ hp hn)
theorem Off.frozen {B : Nat → Prop} {w w' : World} (h : Off B w w') {p : Addr} (hp : p.block < w.heap.size) (hn : ¬ B p.block) : w'.frozen? p = w.frozen? p := World.frozen?_of_block (h.block _ hp hn)

/-! ### A sector's bytes -/
def secL (c : ByteArray) : List Value := Lib.byteCells c.data.toList
def secV (c : ByteArray) : Value := .agg (secL c).toArray
theorem secL_length (c : ByteArray) : (secL c).length = c.size := by rw [secL, Lib.byteCells_length]; rfl
theorem secL_one (c : ByteArray) : ∀ v ∈ secL c, v.oneCell' = true := Lib.byteCells_one _
theorem secL_get (c : ByteArray) (j : Nat) (hj : j < c.size) : (secL c)[j]? = some (.int .u8 (c[j]).toNat) := by
  simp only [secL, Lib.byteCells, List.getElem?_map, Array.getElem?_toList]
  rw [Array.getElem?_eq_getElem (by exact hj)]
  rfl
/-- 64 noughts. -/
def zs64 : ByteArray := ⟨Array.replicate 64 0⟩
theorem zs64_size : zs64.size = 64 := by simp [zs64, ByteArray.size]
theorem zero64 (w : World) : (zeroValue 102).run Tryz.prog w = .ok (secV zs64) w := by kernel_rfl
theorem info64 : (Tryz.prog.info? 102).map (·.size) = some 64 := by kernel_rfl
theorem row64 : Tryz.prog.underlying 102 = some (.array 64 5) := by kernel_rfl

/-! ### The map of what waits -/
def secD : Value → DataW Unit
  | .int q a => .lit (.int q a)
  | _ => .lit (.bool false)
def secR : Value → Option (DataW Unit × List MemPlace)
  | .agg cs => some (.agg (cs.toList.map secD), [])
  | _ => none
def secDat (c : ByteArray) : DataW Unit := .agg ((secL c).map secD)
theorem secR_sec (c : ByteArray) : secR (secV c) = some (secDat c, []) := by simp [secR, secV, secDat]
theorem secD_inj : ∀ (cs : List Value) (l : List UInt8), cs.map secD = (Lib.byteCells l).map secD → cs = Lib.byteCells l
  | [], [], _ => rfl
  | [], _ :: _, h => by simp [Lib.byteCells] at h
  | _ :: _, [], h => by simp [Lib.byteCells] at h
  | v :: cs, x :: l, h => by
    simp only [Lib.byteCells, List.map_cons, List.cons.injEq] at h ⊢
    obtain ⟨h1, h2⟩ := h
    refine ⟨?_, secD_inj cs l h2⟩
    cases v <;> simp_all [secD]
theorem secR_inv {v : Value} {c : ByteArray} {ps : List MemPlace} (h : secR v = some (secDat c, ps)) : v = secV c := by
  cases v <;> simp [secR] at h
  rename_i cs
  obtain ⟨h1, _⟩ := h
  simp only [secDat, DataW.agg.injEq] at h1
  have := secD_inj cs.toList c.data.toList h1
  rw [secV, secL, ← this]
theorem secR_agg {v : Value} {y : DataW Unit × List MemPlace} (h : secR v = some y) : ∃ cs : Array Value, v = .agg cs := by
  cases v <;> simp [secR] at h
  exact ⟨_, rfl⟩

/-- The datum of a map, by its keys. -/
structure MapV (D : DataW Unit) (f : Nat → Option ByteArray) : Prop where
  has : ∀ i : Nat, Maps.has D (.int .i64 (i : Int)) = (f i).isSome
  at_ : ∀ (i : Nat) c, f i = some c → ∀ z, D.atKey (.int .i64 (i : Int)) z = secDat c
  keys : ∀ kl, Maps.has D kl = true → ∃ i : Nat, kl = .int .i64 (i : Int)
def upd {α : Type} (f : Nat → α) (i : Nat) (x : α) : Nat → α := fun j => if j = i then x else f j
theorem upd_same {α : Type} (f : Nat → α) (i : Nat) (x : α) : upd f i x i = x := by simp [upd]
theorem upd_other {α : Type} (f : Nat → α) {i j : Nat} (x : α) (h : j ≠ i) : upd f i x j = f j := by simp [upd, h]
theorem MapV.empty : MapV (.map []) (fun _ => none) := ⟨fun i => rfl, fun i c h => (by cases h), fun kl h => (by cases h)⟩
theorem key_ne {i j : Nat} (h : j ≠ i) : (Lit.int .i64 (j : Int)) ≠ .int .i64 (i : Int) := fun e => by
  simp only [Lit.int.injEq, true_and] at e
  omega
theorem MapV.put {D : DataW Unit} {f : Nat → Option ByteArray} (h : MapV D f) (hD : IsMap D) (i : Nat) (c : ByteArray) : MapV (D.put (.int .i64 (i : Int)) (secDat c)) (upd f i (some c)) := by
  refine ⟨fun j => ?_, fun j c' hj z => ?_, fun kl hk => ?_⟩
  · by_cases e : j = i
    · subst e; rw [upd_same, has_put_same hD (show WideAt.IsKeyLit (.int .i64 (j : Int)) from trivial)]; rfl
    · rw [upd_other _ _ e, has_put_other (key_ne e), h.has]
  · by_cases e : j = i
    · subst e; rw [upd_same] at hj; cases hj; rw [atKey_put_same hD (show WideAt.IsKeyLit (.int .i64 (j : Int)) from trivial)]
    · rw [upd_other _ _ e] at hj; rw [atKey_put_other (key_ne e)]; exact h.at_ j c' hj z
  · by_cases e : kl = .int .i64 (i : Int)
    · exact ⟨i, e⟩
    · rw [has_put_other e] at hk; exact h.keys kl hk

theorem law3 : Keyed Tryz.prog 3 := int_keyed Tryz.underlying3
theorem under51 : Tryz.prog.underlying 77 = some (.map 3 102) := Tryz.underlying77
def MapIs (w : World) (b m : Nat) (f : Nat → Option ByteArray) : Prop := ∃ D, w.ownsMap Tryz.prog 3 secR b m D ∧ MapV D f
theorem wfI {i : Nat} (h : i < 8192) : (Lit.int .i64 (i : Int)).wf = true := WalkArith.wf_i64 (by omega)
theorem MapIs.lt {w : World} {b m : Nat} {f : Nat → Option ByteArray} (h : MapIs w b m f) : b < w.heap.size := by obtain ⟨D, h, _⟩ := h; exact h.lt
theorem MapIs.of_block {w w' : World} {b m : Nat} {f : Nat → Option ByteArray} (h : MapIs w b m f) (hb : w'.heap[b]? = w.heap[b]?) : MapIs w' b m f := by
  obtain ⟨D, ⟨es, cl, h1, h2, h3, h4⟩, hv⟩ := h
  exact ⟨D, ⟨es, cl, hb.trans h1, h2, h3, h4⟩, hv⟩
theorem MapIs.mono {w : World} {b m m' : Nat} {f : Nat → Option ByteArray} (h : MapIs w b m f) (hm : m ≤ m') : MapIs w b m' f := by
  obtain ⟨D, h, hv⟩ := h; exact ⟨D, h.mono hm, hv⟩
/-- A new map. -/
theorem MapIs.made (w : World) : MapIs (w.alloc (.map #[] 0)) w.heap.size 0 (fun _ => none) := ⟨_, World.ownsMap_made _ _ _ _, MapV.empty⟩
/-- A look-up, with and without its ok. -/
theorem MapIs.look {w : World} {b m : Nat} {f : Nat → Option ByteArray} (h : MapIs w b m f) {i : Nat} (hi : i < 8192) :
    (Instr.lookup 77 (.map (some b)) (.int .i64 (i : Int)) true).run Tryz.prog w = .ok (.tuple #[secV ((f i).getD zs64), .bool (f i).isSome]) w := by
  obtain ⟨D, h, hv⟩ := h
  obtain ⟨v, ps, hrun, hR⟩ := h.look_ok law3 under51 (zero64 w) (secR_sec zs64) (keyOf_int_mk Tryz.underlying3 (wfI hi))
  rw [hrun, hv.has]
  cases hf : f i with
  | none =>
    rw [atKey_of_not_has (by rw [hv.has, hf]; rfl)] at hR
    rw [secR_inv hR]; rfl
  | some c =>
    rw [hv.at_ i c hf] at hR
    rw [secR_inv hR]; rfl
theorem MapIs.look1 {w : World} {b m : Nat} {f : Nat → Option ByteArray} (h : MapIs w b m f) {i : Nat} (hi : i < 8192) {c : ByteArray} (hc : f i = some c) :
    (Instr.lookup 77 (.map (some b)) (.int .i64 (i : Int)) false).run Tryz.prog w = .ok (secV c) w := by
  obtain ⟨D, h, hv⟩ := h
  obtain ⟨v, ps, hrun, hR⟩ := h.lookup law3 under51 (zero64 w) (secR_sec zs64) (keyOf_int_mk Tryz.underlying3 (wfI hi))
  rw [hv.at_ i c hc] at hR
  rw [hrun, secR_inv hR]
theorem MapIs.store {w : World} {b m : Nat} {f : Nat → Option ByteArray} (h : MapIs w b m f) {i : Nat} (hi : i < 8192) (hm : m < 1000000) (c : ByteArray) :
    ∃ w', (Instr.mapUpdate 77 (.map (some b)) (.int .i64 (i : Int)) (secV c)).run Tryz.prog w = .ok () w' ∧ MapIs w' b (m + 1) (upd f i (some c)) ∧ w.mapTurned w' b := by
  obtain ⟨D, h, hv⟩ := h
  obtain ⟨w', h1, h2, h3⟩ := h.store law3 under51 (by unfold maxLen; omega) (keyOf_int_mk Tryz.underlying3 (wfI hi)) (secR_sec c)
  exact ⟨w', h1, ⟨_, h2, hv.put h.isMap i c⟩, h3⟩
theorem MapIs.clear {w : World} {b m : Nat} {f : Nat → Option ByteArray} (h : MapIs w b m f) :
    ∃ w', (∀ ty, (Builtin.clear_ #[77] ty #[.map (some b)]).run Tryz.prog w = .ok (.tuple #[]) w') ∧ MapIs w' b 0 (fun _ => none) ∧ w.mapTurned w' b := by
  obtain ⟨D, ⟨es, cl, h1, h2, h3, h4⟩, hv⟩ := h
  refine ⟨setBlock w b (.map #[] cl), fun ty => ?_, ⟨.map [], ⟨#[], cl, heap_setBlock_same h1 _, ⟨by simp, ⟨by simp, by simp⟩, by simp⟩, by simp, by simp⟩, MapV.empty⟩, ⟨es, cl, #[], cl, h1, rfl⟩⟩
  have hs : (setObj b (.map #[] cl)).run Tryz.prog w = .ok () (setBlock w b (.map #[] cl)) := by
    exact MapKept.run_setObj_map _ h1
  simp [Builtin.clear_, run_underlying under51, MapKept.run_getObj_map h1, hs, Result.andThen]
theorem Off.turned {B : Nat → Prop} {a w w' : World} {b : Nat} (h : Off B a w) (ht : w.mapTurned w' b) (hb : b < a.heap.size → B b) : Off B a w' :=
  h.grown ht.grown (fun k e hk => by cases e; exact hb hk)

/-! ### The row of sectors -/
structure SecRow (w : World) (lb n : Nat) (f : Nat → ByteArray) : Prop where
  lt : lb < w.heap.size
  at_ : ∀ i, i < n → w.rangeAt lb (i * 64) (secL (f i))
  there : ∀ i, i < n → w.there lb (i * 64) 64
  size : ∀ i, i < n → (f i).size = 64
  ty : ∃ cur fz, w.heap[lb]? = some (.cells cur 102 fz)
theorem SecRow.of_block {w w' : World} {lb n : Nat} {f : Nat → ByteArray} (h : SecRow w lb n f) (hb : w'.heap[lb]? = w.heap[lb]?) (hs : w.heap.size ≤ w'.heap.size) : SecRow w' lb n f :=
  ⟨Nat.lt_of_lt_of_le h.lt hs, fun i hi j v hv => (World.cell?_of_block (w := w) (by exact hb)).trans (h.at_ i hi j v hv),
    fun i hi j hj => ⟨by rw [World.cell?_of_block (w := w) (w' := w') (by exact hb)]; exact (h.there i hi j hj).1, by rw [World.frozen?_of_block (w := w) (w' := w') (by exact hb)]; exact (h.there i hi j hj).2⟩, h.size, by obtain ⟨cur, fz, e⟩ := h.ty; exact ⟨cur, fz, hb.trans e⟩⟩
theorem setCells_ty (b : Nat) (t : TypeId) : ∀ (vs : List Value) (o : Nat) (w : World), (∃ cur fz, w.heap[b]? = some (.cells cur t fz)) → ∃ cur fz, (w.setCells b o vs).heap[b]? = some (.cells cur t fz)
  | [], _, _, h => h
  | v :: r, o, w, h => by
    refine setCells_ty b t r (o + 1) _ ?_
    obtain ⟨cur, fz, e⟩ := h
    exact ⟨_, fz, by simp [World.setCell, Array.getElem?_modify, e]; rfl⟩
theorem SecRow.put {w : World} {lb n : Nat} {f : Nat → ByteArray} (h : SecRow w lb n f) {i : Nat} (hi : i < n) {c : ByteArray} (hc : c.size = 64) : SecRow (w.setCells lb (i * 64) (secL c)) lb n (upd f i c) := by
  have hl : (secL c).length = 64 := by rw [secL_length, hc]
  refine ⟨by rw [(setCells_facts lb (secL c) (i * 64) w).2.2.2.1]; exact h.lt, fun j hj => ?_, fun j hj => World.there_setCells (h.there j hj) _ _ _, fun j hj => ?_, setCells_ty _ _ _ _ _ h.ty⟩
  · by_cases e : j = i
    · subst e; rw [upd_same]; exact World.rangeAt_setCells_same _ _ _ _ (by rw [hl]; exact h.there j hj)
    · rw [upd_other _ _ e]
      refine World.rangeAt_setCells_apart (h.at_ j hj) _ _ _ (Or.inr ?_)
      rw [secL_length, h.size j hj, hl]
      omega
  · by_cases e : j = i
    · subst e; rw [upd_same]; exact hc
    · rw [upd_other _ _ e]; exact h.size j hj

/-! ### The disk -/
structure Dk where
  n : Nat
  sure : Nat → ByteArray
  wait : Nat → Option ByteArray
  up : Bool
  set : Bool
  left : Int
  keep : Int
  acts : Int
  downs : Int
def Dk.cells (S : Dk) (lb mb : Nat) : Array Value :=
  #[.slice (some ⟨lb, 0, none⟩) S.n S.n, .map (some mb), .bool S.up, .bool S.set, .int .i64 S.left, .int .u64 S.keep, .int .i64 S.acts, .int .i64 S.downs]
/-- What holds of every disk that New gave. -/
structure Dk.Ok (S : Dk) : Prop where
  n1 : 1 ≤ S.n
  n2 : S.n ≤ 8192
  wait : ∀ i c, S.wait i = some c → i < S.n ∧ c.size = 64
  l0 : 0 ≤ S.left
  l1 : S.left ≤ 9223372036854775807
  k0 : 0 ≤ S.keep
  k1 : S.keep ≤ 18446744073709551615
  a0 : 0 ≤ S.acts
  a1 : S.acts ≤ 1000000
  d0 : 0 ≤ S.downs
  d1 : S.downs ≤ 1000000
structure DkIs (w : World) (db lb mb m : Nat) (S : Dk) : Prop where
  blk : w.heap[db]? = some (.cells (S.cells lb mb) 81)
  row : SecRow w lb S.n S.sure
  map : MapIs w mb m S.wait
  ne : db ≠ lb
def disk3 (db lb mb : Nat) : Nat → Prop := fun k => k = db ∨ k = lb ∨ k = mb
theorem d3a (db lb mb : Nat) : disk3 db lb mb db := Or.inl rfl
theorem d3b (db lb mb : Nat) : disk3 db lb mb lb := Or.inr (Or.inl rfl)
theorem d3_not {db lb mb g n : Nat} (h1 : db < n) (h2 : lb < n) (h3 : mb < n) (hg : n ≤ g) : ¬ disk3 db lb mb g := by
  rintro (e | e | e) <;> omega
theorem d3c (db lb mb : Nat) : disk3 db lb mb mb := Or.inr (Or.inr rfl)
end Go.Proofs.YtgcfbjecmmnlhaaGreat

namespace Go.Proofs.YtgcfbjecmmnlhaaGreat
open Go.RowKit Go.Maps Go.ChangeMaps
set_option linter.unusedVariables false
set_option linter.unusedSimpArgs false
set_option maxRecDepth 100000

variable {w w' : World} {db lb mb m : Nat} {S : Dk}
theorem DkIs.lt (h : DkIs w db lb mb m S) : db < w.heap.size := by
  rcases Nat.lt_or_ge db w.heap.size with h' | h'
  · exact h'
  · have := h.blk; simp [Array.getElem?_eq_none h'] at this
theorem DkIs.c (h : DkIs w db lb mb m S) (i : Nat) : w.cell? ⟨db, i, none⟩ = (S.cells lb mb)[i]? := Joins.cell_of_block h.blk i
theorem DkIs.c0 (h : DkIs w db lb mb m S) : w.cell? ⟨db, 0, none⟩ = some (.slice (some ⟨lb, 0, none⟩) S.n S.n) := h.c 0
theorem DkIs.c1 (h : DkIs w db lb mb m S) : w.cell? ⟨db, 1, none⟩ = some (.map (some mb)) := h.c 1
theorem DkIs.c2 (h : DkIs w db lb mb m S) : w.cell? ⟨db, 2, none⟩ = some (.bool S.up) := h.c 2
theorem DkIs.c3 (h : DkIs w db lb mb m S) : w.cell? ⟨db, 3, none⟩ = some (.bool S.set) := h.c 3
theorem DkIs.c4 (h : DkIs w db lb mb m S) : w.cell? ⟨db, 4, none⟩ = some (.int .i64 S.left) := h.c 4
theorem DkIs.c5 (h : DkIs w db lb mb m S) : w.cell? ⟨db, 5, none⟩ = some (.int .u64 S.keep) := h.c 5
theorem DkIs.c6 (h : DkIs w db lb mb m S) : w.cell? ⟨db, 6, none⟩ = some (.int .i64 S.acts) := h.c 6
theorem DkIs.c7 (h : DkIs w db lb mb m S) : w.cell? ⟨db, 7, none⟩ = some (.int .i64 S.downs) := h.c 7
theorem DkIs.f (h : DkIs w db lb mb m S) (i : Nat) : w.frozen? ⟨db, i, none⟩ = false := Joins.unfrozen_of_block h.blk i
theorem DkIs.mdb (h : DkIs w db lb mb m S) : mb ≠ db := fun e => by
  obtain ⟨D, ⟨es, cl, h1, _⟩, _⟩ := h.map
  rw [e, h.blk] at h1; cases h1
theorem DkIs.mlb (h : DkIs w db lb mb m S) (hn : 1 ≤ S.n) : mb ≠ lb := fun e => by
  obtain ⟨D, ⟨es, cl, h1, _⟩, _⟩ := h.map
  have := (h.row.there 0 (by omega) 0 (by omega)).1
  rw [e] at h1
  simp [World.cell?, h1] at this
theorem DkIs.keep (h : DkIs w db lb mb m S) (h1 : w'.heap[db]? = w.heap[db]?) (h2 : w'.heap[lb]? = w.heap[lb]?) (h3 : w'.heap[mb]? = w.heap[mb]?) (hs : w.heap.size ≤ w'.heap.size) : DkIs w' db lb mb m S :=
  ⟨h1.trans h.blk, h.row.of_block h2 hs, h.map.of_block h3, h.ne⟩
theorem DkIs.off {B : Nat → Prop} (h : DkIs w db lb mb m S) (ho : Off B w w') (h1 : ¬ B db) (h2 : ¬ B lb) (h3 : ¬ B mb) : DkIs w' db lb mb m S :=
  h.keep (ho.block _ h.lt h1) (ho.block _ h.row.lt h2) (ho.block _ h.map.lt h3) ho.size
theorem DkIs.below (h : DkIs w db lb mb m S) (ho : Below w.heap.size w w') : DkIs w' db lb mb m S :=
  h.keep (ho.block _ h.lt) (ho.block _ h.row.lt) (ho.block _ h.map.lt) ho.size
theorem DkIs.drew (h : DkIs w db lb mb m S) : DkIs w.drew db lb mb m S := h.keep rfl rfl rfl (Nat.le_refl _)
theorem DkIs.mono (h : DkIs w db lb mb m S) {m' : Nat} (hm : m ≤ m') : DkIs w db lb mb m' S := ⟨h.blk, h.row, h.map.mono hm, h.ne⟩
theorem DkIs.setC (h : DkIs w db lb mb m S) (i : Nat) (v : Value) (S' : Dk) (hc : (S.cells lb mb).setIfInBounds i v = S'.cells lb mb) (hn : S'.n = S.n) (hs : S'.sure = S.sure) (hw : S'.wait = S.wait) : DkIs (w.setCell ⟨db, i, none⟩ v) db lb mb m S' := by
  have hz : (w.setCell ⟨db, i, none⟩ v).heap.size = w.heap.size := by simp [go_sem]
  refine ⟨by rw [Joins.block_setCell h.blk, hc], ?_, ?_, h.ne⟩
  · rw [hn, hs]; exact h.row.of_block (Below.heap_setCell w _ v lb h.ne.symm) (by rw [hz]; exact Nat.le_refl _)
  · rw [hw]; exact h.map.of_block (Below.heap_setCell w _ v mb h.mdb)

theorem DkIs.turned (h : DkIs w db lb mb m S) (hn : 1 ≤ S.n) (ht : w.mapTurned w' mb) {f : Nat → Option ByteArray} {m' : Nat} (hm : MapIs w' mb m' f) : DkIs w' db lb mb m' { S with wait := f } :=
  ⟨(ht.grown.block db h.lt (fun e => h.mdb (by cases e; rfl))).trans h.blk, h.row.of_block (ht.grown.block lb h.row.lt (fun e => h.mlb hn (by cases e; rfl))) ht.grown.size, hm, h.ne⟩
theorem DkIs.rowput (h : DkIs w db lb mb m S) (hn : 1 ≤ S.n) {i : Nat} (hi : i < S.n) {c : ByteArray} (hc : c.size = 64) : DkIs (w.setCells lb (i * 64) (secL c)) db lb mb m { S with sure := upd S.sure i c } := by
  obtain ⟨h1, h2, h3, h4, h5⟩ := setCells_facts lb (secL c) (i * 64) w
  exact ⟨(h5 db h.ne).trans h.blk, h.row.put hi hc, h.map.of_block (h5 mb (h.mlb hn)), h.ne⟩
/-- A pointer at no disk, or at one that New did not give. -/
def NotMade (w : World) (p : Option Addr) : Prop := p = none ∨ ∃ b, p = some ⟨b, 0, none⟩ ∧ w.cell? ⟨b, 0, none⟩ = some (.slice none 0 0)

theorem isMade_not (p : Option Addr) (w : World) (h : NotMade w p) : Calls Tryz.prog 68 #[.pointer p] w fun e w' => e = .returned (.bool false) ∧ w' = w := by
  rcases h with rfl | ⟨b, rfl, hc⟩
  · go_enter Tryz.func68, Tryz.ntmps68
    go_wp2
    go_ret
    exact ⟨rfl, rfl⟩
  · go_enter Tryz.func68, Tryz.ntmps68
    go_wp2
    go_ret
    exact ⟨rfl, rfl⟩
theorem isMade_any (w : World) (h : DkIs w db lb mb m S) (hn : 1 ≤ S.n) : Calls Tryz.prog 68 #[.pointer (some ⟨db, 0, none⟩)] w fun e w' => e = .returned (.bool true) ∧ w' = w := by
  have hc := h.c0
  have hn0 : decide (0 < S.n) = true := by simp; omega
  go_enter Tryz.func68, Tryz.ntmps68
  go_wp2
  go_ret
  exact ⟨by simp [hn0], rfl⟩
theorem refusal_not (p : Option Addr) (w : World) (h : NotMade w p) : Calls Tryz.prog 48 #[.pointer p] w fun e w' => e = .returned (.int .i64 11) ∧ w' = w := by
  have H : Hid _ := h
  clear h
  go_enter Tryz.func48, Tryz.ntmps48
  go_wp2_with (go_at_call 68; refine (isMade_not _ _ H.out).mono ?_; rintro e w' ⟨rfl, rfl⟩)
  go_ret
  exact ⟨rfl, rfl⟩
/-- How a disk refuses. -/
def refI (up : Bool) : Int := if up then 0 else 9
theorem refusal_any (w : World) (h : DkIs w db lb mb m S) (hn : 1 ≤ S.n) : Calls Tryz.prog 48 #[.pointer (some ⟨db, 0, none⟩)] w fun e w' => e = .returned (.int .i64 (refI S.up)) ∧ w' = w := by
  have hc := h.c2
  have H : Hid _ := h
  clear h
  go_enter Tryz.func48, Tryz.ntmps48
  cases hu : S.up
  · rw [hu] at hc
    go_wp2_with (go_at_call 68; refine (isMade_any _ H.out hn).mono ?_; rintro e w' ⟨rfl, rfl⟩)
    go_ret
    exact ⟨rfl, rfl⟩
  · rw [hu] at hc
    go_wp2_with (go_at_call 68; refine (isMade_any _ H.out hn).mono ?_; rintro e w' ⟨rfl, rfl⟩)
    go_ret
    exact ⟨rfl, rfl⟩
theorem refusalAt_not (p : Option Addr) (i : Int) (w : World) (h : NotMade w p) : Calls Tryz.prog 59 #[.pointer p, .int .i64 i] w fun e w' => e = .returned (.int .i64 11) ∧ w' = w := by
  have H : Hid _ := h
  clear h
  go_enter Tryz.func59, Tryz.ntmps59
  go_wp2_with (go_at_call 48; refine (refusal_not _ _ H.out).mono ?_; rintro e w' ⟨rfl, rfl⟩)
  go_ret
  exact ⟨rfl, rfl⟩
/-- How a disk refuses a sector. -/
def refAt (up : Bool) (n : Nat) (i : Int) : Int := if up then (if i < 0 ∨ (n : Int) ≤ i then 6 else 0) else 9
theorem refusalAt_any (w : World) (h : DkIs w db lb mb m S) (hn : 1 ≤ S.n) (i : Int) : Calls Tryz.prog 59 #[.pointer (some ⟨db, 0, none⟩), .int .i64 i] w fun e w' => e = .returned (.int .i64 (refAt S.up S.n i)) ∧ w' = w := by
  have hc := h.c0
  have H : Hid _ := h
  have C : Hid (∀ w, DkIs w db lb mb m S → Calls Tryz.prog 48 #[.pointer (some ⟨db, 0, none⟩)] w fun e w' => e = .returned (.int .i64 (refI S.up)) ∧ w' = w) := fun w h => refusal_any w h hn
  clear h
  cases hu : S.up
  · rw [hu] at C
    have e0 : refI false = 9 := rfl
    rw [e0] at C
    go_enter Tryz.func59, Tryz.ntmps59
    go_wp2_with (go_at_call 48; refine (C.out _ H.out).mono ?_; rintro e w' ⟨rfl, rfl⟩)
    go_ret
    exact ⟨rfl, rfl⟩
  · rw [hu] at C
    have e0 : refI true = 0 := rfl
    rw [e0] at C
    by_cases h1 : i < 0
    · go_enter Tryz.func59, Tryz.ntmps59
      go_wp2_with (go_at_call 48; refine (C.out _ H.out).mono ?_; rintro e w' ⟨rfl, rfl⟩)
      go_ret
      exact ⟨by simp [refAt, h1], rfl⟩
    · by_cases h2 : (S.n : Int) ≤ i
      · go_enter Tryz.func59, Tryz.ntmps59
        go_wp2_with (go_at_call 48; refine (C.out _ H.out).mono ?_; rintro e w' ⟨rfl, rfl⟩)
        go_ret
        exact ⟨by simp [refAt, h1, h2], rfl⟩
      · go_enter Tryz.func59, Tryz.ntmps59
        go_wp2_with (go_at_call 48; refine (C.out _ H.out).mono ?_; rintro e w' ⟨rfl, rfl⟩)
        go_ret
        exact ⟨by simp [refAt, h1, h2], rfl⟩
theorem Calm_not (p : Option Addr)  (w : World) (h : NotMade w p) : Calls Tryz.prog 46 #[.pointer p] w fun e w' => e = .returned (.tuple #[]) ∧ w' = w := by
  have H : Hid _ := h
  clear h
  go_enter Tryz.func46, Tryz.ntmps46
  go_wp2_with (go_at_call 68; refine (isMade_not _ _ H.out).mono ?_; rintro e w' ⟨rfl, rfl⟩)
  go_end0
  exact ⟨rfl, rfl⟩
theorem Read_not (p : Option Addr) (i : Int) (w : World) (h : NotMade w p) : Calls Tryz.prog 22 #[.pointer p, .int .i64 i] w fun e w' => e = .returned (.tuple #[.string ⟨#[]⟩, .int .i64 11]) ∧ w' = w := by
  have H : Hid _ := h
  clear h
  go_enter Tryz.func22, Tryz.ntmps22
  go_wp2_with (go_at_call 59; refine (refusalAt_not _ _ _ H.out).mono ?_; rintro e w' ⟨rfl, rfl⟩)
  go_ret2
  exact ⟨rfl, rfl⟩
theorem Write_not (p : Option Addr) (i : Int) (s : ByteArray) (w : World) (h : NotMade w p) : Calls Tryz.prog 29 #[.pointer p, .int .i64 i, .string s] w fun e w' => e = .returned (.int .i64 11) ∧ w' = w := by
  have H : Hid _ := h
  clear h
  go_enter Tryz.func29, Tryz.ntmps29
  go_wp2_with (go_at_call 59; refine (refusalAt_not _ _ _ H.out).mono ?_; rintro e w' ⟨rfl, rfl⟩)
  go_ret
  exact ⟨rfl, rfl⟩
theorem Sync_not (p : Option Addr)  (w : World) (h : NotMade w p) : Calls Tryz.prog 81 #[.pointer p] w fun e w' => e = .returned (.int .i64 11) ∧ w' = w := by
  have H : Hid _ := h
  clear h
  go_enter Tryz.func81, Tryz.ntmps81
  go_wp2_with (go_at_call 48; refine (refusal_not _ _ H.out).mono ?_; rintro e w' ⟨rfl, rfl⟩)
  go_ret
  exact ⟨rfl, rfl⟩
theorem Crash_not (p : Option Addr) (k : Int) (w : World) (h : NotMade w p) : Calls Tryz.prog 45 #[.pointer p, .int .u64 k] w fun e w' => e = .returned (.int .i64 11) ∧ w' = w := by
  have H : Hid _ := h
  clear h
  go_enter Tryz.func45, Tryz.ntmps45
  go_wp2_with (go_at_call 48; refine (refusal_not _ _ H.out).mono ?_; rintro e w' ⟨rfl, rfl⟩)
  go_ret
  exact ⟨rfl, rfl⟩
theorem Arm_not (p : Option Addr) (i k : Int) (w : World) (h : NotMade w p) : Calls Tryz.prog 15 #[.pointer p, .int .i64 i, .int .u64 k] w fun e w' => e = .returned (.int .i64 11) ∧ w' = w := by
  have H : Hid _ := h
  clear h
  go_enter Tryz.func15, Tryz.ntmps15
  go_wp2_with (go_at_call 48; refine (refusal_not _ _ H.out).mono ?_; rintro e w' ⟨rfl, rfl⟩)
  go_ret
  exact ⟨rfl, rfl⟩
theorem Start_not (p : Option Addr)  (w : World) (h : NotMade w p) : Calls Tryz.prog 47 #[.pointer p] w fun e w' => e = .returned (.int .i64 11) ∧ w' = w := by
  have H : Hid _ := h
  clear h
  go_enter Tryz.func47, Tryz.ntmps47
  go_wp2_with (go_at_call 68; refine (isMade_not _ _ H.out).mono ?_; rintro e w' ⟨rfl, rfl⟩)
  go_ret
  exact ⟨rfl, rfl⟩
theorem Up_not (p : Option Addr)  (w : World) (h : NotMade w p) : Calls Tryz.prog 44 #[.pointer p] w fun e w' => e = .returned (.bool false) ∧ w' = w := by
  have H : Hid _ := h
  clear h
  go_enter Tryz.func44, Tryz.ntmps44
  go_wp2_with (go_at_call 68; refine (isMade_not _ _ H.out).mono ?_; rintro e w' ⟨rfl, rfl⟩)
  go_ret
  exact ⟨rfl, rfl⟩
theorem Size_not (p : Option Addr)  (w : World) (h : NotMade w p) : Calls Tryz.prog 37 #[.pointer p] w fun e w' => e = .returned (.int .i64 0) ∧ w' = w := by
  have H : Hid _ := h
  clear h
  go_enter Tryz.func37, Tryz.ntmps37
  go_wp2_with (go_at_call 68; refine (isMade_not _ _ H.out).mono ?_; rintro e w' ⟨rfl, rfl⟩)
  go_ret
  exact ⟨rfl, rfl⟩
theorem Waiting_not (p : Option Addr)  (w : World) (h : NotMade w p) : Calls Tryz.prog 92 #[.pointer p] w fun e w' => e = .returned (.slice none 0 0) ∧ w' = w := by
  have H : Hid _ := h
  clear h
  go_enter Tryz.func92, Tryz.ntmps92
  go_wp2_with (go_at_call 68; refine (isMade_not _ _ H.out).mono ?_; rintro e w' ⟨rfl, rfl⟩)
  go_ret
  exact ⟨rfl, rfl⟩
theorem Up_any (w : World) (h : DkIs w db lb mb m S) (hn : 1 ≤ S.n) : Calls Tryz.prog 44 #[.pointer (some ⟨db, 0, none⟩)] w fun e w' => e = .returned (.bool S.up) ∧ w' = w := by
  have hc2 := h.c2
  have H : Hid _ := h
  clear h
  go_enter Tryz.func44, Tryz.ntmps44
  go_wp2_with (go_at_call 68; refine (isMade_any _ H.out hn).mono ?_; rintro e w' ⟨rfl, rfl⟩)
  go_ret
  exact ⟨rfl, rfl⟩
theorem Size_any (w : World) (h : DkIs w db lb mb m S) (hn : 1 ≤ S.n) : Calls Tryz.prog 37 #[.pointer (some ⟨db, 0, none⟩)] w fun e w' => e = .returned (.int .i64 S.n) ∧ w' = w := by
  have hc0 := h.c0
  have H : Hid _ := h
  clear h
  go_enter Tryz.func37, Tryz.ntmps37
  go_wp2_with (go_at_call 68; refine (isMade_any _ H.out hn).mono ?_; rintro e w' ⟨rfl, rfl⟩)
  go_ret
  exact ⟨rfl, rfl⟩
end Go.Proofs.YtgcfbjecmmnlhaaGreat
