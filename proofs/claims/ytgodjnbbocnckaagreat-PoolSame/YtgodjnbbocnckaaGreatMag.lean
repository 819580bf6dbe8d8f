/- Why a record has no bytes: refusal. A record's bytes as they are laid: laid, body, Frame. Clean: a record with just what its kind has. A record's bytes, and its frame: body, Frame; the law's awake. What a law that cuts its record short leans on. -/
import Derived.Test.YtgodjnbbocnckaaGreatMaf
import Derived.Test.YtgodjnbbocnckaaGreatMae
import Derived.Deep.RegionHeld3
namespace Go.Proofs.YtgodjnbbocnckaaGreat
open Go.RowKit
set_option linter.unusedVariables false
set_option linter.unusedSimpArgs false
set_option maxRecDepth 100000

section
variable {w : World} {s : Sc} {T : Value} {a : Option Addr} {c : Nat} {l : List Im} {g : List Tb}
set_option maxHeartbeats 1000000 in
theorem refusalR_any (hn : l.length ≤ 1000) (hcs : Cs w a (encI l)) (ht : ∀ p ∈ l, p.2.size ≤ 9223372036854775807) (hk : s.ky.size ≤ 9223372036854775807) (ho : s.ol.size ≤ 9223372036854775807) (hw : s.nw.size ≤ 9223372036854775807) :
    Calls Tryz.prog 118 #[.agg (s.A (.slice a l.length c) T)] w fun r w' => r = .returned (.int .i64 (refM ⟨s, l, g⟩)) ∧ Below w.heap.size w w' := by
  have CF : Hid (∀ w', Below w.heap.size w w' → Calls Tryz.prog 145 #[.agg (s.A (.slice a l.length c) T)] w' fun r w'' => r = .returned (.bool (formed ⟨s, l, g⟩)) ∧ Below w'.heap.size w' w'') := fun w' hb => isFormed_any hn (hcs.below hb) ht
  clear hcs ht
  unfold refM
  dsimp only
  by_cases h1 : s.kd < 1
  · rw [if_pos (Or.inl h1)]
    go_enter Tryz.func118, Tryz.ntmps118
    go_wp2_with (refine wpList_box_rc (s := s) (I := _) (T := _) _ rfl _ rfl rfl ?_; intro w0 b0 N0; have k0 := N0.rc.c0)
    go_ret
    exact ⟨rfl, N0.below⟩
  by_cases h2 : 10 < s.kd
  · rw [if_pos (Or.inr h2)]
    go_enter Tryz.func118, Tryz.ntmps118
    go_wp2_with (refine wpList_box_rc (s := s) (I := _) (T := _) _ rfl _ rfl rfl ?_; intro w0 b0 N0; have k0 := N0.rc.c0)
    go_ret
    exact ⟨rfl, N0.below⟩
  rw [if_neg (by omega)]
  by_cases h3 : formed ⟨s, l, g⟩ = false
  · rw [if_pos h3]
    rw [h3] at CF
    go_enter Tryz.func118, Tryz.ntmps118
    go_wp2_with (first
      | (refine wpList_box_rc (s := s) (I := _) (T := _) _ rfl _ rfl rfl ?_; intro w0 b0 N0; have k0 := N0.rc.c0)
      | (refine wpList_load_rc _ rfl _ rfl rfl N0.rc ?_)
      | (go_at_call 145; refine (CF.out _ N0.below).mono ?_; rintro e w1 ⟨rfl, b1⟩))
    go_ret
    exact ⟨rfl, thn N0.below b1⟩
  rw [if_neg h3]
  have h3' : formed ⟨s, l, g⟩ = true := by simpa using h3
  rw [h3'] at CF
  clear h3 h3'
  obtain ⟨K, hK⟩ : ∃ K, K = decide ((16 : Int) < s.ky.size) := ⟨_, rfl⟩
  obtain ⟨V, hV⟩ : ∃ V, V = (decide ((32 : Int) < s.ol.size) || decide ((32 : Int) < s.nw.size)) := ⟨_, rfl⟩
  have C1 : Hid (∀ w1 : World, Calls Tryz.prog 146 #[.int .i64 16, .slice (some ⟨w1.heap.size, 0, none⟩) 1 1] (w1.alloc (.cells #[.string s.ky] 9)) fun r w' => r = .returned (.bool K) ∧ w' = w1.alloc (.cells #[.string s.ky] 9)) := fun w1 => by
    rw [hK]
    exact tooLong_1 16 (Joins.cell_of_block (MapKept.heap_alloc w1 _).1 0) hk
  have C2 : Hid (∀ w1 : World, Calls Tryz.prog 146 #[.int .i64 32, .slice (some ⟨w1.heap.size + 1, 0, none⟩) 2 2] ((w1.alloc (.cells #[.string s.ky] 9)).alloc (.cells #[.string s.ol, .string s.nw] 9)) fun r w' => r = .returned (.bool V) ∧ w' = (w1.alloc (.cells #[.string s.ky] 9)).alloc (.cells #[.string s.ol, .string s.nw] 9)) := fun w1 => by
    rw [hV]
    have hz : (w1.alloc (.cells #[.string s.ky] 9)).heap.size = w1.heap.size + 1 := by simp
    have hb := (MapKept.heap_alloc (w1.alloc (.cells #[.string s.ky] 9)) (.cells #[.string s.ol, .string s.nw] 9)).1
    rw [hz] at hb
    exact tooLong_2 32 (Joins.cell_of_block hb 0) (Joins.cell_of_block hb 1) ho hw
  by_cases h4 : 16 < s.ky.size
  · rw [if_pos h4]
    have hK' : K = true := by rw [hK]; simp; omega
    subst hK'
    clear hK hV C2 h4 hk ho hw
    go_enter Tryz.func118, Tryz.ntmps118
    go_wp2_with (first
      | (refine wpList_box_rc (s := s) (I := _) (T := _) _ rfl _ rfl rfl ?_; intro w0 b0 N0; have k0 := N0.rc.c0)
      | (refine wpList_load_rc _ rfl _ rfl rfl N0.rc ?_)
      | (go_at_call 145; refine (CF.out _ N0.below).mono ?_; rintro e w1 ⟨rfl, b1⟩; have k5 := (N0.rc.below b1).c5)
      | (go_at_call 146; refine (C1.out _).mono ?_; rintro e w2 ⟨rfl, rfl⟩))
    go_ret
    exact ⟨rfl, thn (thn N0.below b1) ((Below.refl _ _).alloc (Nat.le_refl _) _)⟩
  rw [if_neg h4]
  have hK' : K = false := by rw [hK]; simp; omega
  subst hK'
  by_cases h5 : 32 < s.ol.size ∨ 32 < s.nw.size
  · rw [if_pos h5]
    have hV' : V = true := by rw [hV]; simp; omega
    subst hV'
    clear hK hV h4 h5 hk ho hw
    go_enter Tryz.func118, Tryz.ntmps118
    go_wp2_with (first
      | (refine wpList_box_rc (s := s) (I := _) (T := _) _ rfl _ rfl rfl ?_; intro w0 b0 N0; have k0 := N0.rc.c0)
      | (refine wpList_load_rc _ rfl _ rfl rfl N0.rc ?_)
      | (go_at_call 145; refine (CF.out _ N0.below).mono ?_; rintro e w1 ⟨rfl, b1⟩; have k5 := (N0.rc.below b1).c5; have k6 := (N0.rc.below b1).c6; have k7 := (N0.rc.below b1).c7; have hlt := (N0.rc.below b1).lt)
      | (go_at_call 146; refine (C1.out _).mono ?_; clear C1; rintro e w2 ⟨rfl, rfl⟩; have B2 : Below w1.heap.size w1 (w1.alloc (.cells #[.string s.ky] 9)) := (Below.refl _ _).alloc (Nat.le_refl _) _)
      | (go_at_call 146; refine (C2.out _).mono ?_; clear C2; rintro e w3 ⟨rfl, rfl⟩))
    go_ret
    exact ⟨rfl, thn (thn (thn N0.below b1) B2) ((Below.refl _ _).alloc (Nat.le_refl _) _)⟩
  · rw [if_neg h5]
    have hV' : V = false := by rw [hV]; simp; omega
    subst hV'
    clear hK hV h4 h5 hk ho hw
    go_enter Tryz.func118, Tryz.ntmps118
    go_wp2_with (first
      | (refine wpList_box_rc (s := s) (I := _) (T := _) _ rfl _ rfl rfl ?_; intro w0 b0 N0; have k0 := N0.rc.c0)
      | (refine wpList_load_rc _ rfl _ rfl rfl N0.rc ?_)
      | (go_at_call 145; refine (CF.out _ N0.below).mono ?_; rintro e w1 ⟨rfl, b1⟩; have k5 := (N0.rc.below b1).c5; have k6 := (N0.rc.below b1).c6; have k7 := (N0.rc.below b1).c7; have hlt := (N0.rc.below b1).lt)
      | (go_at_call 146; refine (C1.out _).mono ?_; clear C1; rintro e w2 ⟨rfl, rfl⟩; have B2 : Below w1.heap.size w1 (w1.alloc (.cells #[.string s.ky] 9)) := (Below.refl _ _).alloc (Nat.le_refl _) _)
      | (go_at_call 146; refine (C2.out _).mono ?_; clear C2; rintro e w3 ⟨rfl, rfl⟩))
    go_ret
    exact ⟨rfl, thn (thn (thn N0.below b1) B2) ((Below.refl _ _).alloc (Nat.le_refl _) _)⟩
end
end Go.Proofs.YtgodjnbbocnckaaGreat

namespace Go.Proofs.YtgodjnbbocnckaaGreat
open Go.RowKit
set_option linter.unusedVariables false
set_option linter.unusedSimpArgs false
set_option maxRecDepth 100000

structure NewW (w w' : World) (b : Nat) : Prop where
  wS : WrS w' b (⟨#[]⟩, 0) 0
  below : Below w.heap.size w w'
  eq : b = w.heap.size
theorem zero_wr (w : World) : (zeroValue 202).run Tryz.prog w = .ok (.agg #[.pointer none, .int .i64 0, .int .i64 0]) w := by kernel_rfl
theorem wpList_new_wr {ops : Array Oper} {rest : List Oper} {o : Oper} {a : Act} {Q : Exit → Act → World → Prop} (w : World) (hg : o.guard = none) (hop : o.op = Op.alloc 202)
    (h : ∀ w' b, NewW w w' b → wpList Tryz.prog ops Q rest (a.put o.dst (.pointer (some ⟨b, 0, none⟩))) w') : wpList Tryz.prog ops Q (o :: rest) a w := by
  refine wpList_plain hg fun K' hK' => ?_
  unfold Oper.wp
  simp [execOp, hop, Instr.alloc, zero_wr, Result.andThen, Value.cells]
  exact hK' _ _ (h _ _ ⟨⟨⟨none, [], (MapKept.heap_alloc w _).1, rfl, rfl⟩, Nat.le_refl _⟩, (Below.refl _ _).alloc (Nat.le_refl _) _, rfl⟩)
theorem All_both (b : Nat) (all : ByteArray) (e : Int) (w : World) (h : Pk.WrIs w b all e) (hsz : all.size ≤ 140737488351232) (he : e ≠ 0 → all = ⟨#[]⟩) :
    Calls Tryz.prog 152 #[.pointer (some ⟨b, 0, none⟩)] w fun r w' => r = .returned (.tuple #[.string all, .int .i64 e]) ∧ Below w.heap.size w w' := by
  by_cases h0 : e = 0
  · subst h0; exact Pk.All_any b all w h hsz
  · rw [he h0]; exact Pk.All_err b all e w h h0
section
variable {w wr wq : World} {b0 b j j' : Nat} {s : Sc} {I T : Value} {A A' : ByteArray × Int}
theorem LdS.start {w0 w1 : World} {b1 : Nat} (N0 : NewR w w0 b0 s I T) (N1 : NewW w0 w1 b1) : LdS w w1 b0 b1 s I T (⟨#[]⟩, 0) 0 :=
  ⟨N0.rc.below N1.below, N1.wS, by have := N0.rc.lt; have := N1.eq; omega, Pk.Off.of_below (thn N0.below N1.below)⟩
theorem LdS.places2 (h : LdS w wr b0 b s I T A j) (hj : j ≤ 100000000000) (p q : Int) : Calls Tryz.prog 149 #[.pointer (some ⟨b, 0, none⟩), .slice (some ⟨wr.heap.size, 0, none⟩) 2 2] (wr.alloc (.cells #[.int .i64 p, .int .i64 q] 3)) fun r w' => r = .returned (.tuple #[]) ∧ LdS w w' b0 b s I T (layP [p, q] A) (j + 12) := by
  have hb : Below wr.heap.size wr (wr.alloc (.cells #[.int .i64 p, .int .i64 q] 3)) := (Below.refl _ _).alloc (Nat.le_refl _) _
  have hl := h.wS.lt
  refine (layPlaces_any (n := 2) (h.wS.below hb) (by omega) [p, q] (MapKept.heap_alloc wr _).1 (by omega) rfl (by omega)).mono ?_
  rintro e w' ⟨he, h1, o1⟩
  exact ⟨he, h.step h1 ((Pk.Off.of_below hb).trans o1)⟩
theorem LdS.places3 (h : LdS w wr b0 b s I T A j) (hj : j ≤ 100000000000) (p q x : Int) : Calls Tryz.prog 149 #[.pointer (some ⟨b, 0, none⟩), .slice (some ⟨wr.heap.size, 0, none⟩) 3 3] (wr.alloc (.cells #[.int .i64 p, .int .i64 q, .int .i64 x] 3)) fun r w' => r = .returned (.tuple #[]) ∧ LdS w w' b0 b s I T (layP [p, q, x] A) (j + 18) := by
  have hb : Below wr.heap.size wr (wr.alloc (.cells #[.int .i64 p, .int .i64 q, .int .i64 x] 3)) := (Below.refl _ _).alloc (Nat.le_refl _) _
  have hl := h.wS.lt
  refine (layPlaces_any (n := 3) (h.wS.below hb) (by omega) [p, q, x] (MapKept.heap_alloc wr _).1 (by omega) rfl (by omega)).mono ?_
  rintro e w' ⟨he, h1, o1⟩
  exact ⟨he, h.step h1 ((Pk.Off.of_below hb).trans o1)⟩
theorem LdS.change (h : LdS w wr b0 b s I T A j) (hj : j ≤ 100000000000) (hk : s.ky.size ≤ 1000) (ho : s.ol.size ≤ 1000) (hw : s.nw.size ≤ 1000) : Calls Tryz.prog 150 #[.pointer (some ⟨b, 0, none⟩), .agg (s.A I T)] wr fun r w' => r = .returned (.tuple #[]) ∧ LdS w w' b0 b s I T (layC s A) (j + 300000) :=
  (layChange_any h.wS hj hk ho hw).mono fun e w' ⟨he, h1, o1⟩ => ⟨he, h.step h1 o1⟩
theorem LdS.images {a : Option Addr} {c : Nat} {l : List Im} (h : LdS w wr b0 b s I T A j) (hj : j ≤ 100000000000) (hn : l.length ≤ 1000) (hcs : Cs w a (encI l)) (hb : w.heap.size ≤ b) (ht : ∀ p ∈ l, p.2.size ≤ 1000) : Calls Tryz.prog 148 #[.pointer (some ⟨b, 0, none⟩), .slice a l.length c] wr fun r w' => r = .returned (.tuple #[]) ∧ LdS w w' b0 b s I T (layI l (stepW A l.length 1)) (j + 6 + 65543 * l.length) := by
  have hne : l ≠ [] → ∀ b'' off', a = some ⟨b'', off', none⟩ → b'' ≠ b := by
    intro hl b'' off' e
    obtain ⟨b', off, e', hlt, _⟩ := hcs.at_ 0 (by rw [encI_length]; exact List.length_pos_iff.2 hl)
    rw [e'] at e
    cases e
    omega
  have hcs' : Cs wr a (encI l) := by
    by_cases hl : l = []
    · subst hl; exact Cs.nil _ _
    · exact hcs.off h.off (hne hl)
  refine (layImages_any h.wS hj l rfl hn hcs' hne ht).mono ?_
  rintro e w' ⟨he, h1, o1⟩
  exact ⟨he, h.step h1 o1⟩
theorem LdS.table {a : Option Addr} {c : Nat} {l : List Tb} (h : LdS w wr b0 b s I T A j) (hj : j ≤ 100000000000) (hn : l.length ≤ 1000) (hcs : Cs w a (encT l)) (hb : w.heap.size ≤ b) : Calls Tryz.prog 151 #[.pointer (some ⟨b, 0, none⟩), .slice a l.length c] wr fun r w' => r = .returned (.tuple #[]) ∧ LdS w w' b0 b s I T (layB l (stepW A l.length 1)) (j + 6 + 12 * l.length) := by
  have hne : l ≠ [] → ∀ b'' off', a = some ⟨b'', off', none⟩ → b'' ≠ b := by
    intro hl b'' off' e
    obtain ⟨b', off, e', hlt, _⟩ := hcs.at_ 0 (by rw [encT_length]; exact List.length_pos_iff.2 hl)
    rw [e'] at e
    cases e
    omega
  have hcs' : Cs wr a (encT l) := by
    by_cases hl : l = []
    · subst hl; exact Cs.nil _ _
    · exact hcs.off h.off (hne hl)
  refine (layTable_any h.wS hj l rfl hn hcs' hne).mono ?_
  rintro e w' ⟨he, h1, o1⟩
  exact ⟨he, h.step h1 o1⟩
/-- What the last call leaves. -/
theorem LdS.all (h : LdS w wr b0 b s I T A j) (hj : j ≤ 100000000000) (hb : w.heap.size ≤ b) (hB : Bare A) : Calls Tryz.prog 152 #[.pointer (some ⟨b, 0, none⟩)] wr fun r w' => r = .returned (.tuple #[.string A.1, .int .i64 A.2]) ∧ Below w.heap.size w w' := by
  have hz := h.wS.sz
  have hl := h.off.below hb (Nat.le_refl _)
  exact (All_both b A.1 A.2 wr h.wS.wr (by omega) hB).mono fun e w' ⟨he, h1⟩ => ⟨he, thn hl h1⟩
end

section
variable {w : World} {s : Sc} {I T : Value}
set_option maxHeartbeats 1000000 in
theorem laid_1 (hk : s.kd = 1) {a : Option Addr} {c : Nat} {l : List Im} (hn : l.length ≤ 1000) (hcs : Cs w a (encI l)) (ht : ∀ p ∈ l, p.2.size ≤ 1000) : Calls Tryz.prog 119 #[.agg (s.A (.slice a l.length c) T)] w fun r w' => r = .returned (.tuple #[.string (layI l (stepW (stepW (⟨#[]⟩, 0) s.kd 1) l.length 1)).1, .int .i64 (layI l (stepW (stepW (⟨#[]⟩, 0) s.kd 1) l.length 1)).2]) ∧ Below w.heap.size w w' := by
  have e1 : (s.kd == 1) = true := by rw [hk]; rfl
  clear hk
  go_enter Tryz.func119, Tryz.ntmps119
  go_wp2_with (first
    | (refine wpList_box_rc (s := s) (I := _) (T := _) _ rfl _ rfl rfl ?_; intro w0 b0 N0)
    | (refine wpList_new_wr _ rfl rfl ?_; intro w1 b1 N1; have H := LdS.start N0 N1; have hb1 : w.heap.size ≤ b1 := (Nat.le_trans N0.below.size (Nat.le_of_eq N1.eq.symm)); clear N0 N1; have k0 := H.rc.c0; have k9 := H.rc.c9)
    | (go_at_call 147; refine (H.num (by omega) _ _).mono ?_; clear H; rintro e w3 ⟨rfl, H⟩; have k0 := H.rc.c0; have k9 := H.rc.c9)
    | (go_at_call 148; refine (H.images (by omega) hn hcs hb1 ht).mono ?_; clear H; rintro e w3 ⟨rfl, H⟩)
    | (go_at_call 152; refine (H.all (by omega) hb1 (((bare0.stepW _ _).stepW _ _).layI _)).mono ?_; rintro e w9 ⟨rfl, b9⟩))
  go_ret2
  exact ⟨rfl, b9⟩
set_option maxHeartbeats 1000000 in
theorem laid_2 (hk : s.kd = 2) {a : Option Addr} {c : Nat} {l : List Im} (hn : l.length ≤ 1000) (hcs : Cs w a (encI l)) (ht : ∀ p ∈ l, p.2.size ≤ 1000) : Calls Tryz.prog 119 #[.agg (s.A (.slice a l.length c) T)] w fun r w' => r = .returned (.tuple #[.string (layI l (stepW (stepW (⟨#[]⟩, 0) s.kd 1) l.length 1)).1, .int .i64 (layI l (stepW (stepW (⟨#[]⟩, 0) s.kd 1) l.length 1)).2]) ∧ Below w.heap.size w w' := by
  have e1 : (s.kd == 1) = false := by rw [hk]; rfl
  have e2 : (s.kd == 2) = true := by rw [hk]; rfl
  clear hk
  go_enter Tryz.func119, Tryz.ntmps119
  go_wp2_with (first
    | (refine wpList_box_rc (s := s) (I := _) (T := _) _ rfl _ rfl rfl ?_; intro w0 b0 N0)
    | (refine wpList_new_wr _ rfl rfl ?_; intro w1 b1 N1; have H := LdS.start N0 N1; have hb1 : w.heap.size ≤ b1 := (Nat.le_trans N0.below.size (Nat.le_of_eq N1.eq.symm)); clear N0 N1; have k0 := H.rc.c0; have k9 := H.rc.c9)
    | (go_at_call 147; refine (H.num (by omega) _ _).mono ?_; clear H; rintro e w3 ⟨rfl, H⟩; have k0 := H.rc.c0; have k9 := H.rc.c9)
    | (go_at_call 148; refine (H.images (by omega) hn hcs hb1 ht).mono ?_; clear H; rintro e w3 ⟨rfl, H⟩)
    | (go_at_call 152; refine (H.all (by omega) hb1 (((bare0.stepW _ _).stepW _ _).layI _)).mono ?_; rintro e w9 ⟨rfl, b9⟩))
  go_ret2
  exact ⟨rfl, b9⟩
set_option maxHeartbeats 1000000 in
theorem laid_3 (hk : s.kd = 3) (hy : s.ky.size ≤ 1000) (ho : s.ol.size ≤ 1000) (hw : s.nw.size ≤ 1000) : Calls Tryz.prog 119 #[.agg (s.A I T)] w fun r w' => r = .returned (.tuple #[.string (layC s (layP [s.tx, s.pv] (stepW (⟨#[]⟩, 0) s.kd 1))).1, .int .i64 (layC s (layP [s.tx, s.pv] (stepW (⟨#[]⟩, 0) s.kd 1))).2]) ∧ Below w.heap.size w w' := by
  have e1 : (s.kd == 1) = false := by rw [hk]; rfl
  have e2 : (s.kd == 2) = false := by rw [hk]; rfl
  have e3 : (s.kd == 3) = true := by rw [hk]; rfl
  clear hk
  go_enter Tryz.func119, Tryz.ntmps119
  go_wp2_with (first
    | (refine wpList_box_rc (s := s) (I := _) (T := _) _ rfl _ rfl rfl ?_; intro w0 b0 N0)
    | (refine wpList_new_wr _ rfl rfl ?_; intro w1 b1 N1; have H := LdS.start N0 N1; have hb1 : w.heap.size ≤ b1 := (Nat.le_trans N0.below.size (Nat.le_of_eq N1.eq.symm)); clear N0 N1; have k0 := H.rc.c0; have k1 := H.rc.c1; have k2 := H.rc.c2)
    | (go_at_call 147; refine (H.num (by omega) _ _).mono ?_; clear H; rintro e w3 ⟨rfl, H⟩; have k0 := H.rc.c0; have k1 := H.rc.c1; have k2 := H.rc.c2)
    | (go_at_call 149; refine (H.places2 (by omega) _ _).mono ?_; clear H; rintro e w3 ⟨rfl, H⟩; have k0 := H.rc.c0; have k1 := H.rc.c1; have k2 := H.rc.c2)
    | (refine wpList_load_rc _ rfl _ rfl rfl H.rc ?_)
    | (go_at_call 150; refine (H.change (by omega) hy ho hw).mono ?_; clear H; rintro e w3 ⟨rfl, H⟩)
    | (go_at_call 152; refine (H.all (by omega) hb1 (((bare0.stepW _ _).layP _).layC _)).mono ?_; rintro e w9 ⟨rfl, b9⟩))
  go_ret2
  exact ⟨rfl, b9⟩
set_option maxHeartbeats 1000000 in
theorem laid_4 (hk : s.kd = 4) (hy : s.ky.size ≤ 1000) (ho : s.ol.size ≤ 1000) (hw : s.nw.size ≤ 1000) : Calls Tryz.prog 119 #[.agg (s.A I T)] w fun r w' => r = .returned (.tuple #[.string (layC s (layP [s.tx, s.pv] (stepW (⟨#[]⟩, 0) s.kd 1))).1, .int .i64 (layC s (layP [s.tx, s.pv] (stepW (⟨#[]⟩, 0) s.kd 1))).2]) ∧ Below w.heap.size w w' := by
  have e1 : (s.kd == 1) = false := by rw [hk]; rfl
  have e2 : (s.kd == 2) = false := by rw [hk]; rfl
  have e3 : (s.kd == 3) = false := by rw [hk]; rfl
  have e4 : (s.kd == 4) = true := by rw [hk]; rfl
  clear hk
  go_enter Tryz.func119, Tryz.ntmps119
  go_wp2_with (first
    | (refine wpList_box_rc (s := s) (I := _) (T := _) _ rfl _ rfl rfl ?_; intro w0 b0 N0)
    | (refine wpList_new_wr _ rfl rfl ?_; intro w1 b1 N1; have H := LdS.start N0 N1; have hb1 : w.heap.size ≤ b1 := (Nat.le_trans N0.below.size (Nat.le_of_eq N1.eq.symm)); clear N0 N1; have k0 := H.rc.c0; have k1 := H.rc.c1; have k2 := H.rc.c2)
    | (go_at_call 147; refine (H.num (by omega) _ _).mono ?_; clear H; rintro e w3 ⟨rfl, H⟩; have k0 := H.rc.c0; have k1 := H.rc.c1; have k2 := H.rc.c2)
    | (go_at_call 149; refine (H.places2 (by omega) _ _).mono ?_; clear H; rintro e w3 ⟨rfl, H⟩; have k0 := H.rc.c0; have k1 := H.rc.c1; have k2 := H.rc.c2)
    | (refine wpList_load_rc _ rfl _ rfl rfl H.rc ?_)
    | (go_at_call 150; refine (H.change (by omega) hy ho hw).mono ?_; clear H; rintro e w3 ⟨rfl, H⟩)
    | (go_at_call 152; refine (H.all (by omega) hb1 (((bare0.stepW _ _).layP _).layC _)).mono ?_; rintro e w9 ⟨rfl, b9⟩))
  go_ret2
  exact ⟨rfl, b9⟩
set_option maxHeartbeats 1000000 in
theorem laid_5 (hk : s.kd = 5) (hy : s.ky.size ≤ 1000) (ho : s.ol.size ≤ 1000) (hw : s.nw.size ≤ 1000) : Calls Tryz.prog 119 #[.agg (s.A I T)] w fun r w' => r = .returned (.tuple #[.string (layC s (layP [s.tx, s.pv] (stepW (⟨#[]⟩, 0) s.kd 1))).1, .int .i64 (layC s (layP [s.tx, s.pv] (stepW (⟨#[]⟩, 0) s.kd 1))).2]) ∧ Below w.heap.size w w' := by
  have e1 : (s.kd == 1) = false := by rw [hk]; rfl
  have e2 : (s.kd == 2) = false := by rw [hk]; rfl
  have e3 : (s.kd == 3) = false := by rw [hk]; rfl
  have e4 : (s.kd == 4) = false := by rw [hk]; rfl
  have e5 : (s.kd == 5) = true := by rw [hk]; rfl
  clear hk
  go_enter Tryz.func119, Tryz.ntmps119
  go_wp2_with (first
    | (refine wpList_box_rc (s := s) (I := _) (T := _) _ rfl _ rfl rfl ?_; intro w0 b0 N0)
    | (refine wpList_new_wr _ rfl rfl ?_; intro w1 b1 N1; have H := LdS.start N0 N1; have hb1 : w.heap.size ≤ b1 := (Nat.le_trans N0.below.size (Nat.le_of_eq N1.eq.symm)); clear N0 N1; have k0 := H.rc.c0; have k1 := H.rc.c1; have k2 := H.rc.c2)
    | (go_at_call 147; refine (H.num (by omega) _ _).mono ?_; clear H; rintro e w3 ⟨rfl, H⟩; have k0 := H.rc.c0; have k1 := H.rc.c1; have k2 := H.rc.c2)
    | (go_at_call 149; refine (H.places2 (by omega) _ _).mono ?_; clear H; rintro e w3 ⟨rfl, H⟩; have k0 := H.rc.c0; have k1 := H.rc.c1; have k2 := H.rc.c2)
    | (refine wpList_load_rc _ rfl _ rfl rfl H.rc ?_)
    | (go_at_call 150; refine (H.change (by omega) hy ho hw).mono ?_; clear H; rintro e w3 ⟨rfl, H⟩)
    | (go_at_call 152; refine (H.all (by omega) hb1 (((bare0.stepW _ _).layP _).layC _)).mono ?_; rintro e w9 ⟨rfl, b9⟩))
  go_ret2
  exact ⟨rfl, b9⟩
set_option maxHeartbeats 1000000 in
theorem laid_6 (hk : s.kd = 6) (hy : s.ky.size ≤ 1000) (ho : s.ol.size ≤ 1000) (hw : s.nw.size ≤ 1000) : Calls Tryz.prog 119 #[.agg (s.A I T)] w fun r w' => r = .returned (.tuple #[.string (layC s (stepW (layP [s.tx, s.pv, s.nx] (stepW (⟨#[]⟩, 0) s.kd 1)) s.ac 1)).1, .int .i64 (layC s (stepW (layP [s.tx, s.pv, s.nx] (stepW (⟨#[]⟩, 0) s.kd 1)) s.ac 1)).2]) ∧ Below w.heap.size w w' := by
  have e1 : (s.kd == 1) = false := by rw [hk]; rfl
  have e2 : (s.kd == 2) = false := by rw [hk]; rfl
  have e3 : (s.kd == 3) = false := by rw [hk]; rfl
  have e4 : (s.kd == 4) = false := by rw [hk]; rfl
  have e5 : (s.kd == 5) = false := by rw [hk]; rfl
  have e6 : (s.kd == 6) = true := by rw [hk]; rfl
  clear hk
  go_enter Tryz.func119, Tryz.ntmps119
  go_wp2_with (first
    | (refine wpList_box_rc (s := s) (I := _) (T := _) _ rfl _ rfl rfl ?_; intro w0 b0 N0)
    | (refine wpList_new_wr _ rfl rfl ?_; intro w1 b1 N1; have H := LdS.start N0 N1; have hb1 : w.heap.size ≤ b1 := (Nat.le_trans N0.below.size (Nat.le_of_eq N1.eq.symm)); clear N0 N1; have k0 := H.rc.c0; have k1 := H.rc.c1; have k2 := H.rc.c2; have k8 := H.rc.c8; have k4 := H.rc.c4)
    | (go_at_call 147; refine (H.num (by omega) _ _).mono ?_; clear H; rintro e w3 ⟨rfl, H⟩; have k0 := H.rc.c0; have k1 := H.rc.c1; have k2 := H.rc.c2; have k8 := H.rc.c8; have k4 := H.rc.c4)
    | (go_at_call 149; refine (H.places3 (by omega) _ _ _).mono ?_; clear H; rintro e w3 ⟨rfl, H⟩; have k0 := H.rc.c0; have k1 := H.rc.c1; have k2 := H.rc.c2; have k8 := H.rc.c8; have k4 := H.rc.c4)
    | (refine wpList_load_rc _ rfl _ rfl rfl H.rc ?_)
    | (go_at_call 150; refine (H.change (by omega) hy ho hw).mono ?_; clear H; rintro e w3 ⟨rfl, H⟩)
    | (go_at_call 152; refine (H.all (by omega) hb1 ((((bare0.stepW _ _).layP _).stepW _ _).layC _)).mono ?_; rintro e w9 ⟨rfl, b9⟩))
  go_ret2
  exact ⟨rfl, b9⟩
set_option maxHeartbeats 1000000 in
theorem laid_7 (hk : s.kd = 7)  : Calls Tryz.prog 119 #[.agg (s.A I T)] w fun r w' => r = .returned (.tuple #[.string (layP [s.tx, s.pv] (stepW (⟨#[]⟩, 0) s.kd 1)).1, .int .i64 (layP [s.tx, s.pv] (stepW (⟨#[]⟩, 0) s.kd 1)).2]) ∧ Below w.heap.size w w' := by
  have e1 : (s.kd == 1) = false := by rw [hk]; rfl
  have e2 : (s.kd == 2) = false := by rw [hk]; rfl
  have e3 : (s.kd == 3) = false := by rw [hk]; rfl
  have e4 : (s.kd == 4) = false := by rw [hk]; rfl
  have e5 : (s.kd == 5) = false := by rw [hk]; rfl
  have e6 : (s.kd == 6) = false := by rw [hk]; rfl
  have e7 : (s.kd == 7) = true := by rw [hk]; rfl
  clear hk
  go_enter Tryz.func119, Tryz.ntmps119
  go_wp2_with (first
    | (refine wpList_box_rc (s := s) (I := _) (T := _) _ rfl _ rfl rfl ?_; intro w0 b0 N0)
    | (refine wpList_new_wr _ rfl rfl ?_; intro w1 b1 N1; have H := LdS.start N0 N1; have hb1 : w.heap.size ≤ b1 := (Nat.le_trans N0.below.size (Nat.le_of_eq N1.eq.symm)); clear N0 N1; have k0 := H.rc.c0; have k1 := H.rc.c1; have k2 := H.rc.c2)
    | (go_at_call 147; refine (H.num (by omega) _ _).mono ?_; clear H; rintro e w3 ⟨rfl, H⟩; have k0 := H.rc.c0; have k1 := H.rc.c1; have k2 := H.rc.c2)
    | (go_at_call 149; refine (H.places2 (by omega) _ _).mono ?_; clear H; rintro e w3 ⟨rfl, H⟩; have k0 := H.rc.c0; have k1 := H.rc.c1; have k2 := H.rc.c2)
    | (go_at_call 152; refine (H.all (by omega) hb1 ((bare0.stepW _ _).layP _)).mono ?_; rintro e w9 ⟨rfl, b9⟩))
  go_ret2
  exact ⟨rfl, b9⟩
set_option maxHeartbeats 1000000 in
theorem laid_8 (hk : s.kd = 8)  : Calls Tryz.prog 119 #[.agg (s.A I T)] w fun r w' => r = .returned (.tuple #[.string (layP [s.tx, s.pv] (stepW (⟨#[]⟩, 0) s.kd 1)).1, .int .i64 (layP [s.tx, s.pv] (stepW (⟨#[]⟩, 0) s.kd 1)).2]) ∧ Below w.heap.size w w' := by
  have e1 : (s.kd == 1) = false := by rw [hk]; rfl
  have e2 : (s.kd == 2) = false := by rw [hk]; rfl
  have e3 : (s.kd == 3) = false := by rw [hk]; rfl
  have e4 : (s.kd == 4) = false := by rw [hk]; rfl
  have e5 : (s.kd == 5) = false := by rw [hk]; rfl
  have e6 : (s.kd == 6) = false := by rw [hk]; rfl
  have e7 : (s.kd == 7) = false := by rw [hk]; rfl
  have e8 : (s.kd == 8) = true := by rw [hk]; rfl
  clear hk
  go_enter Tryz.func119, Tryz.ntmps119
  go_wp2_with (first
    | (refine wpList_box_rc (s := s) (I := _) (T := _) _ rfl _ rfl rfl ?_; intro w0 b0 N0)
    | (refine wpList_new_wr _ rfl rfl ?_; intro w1 b1 N1; have H := LdS.start N0 N1; have hb1 : w.heap.size ≤ b1 := (Nat.le_trans N0.below.size (Nat.le_of_eq N1.eq.symm)); clear N0 N1; have k0 := H.rc.c0; have k1 := H.rc.c1; have k2 := H.rc.c2)
    | (go_at_call 147; refine (H.num (by omega) _ _).mono ?_; clear H; rintro e w3 ⟨rfl, H⟩; have k0 := H.rc.c0; have k1 := H.rc.c1; have k2 := H.rc.c2)
    | (go_at_call 149; refine (H.places2 (by omega) _ _).mono ?_; clear H; rintro e w3 ⟨rfl, H⟩; have k0 := H.rc.c0; have k1 := H.rc.c1; have k2 := H.rc.c2)
    | (go_at_call 152; refine (H.all (by omega) hb1 ((bare0.stepW _ _).layP _)).mono ?_; rintro e w9 ⟨rfl, b9⟩))
  go_ret2
  exact ⟨rfl, b9⟩
set_option maxHeartbeats 1000000 in
theorem laid_9 (hk : s.kd = 9) {a : Option Addr} {c : Nat} {l : List Tb} (hn : l.length ≤ 1000) (hcs : Cs w a (encT l)) : Calls Tryz.prog 119 #[.agg (s.A I (.slice a l.length c))] w fun r w' => r = .returned (.tuple #[.string (layB l (stepW (stepW (⟨#[]⟩, 0) s.kd 1) l.length 1)).1, .int .i64 (layB l (stepW (stepW (⟨#[]⟩, 0) s.kd 1) l.length 1)).2]) ∧ Below w.heap.size w w' := by
  have e1 : (s.kd == 1) = false := by rw [hk]; rfl
  have e2 : (s.kd == 2) = false := by rw [hk]; rfl
  have e3 : (s.kd == 3) = false := by rw [hk]; rfl
  have e4 : (s.kd == 4) = false := by rw [hk]; rfl
  have e5 : (s.kd == 5) = false := by rw [hk]; rfl
  have e6 : (s.kd == 6) = false := by rw [hk]; rfl
  have e7 : (s.kd == 7) = false := by rw [hk]; rfl
  have e8 : (s.kd == 8) = false := by rw [hk]; rfl
  have e9 : (s.kd == 9) = true := by rw [hk]; rfl
  clear hk
  go_enter Tryz.func119, Tryz.ntmps119
  go_wp2_with (first
    | (refine wpList_box_rc (s := s) (I := _) (T := _) _ rfl _ rfl rfl ?_; intro w0 b0 N0)
    | (refine wpList_new_wr _ rfl rfl ?_; intro w1 b1 N1; have H := LdS.start N0 N1; have hb1 : w.heap.size ≤ b1 := (Nat.le_trans N0.below.size (Nat.le_of_eq N1.eq.symm)); clear N0 N1; have k0 := H.rc.c0; have k10 := H.rc.c10)
    | (go_at_call 147; refine (H.num (by omega) _ _).mono ?_; clear H; rintro e w3 ⟨rfl, H⟩; have k0 := H.rc.c0; have k10 := H.rc.c10)
    | (go_at_call 151; refine (H.table (by omega) hn hcs hb1).mono ?_; clear H; rintro e w3 ⟨rfl, H⟩)
    | (go_at_call 152; refine (H.all (by omega) hb1 (((bare0.stepW _ _).stepW _ _).layB _)).mono ?_; rintro e w9 ⟨rfl, b9⟩))
  go_ret2
  exact ⟨rfl, b9⟩
set_option maxHeartbeats 1000000 in
theorem laid_10 (hk : s.kd = 10)  : Calls Tryz.prog 119 #[.agg (s.A I T)] w fun r w' => r = .returned (.tuple #[.string (stepW (stepW (stepW (⟨#[]⟩, 0) s.kd 1) s.ep 4) s.nd 1).1, .int .i64 (stepW (stepW (stepW (⟨#[]⟩, 0) s.kd 1) s.ep 4) s.nd 1).2]) ∧ Below w.heap.size w w' := by
  have e1 : (s.kd == 1) = false := by rw [hk]; rfl
  have e2 : (s.kd == 2) = false := by rw [hk]; rfl
  have e3 : (s.kd == 3) = false := by rw [hk]; rfl
  have e4 : (s.kd == 4) = false := by rw [hk]; rfl
  have e5 : (s.kd == 5) = false := by rw [hk]; rfl
  have e6 : (s.kd == 6) = false := by rw [hk]; rfl
  have e7 : (s.kd == 7) = false := by rw [hk]; rfl
  have e8 : (s.kd == 8) = false := by rw [hk]; rfl
  have e9 : (s.kd == 9) = false := by rw [hk]; rfl
  have e10 : (s.kd == 10) = true := by rw [hk]; rfl
  clear hk
  go_enter Tryz.func119, Tryz.ntmps119
  go_wp2_with (first
    | (refine wpList_box_rc (s := s) (I := _) (T := _) _ rfl _ rfl rfl ?_; intro w0 b0 N0)
    | (refine wpList_new_wr _ rfl rfl ?_; intro w1 b1 N1; have H := LdS.start N0 N1; have hb1 : w.heap.size ≤ b1 := (Nat.le_trans N0.below.size (Nat.le_of_eq N1.eq.symm)); clear N0 N1; have k0 := H.rc.c0; have k11 := H.rc.c11; have k12 := H.rc.c12)
    | (go_at_call 147; refine (H.num (by omega) _ _).mono ?_; clear H; rintro e w3 ⟨rfl, H⟩; have k0 := H.rc.c0; have k11 := H.rc.c11; have k12 := H.rc.c12)
    | (go_at_call 152; refine (H.all (by omega) hb1 (((bare0.stepW _ _).stepW _ _).stepW _ _)).mono ?_; rintro e w9 ⟨rfl, b9⟩))
  go_ret2
  exact ⟨rfl, b9⟩
end
end Go.Proofs.YtgodjnbbocnckaaGreat

namespace Go.Proofs.YtgodjnbbocnckaaGreat
open Go.RowKit
set_option linter.unusedVariables false
set_option linter.unusedSimpArgs false
set_option maxRecDepth 100000

def kS (k : Int) : Sc := {zS with kd := k}
/-- The parameter, the result and the record that is made, in three blocks. -/
structure Cl3 (w wr : World) (b0 b1 b2 : Nat) (s : Sc) (I T : Value) (c : Sc) (J U : Value) : Prop where
  p : RcAt wr b0 s I T
  r : RcAt wr b1 zS nilV nilV
  c : RcAt wr b2 c J U
  bel : Below w.heap.size w wr
  n02 : b0 ≠ b2
  n12 : b1 ≠ b2
  l1 : w.heap.size ≤ b1
  l2 : w.heap.size ≤ b2
section
variable {w wr wq : World} {b0 b1 b2 : Nat} {s c c' : Sc} {I T J U J' U' : Value}
theorem Cl3.mk' {w0 w1 w2 w3 : World} (N0 : NewR w w0 b0 s I T) (N1 : NewR w0 w1 b1 zS nilV nilV) (N2 : NewR w1 w2 b2 zS nilV nilV) (P : PutR w2 w3 b2 c J U) : Cl3 w w3 b0 b1 b2 s I T c J U := by
  have e0 := N0.eq
  have e1 := N1.eq
  have e2 := N2.eq
  have z0 := N0.rc.lt
  have z1 := N1.rc.lt
  have z2 := N0.below.size
  have z3 := N1.below.size
  have z4 := N2.below.size
  refine ⟨((N0.rc.below N1.below).below N2.below).off P.off (by omega), (N1.rc.below N2.below).off P.off (by omega), P.rc, (thn (thn N0.below N1.below) N2.below).trans (P.below (by omega) (by omega)), by omega, by omega, by omega, by omega⟩
theorem Cl3.put (h : Cl3 w wr b0 b1 b2 s I T c J U) (hr : RcAt wq b2 c' J' U') (o : Pk.Off b2 wr wq) : Cl3 w wq b0 b1 b2 s I T c' J' U' :=
  ⟨h.p.off o h.n02, h.r.off o h.n12, hr, h.bel.trans (o.below h.l2 h.bel.size), h.n02, h.n12, h.l1, h.l2⟩
theorem Cl3.set (h : Cl3 w wr b0 b1 b2 s I T c J U) {k : Nat} {v : Value} (e : (c.A J U).setIfInBounds k v = c'.A J' U') : Cl3 w (wr.setCell ⟨b2, k, none⟩ v) b0 b1 b2 s I T c' J' U' :=
  h.put (h.c.set e) ((Pk.Off.refl _ _).setCell _ _)
theorem Cl3.below (h : Cl3 w wr b0 b1 b2 s I T c J U) (hb : Below wr.heap.size wr wq) : Cl3 w wq b0 b1 b2 s I T c J U :=
  ⟨h.p.below hb, h.r.below hb, h.c.below hb, thn h.bel hb, h.n02, h.n12, h.l1, h.l2⟩
theorem Cl3.ret (h : Cl3 w wr b0 b1 b2 s I T c J U) (P : PutR wr wq b1 c J U) : RcAt wq b1 c J U ∧ Below w.heap.size w wq := ⟨P.rc, h.bel.trans (P.below h.l1 h.bel.size)⟩
end
section
variable {w : World} {v : Value} {s : Sc} {I T : Value}
set_option maxHeartbeats 1000000 in
theorem clean_7 (hk : s.kd = 7) : Calls Tryz.prog 97 #[.agg (s.A I T)] w fun e w' => e = .returned (.agg (({kS s.kd with tx := s.tx, pv := s.pv} : Sc).A nilV nilV)) ∧ Below w.heap.size w w' := by
  have e1 : (s.kd == 1) = false := by rw [hk]; rfl
  have e2 : (s.kd == 2) = false := by rw [hk]; rfl
  have e3 : (s.kd == 3) = false := by rw [hk]; rfl
  have e4 : (s.kd == 4) = false := by rw [hk]; rfl
  have e5 : (s.kd == 5) = false := by rw [hk]; rfl
  have e6 : (s.kd == 6) = false := by rw [hk]; rfl
  have e7 : (s.kd == 7) = true := by rw [hk]; rfl
  clear hk
  go_enter Tryz.func97, Tryz.ntmps97
  go_wp2_with (first
    | (refine wpList_box_rc (s := s) (I := _) (T := _) _ rfl _ rfl rfl ?_; intro w0 b0 N0)
    | (have := N1; refine wpList_new_rc _ rfl rfl ?_; intro w2 b2 N2; have k00 := ((N0.rc.below N1.below).below N2.below).c0)
    | (refine wpList_new_rc _ rfl rfl ?_; intro w1 b1 N1; have k00 := (N0.rc.below N1.below).c0)
    | (refine wpList_at (Op.store 51 (.tmp 3) (.tmp 6)) rfl ?_; refine wpList_put_rc (s' := kS s.kd) (I' := nilV) (T' := nilV) _ rfl (.tmp 3) (.tmp 6) rfl rfl rfl N2.rc rfl rfl ?_; intro w3 P3; have H := Cl3.mk' N0 N1 N2 P3; clear N0 N1 N2 P3 k00; have k00 := H.p.c0; have q0 := H.c.f; have p1 := H.p.c1; have c1 := H.c.c1; have p2 := H.p.c2; have c2 := H.c.c2)
    | (refine wpList_at (Op.store 3 (.tmp 51) (.tmp 48)) rfl ?_; refine wpList_fput (s' := {kS s.kd with tx := s.tx}) (I' := nilV) (T' := nilV) _ rfl 3 (.tmp 51) (.tmp 48) rfl rfl rfl H.c (by omega) rfl (by kernel_rfl) rfl ?_; intro w4 P4; have H4 := H.put P4.rc P4.off; clear H; have H := H4; clear H4 P4)
    | (refine wpList_at (Op.store 3 (.tmp 52) (.tmp 50)) rfl ?_; refine wpList_fput (s' := {kS s.kd with tx := s.tx, pv := s.pv}) (I' := nilV) (T' := nilV) _ rfl 3 (.tmp 52) (.tmp 50) rfl rfl rfl H.c (by omega) rfl (by kernel_rfl) rfl ?_; intro w4 P4; have H4 := H.put P4.rc P4.off; clear H; have H := H4; clear H4 P4)
    | (refine wpList_load_rc _ rfl (.tmp 3) rfl rfl H.c ?_)
    | (refine wpList_at (Op.store 51 (.tmp 2) (.tmp 69)) rfl ?_; refine wpList_put_rc (s' := {kS s.kd with tx := s.tx, pv := s.pv}) (I' := nilV) (T' := nilV) _ rfl (.tmp 2) (.tmp 69) rfl rfl rfl H.r rfl rfl ?_; intro w9 P9))
  obtain ⟨g1, g2⟩ := H.ret P9
  refine bodyPost_ret (results_rc1 rfl _ _ rfl g1) rfl ?_
  exact ⟨rfl, g2⟩
set_option maxHeartbeats 1000000 in
theorem clean_8 (hk : s.kd = 8) : Calls Tryz.prog 97 #[.agg (s.A I T)] w fun e w' => e = .returned (.agg (({kS s.kd with tx := s.tx, pv := s.pv} : Sc).A nilV nilV)) ∧ Below w.heap.size w w' := by
  have e1 : (s.kd == 1) = false := by rw [hk]; rfl
  have e2 : (s.kd == 2) = false := by rw [hk]; rfl
  have e3 : (s.kd == 3) = false := by rw [hk]; rfl
  have e4 : (s.kd == 4) = false := by rw [hk]; rfl
  have e5 : (s.kd == 5) = false := by rw [hk]; rfl
  have e6 : (s.kd == 6) = false := by rw [hk]; rfl
  have e7 : (s.kd == 7) = false := by rw [hk]; rfl
  have e8 : (s.kd == 8) = true := by rw [hk]; rfl
  clear hk
  go_enter Tryz.func97, Tryz.ntmps97
  go_wp2_with (first
    | (refine wpList_box_rc (s := s) (I := _) (T := _) _ rfl _ rfl rfl ?_; intro w0 b0 N0)
    | (have := N1; refine wpList_new_rc _ rfl rfl ?_; intro w2 b2 N2; have k00 := ((N0.rc.below N1.below).below N2.below).c0)
    | (refine wpList_new_rc _ rfl rfl ?_; intro w1 b1 N1; have k00 := (N0.rc.below N1.below).c0)
    | (refine wpList_at (Op.store 51 (.tmp 3) (.tmp 6)) rfl ?_; refine wpList_put_rc (s' := kS s.kd) (I' := nilV) (T' := nilV) _ rfl (.tmp 3) (.tmp 6) rfl rfl rfl N2.rc rfl rfl ?_; intro w3 P3; have H := Cl3.mk' N0 N1 N2 P3; clear N0 N1 N2 P3 k00; have k00 := H.p.c0; have q0 := H.c.f; have p1 := H.p.c1; have c1 := H.c.c1; have p2 := H.p.c2; have c2 := H.c.c2)
    | (refine wpList_at (Op.store 3 (.tmp 51) (.tmp 48)) rfl ?_; refine wpList_fput (s' := {kS s.kd with tx := s.tx}) (I' := nilV) (T' := nilV) _ rfl 3 (.tmp 51) (.tmp 48) rfl rfl rfl H.c (by omega) rfl (by kernel_rfl) rfl ?_; intro w4 P4; have H4 := H.put P4.rc P4.off; clear H; have H := H4; clear H4 P4)
    | (refine wpList_at (Op.store 3 (.tmp 52) (.tmp 50)) rfl ?_; refine wpList_fput (s' := {kS s.kd with tx := s.tx, pv := s.pv}) (I' := nilV) (T' := nilV) _ rfl 3 (.tmp 52) (.tmp 50) rfl rfl rfl H.c (by omega) rfl (by kernel_rfl) rfl ?_; intro w4 P4; have H4 := H.put P4.rc P4.off; clear H; have H := H4; clear H4 P4)
    | (refine wpList_load_rc _ rfl (.tmp 3) rfl rfl H.c ?_)
    | (refine wpList_at (Op.store 51 (.tmp 2) (.tmp 69)) rfl ?_; refine wpList_put_rc (s' := {kS s.kd with tx := s.tx, pv := s.pv}) (I' := nilV) (T' := nilV) _ rfl (.tmp 2) (.tmp 69) rfl rfl rfl H.r rfl rfl ?_; intro w9 P9))
  obtain ⟨g1, g2⟩ := H.ret P9
  refine bodyPost_ret (results_rc1 rfl _ _ rfl g1) rfl ?_
  exact ⟨rfl, g2⟩
set_option maxHeartbeats 1000000 in
theorem clean_10 (hk : s.kd = 10) : Calls Tryz.prog 97 #[.agg (s.A I T)] w fun e w' => e = .returned (.agg (({kS s.kd with ep := s.ep, nd := s.nd} : Sc).A nilV nilV)) ∧ Below w.heap.size w w' := by
  have e1 : (s.kd == 1) = false := by rw [hk]; rfl
  have e2 : (s.kd == 2) = false := by rw [hk]; rfl
  have e3 : (s.kd == 3) = false := by rw [hk]; rfl
  have e4 : (s.kd == 4) = false := by rw [hk]; rfl
  have e5 : (s.kd == 5) = false := by rw [hk]; rfl
  have e6 : (s.kd == 6) = false := by rw [hk]; rfl
  have e7 : (s.kd == 7) = false := by rw [hk]; rfl
  have e8 : (s.kd == 8) = false := by rw [hk]; rfl
  have e9 : (s.kd == 9) = false := by rw [hk]; rfl
  have e10 : (s.kd == 10) = true := by rw [hk]; rfl
  clear hk
  go_enter Tryz.func97, Tryz.ntmps97
  go_wp2_with (first
    | (refine wpList_box_rc (s := s) (I := _) (T := _) _ rfl _ rfl rfl ?_; intro w0 b0 N0)
    | (have := N1; refine wpList_new_rc _ rfl rfl ?_; intro w2 b2 N2; have k00 := ((N0.rc.below N1.below).below N2.below).c0)
    | (refine wpList_new_rc _ rfl rfl ?_; intro w1 b1 N1; have k00 := (N0.rc.below N1.below).c0)
    | (refine wpList_at (Op.store 51 (.tmp 3) (.tmp 6)) rfl ?_; refine wpList_put_rc (s' := kS s.kd) (I' := nilV) (T' := nilV) _ rfl (.tmp 3) (.tmp 6) rfl rfl rfl N2.rc rfl rfl ?_; intro w3 P3; have H := Cl3.mk' N0 N1 N2 P3; clear N0 N1 N2 P3 k00; have k00 := H.p.c0; have q0 := H.c.f; have p11 := H.p.c11; have c11 := H.c.c11; have p12 := H.p.c12; have c12 := H.c.c12)
    | (refine wpList_at (Op.store 3 (.tmp 67) (.tmp 64)) rfl ?_; refine wpList_fput (s' := {kS s.kd with ep := s.ep}) (I' := nilV) (T' := nilV) _ rfl 3 (.tmp 67) (.tmp 64) rfl rfl rfl H.c (by omega) rfl (by kernel_rfl) rfl ?_; intro w4 P4; have H4 := H.put P4.rc P4.off; clear H; have H := H4; clear H4 P4)
    | (refine wpList_at (Op.store 3 (.tmp 68) (.tmp 66)) rfl ?_; refine wpList_fput (s' := {kS s.kd with ep := s.ep, nd := s.nd}) (I' := nilV) (T' := nilV) _ rfl 3 (.tmp 68) (.tmp 66) rfl rfl rfl H.c (by omega) rfl (by kernel_rfl) rfl ?_; intro w4 P4; have H4 := H.put P4.rc P4.off; clear H; have H := H4; clear H4 P4)
    | (refine wpList_load_rc _ rfl (.tmp 3) rfl rfl H.c ?_)
    | (refine wpList_at (Op.store 51 (.tmp 2) (.tmp 69)) rfl ?_; refine wpList_put_rc (s' := {kS s.kd with ep := s.ep, nd := s.nd}) (I' := nilV) (T' := nilV) _ rfl (.tmp 2) (.tmp 69) rfl rfl rfl H.r rfl rfl ?_; intro w9 P9))
  obtain ⟨g1, g2⟩ := H.ret P9
  refine bodyPost_ret (results_rc1 rfl _ _ rfl g1) rfl ?_
  exact ⟨rfl, g2⟩
set_option maxHeartbeats 1000000 in
theorem clean_o (h1 : s.kd ≠ 1) (h2 : s.kd ≠ 2) (h3 : s.kd ≠ 3) (h4 : s.kd ≠ 4) (h5 : s.kd ≠ 5) (h6 : s.kd ≠ 6) (h7 : s.kd ≠ 7) (h8 : s.kd ≠ 8) (h9 : s.kd ≠ 9) (h10 : s.kd ≠ 10) : Calls Tryz.prog 97 #[.agg (s.A I T)] w fun e w' => e = .returned (.agg ((kS s.kd : Sc).A nilV nilV)) ∧ Below w.heap.size w w' := by
  have e1 : (s.kd == 1) = false := by simpa using h1
  have e2 : (s.kd == 2) = false := by simpa using h2
  have e3 : (s.kd == 3) = false := by simpa using h3
  have e4 : (s.kd == 4) = false := by simpa using h4
  have e5 : (s.kd == 5) = false := by simpa using h5
  have e6 : (s.kd == 6) = false := by simpa using h6
  have e7 : (s.kd == 7) = false := by simpa using h7
  have e8 : (s.kd == 8) = false := by simpa using h8
  have e9 : (s.kd == 9) = false := by simpa using h9
  have e10 : (s.kd == 10) = false := by simpa using h10
  clear h1 h2 h3 h4 h5 h6 h7 h8 h9 h10
  go_enter Tryz.func97, Tryz.ntmps97
  go_wp2_with (first
    | (refine wpList_box_rc (s := s) (I := _) (T := _) _ rfl _ rfl rfl ?_; intro w0 b0 N0)
    | (have := N1; refine wpList_new_rc _ rfl rfl ?_; intro w2 b2 N2; have k00 := ((N0.rc.below N1.below).below N2.below).c0)
    | (refine wpList_new_rc _ rfl rfl ?_; intro w1 b1 N1; have k00 := (N0.rc.below N1.below).c0)
    | (refine wpList_at (Op.store 51 (.tmp 3) (.tmp 6)) rfl ?_; refine wpList_put_rc (s' := kS s.kd) (I' := nilV) (T' := nilV) _ rfl (.tmp 3) (.tmp 6) rfl rfl rfl N2.rc rfl rfl ?_; intro w3 P3; have H := Cl3.mk' N0 N1 N2 P3; clear N0 N1 N2 P3 k00; have k00 := H.p.c0)
    | (refine wpList_load_rc _ rfl (.tmp 3) rfl rfl H.c ?_)
    | (refine wpList_at (Op.store 51 (.tmp 2) (.tmp 69)) rfl ?_; refine wpList_put_rc (s' := kS s.kd) (I' := nilV) (T' := nilV) _ rfl (.tmp 2) (.tmp 69) rfl rfl rfl H.r rfl rfl ?_; intro w9 P9))
  obtain ⟨g1, g2⟩ := H.ret P9
  refine bodyPost_ret (results_rc1 rfl _ _ rfl g1) rfl ?_
  exact ⟨rfl, g2⟩
set_option maxHeartbeats 1000000 in
theorem clean_3 (hk : s.kd = 3) : Calls Tryz.prog 97 #[.agg (s.A I T)] w fun e w' => e = .returned (.agg ((copyS {kS s.kd with tx := s.tx, pv := s.pv} s : Sc).A nilV nilV)) ∧ Below w.heap.size w w' := by
  have e1 : (s.kd == 1) = false := by rw [hk]; rfl
  have e2 : (s.kd == 2) = false := by rw [hk]; rfl
  have e3 : (s.kd == 3) = true := by rw [hk]; rfl
  have ha : actOf s = actOf {kS s.kd with tx := s.tx, pv := s.pv} := by simp [actOf, kS, hk]
  clear hk
  go_enter Tryz.func97, Tryz.ntmps97
  go_wp2_with (first
    | (refine wpList_box_rc (s := s) (I := _) (T := _) _ rfl _ rfl rfl ?_; intro w0 b0 N0)
    | (have := N1; refine wpList_new_rc _ rfl rfl ?_; intro w2 b2 N2; have k00 := ((N0.rc.below N1.below).below N2.below).c0)
    | (refine wpList_new_rc _ rfl rfl ?_; intro w1 b1 N1; have k00 := (N0.rc.below N1.below).c0)
    | (refine wpList_at (Op.store 51 (.tmp 3) (.tmp 6)) rfl ?_; refine wpList_put_rc (s' := kS s.kd) (I' := nilV) (T' := nilV) _ rfl (.tmp 3) (.tmp 6) rfl rfl rfl N2.rc rfl rfl ?_; intro w3 P3; have H := Cl3.mk' N0 N1 N2 P3; clear N0 N1 N2 P3 k00; have k00 := H.p.c0; have q0 := H.c.f; have p1 := H.p.c1; have c1 := H.c.c1; have p2 := H.p.c2; have c2 := H.c.c2)
    | (refine wpList_at (Op.store 3 (.tmp 26) (.tmp 23)) rfl ?_; refine wpList_fput (s' := {kS s.kd with tx := s.tx}) (I' := nilV) (T' := nilV) _ rfl 3 (.tmp 26) (.tmp 23) rfl rfl rfl H.c (by omega) rfl (by kernel_rfl) rfl ?_; intro w4 P4; have H4 := H.put P4.rc P4.off; clear H; have H := H4; clear H4 P4)
    | (refine wpList_at (Op.store 3 (.tmp 27) (.tmp 25)) rfl ?_; refine wpList_fput (s' := {kS s.kd with tx := s.tx, pv := s.pv}) (I' := nilV) (T' := nilV) _ rfl 3 (.tmp 27) (.tmp 25) rfl rfl rfl H.c (by omega) rfl (by kernel_rfl) rfl ?_; intro w4 P4; have H4 := H.put P4.rc P4.off; clear H; have H := H4; clear H4 P4)
    | (go_at_call 120; refine (copy_any H.c H.p (fun e => H.n02 e.symm) ha).mono ?_; rintro e w5 ⟨rfl, r5, o5⟩; have H5 := H.put r5 o5; clear H; have H := H5; clear H5 r5 o5)
    | (refine wpList_load_rc _ rfl (.tmp 3) rfl rfl H.c ?_)
    | (refine wpList_at (Op.store 51 (.tmp 2) (.tmp 69)) rfl ?_; refine wpList_put_rc (s' := copyS {kS s.kd with tx := s.tx, pv := s.pv} s) (I' := nilV) (T' := nilV) _ rfl (.tmp 2) (.tmp 69) rfl rfl rfl H.r rfl rfl ?_; intro w9 P9))
  obtain ⟨g1, g2⟩ := H.ret P9
  refine bodyPost_ret (results_rc1 rfl _ _ rfl g1) rfl ?_
  exact ⟨rfl, g2⟩
set_option maxHeartbeats 1000000 in
theorem clean_4 (hk : s.kd = 4) : Calls Tryz.prog 97 #[.agg (s.A I T)] w fun e w' => e = .returned (.agg ((copyS {kS s.kd with tx := s.tx, pv := s.pv} s : Sc).A nilV nilV)) ∧ Below w.heap.size w w' := by
  have e1 : (s.kd == 1) = false := by rw [hk]; rfl
  have e2 : (s.kd == 2) = false := by rw [hk]; rfl
  have e3 : (s.kd == 3) = false := by rw [hk]; rfl
  have e4 : (s.kd == 4) = true := by rw [hk]; rfl
  have ha : actOf s = actOf {kS s.kd with tx := s.tx, pv := s.pv} := by simp [actOf, kS, hk]
  clear hk
  go_enter Tryz.func97, Tryz.ntmps97
  go_wp2_with (first
    | (refine wpList_box_rc (s := s) (I := _) (T := _) _ rfl _ rfl rfl ?_; intro w0 b0 N0)
    | (have := N1; refine wpList_new_rc _ rfl rfl ?_; intro w2 b2 N2; have k00 := ((N0.rc.below N1.below).below N2.below).c0)
    | (refine wpList_new_rc _ rfl rfl ?_; intro w1 b1 N1; have k00 := (N0.rc.below N1.below).c0)
    | (refine wpList_at (Op.store 51 (.tmp 3) (.tmp 6)) rfl ?_; refine wpList_put_rc (s' := kS s.kd) (I' := nilV) (T' := nilV) _ rfl (.tmp 3) (.tmp 6) rfl rfl rfl N2.rc rfl rfl ?_; intro w3 P3; have H := Cl3.mk' N0 N1 N2 P3; clear N0 N1 N2 P3 k00; have k00 := H.p.c0; have q0 := H.c.f; have p1 := H.p.c1; have c1 := H.c.c1; have p2 := H.p.c2; have c2 := H.c.c2)
    | (refine wpList_at (Op.store 3 (.tmp 26) (.tmp 23)) rfl ?_; refine wpList_fput (s' := {kS s.kd with tx := s.tx}) (I' := nilV) (T' := nilV) _ rfl 3 (.tmp 26) (.tmp 23) rfl rfl rfl H.c (by omega) rfl (by kernel_rfl) rfl ?_; intro w4 P4; have H4 := H.put P4.rc P4.off; clear H; have H := H4; clear H4 P4)
    | (refine wpList_at (Op.store 3 (.tmp 27) (.tmp 25)) rfl ?_; refine wpList_fput (s' := {kS s.kd with tx := s.tx, pv := s.pv}) (I' := nilV) (T' := nilV) _ rfl 3 (.tmp 27) (.tmp 25) rfl rfl rfl H.c (by omega) rfl (by kernel_rfl) rfl ?_; intro w4 P4; have H4 := H.put P4.rc P4.off; clear H; have H := H4; clear H4 P4)
    | (go_at_call 120; refine (copy_any H.c H.p (fun e => H.n02 e.symm) ha).mono ?_; rintro e w5 ⟨rfl, r5, o5⟩; have H5 := H.put r5 o5; clear H; have H := H5; clear H5 r5 o5)
    | (refine wpList_load_rc _ rfl (.tmp 3) rfl rfl H.c ?_)
    | (refine wpList_at (Op.store 51 (.tmp 2) (.tmp 69)) rfl ?_; refine wpList_put_rc (s' := copyS {kS s.kd with tx := s.tx, pv := s.pv} s) (I' := nilV) (T' := nilV) _ rfl (.tmp 2) (.tmp 69) rfl rfl rfl H.r rfl rfl ?_; intro w9 P9))
  obtain ⟨g1, g2⟩ := H.ret P9
  refine bodyPost_ret (results_rc1 rfl _ _ rfl g1) rfl ?_
  exact ⟨rfl, g2⟩
set_option maxHeartbeats 1000000 in
theorem clean_5 (hk : s.kd = 5) : Calls Tryz.prog 97 #[.agg (s.A I T)] w fun e w' => e = .returned (.agg ((copyS {kS s.kd with tx := s.tx, pv := s.pv} s : Sc).A nilV nilV)) ∧ Below w.heap.size w w' := by
  have e1 : (s.kd == 1) = false := by rw [hk]; rfl
  have e2 : (s.kd == 2) = false := by rw [hk]; rfl
  have e3 : (s.kd == 3) = false := by rw [hk]; rfl
  have e4 : (s.kd == 4) = false := by rw [hk]; rfl
  have e5 : (s.kd == 5) = true := by rw [hk]; rfl
  have ha : actOf s = actOf {kS s.kd with tx := s.tx, pv := s.pv} := by simp [actOf, kS, hk]
  clear hk
  go_enter Tryz.func97, Tryz.ntmps97
  go_wp2_with (first
    | (refine wpList_box_rc (s := s) (I := _) (T := _) _ rfl _ rfl rfl ?_; intro w0 b0 N0)
    | (have := N1; refine wpList_new_rc _ rfl rfl ?_; intro w2 b2 N2; have k00 := ((N0.rc.below N1.below).below N2.below).c0)
    | (refine wpList_new_rc _ rfl rfl ?_; intro w1 b1 N1; have k00 := (N0.rc.below N1.below).c0)
    | (refine wpList_at (Op.store 51 (.tmp 3) (.tmp 6)) rfl ?_; refine wpList_put_rc (s' := kS s.kd) (I' := nilV) (T' := nilV) _ rfl (.tmp 3) (.tmp 6) rfl rfl rfl N2.rc rfl rfl ?_; intro w3 P3; have H := Cl3.mk' N0 N1 N2 P3; clear N0 N1 N2 P3 k00; have k00 := H.p.c0; have q0 := H.c.f; have p1 := H.p.c1; have c1 := H.c.c1; have p2 := H.p.c2; have c2 := H.c.c2)
    | (refine wpList_at (Op.store 3 (.tmp 26) (.tmp 23)) rfl ?_; refine wpList_fput (s' := {kS s.kd with tx := s.tx}) (I' := nilV) (T' := nilV) _ rfl 3 (.tmp 26) (.tmp 23) rfl rfl rfl H.c (by omega) rfl (by kernel_rfl) rfl ?_; intro w4 P4; have H4 := H.put P4.rc P4.off; clear H; have H := H4; clear H4 P4)
    | (refine wpList_at (Op.store 3 (.tmp 27) (.tmp 25)) rfl ?_; refine wpList_fput (s' := {kS s.kd with tx := s.tx, pv := s.pv}) (I' := nilV) (T' := nilV) _ rfl 3 (.tmp 27) (.tmp 25) rfl rfl rfl H.c (by omega) rfl (by kernel_rfl) rfl ?_; intro w4 P4; have H4 := H.put P4.rc P4.off; clear H; have H := H4; clear H4 P4)
    | (go_at_call 120; refine (copy_any H.c H.p (fun e => H.n02 e.symm) ha).mono ?_; rintro e w5 ⟨rfl, r5, o5⟩; have H5 := H.put r5 o5; clear H; have H := H5; clear H5 r5 o5)
    | (refine wpList_load_rc _ rfl (.tmp 3) rfl rfl H.c ?_)
    | (refine wpList_at (Op.store 51 (.tmp 2) (.tmp 69)) rfl ?_; refine wpList_put_rc (s' := copyS {kS s.kd with tx := s.tx, pv := s.pv} s) (I' := nilV) (T' := nilV) _ rfl (.tmp 2) (.tmp 69) rfl rfl rfl H.r rfl rfl ?_; intro w9 P9))
  obtain ⟨g1, g2⟩ := H.ret P9
  refine bodyPost_ret (results_rc1 rfl _ _ rfl g1) rfl ?_
  exact ⟨rfl, g2⟩
set_option maxHeartbeats 1000000 in
theorem clean_6 (hk : s.kd = 6) : Calls Tryz.prog 97 #[.agg (s.A I T)] w fun e w' => e = .returned (.agg ((copyS {kS s.kd with tx := s.tx, pv := s.pv, nx := s.nx, ac := s.ac} s : Sc).A nilV nilV)) ∧ Below w.heap.size w w' := by
  have e1 : (s.kd == 1) = false := by rw [hk]; rfl
  have e2 : (s.kd == 2) = false := by rw [hk]; rfl
  have e3 : (s.kd == 3) = false := by rw [hk]; rfl
  have e4 : (s.kd == 4) = false := by rw [hk]; rfl
  have e5 : (s.kd == 5) = false := by rw [hk]; rfl
  have e6 : (s.kd == 6) = true := by rw [hk]; rfl
  have ha : actOf s = actOf {kS s.kd with tx := s.tx, pv := s.pv, nx := s.nx, ac := s.ac} := by simp [actOf, kS, hk]
  clear hk
  go_enter Tryz.func97, Tryz.ntmps97
  go_wp2_with (first
    | (refine wpList_box_rc (s := s) (I := _) (T := _) _ rfl _ rfl rfl ?_; intro w0 b0 N0)
    | (have := N1; refine wpList_new_rc _ rfl rfl ?_; intro w2 b2 N2; have k00 := ((N0.rc.below N1.below).below N2.below).c0)
    | (refine wpList_new_rc _ rfl rfl ?_; intro w1 b1 N1; have k00 := (N0.rc.below N1.below).c0)
    | (refine wpList_at (Op.store 51 (.tmp 3) (.tmp 6)) rfl ?_; refine wpList_put_rc (s' := kS s.kd) (I' := nilV) (T' := nilV) _ rfl (.tmp 3) (.tmp 6) rfl rfl rfl N2.rc rfl rfl ?_; intro w3 P3; have H := Cl3.mk' N0 N1 N2 P3; clear N0 N1 N2 P3 k00; have k00 := H.p.c0; have q0 := H.c.f; have p1 := H.p.c1; have c1 := H.c.c1; have p2 := H.p.c2; have c2 := H.c.c2; have p4 := H.p.c4; have c4 := H.c.c4; have p8 := H.p.c8; have c8 := H.c.c8)
    | (refine wpList_at (Op.store 3 (.tmp 39) (.tmp 32)) rfl ?_; refine wpList_fput (s' := {kS s.kd with tx := s.tx}) (I' := nilV) (T' := nilV) _ rfl 3 (.tmp 39) (.tmp 32) rfl rfl rfl H.c (by omega) rfl (by kernel_rfl) rfl ?_; intro w4 P4; have H4 := H.put P4.rc P4.off; clear H; have H := H4; clear H4 P4)
    | (refine wpList_at (Op.store 3 (.tmp 40) (.tmp 34)) rfl ?_; refine wpList_fput (s' := {kS s.kd with tx := s.tx, pv := s.pv}) (I' := nilV) (T' := nilV) _ rfl 3 (.tmp 40) (.tmp 34) rfl rfl rfl H.c (by omega) rfl (by kernel_rfl) rfl ?_; intro w4 P4; have H4 := H.put P4.rc P4.off; clear H; have H := H4; clear H4 P4)
    | (refine wpList_at (Op.store 3 (.tmp 41) (.tmp 36)) rfl ?_; refine wpList_fput (s' := {kS s.kd with tx := s.tx, pv := s.pv, nx := s.nx}) (I' := nilV) (T' := nilV) _ rfl 3 (.tmp 41) (.tmp 36) rfl rfl rfl H.c (by omega) rfl (by kernel_rfl) rfl ?_; intro w4 P4; have H4 := H.put P4.rc P4.off; clear H; have H := H4; clear H4 P4)
    | (refine wpList_at (Op.store 3 (.tmp 42) (.tmp 38)) rfl ?_; refine wpList_fput (s' := {kS s.kd with tx := s.tx, pv := s.pv, nx := s.nx, ac := s.ac}) (I' := nilV) (T' := nilV) _ rfl 3 (.tmp 42) (.tmp 38) rfl rfl rfl H.c (by omega) rfl (by kernel_rfl) rfl ?_; intro w4 P4; have H4 := H.put P4.rc P4.off; clear H; have H := H4; clear H4 P4)
    | (go_at_call 120; refine (copy_any H.c H.p (fun e => H.n02 e.symm) ha).mono ?_; rintro e w5 ⟨rfl, r5, o5⟩; have H5 := H.put r5 o5; clear H; have H := H5; clear H5 r5 o5)
    | (refine wpList_load_rc _ rfl (.tmp 3) rfl rfl H.c ?_)
    | (refine wpList_at (Op.store 51 (.tmp 2) (.tmp 69)) rfl ?_; refine wpList_put_rc (s' := copyS {kS s.kd with tx := s.tx, pv := s.pv, nx := s.nx, ac := s.ac} s) (I' := nilV) (T' := nilV) _ rfl (.tmp 2) (.tmp 69) rfl rfl rfl H.r rfl rfl ?_; intro w9 P9))
  obtain ⟨g1, g2⟩ := H.ret P9
  refine bodyPost_ret (results_rc1 rfl _ _ rfl g1) rfl ?_
  exact ⟨rfl, g2⟩
set_option maxHeartbeats 1000000 in
theorem clean_1 {l : List Im} (hk : s.kd = 1) (hI : SlI w I l) (hl : l.length ≤ 1000) : Calls Tryz.prog 97 #[.agg (s.A I T)] w fun e w' => ∃ J, e = .returned (.agg ((kS s.kd).A J nilV)) ∧ SlI w' J l ∧ Below w.heap.size w w' := by
  obtain ⟨a, c, rfl, hcs, hnil, hle, _⟩ := hI.ex
  have e1 : (s.kd == 1) = true := by rw [hk]; rfl
  clear hk hI
  go_enter Tryz.func97, Tryz.ntmps97
  go_wp2_with (first
    | (refine wpList_box_rc (s := s) (I := _) (T := _) _ rfl _ rfl rfl ?_; intro w0 b0 N0)
    | (have := N1; refine wpList_new_rc _ rfl rfl ?_; intro w2 b2 N2; have k00 := ((N0.rc.below N1.below).below N2.below).c0)
    | (refine wpList_new_rc _ rfl rfl ?_; intro w1 b1 N1; have k00 := (N0.rc.below N1.below).c0)
    | (refine wpList_at (Op.store 51 (.tmp 3) (.tmp 6)) rfl ?_; refine wpList_put_rc (s' := kS s.kd) (I' := nilV) (T' := nilV) _ rfl (.tmp 3) (.tmp 6) rfl rfl rfl N2.rc rfl rfl ?_; intro w3 P3; have H := Cl3.mk' N0 N1 N2 P3; clear N0 N1 N2 P3 k00; have k00 := H.p.c0; have q0 := H.c.f; have p9 := H.p.c9; have c9 := H.c.c9; unfold nilV at c9)
    | (have lb2 := H.c.lt; have lb1 := H.r.lt; refine wpList_append_own' two_im (B := _) rfl (.tmp 13) (.tmp 15) rfl rfl (n := 0) (xs := []) rfl (Own.nil _ _ _) (Nat.le_refl _) rfl (encI_length l) hnil (hcs.below H.bel) (encI_ones l) (by omega) ?_; intro a4 cap4 w4 O4 B4; have H4 := H.below B4; clear H; have H := H4; clear H4; have F := O4.frI l; clear O4)
    | (refine wpList_at (Op.store 48 (.tmp 17) (.tmp 16)) rfl ?_; refine wpList_fput (s' := kS s.kd) (I' := .slice a4 l.length cap4) (T' := nilV) _ rfl 48 (.tmp 17) (.tmp 16) rfl rfl rfl H.c (by omega) rfl (by kernel_rfl) rfl ?_; intro w4 P4; have F4 := F.off P4.off lb2; clear F; have F := F4; clear F4; have H4 := H.put P4.rc P4.off; clear H; have H := H4; clear H4 P4)
    | (refine wpList_load_rc _ rfl (.tmp 3) rfl rfl H.c ?_)
    | (refine wpList_at (Op.store 51 (.tmp 2) (.tmp 69)) rfl ?_; refine wpList_put_rc (s' := kS s.kd) (I' := .slice a4 l.length cap4) (T' := nilV) _ rfl (.tmp 2) (.tmp 69) rfl rfl rfl H.r rfl rfl ?_; intro w9 P9))
  obtain ⟨g1, g2⟩ := H.ret P9
  refine bodyPost_ret (results_rc1 rfl _ _ rfl g1) rfl ?_
  exact ⟨_, rfl, (F.off P9.off lb1).slI, g2⟩
set_option maxHeartbeats 1000000 in
theorem clean_2 {l : List Im} (hk : s.kd = 2) (hI : SlI w I l) (hl : l.length ≤ 1000) : Calls Tryz.prog 97 #[.agg (s.A I T)] w fun e w' => ∃ J, e = .returned (.agg ((kS s.kd).A J nilV)) ∧ SlI w' J l ∧ Below w.heap.size w w' := by
  obtain ⟨a, c, rfl, hcs, hnil, hle, _⟩ := hI.ex
  have e1 : (s.kd == 1) = false := by rw [hk]; rfl
  have e2 : (s.kd == 2) = true := by rw [hk]; rfl
  clear hk hI
  go_enter Tryz.func97, Tryz.ntmps97
  go_wp2_with (first
    | (refine wpList_box_rc (s := s) (I := _) (T := _) _ rfl _ rfl rfl ?_; intro w0 b0 N0)
    | (have := N1; refine wpList_new_rc _ rfl rfl ?_; intro w2 b2 N2; have k00 := ((N0.rc.below N1.below).below N2.below).c0)
    | (refine wpList_new_rc _ rfl rfl ?_; intro w1 b1 N1; have k00 := (N0.rc.below N1.below).c0)
    | (refine wpList_at (Op.store 51 (.tmp 3) (.tmp 6)) rfl ?_; refine wpList_put_rc (s' := kS s.kd) (I' := nilV) (T' := nilV) _ rfl (.tmp 3) (.tmp 6) rfl rfl rfl N2.rc rfl rfl ?_; intro w3 P3; have H := Cl3.mk' N0 N1 N2 P3; clear N0 N1 N2 P3 k00; have k00 := H.p.c0; have q0 := H.c.f; have p9 := H.p.c9; have c9 := H.c.c9; unfold nilV at c9)
    | (have lb2 := H.c.lt; have lb1 := H.r.lt; refine wpList_append_own' two_im (B := _) rfl (.tmp 13) (.tmp 15) rfl rfl (n := 0) (xs := []) rfl (Own.nil _ _ _) (Nat.le_refl _) rfl (encI_length l) hnil (hcs.below H.bel) (encI_ones l) (by omega) ?_; intro a4 cap4 w4 O4 B4; have H4 := H.below B4; clear H; have H := H4; clear H4; have F := O4.frI l; clear O4)
    | (refine wpList_at (Op.store 48 (.tmp 17) (.tmp 16)) rfl ?_; refine wpList_fput (s' := kS s.kd) (I' := .slice a4 l.length cap4) (T' := nilV) _ rfl 48 (.tmp 17) (.tmp 16) rfl rfl rfl H.c (by omega) rfl (by kernel_rfl) rfl ?_; intro w4 P4; have F4 := F.off P4.off lb2; clear F; have F := F4; clear F4; have H4 := H.put P4.rc P4.off; clear H; have H := H4; clear H4 P4)
    | (refine wpList_load_rc _ rfl (.tmp 3) rfl rfl H.c ?_)
    | (refine wpList_at (Op.store 51 (.tmp 2) (.tmp 69)) rfl ?_; refine wpList_put_rc (s' := kS s.kd) (I' := .slice a4 l.length cap4) (T' := nilV) _ rfl (.tmp 2) (.tmp 69) rfl rfl rfl H.r rfl rfl ?_; intro w9 P9))
  obtain ⟨g1, g2⟩ := H.ret P9
  refine bodyPost_ret (results_rc1 rfl _ _ rfl g1) rfl ?_
  exact ⟨_, rfl, (F.off P9.off lb1).slI, g2⟩
set_option maxHeartbeats 1000000 in
theorem clean_9 {l : List Tb} (hk : s.kd = 9) (hI : SlT w T l) (hl : l.length ≤ 1000) : Calls Tryz.prog 97 #[.agg (s.A I T)] w fun e w' => ∃ J, e = .returned (.agg ((kS s.kd).A nilV J)) ∧ SlT w' J l ∧ Below w.heap.size w w' := by
  obtain ⟨a, c, rfl, hcs, hnil, hle, _⟩ := hI.ex
  have e1 : (s.kd == 1) = false := by rw [hk]; rfl
  have e2 : (s.kd == 2) = false := by rw [hk]; rfl
  have e3 : (s.kd == 3) = false := by rw [hk]; rfl
  have e4 : (s.kd == 4) = false := by rw [hk]; rfl
  have e5 : (s.kd == 5) = false := by rw [hk]; rfl
  have e6 : (s.kd == 6) = false := by rw [hk]; rfl
  have e7 : (s.kd == 7) = false := by rw [hk]; rfl
  have e8 : (s.kd == 8) = false := by rw [hk]; rfl
  have e9 : (s.kd == 9) = true := by rw [hk]; rfl
  clear hk hI
  go_enter Tryz.func97, Tryz.ntmps97
  go_wp2_with (first
    | (refine wpList_box_rc (s := s) (I := _) (T := _) _ rfl _ rfl rfl ?_; intro w0 b0 N0)
    | (have := N1; refine wpList_new_rc _ rfl rfl ?_; intro w2 b2 N2; have k00 := ((N0.rc.below N1.below).below N2.below).c0)
    | (refine wpList_new_rc _ rfl rfl ?_; intro w1 b1 N1; have k00 := (N0.rc.below N1.below).c0)
    | (refine wpList_at (Op.store 51 (.tmp 3) (.tmp 6)) rfl ?_; refine wpList_put_rc (s' := kS s.kd) (I' := nilV) (T' := nilV) _ rfl (.tmp 3) (.tmp 6) rfl rfl rfl N2.rc rfl rfl ?_; intro w3 P3; have H := Cl3.mk' N0 N1 N2 P3; clear N0 N1 N2 P3 k00; have k00 := H.p.c0; have q0 := H.c.f; have p10 := H.p.c10; have c10 := H.c.c10; unfold nilV at c10)
    | (have lb2 := H.c.lt; have lb1 := H.r.lt; refine wpList_append_own' two_tb (B := _) rfl (.tmp 56) (.tmp 58) rfl rfl (n := 0) (xs := []) rfl (Own.nil _ _ _) (Nat.le_refl _) rfl (encT_length l) hnil (hcs.below H.bel) (encT_ones l) (by omega) ?_; intro a4 cap4 w4 O4 B4; have H4 := H.below B4; clear H; have H := H4; clear H4; have F := O4.frT l; clear O4)
    | (refine wpList_at (Op.store 49 (.tmp 60) (.tmp 59)) rfl ?_; refine wpList_fput (s' := kS s.kd) (I' := nilV) (T' := .slice a4 l.length cap4) _ rfl 49 (.tmp 60) (.tmp 59) rfl rfl rfl H.c (by omega) rfl (by kernel_rfl) rfl ?_; intro w4 P4; have F4 := F.off P4.off lb2; clear F; have F := F4; clear F4; have H4 := H.put P4.rc P4.off; clear H; have H := H4; clear H4 P4)
    | (refine wpList_load_rc _ rfl (.tmp 3) rfl rfl H.c ?_)
    | (refine wpList_at (Op.store 51 (.tmp 2) (.tmp 69)) rfl ?_; refine wpList_put_rc (s' := kS s.kd) (I' := nilV) (T' := .slice a4 l.length cap4) _ rfl (.tmp 2) (.tmp 69) rfl rfl rfl H.r rfl rfl ?_; intro w9 P9))
  obtain ⟨g1, g2⟩ := H.ret P9
  refine bodyPost_ret (results_rc1 rfl _ _ rfl g1) rfl ?_
  exact ⟨_, rfl, (F.off P9.off lb1).slT, g2⟩
end

theorem clean_any {w : World} {v : Value} {m : Rm} (h : RecV w v m) (hi : m.im.length ≤ 1000) (ht : m.tb.length ≤ 1000) : Calls Tryz.prog 97 #[v] w fun e w' => (∃ v', e = .returned v' ∧ RecV w' v' (cleanM m)) ∧ Below w.heap.size w w' := by
  obtain ⟨s, l, g⟩ := m
  obtain ⟨I, T, rfl, hI, hT⟩ := h.ex
  dsimp only at hI hT hi ht
  by_cases h1 : s.kd = 1
  · refine (clean_1 h1 hI hi).mono ?_
    rintro e w' ⟨J, rfl, hJ, hb⟩
    refine ⟨⟨_, rfl, ⟨J, nilV, ?_, ?_, ?_⟩⟩, hb⟩
    · simp [cleanM, cleanS, h1, kS, zS]
    · simpa [cleanM, h1] using hJ
    · simpa [cleanM, h1] using SlT.nil w'
  by_cases h2 : s.kd = 2
  · refine (clean_2 h2 hI hi).mono ?_
    rintro e w' ⟨J, rfl, hJ, hb⟩
    refine ⟨⟨_, rfl, ⟨J, nilV, ?_, ?_, ?_⟩⟩, hb⟩
    · simp [cleanM, cleanS, h2, kS, zS]
    · simpa [cleanM, h2] using hJ
    · simpa [cleanM, h2] using SlT.nil w'
  by_cases h9 : s.kd = 9
  · refine (clean_9 h9 hT ht).mono ?_
    rintro e w' ⟨J, rfl, hJ, hb⟩
    refine ⟨⟨_, rfl, ⟨nilV, J, ?_, ?_, ?_⟩⟩, hb⟩
    · simp [cleanM, cleanS, h9, kS, zS]
    · simpa [cleanM, h9] using SlI.nil w'
    · simpa [cleanM, h9] using hJ
  have fin : ∀ (w' : World) (c : Sc), cleanS s = c → RecV w' (.agg (c.A nilV nilV)) (cleanM ⟨s, l, g⟩) := fun w' c hc => by
    refine ⟨nilV, nilV, ?_, ?_, ?_⟩
    · simp [cleanM, hc]
    · simpa [cleanM, h1, h2] using SlI.nil w'
    · simpa [cleanM, h9] using SlT.nil w'
  by_cases h3 : s.kd = 3
  · refine (clean_3 h3).mono ?_
    rintro e w' ⟨rfl, hb⟩
    exact ⟨⟨_, rfl, fin w' _ (by simp [cleanS, h3, kS, zS, copyS, actOf])⟩, hb⟩
  by_cases h4 : s.kd = 4
  · refine (clean_4 h4).mono ?_
    rintro e w' ⟨rfl, hb⟩
    exact ⟨⟨_, rfl, fin w' _ (by simp [cleanS, h4, kS, zS, copyS, actOf])⟩, hb⟩
  by_cases h5 : s.kd = 5
  · refine (clean_5 h5).mono ?_
    rintro e w' ⟨rfl, hb⟩
    exact ⟨⟨_, rfl, fin w' _ (by simp [cleanS, h5, kS, zS, copyS, actOf])⟩, hb⟩
  by_cases h6 : s.kd = 6
  · refine (clean_6 h6).mono ?_
    rintro e w' ⟨rfl, hb⟩
    exact ⟨⟨_, rfl, fin w' _ (by simp [cleanS, h6, kS, zS, copyS, actOf])⟩, hb⟩
  by_cases h7 : s.kd = 7
  · refine (clean_7 h7).mono ?_
    rintro e w' ⟨rfl, hb⟩
    exact ⟨⟨_, rfl, fin w' _ (by simp [cleanS, h7, kS, zS])⟩, hb⟩
  by_cases h8 : s.kd = 8
  · refine (clean_8 h8).mono ?_
    rintro e w' ⟨rfl, hb⟩
    exact ⟨⟨_, rfl, fin w' _ (by simp [cleanS, h8, kS, zS])⟩, hb⟩
  by_cases h10 : s.kd = 10
  · refine (clean_10 h10).mono ?_
    rintro e w' ⟨rfl, hb⟩
    exact ⟨⟨_, rfl, fin w' _ (by simp [cleanS, h10, kS, zS])⟩, hb⟩
  · refine (clean_o h1 h2 h3 h4 h5 h6 h7 h8 h9 h10).mono ?_
    rintro e w' ⟨rfl, hb⟩
    exact ⟨⟨_, rfl, fin w' _ (by simp [cleanS, h1, h2, h3, h4, h5, h6, h7, h8, h9, h10, kS, zS])⟩, hb⟩
end Go.Proofs.YtgodjnbbocnckaaGreat

namespace Go.Proofs.YtgodjnbbocnckaaGreat
open Go.RowKit
set_option linter.unusedVariables false
set_option linter.unusedSimpArgs false
set_option maxRecDepth 100000

/-- A record that memory can hold, of few images and few that go on. -/
structure Small (m : Rm) : Prop where
  im : m.im.length ≤ 1000
  tb : m.tb.length ≤ 1000
  t : ∀ p ∈ m.im, p.2.size ≤ 9223372036854775807
  ky : m.s.ky.size ≤ 9223372036854775807
  ol : m.s.ol.size ≤ 9223372036854775807
  nw : m.s.nw.size ≤ 9223372036854775807
theorem Small.clean {m : Rm} (h : Small m) : Small (cleanM m) := by
  obtain ⟨s, l, g⟩ := m
  have h1 := h.im
  have h2 := h.tb
  have h3 := h.t
  have h4 := h.ky
  have h5 := h.ol
  have h6 := h.nw
  dsimp only at h1 h2 h3 h4 h5 h6
  have z : (⟨#[]⟩ : ByteArray).size ≤ 9223372036854775807 := Nat.zero_le _
  refine ⟨?_, ?_, ?_, ?_, ?_, ?_⟩
  · unfold cleanM; dsimp only; split
    · exact h1
    · exact Nat.zero_le _
  · unfold cleanM; dsimp only; split
    · exact h2
    · exact Nat.zero_le _
  · unfold cleanM; dsimp only; split
    · exact h3
    · intro p hp; cases hp
  · unfold cleanM cleanS; dsimp only; repeat' split
    all_goals assumption
  · unfold cleanM cleanS; dsimp only; repeat' split
    all_goals assumption
  · unfold cleanM cleanS; dsimp only; repeat' split
    all_goals assumption
/-- What refM says of one that is not refused. -/
structure Fine (m : Rm) : Prop where
  k1 : 1 ≤ m.s.kd
  k2 : m.s.kd ≤ 10
  f : formed m = true
  ky : m.s.ky.size ≤ 16
  ol : m.s.ol.size ≤ 32
  nw : m.s.nw.size ≤ 32
theorem fine_of {m : Rm} (h : refM m = 0) : Fine m := by
  unfold refM at h
  split at h
  · cases h
  · split at h
    · cases h
    · split at h
      · cases h
      · split at h
        · cases h
        · rename_i h1 h2 h3 h4
          exact ⟨by omega, by omega, by simpa using h2, by omega, by omega, by omega⟩
theorem Fine.whole {m : Rm} (h : Fine m) (hk : m.s.kd = 1 ∨ m.s.kd = 2) : whole m.im = true := by
  have f := h.f
  unfold formed at f
  rcases hk with hk | hk
  · rw [if_pos hk] at f
    simpa using (by simpa using f : m.im.length = 1 ∧ Go.Proofs.YtgodjnbbocnckaaGreat.whole m.im = true).2
  · rw [if_neg (by omega), if_pos hk] at f
    exact f
theorem Fine.texts {m : Rm} (h : Fine m) (hk : m.s.kd = 1 ∨ m.s.kd = 2) : ∀ p ∈ m.im, p.2.size ≤ 1000 := by
  have f := h.whole hk
  intro p hp
  have := (List.all_eq_true.1 f) p hp
  simp at this
  omega
theorem laid_any {w : World} {v : Value} {m : Rm} (h : RecV w v m) (hs : Small m) (hf : Fine m) : Calls Tryz.prog 119 #[v] w fun r w' => r = .returned (.tuple #[.string (laidM m).1, .int .i64 (laidM m).2]) ∧ Below w.heap.size w w' := by
  obtain ⟨I, T, rfl, hI, hT⟩ := h.ex
  have hk1 := hf.k1
  have hk2 := hf.k2
  have hy := hf.ky
  have ho := hf.ol
  have hw := hf.nw
  have hx := hf.texts
  obtain ⟨s, l, g⟩ := m
  have hl := hs.im
  have hg := hs.tb
  dsimp only at *
  have hk : s.kd = 1 ∨ s.kd = 2 ∨ s.kd = 3 ∨ s.kd = 4 ∨ s.kd = 5 ∨ s.kd = 6 ∨ s.kd = 7 ∨ s.kd = 8 ∨ s.kd = 9 ∨ s.kd = 10 := by omega
  unfold laidM laidF
  dsimp only
  rcases hk with hk | hk | hk | hk | hk | hk | hk | hk | hk | hk
  · obtain ⟨a, c, rfl, hcs, _⟩ := hI.ex
    rw [if_pos (by omega)]
    exact laid_1 hk hl hcs (hx (by omega))
  · obtain ⟨a, c, rfl, hcs, _⟩ := hI.ex
    rw [if_pos (by omega)]
    exact laid_2 hk hl hcs (hx (by omega))
  · rw [if_neg (by omega), if_pos (by omega)]
    exact laid_3 hk (by omega) (by omega) (by omega)
  · rw [if_neg (by omega), if_pos (by omega)]
    exact laid_4 hk (by omega) (by omega) (by omega)
  · rw [if_neg (by omega), if_pos (by omega)]
    exact laid_5 hk (by omega) (by omega) (by omega)
  · rw [if_neg (by omega), if_neg (by omega), if_pos (by omega)]
    exact laid_6 hk (by omega) (by omega) (by omega)
  · rw [if_neg (by omega), if_neg (by omega), if_neg (by omega), if_pos (by omega)]
    exact laid_7 hk
  · rw [if_neg (by omega), if_neg (by omega), if_neg (by omega), if_pos (by omega)]
    exact laid_8 hk
  · obtain ⟨a, c, rfl, hcs, _⟩ := hT.ex
    rw [if_neg (by omega), if_neg (by omega), if_neg (by omega), if_neg (by omega), if_pos (by omega)]
    exact laid_9 hk hg hcs
  · rw [if_neg (by omega), if_neg (by omega), if_neg (by omega), if_neg (by omega), if_neg (by omega), if_pos (by omega)]
    exact laid_10 hk
theorem laidM_size {m : Rm} (hs : Small m) : (laidM m).1.size ≤ 100000000 := by
  have hl := hs.im
  have hg := hs.tb
  have z0 : ((⟨#[]⟩ : ByteArray), (0 : Int)).1.size = 0 := rfl
  have z1 := stepW_size (⟨#[]⟩, 0) m.s.kd 1
  unfold laidM laidF
  dsimp only
  repeat' split
  · have z2 := stepW_size (stepW (⟨#[]⟩, 0) m.s.kd 1) m.im.length 1
    have z3 := layI_size m.im (stepW (stepW (⟨#[]⟩, 0) m.s.kd 1) m.im.length 1)
    omega
  · have z2 := layP_size [m.s.tx, m.s.pv] (stepW (⟨#[]⟩, 0) m.s.kd 1)
    have z3 := layC_size m.s (layP [m.s.tx, m.s.pv] (stepW (⟨#[]⟩, 0) m.s.kd 1))
    simp only [List.length_cons, List.length_nil] at z2
    omega
  · have z2 := layP_size [m.s.tx, m.s.pv, m.s.nx] (stepW (⟨#[]⟩, 0) m.s.kd 1)
    have z4 := stepW_size (layP [m.s.tx, m.s.pv, m.s.nx] (stepW (⟨#[]⟩, 0) m.s.kd 1)) m.s.ac 1
    have z3 := layC_size m.s (stepW (layP [m.s.tx, m.s.pv, m.s.nx] (stepW (⟨#[]⟩, 0) m.s.kd 1)) m.s.ac 1)
    simp only [List.length_cons, List.length_nil] at z2
    omega
  · have z2 := layP_size [m.s.tx, m.s.pv] (stepW (⟨#[]⟩, 0) m.s.kd 1)
    simp only [List.length_cons, List.length_nil] at z2
    omega
  · have z2 := stepW_size (stepW (⟨#[]⟩, 0) m.s.kd 1) m.tb.length 1
    have z3 := layB_size m.tb (stepW (stepW (⟨#[]⟩, 0) m.s.kd 1) m.tb.length 1)
    omega
  · have z2 := stepW_size (stepW (⟨#[]⟩, 0) m.s.kd 1) m.s.ep 4
    have z3 := stepW_size (stepW (stepW (⟨#[]⟩, 0) m.s.kd 1) m.s.ep 4) m.s.nd 1
    omega
  · omega
set_option maxHeartbeats 1000000 in
theorem body_any {w : World} {v : Value} {m : Rm} (h : RecV w v m) (hs : Small m) : Calls Tryz.prog 96 #[v] w fun r w' => r = .returned (.tuple #[.string (bodyM m).1, .int .i64 (bodyM m).2]) ∧ Below w.heap.size w w' := by
  have hv := h
  obtain ⟨I, T, rfl, hI, hT⟩ := h.ex
  have CR : Hid (∀ w', Below w.heap.size w w' → Calls Tryz.prog 118 #[.agg (m.s.A I T)] w' fun r w'' => r = .returned (.int .i64 (refM m)) ∧ Below w'.heap.size w' w'') := fun w' hb => by
    obtain ⟨a, c, rfl, hcs, _⟩ := hI.ex
    exact refusalR_any (g := m.tb) hs.im (hcs.below hb) hs.t hs.ky hs.ol hs.nw
  by_cases hr : refM m = 0
  · have CL : Hid (∀ w', Below w.heap.size w w' → Calls Tryz.prog 119 #[.agg (m.s.A I T)] w' fun r w'' => r = .returned (.tuple #[.string (laidM m).1, .int .i64 (laidM m).2]) ∧ Below w'.heap.size w' w'') := fun w' hb => laid_any (hv.below hb) hs (fine_of hr)
    have hz := laidM_size hs
    by_cases he : (laidM m).2 = 0
    · by_cases hl : 4096 < (laidM m).1.size
      · rw [bodyM_long hr he hl]
        rw [hr] at CR
        rw [he] at CL
        generalize (laidM m).1 = Z at *
        clear hr he hv h hI hT hs
        go_enter Tryz.func96, Tryz.ntmps96
        go_wp2_with (first
          | (refine wpList_box_rc (s := m.s) (I := I) (T := T) _ rfl _ rfl rfl ?_; intro w0 b0 N0; have R := N0.rc)
          | (refine wpList_load_rc _ rfl _ rfl rfl R ?_)
          | (go_at_call 118; refine (CR.out _ N0.below).mono ?_; rintro e w1 ⟨rfl, b1⟩; have R1 := R.below b1; clear R; have R := R1; clear R1)
          | (go_at_call 119; refine (CL.out _ (thn N0.below b1)).mono ?_; rintro e w2 ⟨rfl, b2⟩))
        go_ret2
        exact ⟨rfl, thn (thn N0.below b1) b2⟩
      · rw [bodyM_good hr he hl]
        rw [hr] at CR
        rw [he] at CL
        generalize (laidM m).1 = Z at *
        clear hr he hv h hI hT hs
        go_enter Tryz.func96, Tryz.ntmps96
        go_wp2_with (first
          | (refine wpList_box_rc (s := m.s) (I := I) (T := T) _ rfl _ rfl rfl ?_; intro w0 b0 N0; have R := N0.rc)
          | (refine wpList_load_rc _ rfl _ rfl rfl R ?_)
          | (go_at_call 118; refine (CR.out _ N0.below).mono ?_; rintro e w1 ⟨rfl, b1⟩; have R1 := R.below b1; clear R; have R := R1; clear R1)
          | (go_at_call 119; refine (CL.out _ (thn N0.below b1)).mono ?_; rintro e w2 ⟨rfl, b2⟩))
        go_ret2
        exact ⟨rfl, thn (thn N0.below b1) b2⟩
    · rw [bodyM_err hr he]
      rw [hr] at CR
      generalize (laidM m).1 = Z at *
      generalize (laidM m).2 = E at *
      have he' : (E != 0) = true := by simpa using he
      clear hr he hv h hI hT hs
      go_enter Tryz.func96, Tryz.ntmps96
      go_wp2_with (first
        | (refine wpList_box_rc (s := m.s) (I := I) (T := T) _ rfl _ rfl rfl ?_; intro w0 b0 N0; have R := N0.rc)
        | (refine wpList_load_rc _ rfl _ rfl rfl R ?_)
        | (go_at_call 118; refine (CR.out _ N0.below).mono ?_; rintro e w1 ⟨rfl, b1⟩; have R1 := R.below b1; clear R; have R := R1; clear R1)
        | (go_at_call 119; refine (CL.out _ (thn N0.below b1)).mono ?_; rintro e w2 ⟨rfl, b2⟩))
      go_ret2
      exact ⟨rfl, thn (thn N0.below b1) b2⟩
  · rw [bodyM_ref hr]
    generalize refM m = E at *
    have he' : (E != 0) = true := by simpa using hr
    clear hr hv h hI hT hs
    go_enter Tryz.func96, Tryz.ntmps96
    go_wp2_with (first
      | (refine wpList_box_rc (s := m.s) (I := I) (T := T) _ rfl _ rfl rfl ?_; intro w0 b0 N0; have R := N0.rc)
      | (refine wpList_load_rc _ rfl _ rfl rfl R ?_)
      | (go_at_call 118; refine (CR.out _ N0.below).mono ?_; rintro e w1 ⟨rfl, b1⟩))
    go_ret2
    exact ⟨rfl, thn N0.below b1⟩
/-- A record's frame, or why it has none. -/
def frameB (t : ByteArray) : ByteArray := Pk.beS t.size 2 ++ Sm.sealV t
def frameM (m : Rm) : ByteArray × Int := if (bodyM (cleanM m)).2 ≠ 0 then (⟨#[]⟩, (bodyM (cleanM m)).2) else (frameB (bodyM (cleanM m)).1, 0)
theorem put_len (t : ByteArray) (h : t.size ≤ 4096) (w : World) : Calls Tryz.prog 98 #[.string ⟨#[]⟩, .int .i64 (t.size : Int), .int .i64 2] w fun e w' => e = .returned (.tuple #[.string (Pk.beS t.size 2), .int .i64 0]) ∧ Below w.heap.size w w' := by
  have := Pk.Put_any ⟨#[]⟩ (t.size : Int) 2 w (Nat.zero_le _)
  rw [Pk.putV_fits (by omega) (by rw [Pk.limI_2]; omega)] at this
  dsimp only at this
  rw [Sm.nil_append] at this
  exact this
theorem sealV_size (t : ByteArray) : (Sm.sealV t).size = 4 + t.size := by unfold Sm.sealV; rw [ByteArray.size_append, Pk.beS_size]
theorem frameB_size (t : ByteArray) : (frameB t).size = 6 + t.size := by unfold frameB; rw [ByteArray.size_append, Pk.beS_size, sealV_size]; omega
set_option maxHeartbeats 1000000 in
theorem Frame_any {w : World} {v : Value} {m : Rm} (h : RecV w v m) (hs : Small m) : Calls Tryz.prog 78 #[v] w fun r w' => r = .returned (.tuple #[.string (frameM m).1, .int .i64 (frameM m).2]) ∧ Below w.heap.size w w' := by
  have hv := h
  obtain ⟨I, T, rfl, hI, hT⟩ := h.ex
  have CC : Hid (∀ w', Below w.heap.size w w' → Calls Tryz.prog 97 #[.agg (m.s.A I T)] w' fun e w'' => (∃ v', e = .returned v' ∧ RecV w'' v' (cleanM m)) ∧ Below w'.heap.size w' w'') := fun w' hb => clean_any (hv.below hb) hs.im hs.tb
  have CB : Hid (∀ w' v', RecV w' v' (cleanM m) → Calls Tryz.prog 96 #[v'] w' fun r w'' => r = .returned (.tuple #[.string (bodyM (cleanM m)).1, .int .i64 (bodyM (cleanM m)).2]) ∧ Below w'.heap.size w' w'') := fun w' v' h' => body_any h' hs.clean
  have hz := bodyM_size (cleanM m)
  unfold frameM
  by_cases he : (bodyM (cleanM m)).2 = 0
  · rw [if_neg (by simpa using he)]
    rw [he] at CB
    generalize (bodyM (cleanM m)).1 = Z at *
    have CP : Hid (∀ w, Calls Tryz.prog 98 #[.string ⟨#[]⟩, .int .i64 (Z.size : Int), .int .i64 2] w fun e w' => e = .returned (.tuple #[.string (Pk.beS Z.size 2), .int .i64 0]) ∧ Below w.heap.size w w') := fun w => put_len Z hz w
    have CS : Hid (∀ w, Calls Tryz.prog 99 #[.string Z] w fun e w' => e = .returned (.string (Sm.sealV Z)) ∧ Below w.heap.size w w') := fun w => Sm.Seal_any Z w (by omega)
    have HF : Hid (frameB Z = Pk.beS Z.size 2 ++ Sm.sealV Z) := by rfl
    have z1 : (Pk.beS Z.size 2).size ≤ 6 := by rw [Pk.beS_size]; omega
    have z2 : (Sm.sealV Z).size ≤ 5000 := by rw [sealV_size]; omega
    generalize frameB Z = F at *
    generalize Pk.beS Z.size 2 = L at *
    generalize Sm.sealV Z = SZ at *
    clear he hv h hI hT hs
    go_enter Tryz.func78, Tryz.ntmps78
    go_wp2_with (first
      | (refine wpList_box_rc (s := m.s) (I := I) (T := T) _ rfl _ rfl rfl ?_; intro w0 b0 N0)
      | (refine wpList_load_rc _ rfl _ rfl rfl N0.rc ?_)
      | (go_at_call 97; refine (CC.out _ N0.below).mono ?_; rintro e w1 ⟨⟨v', rfl, h1⟩, b1⟩)
      | (go_at_call 96; refine (CB.out _ _ h1).mono ?_; rintro e w2 ⟨rfl, b2⟩)
      | (go_at_call 98; refine (CP.out _).mono ?_; rintro e w3 ⟨rfl, b3⟩)
      | (go_at_call 99; refine (CS.out _).mono ?_; rintro e w4 ⟨rfl, b4⟩))
    go_ret2
    rw [HF.out]
    exact ⟨rfl, thn (thn (thn (thn N0.below b1) b2) b3) b4⟩
  · rw [if_pos he]
    generalize (bodyM (cleanM m)).1 = Z at *
    generalize (bodyM (cleanM m)).2 = E at *
    have he' : (E != 0) = true := by simpa using he
    clear he hv h hI hT hs
    go_enter Tryz.func78, Tryz.ntmps78
    go_wp2_with (first
      | (refine wpList_box_rc (s := m.s) (I := I) (T := T) _ rfl _ rfl rfl ?_; intro w0 b0 N0)
      | (refine wpList_load_rc _ rfl _ rfl rfl N0.rc ?_)
      | (go_at_call 97; refine (CC.out _ N0.below).mono ?_; rintro e w1 ⟨⟨v', rfl, h1⟩, b1⟩)
      | (go_at_call 96; refine (CB.out _ _ h1).mono ?_; rintro e w2 ⟨rfl, b2⟩))
    go_ret2
    exact ⟨rfl, thn (thn N0.below b1) b2⟩
def comm : Rm := ⟨{kS 7 with tx := 5, pv := 3}, [], []⟩
theorem comm_frame : (frameM comm).2 = 0 ∧ (frameM comm).1.size = 19 := by
  have e : cleanM comm = comm := by simp [cleanM, cleanS, comm, kS, zS]
  have hl : laidM comm = (⟨#[]⟩ ++ Pk.beS 7 1 ++ Pk.beS 5 6 ++ Pk.beS 3 6, 0) := by
    show stepW (stepW (stepW (⟨#[]⟩, 0) 7 1) 5 6) 3 6 = _
    rw [stepW_good (by omega) (by omega) (by omega) (by rw [Pk.limI_1]; omega), stepW_good (by omega) (by omega) (by omega) (by rw [Pk.limI_6]; omega), stepW_good (by omega) (by omega) (by omega) (by rw [Pk.limI_6]; omega)]
    rfl
  have hb : bodyM comm = (⟨#[]⟩ ++ Pk.beS 7 1 ++ Pk.beS 5 6 ++ Pk.beS 3 6, 0) := by
    rw [bodyM_good (by simp [refM, formed, comm, kS, zS, Pk.size_nil]) (by rw [hl]) (by rw [hl]; simp [ByteArray.size_append, Pk.beS_size, Pk.size_nil]), hl]
  unfold frameM
  rw [e, hb]
  dsimp only
  rw [if_neg (by simp), frameB_size]
  simp [ByteArray.size_append, Pk.beS_size, Pk.size_nil]
theorem small_comm : Small comm := ⟨Nat.zero_le _, Nat.zero_le _, (fun p hp => by cases hp), Nat.zero_le _, Nat.zero_le _, Nat.zero_le _⟩
end Go.Proofs.YtgodjnbbocnckaaGreat

namespace Go.Proofs.YtgodjnbbocnckaaGreat
open Go.RowKit
set_option linter.unusedVariables false
set_option linter.unusedSimpArgs false
set_option maxRecDepth 100000

structure Fw (w wr : World) (b0 b1 : Nat) (s : Sc) (I T : Value) : Prop where
  p : RcAt wr b0 s I T
  r : RcAt wr b1 zS nilV nilV
  bel : Below w.heap.size w wr
  ne : b1 ≠ b0
  l0 : w.heap.size ≤ b0
  l1 : w.heap.size ≤ b1
section
variable {w wr wq : World} {b0 b1 : Nat} {s : Sc} {I T J U : Value}
theorem Fw.mk' {w0 w1 : World} (N0 : NewR w w0 b0 s I T) (N1 : NewR w0 w1 b1 zS nilV nilV) : Fw w w1 b0 b1 s I T := by
  have e0 := N0.eq
  have e1 := N1.eq
  have z0 := N0.rc.lt
  exact ⟨N0.rc.below N1.below, N1.rc, thn N0.below N1.below, by omega, by omega, by omega⟩
theorem Fw.put (h : Fw w wr b0 b1 s I T) (P : PutR wr wq b0 s J U) : Fw w wq b0 b1 s J U :=
  ⟨P.rc, h.r.off P.off h.ne, h.bel.trans (P.below h.l0 h.bel.size), h.ne, h.l0, h.l1⟩
end
theorem sliceI_to {a : Option Addr} {n c : Nat} (i : Nat) (hi : i ≤ c) (hsp : ∀ ad, a = some ad → ad.spot = none) (W : World) : (Instr.slice 48 (.slice a n c) none (some (.int .i64 (i : Int))) none).run Tryz.prog W = .ok (.slice a i c) W := by
  have hr := run_slice_h (P := Tryz.prog) W 48 a n c (by kernel_rfl) .i64 (i : Int) (by omega) (by omega)
  have hz : ∀ w, (Go.sizeOf (Tryz.prog.elem 48)).run Tryz.prog w = .ok 2 w := fun w => by kernel_rfl
  rw [hr, hz]
  simp only [Result.andThen, sliced, Int.toNat_natCast, Nat.sub_zero, Nat.zero_mul]
  cases a with
  | none => split <;> rfl
  | some ad =>
    obtain ⟨b, off, sp⟩ := ad
    have := hsp _ rfl
    dsimp only at this
    subst this
    split
    · rfl
    · simp [Addr.add_mid]
theorem sliceT_to {a : Option Addr} {n c : Nat} (i : Nat) (hi : i ≤ c) (hsp : ∀ ad, a = some ad → ad.spot = none) (W : World) : (Instr.slice 49 (.slice a n c) none (some (.int .i64 (i : Int))) none).run Tryz.prog W = .ok (.slice a i c) W := by
  have hr := run_slice_h (P := Tryz.prog) W 49 a n c (by kernel_rfl) .i64 (i : Int) (by omega) (by omega)
  have hz : ∀ w, (Go.sizeOf (Tryz.prog.elem 49)).run Tryz.prog w = .ok 2 w := fun w => by kernel_rfl
  rw [hr, hz]
  simp only [Result.andThen, sliced, Int.toNat_natCast, Nat.sub_zero, Nat.zero_mul]
  cases a with
  | none => split <;> rfl
  | some ad =>
    obtain ⟨b, off, sp⟩ := ad
    have := hsp _ rfl
    dsimp only at this
    subst this
    split
    · rfl
    · simp [Addr.add_mid]
/-- A record that the law is handed. -/
structure Held (m : Rm) : Prop where
  im : m.im.length ≤ 9223372036854775807
  tb : m.tb.length ≤ 9223372036854775807
  t : ∀ p ∈ m.im, p.2.size ≤ 9223372036854775807
  ky : m.s.ky.size ≤ 9223372036854775807
  ol : m.s.ol.size ≤ 9223372036854775807
  nw : m.s.nw.size ≤ 9223372036854775807
end Go.Proofs.YtgodjnbbocnckaaGreat
