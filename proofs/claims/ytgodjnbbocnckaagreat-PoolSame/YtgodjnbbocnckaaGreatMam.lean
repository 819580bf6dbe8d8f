/- The pool's take. The pool's calls: Get, Set, Pin, Unpin, Dirty, Flush, FlushAll, Pages. The pool's Flush, FlushAll, Table of no dirty page; New. New pools. The law's world: its block, fill, in, pinned, made. The law's world: made, set. The law's world: set. The law's world: set of a page that there is. The law's awake: chapter 10's example. -/
import Derived.Test.YtgodjnbbocnckaaGreatMal
namespace Go.Proofs.YtgodjnbbocnckaaGreat
open Go.RowKit Go.Maps Go.ChangeMaps
set_option linter.unusedVariables false
set_option linter.unusedSimpArgs false
set_option maxRecDepth 100000

/-- A page was taken into a frame. -/
structure Tk [Inhabited PrSet] (B : Nat) (w w' : World) (X : Ad) (k : Nat) (S : Dk) (cs : List Nat) (G : Gp) (st : Nat → Option Nat) (pn : Nat → Nat) (id : Int) (j : Nat) (S' : Dk) (sure' : Nat) (G' : Gp) (pg' : Nat → Option Nat) : Prop where
  v : Pv B w' X k S' cs sure' G' st pn pg'
  hj : j < X.n
  has : (G'.F j).has id
  cm : S.set = false → S'.set = false
  kp : Kp isQ B w w'
  keep : ∀ i, i < X.n → (G.F i).pn ≠ 0 → G'.F i = G.F i
  new : (∀ i, i < X.n → ¬ (G.F i).has id) → (G'.F j).si = 0
  hit : (∃ i, i < X.n ∧ (G.F i).has id) → G' = G
section
variable [Inhabited PrSet] {B k k' sure sure1 m : Nat} {w w' wr : World} {S S' : Dk} {X : Ad} {G : Gp} {cs : List Nat} {st pg : Nat → Option Nat} {pn : Nat → Nat}
end
section
variable {B k k' sure sure1 m : Nat} {w w' wr : World} {S S' : Dk} {X : Ad} {G : Gp} {cs : List Nat} {st pg : Nat → Option Nat} {pn : Nat → Nat}
theorem tor {y : Int} {P Q : Prop} (h0 : y = 0 → P) (h9 : y ≠ 0 → Q) : (y = 0 ∧ P) ∨ (y ≠ 0 ∧ Q) := by
  by_cases h : y = 0
  · exact Or.inl ⟨h, h0 h⟩
  · exact Or.inr ⟨h, h9 h⟩
end
section
variable [Inhabited PrSet] {B k k' sure sure1 m : Nat} {w w' wr : World} {S S' : Dk} {X : Ad} {G : Gp} {cs : List Nat} {st pg : Nat → Option Nat} {pn : Nat → Nat}
end
section
variable {B k k' sure sure1 m : Nat} {w w' wr : World} {S S' : Dk} {X : Ad} {G : Gp} {cs : List Nat} {st pg : Nat → Option Nat} {pn : Nat → Nat}
theorem one_fm (f : Fm) : ∀ v ∈ f.A.toList, v.oneCell' = true := by
  intro v hv
  simp [Fm.A] at hv
  rcases hv with rfl | rfl | rfl | rfl | rfl | rfl <;> rfl
end
section
variable [Inhabited PrSet] {B k k' sure sure1 m : Nat} {w w' wr : World} {S S' : Dk} {X : Ad} {G : Gp} {cs : List Nat} {st pg : Nat → Option Nat} {pn : Nat → Nat}
end
section
variable {B k k' sure sure1 m : Nat} {w w' wr : World} {S S' : Dk} {X : Ad} {G : Gp} {cs : List Nat} {st pg : Nat → Option Nat} {pn : Nat → Nat}
theorem info_fm : (Tryz.prog.info? 85).map (·.size) = some 6 := by kernel_rfl
end
section
variable [Inhabited PrSet] {B k k' sure sure1 m : Nat} {w w' wr : World} {S S' : Dk} {X : Ad} {G : Gp} {cs : List Nat} {st pg : Nat → Option Nat} {pn : Nat → Nat}
end
section
variable {B k k' sure sure1 m : Nat} {w w' wr : World} {S S' : Dk} {X : Ad} {G : Gp} {cs : List Nat} {st pg : Nat → Option Nat} {pn : Nat → Nat}
theorem wpList_load_o {ops : Array Oper} {rest : List Oper} {o : Oper} {a : Act} {Q : Exit → Act → World → Prop} {b : Nat} {id l : Int} {t : ByteArray} (w : World) (hg : o.guard = none) (x : Operand) (hop : o.op = Op.load 83 x) (hx : a.eval x = .pointer (some ⟨b, 0, none⟩)) (hs : w.heap[b]? = some (.cells (pgA id t l) 83))
    (h : wpList Tryz.prog ops Q rest (a.put o.dst (.agg (pgA id t l))) w) : wpList Tryz.prog ops Q (o :: rest) a w :=
  wpList_load_row hg 83 x hop b hx 83 _ (0, 0) _ hs Tryz.underlying83 rfl info_pg h
end
section
variable [Inhabited PrSet] {B k k' sure sure1 m : Nat} {w w' wr : World} {S S' : Dk} {X : Ad} {G : Gp} {cs : List Nat} {st pg : Nat → Option Nat} {pn : Nat → Nat}
end
section
variable {B k k' sure sure1 m : Nat} {w w' wr : World} {S S' : Dk} {X : Ad} {G : Gp} {cs : List Nat} {st pg : Nat → Option Nat} {pn : Nat → Nat}
theorem wpList_build_fm {ops : Array Oper} {rest : List Oper} {o : Oper} {a : Act} {Q : Exit → Act → World → Prop} {i l : Int} {t : ByteArray} (w : World) (hg : o.guard = none) (x : Operand) (hop : o.op = Op.build 85 #[(0, x), (1, .const (.bool true))]) (hx : a.eval x = .agg (pgA i t l))
    (h : wpList Tryz.prog ops Q rest (a.put o.dst (.agg (⟨i, t, l, true, 0, 0⟩ : Fm).A)) w) : wpList Tryz.prog ops Q (o :: rest) a w := by
  refine wpList_plain hg fun K' hK' => ?_
  unfold Oper.wp
  have hb : (Instr.build 85 #[(0, .agg (pgA i t l)), (1, .bool true)]).run Tryz.prog w = .ok (.agg (⟨i, t, l, true, 0, 0⟩ : Fm).A) w := by kernel_rfl
  have hc : a.eval (.const (.bool true)) = .bool true := rfl
  simp [execOp, hop, hx, hc, hb, Result.andThen]
  exact hK' _ _ h
end
section
variable [Inhabited PrSet] {B k k' sure sure1 m : Nat} {w w' wr : World} {S S' : Dk} {X : Ad} {G : Gp} {cs : List Nat} {st pg : Nat → Option Nat} {pn : Nat → Nat}
theorem take_hit (h : PoIs B w X G) (id : Int) (j : Nat) (hj : j < X.n) (hh : (G.F j).has id) (hlt : ∀ i, i < j → ¬ (G.F i).has id) : Calls Tryz.prog 43 #[.pointer (some ⟨X.pb, 0, none⟩), .int .i64 id] w fun e w' => e = .returned (.tuple #[.pointer (some ⟨X.fb j, 0, none⟩), .int .i64 0]) ∧ w' = w := by
  have CM : Hid (Calls Tryz.prog 60 #[.pointer (some ⟨X.pb, 0, none⟩)] w fun e w' => e = .returned (.bool true) ∧ w' = w) := isMade_po h
  have CF : Hid (Calls Tryz.prog 58 #[.pointer (some ⟨X.pb, 0, none⟩), .int .i64 id] w fun e w' => e = .returned (.pointer (some ⟨X.fb j, 0, none⟩)) ∧ w' = w) := find_hit h id j hj hh hlt
  clear h hh hlt
  generalize X.fb j = fb at *
  go_enter Tryz.func43, Tryz.ntmps43
  go_wp2_with (first
    | (go_at_call 60; refine CM.out.mono ?_; rintro e w1 ⟨rfl, rfl⟩)
    | (go_at_call 58; refine CF.out.mono ?_; rintro e w1 ⟨rfl, rfl⟩))
  go_ret2
  exact ⟨rfl, rfl⟩
theorem Pv.cr (h : Pv B w X k S cs sure G st pn pg) (id : Int) (wx : World) (hx : Below w.heap.size w wx) : Calls Tryz.prog 65 #[.pointer (some ⟨X.pb, 0, none⟩), .int .i64 id] wx fun e w' =>
    e = .returned (.tuple #[.agg (pgA id (Go.Proofs.YtgodjnbbocnckaaGreat.rdP S id).1 (Go.Proofs.YtgodjnbbocnckaaGreat.rdP S id).2.1), .int .i64 (Go.Proofs.YtgodjnbbocnckaaGreat.rdP S id).2.2]) ∧ Below wx.heap.size wx w' :=
  read_po (h.q.below hx).po (h.q.below hx).ds (h.q.below hx).st h.q.lv.up h.q.n id
set_option maxHeartbeats 1000000 in
theorem take_out (h : Pv B w X k S cs sure G st pn pg) (id : Int) (hid : ¬ (0 ≤ id ∧ id < 8)) : Calls Tryz.prog 43 #[.pointer (some ⟨X.pb, 0, none⟩), .int .i64 id] w fun e w' => e = .returned (.tuple #[.pointer none, .int .i64 6]) ∧ Below w.heap.size w w' := by
  have hno : ∀ i, i < X.n → ¬ (G.F i).has id := fun i hi hh => by
    obtain ⟨id', h1, h2⟩ := h.v.us i hi hh.1
    have e1 := h2.id
    have e2 := hh.2
    omega
  have CM : Hid (Calls Tryz.prog 60 #[.pointer (some ⟨X.pb, 0, none⟩)] w fun e w' => e = .returned (.bool true) ∧ w' = w) := isMade_po h.q.po
  have CF : Hid (Calls Tryz.prog 58 #[.pointer (some ⟨X.pb, 0, none⟩), .int .i64 id] w fun e w' => e = .returned (.pointer none) ∧ w' = w) := find_miss h.q.po id hno
  have CR : Hid (Calls Tryz.prog 65 #[.pointer (some ⟨X.pb, 0, none⟩), .int .i64 id] w fun e w' => e = .returned (.tuple #[.agg (pgA id ⟨#[]⟩ 0), .int .i64 6]) ∧ Below w.heap.size w w') := by
    have := h.cr id w (Below.refl _ _)
    rw [h.rdOutP hid] at this
    exact this
  clear h hno hid
  go_enter Tryz.func43, Tryz.ntmps43
  go_wp2_with (first
    | (go_at_call 60; refine CM.out.mono ?_; rintro e w1 ⟨rfl, rfl⟩)
    | (go_at_call 58; refine CF.out.mono ?_; rintro e w1 ⟨rfl, rfl⟩)
    | (go_at_call 65; refine CR.out.mono ?_; rintro e w2 ⟨rfl, b2⟩)
    | (refine wpList_new_o _ rfl rfl (zero_pg _) ?_; intro w3 b3 N3)
    | (refine wpList_put_o (A' := pgA id ⟨#[]⟩ 0) _ rfl (.tmp 7) (.tmp 25) rfl rfl rfl N3.blk info_pg rfl (one_pg _ _ _) ?_; intro w4 P4))
  go_ret2
  have e3 := N3.eq
  have s2 := b2.size
  have s3 := N3.below.size
  exact ⟨rfl, (thn b2 N3.below).trans (P4.off.below (fun k hk => by omega) (by omega))⟩
set_option maxHeartbeats 1000000 in
theorem take_full (h : Pv B w X k S cs sure G st pn pg) (id : Nat) (hid : id < 8) (hno : ∀ i, i < X.n → ¬ (G.F i).has (id : Int)) (hp : ∀ i, i < X.n → (G.F i).pn ≠ 0) : Calls Tryz.prog 43 #[.pointer (some ⟨X.pb, 0, none⟩), .int .i64 (id : Int)] w fun e w' => e = .returned (.tuple #[.pointer none, .int .i64 7]) ∧ Below w.heap.size w w' := by
  have CM : Hid (Calls Tryz.prog 60 #[.pointer (some ⟨X.pb, 0, none⟩)] w fun e w' => e = .returned (.bool true) ∧ w' = w) := isMade_po h.q.po
  have CF : Hid (Calls Tryz.prog 58 #[.pointer (some ⟨X.pb, 0, none⟩), .int .i64 (id : Int)] w fun e w' => e = .returned (.pointer none) ∧ w' = w) := find_miss h.q.po id hno
  obtain ⟨tx, htx⟩ : ∃ tx, tx = txO cs (pg id) := ⟨_, rfl⟩
  obtain ⟨ln, hln⟩ : ∃ ln, ln = lnO (pg id) := ⟨_, rfl⟩
  have CR : Hid (Calls Tryz.prog 65 #[.pointer (some ⟨X.pb, 0, none⟩), .int .i64 (id : Int)] w fun e w' => e = .returned (.tuple #[.agg (pgA (id : Int) tx ln), .int .i64 0]) ∧ Below w.heap.size w w') := by
    have := h.cr id w (Below.refl _ _)
    rw [h.rdP hid, ← htx, ← hln] at this
    exact this
  have CP : Hid (∀ wx, Below w.heap.size w wx → Calls Tryz.prog 66 #[.pointer (some ⟨X.pb, 0, none⟩)] wx fun e w' => e = .returned (.int .i64 (-1)) ∧ Below wx.heap.size wx w') := fun wx hx => pick_none (h.q.po.below hx) hp
  clear h hno hid hp htx hln
  generalize (id : Int) = idI at *
  go_enter Tryz.func43, Tryz.ntmps43
  go_wp2_with (first
    | (go_at_call 60; refine CM.out.mono ?_; rintro e w1 ⟨rfl, rfl⟩)
    | (go_at_call 58; refine CF.out.mono ?_; rintro e w1 ⟨rfl, rfl⟩)
    | (go_at_call 65; refine CR.out.mono ?_; rintro e w2 ⟨rfl, b2⟩)
    | (refine wpList_new_o _ rfl rfl (zero_pg _) ?_; intro w3 b3 N3)
    | (refine wpList_put_o (A' := pgA idI tx ln) _ rfl (.tmp 7) (.tmp 25) rfl rfl rfl N3.blk info_pg rfl (one_pg _ _ _) ?_; intro w4 P4; have B4 : Hid (Below w1.heap.size w1 w4) := (thn b2 N3.below).trans (P4.off.below (fun k hk => (by have e3 := N3.eq; have s2 := b2.size; omega)) (by have s2 := b2.size; have s3 := N3.below.size; omega)))
    | (go_at_call 66; refine (CP.out _ B4.out).mono ?_; rintro e w5 ⟨rfl, b5⟩))
  go_ret2
  exact ⟨rfl, thn B4.out b5⟩
set_option maxHeartbeats 8000000 in
theorem take_new (h : Pv B w X k S cs sure G st pn pg) (hk : k ≤ 29000) (id : Nat) (hid : id < 8) (hno : ∀ i, i < X.n → ¬ (G.F i).has (id : Int)) (hp : ∃ i, i < X.n ∧ (G.F i).pn = 0) : Calls Tryz.prog 43 #[.pointer (some ⟨X.pb, 0, none⟩), .int .i64 (id : Int)] w fun e w' => ∃ p y, e = .returned (.tuple #[p, .int .i64 y]) ∧ (y = 0 → ∃ j S' sure' G' pg', p = .pointer (some ⟨X.fb j, 0, none⟩) ∧ Tk B w w' X (k + 46) S cs G st pn (id : Int) j S' sure' G' pg') ∧ (y ≠ 0 → p = .pointer none ∧ y = 9 ∧ Ls B w w' X (k + 46) S cs) := by
  have CM : Hid (Calls Tryz.prog 60 #[.pointer (some ⟨X.pb, 0, none⟩)] w fun e w' => e = .returned (.bool true) ∧ w' = w) := isMade_po h.q.po
  have CF : Hid (Calls Tryz.prog 58 #[.pointer (some ⟨X.pb, 0, none⟩), .int .i64 (id : Int)] w fun e w' => e = .returned (.pointer none) ∧ w' = w) := find_miss h.q.po id hno
  obtain ⟨tx, htx⟩ : ∃ tx, tx = txO cs (pg id) := ⟨_, rfl⟩
  obtain ⟨ln, hln⟩ : ∃ ln, ln = lnO (pg id) := ⟨_, rfl⟩
  have CR : Hid (Calls Tryz.prog 65 #[.pointer (some ⟨X.pb, 0, none⟩), .int .i64 (id : Int)] w fun e w' => e = .returned (.tuple #[.agg (pgA (id : Int) tx ln), .int .i64 0]) ∧ Below w.heap.size w w') := by
    have := h.cr id w (Below.refl _ _)
    rw [h.rdP hid, ← htx, ← hln] at this
    exact this
  have CP : Hid (∀ wx, Below w.heap.size w wx → Calls Tryz.prog 66 #[.pointer (some ⟨X.pb, 0, none⟩)] wx fun e w' => ∃ a : Nat, e = .returned (.int .i64 (a : Int)) ∧ a < X.n ∧ (G.F a).pn = 0 ∧ Below wx.heap.size wx w') := fun wx hx => pick_some (h.q.po.below hx) hp
  have HC : Hid (∀ wx a, Below w.heap.size w wx → a < X.n → wx.cell? ⟨X.pb, 2, none⟩ = some (.slice (some ⟨X.ra, 0, none⟩) X.n X.cp) ∧ wx.cell? ⟨X.ra, a, none⟩ = some (.pointer (some ⟨X.fb a, 0, none⟩))) := fun wx a hx ha => ⟨(h.q.po.below hx).c2, (h.q.po.below hx).ra ha⟩
  have CS : Hid (∀ wx a, Below w.heap.size w wx → a < X.n → Calls Tryz.prog 62 #[.pointer (some ⟨X.pb, 0, none⟩), .slice (some ⟨wx.heap.size, 0, none⟩) 1 1] (wx.alloc (.cells #[.pointer (some ⟨X.fb a, 0, none⟩)] 79)) fun e w' => ∃ y, e = .returned (.int .i64 y) ∧ (y = 0 → ∃ ds S' sure' sv, SvO B (wx.alloc (.cells #[.pointer (some ⟨X.fb a, 0, none⟩)] 79)) w' X (k + 46) S cs sure G st pg [a] ds S' sure' sv) ∧ (y ≠ 0 → y = 9 ∧ Ls B (wx.alloc (.cells #[.pointer (some ⟨X.fb a, 0, none⟩)] 79)) w' X (k + 46) S cs) ∧ Kp isQ B (wx.alloc (.cells #[.pointer (some ⟨X.fb a, 0, none⟩)] 79)) w') := fun wx a hx ha => by
    have hb : Below w.heap.size w (wx.alloc (.cells #[.pointer (some ⟨X.fb a, 0, none⟩)] 79)) := hx.alloc hx.size _
    have := save_po (js := [a]) (st := st) (h.q.below hb) h.p (by simp; omega) (Ps.one wx ha) (by simp) 1 (fun j hj hd => by rw [List.mem_singleton] at hj; subst hj; exact h.v.dj ha hd)
    refine this.mono ?_
    rintro e w' ⟨y, he, h0, h9⟩
    refine ⟨y, he, h0, h9, ?_⟩
    by_cases hy : y = 0
    · obtain ⟨ds, S1, s1, sv, q⟩ := h0 hy
      exact q.kp
    · exact (h9 hy).2.kp
  have hle := h.q.le
  have hn2 := h.q.po.n2
  have HE : Hid (∀ wx w3 a ds S' sure' sv, Below w.heap.size w wx → a < X.n → (G.F a).pn = 0 → SvO B wx w3 X (k + 46) S cs sure G st pg [a] ds S' sure' sv → Pv B w3 X (k + 46) S' cs sure' { cln G ds with sv := sv } st pn (pgw G st pg ds) ∧ ((cln G ds).F a).si = 0 ∧ ((cln G ds).F a).pn = 0 ∧ (∀ i, i < X.n → ¬ ((cln G ds).F i).has (id : Int)) ∧ tx = txO cs (pgw G st pg ds id) ∧ ln = lnO (pgw G st pg ds id) ∧ (∀ i, i ≠ a → (cln G ds).F i = G.F i) ∧ (S.set = false → S'.set = false)) := fun wx w3 a ds S' sure' sv hx ha hpa hs => by
    have hF : ∀ j, (cln G ds).F j = if j ∈ ds then (G.F j).cl else G.F j := fun j => rfl
    have hmem : ∀ j, j ∈ ds ↔ j = a ∧ dty G a = true := fun j => by
      rw [hs.perm.mem_iff, List.mem_filter, List.mem_singleton]
      constructor
      · rintro ⟨rfl, h2⟩; exact ⟨rfl, h2⟩
      · rintro ⟨rfl, h2⟩; exact ⟨rfl, h2⟩
    have hpg : pgw G st pg ds id = pg id := by
      unfold pgw
      rw [if_neg]
      intro hany
      obtain ⟨j, hj, he⟩ := List.any_eq_true.1 hany
      obtain ⟨rfl, hd⟩ := (hmem j).1 hj
      have he' : (G.F j).id = (id : Int) := by simpa using he
      refine hno j ha ⟨?_, he'⟩
      cases hu : (G.F j).us with
      | true => rfl
      | false =>
        have := (h.v.un j ha hu).1
        simp [dty, this] at hd
    refine ⟨(h.below hx).saved hs, ?_, ?_, fun i hi hh => ?_, by rw [hpg]; exact htx, by rw [hpg]; exact hln, fun i hi => ?_, hs.cm⟩
    · rw [hF]
      by_cases hd : dty G a = true
      · rw [if_pos ((hmem a).2 ⟨rfl, hd⟩)]; rfl
      · rw [if_neg (fun hm => hd ((hmem a).1 hm).2)]
        cases hu : (G.F a).us with
        | false => exact (h.v.un a ha hu).1
        | true =>
          obtain ⟨id', h1, h2⟩ := h.v.us a ha hu
          rcases h2.si with e | ⟨k0, r0, _, _, e3⟩
          · exact e
          · exfalso
            apply hd
            have := lnO_pos k0
            simp only [dty, decide_eq_true_eq]
            omega
    · rw [hF]; split
      · exact hpa
      · exact hpa
    · rw [hF] at hh
      split at hh
      · exact hno i hi hh
      · exact hno i hi hh
    · rw [hF, if_neg (fun hm => hi ((hmem i).1 hm).1)]
  have HNo : Hid (∀ i, i < X.n → ¬ (G.F i).has (id : Int)) := hno
  have hidH : Hid (id < 8) := hid
  clear h hno hid hp htx hln hk
  go_enter Tryz.func43, Tryz.ntmps43
  go_wp2_with (first
    | (go_at_call 60; refine CM.out.mono ?_; rintro e w1 ⟨rfl, rfl⟩)
    | (go_at_call 58; refine CF.out.mono ?_; rintro e w1 ⟨rfl, rfl⟩)
    | (go_at_call 65; refine CR.out.mono ?_; rintro e w2 ⟨rfl, b2⟩)
    | (refine wpList_new_o _ rfl rfl (zero_pg _) ?_; intro w3 b3 N3)
    | (refine wpList_put_o (A' := pgA (id : Int) tx ln) _ rfl (.tmp 7) (.tmp 25) rfl rfl rfl N3.blk info_pg rfl (one_pg _ _ _) ?_; intro w4 P4; have B4 : Hid (Below w1.heap.size w1 w4) := (thn b2 N3.below).trans (P4.off.below (fun k hk => (by have e3 := N3.eq; have s2 := b2.size; omega)) (by have s2 := b2.size; have s3 := N3.below.size; omega)); have p4 := P4.blk; clear P4 N3 b2)
    | (go_at_call 66; refine (CP.out _ B4.out).mono ?_; rintro e w5 ⟨a, rfl, ha, hpa, b5⟩; have B5 : Hid (Below w1.heap.size w1 w5) := thn B4.out b5; have p5 : Hid (w5.heap[b3]? = some (.cells (pgA (id : Int) tx ln) 83)) := (b5.block _ (lt_of_some p4)).trans p4; have c2 := (HC.out _ a B5.out ha).1; have ra := (HC.out _ a B5.out ha).2; have ha1 : (a : Int) < (X.n : Int) := (by omega); have ha2 : ¬ (a : Int) < 0 := (by omega); have ha3 : (a : Int) ≤ 64 := (by omega); have HA : Hid (a < X.n) := ha; have HPA : Hid ((G.F a).pn = 0) := hpa; clear ha hpa b5 B4 p4)
    | (go_at_call 62; refine (CS.out _ a B5.out HA.out).mono ?_; rintro e w6 ⟨y, rfl, h0, h9, K6⟩; rcases tor h0 h9 with ⟨rfl, hP⟩ | ⟨hy, hQ⟩ <;> first
        | (obtain ⟨ds, S6, sure6, sv6, O6⟩ := hP; have E6 := HE.out _ _ a ds S6 sure6 sv6 (B5.out.alloc (by exact B5.out.size) _) HA.out HPA.out O6; have p6 : w6.heap[b3]? = some (.cells (pgA (id : Int) tx ln) 83) := O6.kp.block _ _ ((((Below.refl _ _).alloc (Nat.le_refl _) _).block b3 (lt_of_some p5.out)).trans p5.out) (by simp [isQ, isA, isD, isL, isF]); have K6' : Hid (Kp isQ B w1 w6) := (Kp.of_below (B5.out.alloc (by exact B5.out.size) _) hle).trans O6.kp; obtain ⟨V6, e1, e2, e3, e4, e5, e6, e7⟩ := E6; have fr6 := V6.q.po.fr a HA.out; have HV6 : Hid (Pv B w6 X (k + 46) S6 cs sure6 { cln G ds with sv := sv6 } st pn (pgw G st pg ds)) := V6; have E1 : Hid (((cln G ds).F a).si = 0) := e1; have E2 : Hid (((cln G ds).F a).pn = 0) := e2; have E3 : Hid (∀ i, i < X.n → ¬ ((cln G ds).F i).has (id : Int)) := e3; have E4 : Hid (tx = txO cs (pgw G st pg ds id)) := e4; have E5 : Hid (ln = lnO (pgw G st pg ds id)) := e5; have E6 : Hid (∀ i, i ≠ a → (cln G ds).F i = G.F i) := e6; have E7 : Hid (S.set = false → S6.set = false) := e7; clear V6 e1 e2 e3 e4 e5 e6 e7 O6 h0 h9 c2 ra)
        | (have hyb : (y != 0) = true := (by simpa using hy); have HQ : Hid (y = 9 ∧ Ls B (w5.alloc (.cells #[.pointer (some ⟨X.fb a, 0, none⟩)] 79)) w6 X (k + 46) S cs) := hQ; clear h0 h9 hQ))
    | (refine wpList_load_o _ rfl (.tmp 7) rfl rfl p6 ?_)
    | (refine wpList_build_fm (i := (id : Int)) (t := tx) (l := ln) _ rfl (.tmp 49) rfl rfl ?_)
    | (refine wpList_put_o (A' := (⟨(id : Int), tx, ln, true, 0, 0⟩ : Fm).A) _ rfl (.tmp 51) (.tmp 50) rfl rfl rfl fr6 info_fm rfl (one_fm _) ?_; intro w7 P7; have U7 := HV6.out.q.po.putF HA.out (f := ⟨(id : Int), tx, ln, true, 0, 0⟩) P7.off P7.blk HV6.out.q.le; have Q7 : Hid (Pq B w7 X (k + 46) S6 cs sure6 (({ cln G ds with sv := sv6 } : Gp).set a ⟨(id : Int), tx, ln, true, 0, 0⟩)) := HV6.out.q.turn U7; have K7 : Hid (Kp isQ B w6 w7) := U7.2.f; have c3 := Q7.out.po.c3; have z3 := Q7.out.po.z 3; have c5 := Q7.out.po.c5; have z5 := Q7.out.po.z 5; clear U7 P7 fr6 p6))
  · have V6 := HV6.out
    have hh0 : (0 : Int) ≤ (a : Int) + 1 := by omega
    have hh1 : (a : Int) + 1 ≤ (X.n : Int) := by omega
    go_ret2
    have P8 := Q7.out.po.setP (G' := { ({ cln G ds with sv := sv6 } : Gp).set a ⟨(id : Int), tx, ln, true, 0, 0⟩ with hd := (a : Int) + 1 }) (i := 3) (u := .int .i64 ((a : Int) + 1)) rfl rfl hh0 hh1 Q7.out.le
    have Q8 := Q7.out.turn P8
    have P9 := fun x => Q8.po.setP (G' := { ({ ({ cln G ds with sv := sv6 } : Gp).set a ⟨(id : Int), tx, ln, true, 0, 0⟩ with hd := (a : Int) + 1 } : Gp) with tk := x }) (i := 5) (u := .int .i64 x) rfl rfl hh0 hh1 Q8.le
    have e4 := E4.out
    have e5 := E5.out
    have hF : ∀ i, upd (cln G ds).F a (⟨(id : Int), tx, ln, true, 0, 0⟩ : Fm) i = if i = a then ⟨(id : Int), tx, ln, true, 0, 0⟩ else (cln G ds).F i := fun i => rfl
    refine ⟨_, 0, rfl, fun _ => ⟨a, rfl, S6, sure6, _, pgw G st pg ds, ⟨Q8.turn (P9 _), V6.p, ?_⟩, HA.out, ?_, E7.out, ((K6'.out.trans K7.out).trans P8.2.f).trans (P9 _).2.f, fun i hi hp => ?_, fun _ => ?_, fun ⟨i, hi, hh⟩ => absurd hh (HNo.out i hi)⟩, fun e => absurd rfl e⟩
    · have := V6.v.taken HA.out hidH.out E3.out E2.out E1.out
      rw [← e4, ← e5] at this
      exact this
    · show (upd (cln G ds).F a (⟨(id : Int), tx, ln, true, 0, 0⟩ : Fm) a).has _
      rw [upd_same]
      exact ⟨rfl, rfl⟩
    · have hia : i ≠ a := fun e => by subst e; exact hp HPA.out
      show upd (cln G ds).F a (⟨(id : Int), tx, ln, true, 0, 0⟩ : Fm) i = _
      rw [upd_other _ _ hia]
      exact E6.out i hia
    · show (upd (cln G ds).F a (⟨(id : Int), tx, ln, true, 0, 0⟩ : Fm) a).si = 0
      rw [upd_same]
  · go_ret2
    refine ⟨_, y, rfl, fun e => absurd e hy, fun _ => ⟨rfl, HQ.out.1, ?_⟩⟩
    obtain ⟨q1, q2, q3⟩ := HQ.out.2
    exact ⟨q1, q2, (Kp.of_below (B5.out.alloc (by exact B5.out.size) _) hle).trans q3⟩
end
end Go.Proofs.YtgodjnbbocnckaaGreat

namespace Go.Proofs.YtgodjnbbocnckaaGreat
open Go.RowKit Go.Maps Go.ChangeMaps
set_option linter.unusedVariables false
set_option linter.unusedSimpArgs false
set_option maxRecDepth 100000

/-- Why a page is not taken into a frame. -/
structure Er [Inhabited PrSet] (B : Nat) (w w' : World) (X : Ad) (k : Nat) (S : Dk) (cs : List Nat) (G : Gp) (id : Int) (y : Int) : Prop where
  or : (y = 6 ∧ ¬ (0 ≤ id ∧ id < 8) ∧ Below w.heap.size w w') ∨ (y = 7 ∧ (0 ≤ id ∧ id < 8) ∧ (∀ i, i < X.n → ¬ (G.F i).has id) ∧ (∀ i, i < X.n → (G.F i).pn ≠ 0) ∧ Below w.heap.size w w') ∨ (y = 9 ∧ (0 ≤ id ∧ id < 8) ∧ Ls B w w' X k S cs)
section
variable [Inhabited PrSet] {B k k' sure sure1 m : Nat} {w w' wr : World} {S S' : Dk} {X : Ad} {G : Gp} {cs : List Nat} {st pg : Nat → Option Nat} {pn : Nat → Nat}
end
section
variable {B k k' sure sure1 m : Nat} {w w' wr : World} {S S' : Dk} {X : Ad} {G : Gp} {cs : List Nat} {st pg : Nat → Option Nat} {pn : Nat → Nat}
theorem first_has (F : Nat → Fm) (id : Int) (n : Nat) (h : ∃ j, j < n ∧ (F j).has id) : ∃ j, j < n ∧ (F j).has id ∧ ∀ i, i < j → ¬ (F i).has id := by
  induction n with
  | zero => obtain ⟨j, hj, _⟩ := h; omega
  | succ n ih =>
    by_cases h2 : ∃ j, j < n ∧ (F j).has id
    · obtain ⟨j, h1, h3, h4⟩ := ih h2
      exact ⟨j, by omega, h3, h4⟩
    · obtain ⟨j, hj, hh⟩ := h
      have : j = n := by
        rcases Nat.lt_or_ge j n with h5 | h5
        · exact absurd ⟨j, h5, hh⟩ h2
        · omega
      subst this
      exact ⟨j, by omega, hh, fun i hi hh2 => h2 ⟨i, hi, hh2⟩⟩
end
section
variable [Inhabited PrSet] {B k k' sure sure1 m : Nat} {w w' wr : World} {S S' : Dk} {X : Ad} {G : Gp} {cs : List Nat} {st pg : Nat → Option Nat} {pn : Nat → Nat}
end
section
variable {B k k' sure sure1 m : Nat} {w w' wr : World} {S S' : Dk} {X : Ad} {G : Gp} {cs : List Nat} {st pg : Nat → Option Nat} {pn : Nat → Nat}
theorem set_set (j : Nat) (f f' : Fm) : (G.set j f).set j f' = G.set j f' := by
  unfold Gp.set
  congr 1
  funext i
  unfold upd
  split
  · rfl
  · rename_i h; dsimp only; rw [if_neg h]
end
section
variable [Inhabited PrSet] {B k k' sure sure1 m : Nat} {w w' wr : World} {S S' : Dk} {X : Ad} {G : Gp} {cs : List Nat} {st pg : Nat → Option Nat} {pn : Nat → Nat}
theorem take_any (h : Pv B w X k S cs sure G st pn pg) (hk : k ≤ 29000) (id : Int) : Calls Tryz.prog 43 #[.pointer (some ⟨X.pb, 0, none⟩), .int .i64 id] w fun e w' => ∃ p y, e = .returned (.tuple #[p, .int .i64 y]) ∧ (y = 0 → ∃ j S' sure' G' pg', p = .pointer (some ⟨X.fb j, 0, none⟩) ∧ Tk B w w' X (k + 46) S cs G st pn id j S' sure' G' pg') ∧ (y ≠ 0 → p = .pointer none ∧ Er B w w' X (k + 46) S cs G id y) := by
  by_cases hid : 0 ≤ id ∧ id < 8
  · by_cases hex : ∃ j, j < X.n ∧ (G.F j).has id
    · obtain ⟨j, hj, hh, hlt⟩ := first_has G.F id X.n hex
      refine (take_hit h.q.po id j hj hh hlt).mono ?_
      rintro e w' ⟨he, rfl⟩
      refine ⟨_, 0, he, fun _ => ⟨j, S, sure, G, pg, rfl, h.mono (by omega), hj, hh, fun h => h, Kp.refl _ _ _, fun _ _ _ => rfl, fun hno => absurd hh (hno j hj), fun _ => rfl⟩, fun e => absurd rfl e⟩
    · obtain ⟨d, rfl⟩ : ∃ d : Nat, id = (d : Int) := ⟨id.toNat, by omega⟩
      have hno : ∀ i, i < X.n → ¬ (G.F i).has (d : Int) := fun i hi hh => hex ⟨i, hi, hh⟩
      by_cases hp : ∃ i, i < X.n ∧ (G.F i).pn = 0
      · refine (take_new h hk d (by omega) hno hp).mono ?_
        rintro e w' ⟨p, y, he, h0, h9⟩
        exact ⟨p, y, he, h0, fun hy => ⟨(h9 hy).1, by rw [(h9 hy).2.1]; exact ⟨Or.inr (Or.inr ⟨rfl, hid, (h9 hy).2.2⟩)⟩⟩⟩
      · have hp' : ∀ i, i < X.n → (G.F i).pn ≠ 0 := fun i hi e => hp ⟨i, hi, e⟩
        refine (take_full h d (by omega) hno hp').mono ?_
        rintro e w' ⟨he, hb⟩
        exact ⟨_, 7, he, fun e => by omega, fun _ => ⟨rfl, ⟨Or.inr (Or.inl ⟨rfl, hid, hno, hp', hb⟩)⟩⟩⟩
  · refine (take_out h id hid).mono ?_
    rintro e w' ⟨he, hb⟩
    exact ⟨_, 6, he, fun e => by omega, fun _ => ⟨rfl, ⟨Or.inl ⟨rfl, hid, hb⟩⟩⟩⟩
/-- Get. -/
structure GtO (B : Nat) (w w' : World) (X : Ad) (k : Nat) (S : Dk) (cs : List Nat) (G : Gp) (st : Nat → Option Nat) (pn : Nat → Nat) (id : Int) (t : ByteArray) (l y : Int) : Prop where
  ok : y = 0 → ∃ (d j : Nat) (S' : Dk) (sure' : Nat) (G' : Gp) (pg' : Nat → Option Nat), id = (d : Int) ∧ d < 8 ∧ t = txO cs (st d) ∧ l = lnO (st d) ∧ Tk B w w' X k S cs G st pn id j S' sure' G' pg'
  bad : y ≠ 0 → t = ⟨#[]⟩ ∧ l = 0 ∧ Er B w w' X k S cs G id y
theorem Tk.below {id : Int} {j : Nat} {S' : Dk} {G' : Gp} {pg' : Nat → Option Nat} (h : Tk B w wr X k S cs G st pn id j S' sure1 G' pg') (hb : Below wr.heap.size wr w') (hB : B ≤ w.heap.size) : Tk B w w' X k S cs G st pn id j S' sure1 G' pg' :=
  ⟨h.v.below hb, h.hj, h.has, h.cm, h.kp.below hb hB, h.keep, h.new, h.hit⟩
set_option maxHeartbeats 2000000 in
theorem Get_any (h : Pv B w X k S cs sure G st pn pg) (hk : k ≤ 29000) (id : Int) : Calls Tryz.prog 14 #[.pointer (some ⟨X.pb, 0, none⟩), .int .i64 id] w fun e w' => ∃ t l y, e = .returned (.tuple #[.string t, .int .i64 l, .int .i64 y]) ∧ GtO B w w' X (k + 46) S cs G st pn id t l y := by
  have CT : Hid (Calls Tryz.prog 43 #[.pointer (some ⟨X.pb, 0, none⟩), .int .i64 id] w fun e w' => ∃ p y, e = .returned (.tuple #[p, .int .i64 y]) ∧ (y = 0 → ∃ j S' sure' G' pg', p = .pointer (some ⟨X.fb j, 0, none⟩) ∧ Tk B w w' X (k + 46) S cs G st pn id j S' sure' G' pg') ∧ (y ≠ 0 → p = .pointer none ∧ Er B w w' X (k + 46) S cs G id y)) := take_any h hk id
  have hle := h.q.le
  clear h hk
  go_enter Tryz.func14, Tryz.ntmps14
  go_wp2_with (go_at_call 43; refine CT.out.mono ?_; rintro e w1 ⟨p, y, rfl, h0, h9⟩; rcases tor h0 h9 with ⟨rfl, hP⟩ | ⟨hy, hQ⟩ <;> first
    | (obtain ⟨j, S1, sure1, G1, pg1, rfl, T1⟩ := hP; have f1 := T1.v.q.po.f1 T1.hj; have f2 := T1.v.q.po.f2 T1.hj; have HT : Hid (Tk B w w1 X (k + 46) S cs G st pn id j S1 sure1 G1 pg1) := T1; clear T1 h0 h9)
    | (obtain ⟨rfl, hE⟩ := hQ; have hyb : (y != 0) = true := (by simpa using hy); have HE : Hid (Er B w w1 X (k + 46) S cs G id y) := hE; clear h0 h9 hE))
  · generalize ht : (G1.F j).tx = t at *
    generalize hl : (G1.F j).ln = l at *
    have HTx : Hid ((G1.F j).tx = t) := ht
    have HLn : Hid ((G1.F j).ln = l) := hl
    clear ht hl
    go_quiet (fail)
    go_wp2
    go_ret3
    obtain ⟨d, h1, h2⟩ := HT.out.v.v.us j HT.out.hj HT.out.has.1
    refine ⟨_, _, _, rfl, ⟨fun _ => ⟨d, j, S1, sure1, G1, pg1, ?_, h1, ?_, ?_, HT.out.below (Sm.below_dr (Below.refl _ _) nq) hle⟩, fun e => absurd rfl e⟩⟩
    · rw [← HT.out.has.2]; exact h2.id
    · rw [← HTx.out]; exact h2.tx
    · rw [← HLn.out]; exact h2.ln
  · go_ret3
    exact ⟨_, _, y, rfl, ⟨fun e => absurd e hy, fun _ => ⟨rfl, rfl, HE.out⟩⟩⟩
/-- A frame that is set. -/
def Fm.put (f : Fm) (t : ByteArray) (l : Int) : Fm := { f with tx := t, ln := l, si := if 0 < f.si then f.si else l }
structure StO (B : Nat) (w w' : World) (X : Ad) (k : Nat) (S : Dk) (cs : List Nat) (G : Gp) (st : Nat → Option Nat) (pn : Nat → Nat) (id : Int) (t : ByteArray) (l y : Int) : Prop where
  ok : y = 0 → ∃ (w1 : World) (j : Nat) (S' : Dk) (sure' : Nat) (G' : Gp) (pg' : Nat → Option Nat), Tk B w w1 X k S cs G st pn id j S' sure' G' pg' ∧ Pq B w' X k S' cs sure' (G'.set j ((G'.F j).put t l)) ∧ Kp isQ B w w'
  bad : y ≠ 0 → Er B w w' X k S cs G id y
set_option maxHeartbeats 4000000 in
theorem Set_any (h : Pv B w X k S cs sure G st pn pg) (hk : k ≤ 29000) (id : Int) (t : ByteArray) (ht : t.size = 224) (l : Int) (hl : 1 ≤ l) : Calls Tryz.prog 30 #[.pointer (some ⟨X.pb, 0, none⟩), .int .i64 id, .string t, .int .i64 l] w fun e w' => ∃ y, e = .returned (.int .i64 y) ∧ StO B w w' X (k + 46) S cs G st pn id t l y := by
  have CM : Hid (Calls Tryz.prog 60 #[.pointer (some ⟨X.pb, 0, none⟩)] w fun e w' => e = .returned (.bool true) ∧ w' = w) := isMade_po h.q.po
  have CT : Hid (Calls Tryz.prog 43 #[.pointer (some ⟨X.pb, 0, none⟩), .int .i64 id] w fun e w' => ∃ p y, e = .returned (.tuple #[p, .int .i64 y]) ∧ (y = 0 → ∃ j S' sure' G' pg', p = .pointer (some ⟨X.fb j, 0, none⟩) ∧ Tk B w w' X (k + 46) S cs G st pn id j S' sure' G' pg') ∧ (y ≠ 0 → p = .pointer none ∧ Er B w w' X (k + 46) S cs G id y)) := take_any h hk id
  have HS : Hid (∀ w1 j S1 sure1 G1 pg1, Tk B w w1 X (k + 46) S cs G st pn id j S1 sure1 G1 pg1 → Pq B ((w1.setCell ⟨X.fb j, 1, none⟩ (.string t)).setCell ⟨X.fb j, 2, none⟩ (.int .i64 l)) X (k + 46) S1 cs sure1 (G1.set j { G1.F j with tx := t, ln := l }) ∧ Kp isQ B w ((w1.setCell ⟨X.fb j, 1, none⟩ (.string t)).setCell ⟨X.fb j, 2, none⟩ (.int .i64 l)) ∧ ((w1.setCell ⟨X.fb j, 1, none⟩ (.string t)).setCell ⟨X.fb j, 2, none⟩ (.int .i64 l)).cell? ⟨X.fb j, 4, none⟩ = some (.int .i64 (G1.F j).si)) := fun w1 j S1 sure1 G1 pg1 T => by
    have P1 := T.v.q.po.setF T.hj (f := { G1.F j with tx := t }) (i := 1) (u := .string t) rfl T.v.q.le
    have Q1 := T.v.q.turn P1
    have P2 := Q1.po.setF T.hj (f := { G1.F j with tx := t, ln := l }) (i := 2) (u := .int .i64 l) (by
      show ((upd G1.F j ({ G1.F j with tx := t } : Fm)) j).A.setIfInBounds 2 _ = _
      rw [upd_same]; rfl) Q1.le
    have Q2 := Q1.turn P2
    have e : (G1.set j { G1.F j with tx := t }).set j { G1.F j with tx := t, ln := l } = G1.set j { G1.F j with tx := t, ln := l } := by
      unfold Gp.set
      congr 1
      funext i
      unfold upd
      split
      · rfl
      · rename_i h; dsimp only; rw [if_neg h]
    rw [e] at Q2
    refine ⟨Q2, (T.kp.trans P1.2.f).trans P2.2.f, ?_⟩
    have := Q2.po.f4 T.hj
    have e2 : ((G1.set j { G1.F j with tx := t, ln := l }).F j).si = (G1.F j).si := by
      show (upd G1.F j _ j).si = _
      rw [upd_same]
    rw [e2] at this
    exact this
  have hle := h.q.le
  have l1 : ¬ l < 1 := by omega
  have htI : (t.size : Int) = 224 := by omega
  clear h hk hl
  go_enter Tryz.func30, Tryz.ntmps30
  go_wp2_with (first
    | (go_at_call 60; refine CM.out.mono ?_; rintro e w0 ⟨rfl, rfl⟩)
    | (go_at_call 43; refine CT.out.mono ?_; rintro e w1 ⟨p, y, rfl, h0, h9⟩; rcases tor h0 h9 with ⟨rfl, hP⟩ | ⟨hy, hQ⟩ <;> first
        | (obtain ⟨j, S1, sure1, G1, pg1, rfl, T1⟩ := hP; have f1 := T1.v.q.po.f1 T1.hj; have f2 := T1.v.q.po.f2 T1.hj; have z1 := T1.v.q.po.fz T1.hj 1; have z2 := T1.v.q.po.fz T1.hj 2; have HT : Hid (Tk B w0 w1 X (k + 46) S cs G st pn id j S1 sure1 G1 pg1) := T1; have U := HS.out _ _ _ _ _ _ T1; have f4 := U.2.2; have HU : Hid (Pq B ((w1.setCell ⟨X.fb j, 1, none⟩ (.string t)).setCell ⟨X.fb j, 2, none⟩ (.int .i64 l)) X (k + 46) S1 cs sure1 (G1.set j { G1.F j with tx := t, ln := l }) ∧ Kp isQ B w0 ((w1.setCell ⟨X.fb j, 1, none⟩ (.string t)).setCell ⟨X.fb j, 2, none⟩ (.int .i64 l))) := ⟨U.1, U.2.1⟩; clear U T1 h0 h9; generalize hsi : (G1.F j).si = si at f4; have HSi : Hid ((G1.F j).si = si) := hsi; clear hsi)
        | (obtain ⟨rfl, hE⟩ := hQ; have hyb : (y != 0) = true := (by simpa using hy); have HE : Hid (Er B w0 w1 X (k + 46) S cs G id y) := hE; clear h0 h9 hE))
    | (go_at_call 59; refine (isDirty_at f4).mono ?_; rintro e w2 ⟨rfl, rfl⟩; have z4 := HU.out.1.po.fz HT.out.hj 4))
  · have hs : ¬ 0 < si := by simpa using ‹(!decide (0 < si)) = true›
    go_ret
    have P3 := HU.out.1.po.setF HT.out.hj (f := (G1.F j).put t l) (i := 4) (u := .int .i64 l) (by
      show ((upd G1.F j ({ G1.F j with tx := t, ln := l } : Fm)) j).A.setIfInBounds 4 _ = _
      rw [upd_same]
      unfold Fm.put
      rw [HSi.out, if_neg hs]; rfl) HU.out.1.le
    have Q3 := HU.out.1.turn P3
    rw [set_set] at Q3
    exact ⟨0, rfl, fun _ => ⟨w1, j, S1, sure1, G1, pg1, HT.out, Q3, HU.out.2.trans P3.2.f⟩, fun e => absurd rfl e⟩
  · have hs : 0 < si := by simpa using ‹(!decide (0 < si)) = false›
    go_ret
    have e : (G1.F j).put t l = { G1.F j with tx := t, ln := l } := by
      unfold Fm.put
      rw [if_pos (by rw [HSi.out]; exact hs)]
    refine ⟨0, rfl, fun _ => ⟨w1, j, S1, sure1, G1, pg1, HT.out, ?_, HU.out.2⟩, fun e => absurd rfl e⟩
    rw [e]
    exact HU.out.1
  · go_ret
    exact ⟨y, rfl, fun e => absurd e hy, fun _ => HE.out⟩
theorem Set_form (h : PoIs B w X G) (id : Int) (t : ByteArray) (ht : t.size ≠ 224) (hz : t.size ≤ 9223372036854775807) (l : Int) : Calls Tryz.prog 30 #[.pointer (some ⟨X.pb, 0, none⟩), .int .i64 id, .string t, .int .i64 l] w fun e w' => e = .returned (.int .i64 4) ∧ w' = w := by
  have CM : Hid (Calls Tryz.prog 60 #[.pointer (some ⟨X.pb, 0, none⟩)] w fun e w' => e = .returned (.bool true) ∧ w' = w) := isMade_po h
  have htI : ((t.size : Int) != 224) = true := by simp; omega
  clear h ht
  go_enter Tryz.func30, Tryz.ntmps30
  go_wp2_with (go_at_call 60; refine CM.out.mono ?_; rintro e w0 ⟨rfl, rfl⟩)
  go_ret
  exact ⟨rfl, rfl⟩
theorem Set_arg (h : PoIs B w X G) (id : Int) (t : ByteArray) (ht : t.size = 224) (l : Int) (hl : l < 1) : Calls Tryz.prog 30 #[.pointer (some ⟨X.pb, 0, none⟩), .int .i64 id, .string t, .int .i64 l] w fun e w' => e = .returned (.int .i64 1) ∧ w' = w := by
  have CM : Hid (Calls Tryz.prog 60 #[.pointer (some ⟨X.pb, 0, none⟩)] w fun e w' => e = .returned (.bool true) ∧ w' = w) := isMade_po h
  have htI : (t.size : Int) = 224 := by omega
  clear h
  go_enter Tryz.func30, Tryz.ntmps30
  go_wp2_with (go_at_call 60; refine CM.out.mono ?_; rintro e w0 ⟨rfl, rfl⟩)
  go_ret
  exact ⟨rfl, rfl⟩
theorem Pages_po (h : PoIs B w X G) (hs : StIs w X.sb X.db 40 8 1) : Calls Tryz.prog 31 #[.pointer (some ⟨X.pb, 0, none⟩)] w fun e w' => e = .returned (.int .i64 8) ∧ w' = w := by
  have CM : Hid (Calls Tryz.prog 60 #[.pointer (some ⟨X.pb, 0, none⟩)] w fun e w' => e = .returned (.bool true) ∧ w' = w) := isMade_po h
  have CP : Hid (Calls Tryz.prog 61 #[.pointer (some ⟨X.sb, 0, none⟩)] w fun e w' => e = .returned (.int .i64 8) ∧ w' = w) := StPages_any w hs
  have c0 := h.c0
  clear h hs
  go_enter Tryz.func31, Tryz.ntmps31
  go_wp2_with (first
    | (go_at_call 60; refine CM.out.mono ?_; rintro e w0 ⟨rfl, rfl⟩)
    | (go_at_call 61; refine CP.out.mono ?_; rintro e w1 ⟨rfl, rfl⟩))
  go_ret
  exact ⟨rfl, rfl⟩
/-- Is a page dirty? -/
def dtb (F : Nat → Fm) (n : Nat) (id : Int) : Bool := (List.range n).any (fun j => (F j).us && (F j).id == id && decide (0 < (F j).si))
end
section
variable {B k k' sure sure1 m : Nat} {w w' wr : World} {S S' : Dk} {X : Ad} {G : Gp} {cs : List Nat} {st pg : Nat → Option Nat} {pn : Nat → Nat}
theorem dtb_iff {F : Nat → Fm} {n : Nat} {id : Int} : dtb F n id = true ↔ ∃ j, j < n ∧ (F j).has id ∧ 0 < (F j).si := by
  unfold dtb
  rw [List.any_eq_true]
  constructor
  · rintro ⟨j, hj, h⟩
    simp only [Bool.and_eq_true, beq_iff_eq, decide_eq_true_eq] at h
    exact ⟨j, List.mem_range.1 hj, ⟨h.1.1, h.1.2⟩, h.2⟩
  · rintro ⟨j, hj, ⟨h1, h2⟩, h3⟩
    refine ⟨j, List.mem_range.2 hj, ?_⟩
    simp [h1, h2, h3]
end
section
variable [Inhabited PrSet] {B k k' sure sure1 m : Nat} {w w' wr : World} {S S' : Dk} {X : Ad} {G : Gp} {cs : List Nat} {st pg : Nat → Option Nat} {pn : Nat → Nat}
theorem Dirty_any (h : Pv B w X k S cs sure G st pn pg) (id : Int) : Calls Tryz.prog 26 #[.pointer (some ⟨X.pb, 0, none⟩), .int .i64 id] w fun e w' => e = .returned (.bool (dtb G.F X.n id)) ∧ w' = w := by
  by_cases hex : ∃ j, j < X.n ∧ (G.F j).has id
  · obtain ⟨j, hj, hh, hlt⟩ := first_has G.F id X.n hex
    have CF : Hid (Calls Tryz.prog 58 #[.pointer (some ⟨X.pb, 0, none⟩), .int .i64 id] w fun e w' => e = .returned (.pointer (some ⟨X.fb j, 0, none⟩)) ∧ w' = w) := find_hit h.q.po id j hj hh hlt
    have e : dtb G.F X.n id = decide (0 < (G.F j).si) := by
      by_cases hd : 0 < (G.F j).si
      · rw [dtb_iff.2 ⟨j, hj, hh, hd⟩]; simp [hd]
      · have : dtb G.F X.n id = false := by
          cases hb : dtb G.F X.n id with
          | false => rfl
          | true =>
            obtain ⟨i, hi, h1, h2⟩ := dtb_iff.1 hb
            have := h.v.ds i j id hi hj h1 hh
            subst this
            exact absurd h2 hd
        rw [this]; simp [hd]
    rw [e]
    have CD : Hid (Calls Tryz.prog 59 #[.pointer (some ⟨X.fb j, 0, none⟩)] w fun e w' => e = .returned (.bool (decide (0 < (G.F j).si))) ∧ w' = w) := isDirty_at (h.q.po.f4 hj)
    clear h hex hh hlt e
    generalize decide (0 < (G.F j).si) = b at *
    go_enter Tryz.func26, Tryz.ntmps26
    go_wp2_with (first
      | (go_at_call 58; refine CF.out.mono ?_; rintro e w0 ⟨rfl, rfl⟩)
      | (go_at_call 59; refine CD.out.mono ?_; rintro e w1 ⟨rfl, rfl⟩))
    go_ret
    exact ⟨rfl, rfl⟩
  · have CF : Hid (Calls Tryz.prog 58 #[.pointer (some ⟨X.pb, 0, none⟩), .int .i64 id] w fun e w' => e = .returned (.pointer none) ∧ w' = w) := find_miss h.q.po id (fun i hi hh => hex ⟨i, hi, hh⟩)
    have e : dtb G.F X.n id = false := by
      cases hb : dtb G.F X.n id with
      | false => rfl
      | true =>
        obtain ⟨i, hi, h1, h2⟩ := dtb_iff.1 hb
        exact absurd ⟨i, hi, h1⟩ hex
    rw [e]
    clear h hex e
    go_enter Tryz.func26, Tryz.ntmps26
    go_wp2_with (go_at_call 58; refine CF.out.mono ?_; rintro e w0 ⟨rfl, rfl⟩)
    go_ret
    exact ⟨rfl, rfl⟩
/-- Pin. -/
structure PnO (B : Nat) (w w' : World) (X : Ad) (k : Nat) (S : Dk) (cs : List Nat) (G : Gp) (st : Nat → Option Nat) (pn : Nat → Nat) (id : Int) (y : Int) : Prop where
  ok : y = 0 → ∃ (w1 : World) (d j : Nat) (S' : Dk) (sure' : Nat) (G' : Gp) (pg' : Nat → Option Nat), id = (d : Int) ∧ d < 8 ∧ Tk B w w1 X k S cs G st pn id j S' sure' G' pg' ∧ Pv B w' X k S' cs sure' (G'.set j { G'.F j with pn := ((pn d + 1 : Nat) : Int) }) st (upd pn d (pn d + 1)) pg' ∧ Kp isQ B w w'
  bad : y ≠ 0 → Er B w w' X k S cs G id y
set_option maxHeartbeats 2000000 in
theorem Pin_any (h : Pv B w X k S cs sure G st pn pg) (hk : k ≤ 29000) (id : Int) (hp : ∀ d, pn d ≤ 1000) : Calls Tryz.prog 25 #[.pointer (some ⟨X.pb, 0, none⟩), .int .i64 id] w fun e w' => ∃ y, e = .returned (.int .i64 y) ∧ PnO B w w' X (k + 46) S cs G st pn id y := by
  have CT : Hid (Calls Tryz.prog 43 #[.pointer (some ⟨X.pb, 0, none⟩), .int .i64 id] w fun e w' => ∃ p y, e = .returned (.tuple #[p, .int .i64 y]) ∧ (y = 0 → ∃ j S' sure' G' pg', p = .pointer (some ⟨X.fb j, 0, none⟩) ∧ Tk B w w' X (k + 46) S cs G st pn id j S' sure' G' pg') ∧ (y ≠ 0 → p = .pointer none ∧ Er B w w' X (k + 46) S cs G id y)) := take_any h hk id
  have HF : Hid (∀ w1 j S1 sure1 G1 pg1, Tk B w w1 X (k + 46) S cs G st pn id j S1 sure1 G1 pg1 → ∃ d : Nat, id = (d : Int) ∧ d < 8 ∧ (G1.F j).pn = (pn d : Int) ∧ Pv B (w1.setCell ⟨X.fb j, 5, none⟩ (.int .i64 ((pn d : Int) + 1))) X (k + 46) S1 cs sure1 (G1.set j { G1.F j with pn := ((pn d + 1 : Nat) : Int) }) st (upd pn d (pn d + 1)) pg1 ∧ Kp isQ B w (w1.setCell ⟨X.fb j, 5, none⟩ (.int .i64 ((pn d : Int) + 1)))) := fun w1 j S1 sure1 G1 pg1 T => by
    obtain ⟨d, h1, h2⟩ := T.v.v.us j T.hj T.has.1
    have e : id = (d : Int) := by rw [← T.has.2]; exact h2.id
    subst e
    have P1 := T.v.q.po.setF T.hj (f := { G1.F j with pn := ((pn d + 1 : Nat) : Int) }) (i := 5) (u := .int .i64 ((pn d : Int) + 1)) rfl T.v.q.le
    exact ⟨d, rfl, h1, h2.pn, ⟨T.v.q.turn P1, T.v.p, T.v.v.pin T.hj T.has (pn d + 1)⟩, T.kp.trans P1.2.f⟩
  have HP : Hid (∀ d, pn d ≤ 1000) := hp
  clear h hk hp
  go_enter Tryz.func25, Tryz.ntmps25
  go_wp2_with (go_at_call 43; refine CT.out.mono ?_; rintro e w1 ⟨p, y, rfl, h0, h9⟩; rcases tor h0 h9 with ⟨rfl, hP⟩ | ⟨hy, hQ⟩ <;> first
    | (obtain ⟨j, S1, sure1, G1, pg1, rfl, T1⟩ := hP; obtain ⟨d, hd, hd8, hpn, V, K⟩ := HF.out _ _ _ _ _ _ T1; have f5 := T1.v.q.po.f5 T1.hj; rw [hpn] at f5; have z5 := T1.v.q.po.fz T1.hj 5; have HT : Hid (Tk B w w1 X (k + 46) S cs G st pn id j S1 sure1 G1 pg1) := T1; have HV : Hid (Pv B (w1.setCell ⟨X.fb j, 5, none⟩ (.int .i64 ((pn d : Int) + 1))) X (k + 46) S1 cs sure1 (G1.set j { G1.F j with pn := ((pn d + 1 : Nat) : Int) }) st (upd pn d (pn d + 1)) pg1) := V; have HK : Hid (Kp isQ B w (w1.setCell ⟨X.fb j, 5, none⟩ (.int .i64 ((pn d : Int) + 1)))) := K; have HD : Hid (id = (d : Int)) := hd; have HD8 : Hid (d < 8) := hd8; have hb := HP.out d; have hb2 : (pn d : Int) ≤ 1000 := (by omega); have hb3 : (0 : Int) ≤ (pn d : Int) := (by omega); clear T1 h0 h9 hd hd8 hpn V K hb)
    | (obtain ⟨rfl, hE⟩ := hQ; have hyb : (y != 0) = true := (by simpa using hy); have HE : Hid (Er B w w1 X (k + 46) S cs G id y) := hE; clear h0 h9 hE))
  · go_ret
    exact ⟨0, rfl, fun _ => ⟨w1, d, j, S1, sure1, G1, pg1, HD.out, HD8.out, HT.out, HV.out, HK.out⟩, fun e => absurd rfl e⟩
  · go_ret
    exact ⟨y, rfl, fun e => absurd e hy, fun _ => HE.out⟩
theorem Unpin_none (h : Pv B w X k S cs sure G st pn pg) (id : Int) (hz : ∀ d : Nat, id = (d : Int) → d < 8 → pn d = 0) : Calls Tryz.prog 27 #[.pointer (some ⟨X.pb, 0, none⟩), .int .i64 id] w fun e w' => e = .returned (.int .i64 8) ∧ w' = w := by
  have CM : Hid (Calls Tryz.prog 60 #[.pointer (some ⟨X.pb, 0, none⟩)] w fun e w' => e = .returned (.bool true) ∧ w' = w) := isMade_po h.q.po
  by_cases hex : ∃ j, j < X.n ∧ (G.F j).has id
  · obtain ⟨j, hj, hh, hlt⟩ := first_has G.F id X.n hex
    have CF : Hid (Calls Tryz.prog 58 #[.pointer (some ⟨X.pb, 0, none⟩), .int .i64 id] w fun e w' => e = .returned (.pointer (some ⟨X.fb j, 0, none⟩)) ∧ w' = w) := find_hit h.q.po id j hj hh hlt
    have f5 := h.q.po.f5 hj
    have e : (G.F j).pn = 0 := by
      obtain ⟨d, h1, h2⟩ := h.v.us j hj hh.1
      rw [h2.pn, hz d (by rw [← hh.2]; exact h2.id) h1]; rfl
    rw [e] at f5
    clear h hex hh hlt e hz
    go_enter Tryz.func27, Tryz.ntmps27
    go_wp2_with (first
      | (go_at_call 60; refine CM.out.mono ?_; rintro e w1 ⟨rfl, rfl⟩)
      | (go_at_call 58; refine CF.out.mono ?_; rintro e w0 ⟨rfl, rfl⟩))
    go_ret
    exact ⟨rfl, rfl⟩
  · have CF : Hid (Calls Tryz.prog 58 #[.pointer (some ⟨X.pb, 0, none⟩), .int .i64 id] w fun e w' => e = .returned (.pointer none) ∧ w' = w) := find_miss h.q.po id (fun i hi hh => hex ⟨i, hi, hh⟩)
    clear h hex hz
    go_enter Tryz.func27, Tryz.ntmps27
    go_wp2_with (first
      | (go_at_call 60; refine CM.out.mono ?_; rintro e w1 ⟨rfl, rfl⟩)
      | (go_at_call 58; refine CF.out.mono ?_; rintro e w0 ⟨rfl, rfl⟩))
    go_ret
    exact ⟨rfl, rfl⟩
theorem Unpin_ok (h : Pv B w X k S cs sure G st pn pg) (d : Nat) (hd : d < 8) (hz : pn d ≠ 0) (hb : pn d ≤ 1000) : Calls Tryz.prog 27 #[.pointer (some ⟨X.pb, 0, none⟩), .int .i64 (d : Int)] w fun e w' => e = .returned (.int .i64 0) ∧ ∃ j, j < X.n ∧ (G.F j).has (d : Int) ∧ Pv B w' X k S cs sure (G.set j { G.F j with pn := ((pn d - 1 : Nat) : Int) }) st (upd pn d (pn d - 1)) pg ∧ Kp isQ B w w' := by
  have CM : Hid (Calls Tryz.prog 60 #[.pointer (some ⟨X.pb, 0, none⟩)] w fun e w' => e = .returned (.bool true) ∧ w' = w) := isMade_po h.q.po
  obtain ⟨j, hj, hh, hlt⟩ := first_has G.F (d : Int) X.n (h.v.np d hd hz)
  have CF : Hid (Calls Tryz.prog 58 #[.pointer (some ⟨X.pb, 0, none⟩), .int .i64 (d : Int)] w fun e w' => e = .returned (.pointer (some ⟨X.fb j, 0, none⟩)) ∧ w' = w) := find_hit h.q.po (d : Int) j hj hh hlt
  have f5 := h.q.po.f5 hj
  have z5 := h.q.po.fz hj 5
  have e : (G.F j).pn = (pn d : Int) := (h.v.fat hj hh).2.pn
  rw [e] at f5
  have e2 : ((pn d - 1 : Nat) : Int) = (pn d : Int) - 1 := by omega
  have P1 := h.q.po.setF hj (f := { G.F j with pn := ((pn d - 1 : Nat) : Int) }) (i := 5) (u := .int .i64 ((pn d : Int) - 1)) (by rw [← e2]; rfl) h.q.le
  have HV : Hid (Pv B (w.setCell ⟨X.fb j, 5, none⟩ (.int .i64 ((pn d : Int) - 1))) X k S cs sure (G.set j { G.F j with pn := ((pn d - 1 : Nat) : Int) }) st (upd pn d (pn d - 1)) pg ∧ Kp isQ B w (w.setCell ⟨X.fb j, 5, none⟩ (.int .i64 ((pn d : Int) - 1)))) := ⟨⟨h.q.turn P1, h.p, h.v.pin hj hh (pn d - 1)⟩, P1.2.f⟩
  have HJ : Hid (j < X.n ∧ (G.F j).has (d : Int)) := ⟨hj, hh⟩
  have t1 : ((pn d : Int) == 0) = false := by simp; omega
  have t2 : (pn d : Int) ≤ 1000 := by omega
  have t3 : (1 : Int) ≤ (pn d : Int) := by omega
  clear h hj hh hlt e P1 hz hb hd
  go_enter Tryz.func27, Tryz.ntmps27
  go_wp2_with (first
    | (go_at_call 60; refine CM.out.mono ?_; rintro e w1 ⟨rfl, rfl⟩)
    | (go_at_call 58; refine CF.out.mono ?_; rintro e w0 ⟨rfl, rfl⟩))
  go_ret
  exact ⟨rfl, j, HJ.out.1, HJ.out.2, HV.out.1, HV.out.2⟩
end
end Go.Proofs.YtgodjnbbocnckaaGreat

namespace Go.Proofs.YtgodjnbbocnckaaGreat
open Go.RowKit Go.Maps Go.ChangeMaps
set_option linter.unusedVariables false
set_option linter.unusedSimpArgs false
set_option maxRecDepth 100000

/-- Pages were saved. -/
structure FlO [Inhabited PrSet] (B : Nat) (w w' : World) (X : Ad) (k : Nat) (S : Dk) (cs : List Nat) (G : Gp) (st : Nat → Option Nat) (pn : Nat → Nat) (js : List Nat) (y : Int) : Prop where
  ok : y = 0 → ∃ (S' : Dk) (sure' : Nat) (G' : Gp) (pg' : Nat → Option Nat), Pv B w' X k S' cs sure' G' st pn pg' ∧ (∀ j ∈ js, (G'.F j).si = 0) ∧ (∀ j, j < X.n → (G'.F j = G.F j ∨ G'.F j = (G.F j).cl)) ∧ (S.set = false → S'.set = false) ∧ Kp isQ B w w'
  bad : y ≠ 0 → y = 9 ∧ Ls B w w' X k S cs
section
variable [Inhabited PrSet] {B k k' sure sure1 m : Nat} {w w' wr : World} {S S' : Dk} {X : Ad} {G : Gp} {cs : List Nat} {st pg : Nat → Option Nat} {pn : Nat → Nat} {js : List Nat} {a : Option Addr}
theorem Iv.si0 {n : Nat} {F : Nat → Fm} (h : Iv cs n F st pn pg) {j : Nat} (hj : j < n) (hd : ¬ 0 < (F j).si) : (F j).si = 0 := by
  cases hu : (F j).us with
  | false => exact (h.un j hj hu).1
  | true =>
    obtain ⟨id', h1, h2⟩ := h.us j hj hu
    rcases h2.si with e | ⟨k0, r0, _, _, e3⟩
    · exact e
    · have := lnO_pos k0; omega
theorem save_v (h : Pv B w X k S cs sure G st pn pg) (hk : k + 46 * js.length ≤ 30000) (hps : Ps w X a js) (hl : js.length ≤ 64) (c : Nat) :
    Calls Tryz.prog 62 #[.pointer (some ⟨X.pb, 0, none⟩), .slice a js.length c] w fun e w' => ∃ y, e = .returned (.int .i64 y) ∧ FlO B w w' X (k + 46 * js.length) S cs G st pn js y := by
  have hjn : ∀ j ∈ js, j < X.n := fun j hj => by
    obtain ⟨i, hi, rfl⟩ := List.getElem_of_mem hj
    exact (hps.at_ i hi).1
  refine (save_po h.q h.p hk hps hl c (fun j hj hd => h.v.dj (hjn j hj) hd)).mono ?_
  rintro e w' ⟨y, he, h0, h9⟩
  refine ⟨y, he, fun hy => ?_, h9⟩
  obtain ⟨ds, S1, s1, sv, O⟩ := h0 hy
  have hF : ∀ j, (cln G ds).F j = if j ∈ ds then (G.F j).cl else G.F j := fun j => rfl
  refine ⟨S1, s1, _, _, h.saved O, fun j hj => ?_, fun j hj => ?_, O.cm, O.kp⟩
  · show ((cln G ds).F j).si = 0
    rw [hF]
    by_cases hd : dty G j = true
    · rw [if_pos (O.perm.mem_iff.2 (List.mem_filter.2 ⟨hj, hd⟩))]; rfl
    · rw [if_neg (fun hm => hd (List.mem_filter.1 (O.perm.mem_iff.1 hm)).2)]
      exact h.v.si0 (hjn j hj) (by simpa [dty] using hd)
  · show (cln G ds).F j = G.F j ∨ (cln G ds).F j = (G.F j).cl
    rw [hF]
    split
    · exact Or.inr rfl
    · exact Or.inl rfl
theorem FlushAll_any (h : Pv B w X k S cs sure G st pn pg) (hk : k + 46 * X.n ≤ 30000) : Calls Tryz.prog 34 #[.pointer (some ⟨X.pb, 0, none⟩)] w fun e w' => ∃ y, e = .returned (.int .i64 y) ∧ FlO B w w' X (k + 46 * X.n) S cs G st pn (List.range X.n) y := by
  have CM : Hid (Calls Tryz.prog 60 #[.pointer (some ⟨X.pb, 0, none⟩)] w fun e w' => e = .returned (.bool true) ∧ w' = w) := isMade_po h.q.po
  have CS : Hid (Calls Tryz.prog 62 #[.pointer (some ⟨X.pb, 0, none⟩), .slice (some ⟨X.ra, 0, none⟩) X.n X.cp] w fun e w' => ∃ y, e = .returned (.int .i64 y) ∧ FlO B w w' X (k + 46 * X.n) S cs G st pn (List.range X.n) y) := by
    have := save_v (js := List.range X.n) h (by rw [List.length_range]; exact hk) (Ps.all h.q.po) (by rw [List.length_range]; exact h.q.po.n2) X.cp
    rw [List.length_range] at this
    exact this
  have c2 := h.q.po.c2
  clear h hk
  go_enter Tryz.func34, Tryz.ntmps34
  go_wp2_with (first
    | (go_at_call 60; refine CM.out.mono ?_; rintro e w1 ⟨rfl, rfl⟩)
    | (go_at_call 62; refine CS.out.mono ?_; rintro e w2 ⟨y, rfl, hy⟩))
  go_ret
  exact ⟨y, rfl, hy⟩
/-- Flush. -/
structure F1O (B : Nat) (w w' : World) (X : Ad) (k : Nat) (S : Dk) (cs : List Nat) (G : Gp) (st : Nat → Option Nat) (pn : Nat → Nat) (id : Int) (y : Int) : Prop where
  ok : y = 0 → ∃ (S' : Dk) (sure' : Nat) (G' : Gp) (pg' : Nat → Option Nat), Pv B w' X k S' cs sure' G' st pn pg' ∧ dtb G'.F X.n id = false ∧ (S.set = false → S'.set = false) ∧ Kp isQ B w w'
  none : y = 8 → (∀ j, j < X.n → ¬ (G.F j).has id) ∧ w' = w
  bad : y ≠ 0 → y ≠ 8 → y = 9 ∧ Ls B w w' X k S cs
set_option maxHeartbeats 1000000 in
theorem Flush_any (h : Pv B w X k S cs sure G st pn pg) (hk : k + 46 ≤ 30000) (id : Int) : Calls Tryz.prog 33 #[.pointer (some ⟨X.pb, 0, none⟩), .int .i64 id] w fun e w' => ∃ y, e = .returned (.int .i64 y) ∧ F1O B w w' X (k + 46) S cs G st pn id y := by
  have CM : Hid (Calls Tryz.prog 60 #[.pointer (some ⟨X.pb, 0, none⟩)] w fun e w' => e = .returned (.bool true) ∧ w' = w) := isMade_po h.q.po
  by_cases hex : ∃ j, j < X.n ∧ (G.F j).has id
  · obtain ⟨j, hj, hh, hlt⟩ := first_has G.F id X.n hex
    have CF : Hid (Calls Tryz.prog 58 #[.pointer (some ⟨X.pb, 0, none⟩), .int .i64 id] w fun e w' => e = .returned (.pointer (some ⟨X.fb j, 0, none⟩)) ∧ w' = w) := find_hit h.q.po id j hj hh hlt
    have CS : Hid (Calls Tryz.prog 62 #[.pointer (some ⟨X.pb, 0, none⟩), .slice (some ⟨w.heap.size, 0, none⟩) 1 1] (w.alloc (.cells #[.pointer (some ⟨X.fb j, 0, none⟩)] 79)) fun e w' => ∃ y, e = .returned (.int .i64 y) ∧ F1O B w w' X (k + 46) S cs G st pn id y) := by
      have hb : Below w.heap.size w (w.alloc (.cells #[.pointer (some ⟨X.fb j, 0, none⟩)] 79)) := (Below.refl _ _).alloc (Nat.le_refl _) _
      have hle := h.q.le
      have hn0 : ∀ (S' : Dk) (sure' : Nat) (G' : Gp) (pg' : Nat → Option Nat) (w' : World), Pv B w' X (k + 46) S' cs sure' G' st pn pg' → (G'.F j).si = 0 → (∀ i, i < X.n → (G'.F i = G.F i ∨ G'.F i = (G.F i).cl)) → dtb G'.F X.n id = false := fun S' sure' G' pg' w' v h1 h2 => by
        cases hb : dtb G'.F X.n id with
        | false => rfl
        | true =>
          obtain ⟨i, hi, g1, g2⟩ := dtb_iff.1 hb
          have g3 : (G.F i).has id := by
            rcases h2 i hi with e | e
            · rw [e] at g1; exact g1
            · rw [e] at g1; exact g1
          have := h.v.ds i j id hi hj g3 hh
          subst this
          omega
      refine (save_v (js := [j]) (h.below hb) (by simp; omega) (Ps.one w hj) (by simp) 1).mono ?_
      rintro e w' ⟨y, he, h1⟩
      refine ⟨y, he, fun hy => ?_, fun hy => ?_, fun hy hy2 => ?_⟩
      · obtain ⟨S1, s1, G1, p1, v1, v2, v3, v4, v5⟩ := h1.ok hy
        exact ⟨S1, s1, G1, p1, v1, hn0 _ _ _ _ _ v1 (v2 j (by simp)) v3, v4, (Kp.of_below hb hle).trans v5⟩
      · exfalso
        have := (h1.bad (by omega)).1
        omega
      · obtain ⟨q1, q2, q3, q4⟩ := h1.bad hy
        exact ⟨q1, q2, q3, (Kp.of_below hb hle).trans q4⟩
    clear h hex hh hlt hk
    generalize X.fb j = fb at *
    go_enter Tryz.func33, Tryz.ntmps33
    go_wp2_with (first
      | (go_at_call 60; refine CM.out.mono ?_; rintro e w1 ⟨rfl, rfl⟩)
      | (go_at_call 58; refine CF.out.mono ?_; rintro e w0 ⟨rfl, rfl⟩)
      | (go_at_call 62; refine CS.out.mono ?_; rintro e w2 ⟨y, rfl, hy⟩))
    go_ret
    exact ⟨y, rfl, hy⟩
  · have CF : Hid (Calls Tryz.prog 58 #[.pointer (some ⟨X.pb, 0, none⟩), .int .i64 id] w fun e w' => e = .returned (.pointer none) ∧ w' = w) := find_miss h.q.po id (fun i hi hh => hex ⟨i, hi, hh⟩)
    have HX : Hid (∀ j, j < X.n → ¬ (G.F j).has id) := fun i hi hh => hex ⟨i, hi, hh⟩
    clear h hex hk
    go_enter Tryz.func33, Tryz.ntmps33
    go_wp2_with (first
      | (go_at_call 60; refine CM.out.mono ?_; rintro e w1 ⟨rfl, rfl⟩)
      | (go_at_call 58; refine CF.out.mono ?_; rintro e w0 ⟨rfl, rfl⟩))
    go_ret
    exact ⟨8, rfl, fun e => by omega, fun _ => ⟨HX.out, rfl⟩, fun _ e => absurd rfl e⟩
set_option maxHeartbeats 1000000 in
theorem Table_none (h : PoIs B w X G) (hz : ∀ j, j < X.n → (G.F j).si = 0) : Calls Tryz.prog 35 #[.pointer (some ⟨X.pb, 0, none⟩)] w fun e w' => e = .returned (.slice none 0 0) ∧ Below w.heap.size w w' := by
  have CM : Hid (Calls Tryz.prog 60 #[.pointer (some ⟨X.pb, 0, none⟩)] w fun e w' => e = .returned (.bool true) ∧ w' = w) := isMade_po h
  have CD : Hid (Calls Tryz.prog 63 #[.slice (some ⟨X.ra, 0, none⟩) X.n X.cp] w fun e w' => ∃ a c, e = .returned (.slice a 0 c) ∧ Below w.heap.size w w') := by
    have := dirtyOf_po (js := List.range X.n) h (Ps.all h) (by rw [List.length_range]; exact h.n2) X.cp
    rw [List.length_range] at this
    refine this.mono ?_
    rintro e w' ⟨a, c, ds, D⟩
    have hnil : (List.range X.n).filter (dty G) = [] := by
      rw [List.filter_eq_nil_iff]
      intro j hj
      simp [dty, hz j (List.mem_range.1 hj)]
    have hd : ds = [] := by
      have := D.perm
      rw [hnil] at this
      exact this.eq_nil
    have he := D.e
    rw [hd] at he
    exact ⟨a, c, he, D.below⟩
  have c2 := h.c2
  clear h hz
  go_enter Tryz.func35, Tryz.ntmps35
  go_wp2_with (first
    | (go_at_call 60; refine CM.out.mono ?_; rintro e w1 ⟨rfl, rfl⟩)
    | (go_at_call 63; refine CD.out.mono ?_; rintro e w2 ⟨a2, c2, rfl, b2⟩))
  refine wp_loop_rounds 1 ?_
  rw [rounds_succ]
  go_wp2
  go_ret
  exact ⟨rfl, b2⟩
end
end Go.Proofs.YtgodjnbbocnckaaGreat

namespace Go.Proofs.YtgodjnbbocnckaaGreat
open Go.RowKit Go.Maps Go.ChangeMaps
set_option linter.unusedVariables false
set_option linter.unusedSimpArgs false
set_option maxRecDepth 100000

section
variable [Inhabited PrSet] {B k k' sure sure1 m : Nat} {w w' wr : World} {S S' : Dk} {X : Ad} {G : Gp} {cs : List Nat} {st pg : Nat → Option Nat} {pn : Nat → Nat} {js : List Nat} {a : Option Addr}
theorem PoIs.mono {B' : Nat} (h : PoIs B w X G) (hB : B' ≤ B) : PoIs B' w X G := ⟨h.blk, h.row, h.fr, h.inj, h.n1, h.n2, ⟨Nat.le_trans hB h.gp.ge, h.gp.np⟩, fun j hj => ⟨Nat.le_trans hB (h.gf j hj).ge, (h.gf j hj).np⟩, h.gr, h.h0, h.h1⟩
end
section
variable {B k k' sure sure1 m : Nat} {w w' wr : World} {S S' : Dk} {X : Ad} {G : Gp} {cs : List Nat} {st pg : Nat → Option Nat} {pn : Nat → Nat} {js : List Nat} {a : Option Addr}
theorem New_nils (l : Value) (n : Int) (w : World) : Calls Tryz.prog 29 #[.pointer none, l, .int .i64 n] w fun e w' => e = .returned (.tuple #[.pointer none, .int .i64 1]) ∧ w' = w := by
  go_enter Tryz.func29, Tryz.ntmps29
  go_wp2
  go_ret2
  exact ⟨rfl, rfl⟩
end
section
variable [Inhabited PrSet] {B k k' sure sure1 m : Nat} {w w' wr : World} {S S' : Dk} {X : Ad} {G : Gp} {cs : List Nat} {st pg : Nat → Option Nat} {pn : Nat → Nat} {js : List Nat} {a : Option Addr}
end
section
variable {B k k' sure sure1 m : Nat} {w w' wr : World} {S S' : Dk} {X : Ad} {G : Gp} {cs : List Nat} {st pg : Nat → Option Nat} {pn : Nat → Nat} {js : List Nat} {a : Option Addr}
theorem New_nill (sb : Nat) (n : Int) (w : World) : Calls Tryz.prog 29 #[.pointer (some ⟨sb, 0, none⟩), .pointer none, .int .i64 n] w fun e w' => e = .returned (.tuple #[.pointer none, .int .i64 1]) ∧ w' = w := by
  go_enter Tryz.func29, Tryz.ntmps29
  go_wp2
  go_ret2
  exact ⟨rfl, rfl⟩
end
section
variable [Inhabited PrSet] {B k k' sure sure1 m : Nat} {w w' wr : World} {S S' : Dk} {X : Ad} {G : Gp} {cs : List Nat} {st pg : Nat → Option Nat} {pn : Nat → Nat} {js : List Nat} {a : Option Addr}
end
section
variable {B k k' sure sure1 m : Nat} {w w' wr : World} {S S' : Dk} {X : Ad} {G : Gp} {cs : List Nat} {st pg : Nat → Option Nat} {pn : Nat → Nat} {js : List Nat} {a : Option Addr}
theorem New_out (sb l : Nat) (n : Int) (hn : n < 2 ∨ 64 < n) (w : World) : Calls Tryz.prog 29 #[.pointer (some ⟨sb, 0, none⟩), .pointer (some ⟨l, 0, none⟩), .int .i64 n] w fun e w' => e = .returned (.tuple #[.pointer none, .int .i64 1]) ∧ w' = w := by
  by_cases h1 : n < 2
  · clear hn
    go_enter Tryz.func29, Tryz.ntmps29
    go_wp2
    go_ret2
    exact ⟨rfl, rfl⟩
  · have h2 : 64 < n := by omega
    clear hn
    go_enter Tryz.func29, Tryz.ntmps29
    go_wp2
    go_ret2
    exact ⟨rfl, rfl⟩
end
section
variable [Inhabited PrSet] {B k k' sure sure1 m : Nat} {w w' wr : World} {S S' : Dk} {X : Ad} {G : Gp} {cs : List Nat} {st pg : Nat → Option Nat} {pn : Nat → Nat} {js : List Nat} {a : Option Addr}
/-- A pool that is being made: i frames. -/
structure Mk (w wr : World) (sb l pb : Nat) (fb : Nat → Nat) (i : Nat) (a : Option Addr) (c : Nat) : Prop where
  blk : wr.heap[pb]? = some (.cells #[.pointer (some ⟨sb, 0, none⟩), .pointer (some ⟨l, 0, none⟩), .slice a i c, .int .i64 0, .int .i64 0, .int .i64 0] 67)
  own : OwnP w.heap.size wr (.slice a i c) ⟨0, 0, 0, 0, 0, 0, 0, fb⟩ (List.range i)
  fr : ∀ j, j < i → wr.heap[fb j]? = some (.cells zF.A 85)
  inj : ∀ j j', j < i → j' < i → fb j = fb j' → j = j'
  ge : ∀ j, j < i → w.heap.size ≤ fb j
  gp : w.heap.size ≤ pb
  bel : Below w.heap.size w wr
end
section
variable {B k k' sure sure1 m : Nat} {w w' wr : World} {S S' : Dk} {X : Ad} {G : Gp} {cs : List Nat} {st pg : Nat → Option Nat} {pn : Nat → Nat} {js : List Nat} {a : Option Addr}
theorem OwnP.fbs {b0 : Nat} {v : Value} {X' : Ad} (h : OwnP b0 w v X js) (he : ∀ j ∈ js, X'.fb j = X.fb j) : OwnP b0 w v X' js := by
  have e : js.map (ptF X') = js.map (ptF X) := List.map_congr_left (fun j hj => by unfold ptF; rw [he j hj])
  exact ⟨by rw [e]; exact h.row⟩
end
section
variable [Inhabited PrSet] {B k k' sure sure1 m : Nat} {w w' wr : World} {S S' : Dk} {X : Ad} {G : Gp} {cs : List Nat} {st pg : Nat → Option Nat} {pn : Nat → Nat} {js : List Nat} {a : Option Addr}
end
section
variable {B k k' sure sure1 m : Nat} {w w' wr : World} {S S' : Dk} {X : Ad} {G : Gp} {cs : List Nat} {st pg : Nat → Option Nat} {pn : Nat → Nat} {js : List Nat} {a : Option Addr}
theorem Mk.cell {sb l pb i c : Nat} {fb : Nat → Nat} (h : Mk w wr sb l pb fb i a c) : wr.cell? ⟨pb, 2, none⟩ = some (.slice a i c) := Joins.cell_of_block h.blk 2
end
section
variable [Inhabited PrSet] {B k k' sure sure1 m : Nat} {w w' wr : World} {S S' : Dk} {X : Ad} {G : Gp} {cs : List Nat} {st pg : Nat → Option Nat} {pn : Nat → Nat} {js : List Nat} {a : Option Addr}
end
section
variable {B k k' sure sure1 m : Nat} {w w' wr : World} {S S' : Dk} {X : Ad} {G : Gp} {cs : List Nat} {st pg : Nat → Option Nat} {pn : Nat → Nat} {js : List Nat} {a : Option Addr}
/-- One frame more. -/
theorem Mk.step {sb l pb i c q : Nat} {fb : Nat → Nat} {w1 w2 : World} {a2 : Option Addr} {c2 : Nat} (h : Mk w wr sb l pb fb i a c) (N : NewO wr w1 q zF.A 85)
    (o2 : OwnP w.heap.size w2 (.slice a2 (i + 1) c2) ⟨0, 0, 0, 0, 0, 0, 0, upd fb i q⟩ (List.range i ++ [i])) (hk : ∀ (k : Nat) (t : TypeId) (cur : Array Value) (fz : Nat × Nat), w1.heap[k]? = some (Obj.cells cur t fz) → t ≠ 79 → w2.heap[k]? = some (Obj.cells cur t fz)) (hb2 : Below w.heap.size w1 w2) :
    Mk w (w2.setCell ⟨pb, 2, none⟩ (.slice a2 (i + 1) c2)) sb l pb (upd fb i q) (i + 1) a2 c2 := by
  have hb1 := (N.below.block _ (lt_of_some h.blk)).trans h.blk
  have hb := hk _ _ _ _ hb1 (by decide)
  have hq : w.heap.size ≤ q := by rw [N.eq]; exact h.bel.size
  have hqlt : ∀ j, j < i → fb j ≠ q := fun j hj e => by
    have := lt_of_some (h.fr j hj)
    have := N.eq
    omega
  have hfr : ∀ j, j < i + 1 → w2.heap[upd fb i q j]? = some (.cells zF.A 85) := fun j hj => by
    by_cases e : j = i
    · subst e; rw [upd_same]; exact hk _ _ _ _ N.blk (by decide)
    · rw [upd_other _ _ e]
      exact hk _ _ _ _ ((N.below.block _ (lt_of_some (h.fr j (by omega)))).trans (h.fr j (by omega))) (by decide)
  have hset : ∀ k : Nat, k ≠ pb → (w2.setCell ⟨pb, 2, none⟩ (.slice a2 (i + 1) c2)).heap[k]? = w2.heap[k]? := fun k hne => Below.heap_setCell _ _ _ _ hne
  have hnp : ∀ j, j < i + 1 → upd fb i q j ≠ pb := fun j hj e => by
    have := hfr j hj
    rw [e, hb] at this
    simp at this
  refine ⟨Joins.block_setCell hb _, ?_, fun j hj => (hset _ (hnp j hj)).trans (hfr j hj), fun j j' hj hj' e => ?_, fun j hj => ?_, h.gp, (h.bel.trans (N.below.mono h.bel.size)).trans (hb2.setCell (p := ⟨pb, 2, none⟩) h.gp _)⟩
  · rw [List.range_succ]
    obtain ⟨r1, r2⟩ := o2.row
    refine ⟨r1, ?_⟩
    rcases r2 with r2 | ⟨g, cap, cur, e, hB, hg, h3⟩
    · exact Or.inl r2
    · refine Or.inr ⟨g, cap, cur, e, hB, (hset g (fun e2 => ?_)).trans hg, h3⟩
      rw [e2, hb] at hg
      simp at hg
  · by_cases e1 : j = i
    · by_cases e2 : j' = i
      · omega
      · subst e1
        rw [upd_same, upd_other _ _ e2] at e
        exact absurd e.symm (hqlt j' (by omega))
    · by_cases e2 : j' = i
      · subst e2
        rw [upd_same, upd_other _ _ e1] at e
        exact absurd e (hqlt j (by omega))
      · rw [upd_other _ _ e1, upd_other _ _ e2] at e
        exact h.inj j j' (by omega) (by omega) e
  · by_cases e1 : j = i
    · subst e1; rw [upd_same]; exact hq
    · rw [upd_other _ _ e1]; exact h.ge j (by omega)
end
section
variable [Inhabited PrSet] {B k k' sure sure1 m : Nat} {w w' wr : World} {S S' : Dk} {X : Ad} {G : Gp} {cs : List Nat} {st pg : Nat → Option Nat} {pn : Nat → Nat} {js : List Nat} {a : Option Addr}
end
section
variable {B k k' sure sure1 m : Nat} {w w' wr : World} {S S' : Dk} {X : Ad} {G : Gp} {cs : List Nat} {st pg : Nat → Option Nat} {pn : Nat → Nat} {js : List Nat} {a : Option Addr}
theorem Mk.step2 {sb l pb i c q : Nat} {fb : Nat → Nat} {w1 w2 : World} {a2 : Option Addr} {c2 : Nat} {x : Value} (h : Mk w wr sb l pb fb i a c) (N : NewO wr w1 q zF.A 85)
    (o2 : OwnP w.heap.size w2 (.slice a2 (i + 1) c2) ⟨0, 0, 0, 0, 0, 0, 0, upd fb i q⟩ (List.range i ++ [i])) (hk : ∀ (k : Nat) (t : TypeId) (cur : Array Value) (fz : Nat × Nat), (w1.alloc (.cells #[x] 79)).heap[k]? = some (Obj.cells cur t fz) → t ≠ 79 → w2.heap[k]? = some (Obj.cells cur t fz)) (hb2 : Below w.heap.size (w1.alloc (.cells #[x] 79)) w2) :
    Mk w (w2.setCell ⟨pb, 2, none⟩ (.slice a2 (i + 1) c2)) sb l pb (upd fb i q) (i + 1) a2 c2 := by
  have hb : Below w1.heap.size w1 (w1.alloc (.cells #[x] 79)) := (Below.refl _ _).alloc (Nat.le_refl _) _
  have hs : w.heap.size ≤ w1.heap.size := Nat.le_trans h.bel.size N.below.size
  exact h.step N o2 (fun k t cur fz e ht => hk k t cur fz ((hb.block _ (lt_of_some e)).trans e) ht) ((hb.mono hs).trans hb2)
end
section
variable [Inhabited PrSet] {B k k' sure sure1 m : Nat} {w w' wr : World} {S S' : Dk} {X : Ad} {G : Gp} {cs : List Nat} {st pg : Nat → Option Nat} {pn : Nat → Nat} {js : List Nat} {a : Option Addr}
end
section
variable {B k k' sure sure1 m : Nat} {w w' wr : World} {S S' : Dk} {X : Ad} {G : Gp} {cs : List Nat} {st pg : Nat → Option Nat} {pn : Nat → Nat} {js : List Nat} {a : Option Addr}
theorem Mk.pbk {sb l pb i c q : Nat} {fb : Nat → Nat} {w1 w2 : World} {x : Value} (h : Mk w wr sb l pb fb i a c) (N : NewO wr w1 q zF.A 85) (hk : ∀ (k : Nat) (t : TypeId) (cur : Array Value) (fz : Nat × Nat), (w1.alloc (.cells #[x] 79)).heap[k]? = some (Obj.cells cur t fz) → t ≠ 79 → w2.heap[k]? = some (Obj.cells cur t fz)) : w2.heap[pb]? = some (.cells #[.pointer (some ⟨sb, 0, none⟩), .pointer (some ⟨l, 0, none⟩), .slice a i c, .int .i64 0, .int .i64 0, .int .i64 0] 67) := by
  have hb : Below w1.heap.size w1 (w1.alloc (.cells #[x] 79)) := (Below.refl _ _).alloc (Nat.le_refl _) _
  have hb1 := (N.below.block _ (lt_of_some h.blk)).trans h.blk
  exact hk _ _ _ _ ((hb.block _ (lt_of_some hb1)).trans hb1) (by decide)
end
section
variable [Inhabited PrSet] {B k k' sure sure1 m : Nat} {w w' wr : World} {S S' : Dk} {X : Ad} {G : Gp} {cs : List Nat} {st pg : Nat → Option Nat} {pn : Nat → Nat} {js : List Nat} {a : Option Addr}
/-- What New gives. -/
structure NwO (w w' : World) (db sb l n : Nat) (e : Ending) (pb ra cp : Nat) (fb : Nat → Nat) : Prop where
  e : e = .returned (.tuple #[.pointer (some ⟨pb, 0, none⟩), .int .i64 0])
  po : PoIs w.heap.size w' ⟨db, sb, l, pb, ra, cp, n, fb⟩ ⟨0, 0, 0, fun _ => zF⟩
  bel : Below w.heap.size w w'
set_option maxHeartbeats 4000000 in
theorem New_po (db sb l n : Nat) (h2 : 2 ≤ n) (h64 : n ≤ 64) (w : World) (hlp : Ltp w) : Calls Tryz.prog 29 #[.pointer (some ⟨sb, 0, none⟩), .pointer (some ⟨l, 0, none⟩), .int .i64 (n : Int)] w fun e w' => ∃ pb ra cp fb, NwO w w' db sb l n e pb ra cp fb := by
  have t1 : ¬ (n : Int) < 2 := by omega
  have t2 : ¬ (64 : Int) < (n : Int) := by omega
  have HE : Hid (∀ wr pb fb a c, Mk w wr sb l pb fb n a c → ∃ ra cp, PoIs w.heap.size wr ⟨db, sb, l, pb, ra, cp, n, fb⟩ ⟨0, 0, 0, fun _ => zF⟩ ∧ Below w.heap.size w wr) := fun wr pb fb a c M => by
    rcases M.own.row.2 with ⟨e, hz⟩ | ⟨g, cap, cur, e, hbg, hgg, hnc, hcm, hcs, htake⟩
    · have : (List.range n).length = 0 := hz
      rw [List.length_range] at this; omega
    · injection e with e1 e2 e3
      subst e1 e3
      refine ⟨g, c, ⟨M.blk, ⟨cur, _, hgg, fun j hj => ?_⟩, M.fr, M.inj, h2, h64, hlp.ow (Nat.le_refl _) M.gp, fun j hj => hlp.ow (Nat.le_refl _) (M.ge j hj), hlp.new hbg, Int.le_refl _, by show (0 : Int) ≤ (n : Int); omega⟩, M.bel⟩
      have hj' : j < n := hj
      have : ((List.range n).map (ptF ⟨0, 0, 0, 0, 0, 0, 0, fb⟩))[j]? = some (.pointer (some ⟨fb j, 0, none⟩)) := by
        rw [List.getElem?_map, List.getElem?_range (by exact hj)]; rfl
      rw [← htake, List.getElem?_take, if_pos (by rw [List.length_range]; omega)] at this
      simpa using this
  clear hlp
  go_enter Tryz.func29, Tryz.ntmps29
  go_wp2_with (refine wpList_box_o (A := #[.pointer (some ⟨sb, 0, none⟩), .pointer (some ⟨l, 0, none⟩), .slice none 0 0, .int .i64 0, .int .i64 0, .int .i64 0]) _ rfl _ rfl rfl ?_; intro w1 pb N1)
  have M0 : Hid (Mk w w1 sb l pb (fun _ => 0) 0 none 0) := ⟨N1.blk, OwnP.nil _ _, fun j hj => by omega, fun j j' hj => by omega, fun j hj => by omega, by rw [N1.eq]; exact Nat.le_refl _, N1.below⟩
  clear N1
  go_loopw [28] (fun iv wr => ∃ (i : Nat) (fb : Nat → Nat) (a : Option Addr) (c : Nat), i ≤ n ∧ iv = .int .i64 (i : Int) ∧ Mk w wr sb l pb fb i a c) (fun iv _ => n - (intOf iv).toNat)
  case atStart => exact ⟨0, _, _, _, Nat.zero_le _, rfl, M0.out⟩
  case round =>
    obtain ⟨i, fb, a, c, hi, rfl, hM⟩ := hrel
    have HM : Hid (Mk w wr sb l pb fb i a c) := hM
    have c2 := hM.cell
    clear hM
    by_cases hlt : i < n
    · have i1 : (i : Int) < (n : Int) := by omega
      have i64 : (i : Int) ≤ 64 := by omega
      have hl : Hid ((List.range i).length ≤ 100000) := (by rw [List.length_range]; omega : (List.range i).length ≤ 100000)
      have hll : Hid ((List.range i).length = i) := List.length_range
      go_wp2_with (first
        | (refine wpList_box_o (A := zF.A) _ rfl _ rfl rfl ?_; intro w2 q N2; have HN2 : Hid (NewO wr w2 q zF.A 85) := N2; have B2 : Hid (Below w.heap.size w w2) := HM.out.bel.trans (N2.below.mono HM.out.bel.size); have O2 : Hid (OwnP w.heap.size w2 (.slice a i c) ⟨0, 0, 0, 0, 0, 0, 0, upd fb i q⟩ (List.range i)) := (HM.out.own.below N2.below).fbs (fun j hj => upd_other _ _ (by have := List.mem_range.1 hj; omega)); clear N2)
        | (at_builtin; refine wpList_append_ptr (b0 := w.heap.size) (X := ⟨0, 0, 0, 0, 0, 0, 0, upd fb i q⟩) (js := List.range i) (j := i) rfl _ _ rfl rfl (O2.out.below ((Below.refl _ _).alloc (Nat.le_refl _) _)) rfl (by rw [cell_new0]; unfold ptF; dsimp only; rw [upd_same]) ?_ hl.out ?_; exact Nat.le_trans B2.out.size (by simp); intro v3 w3 o3 b3 k3; obtain ⟨a3, c3, rfl⟩ := o3.ex; have hl3 : (List.range i ++ [i]).length = i + 1 := (by simp); rw [hl3] at o3; have HS : Hid (Mk w (w3.setCell ⟨pb, 2, none⟩ (.slice a3 (i + 1) c3)) sb l pb (upd fb i q) (i + 1) a3 c3) := Mk.step2 HM.out HN2.out o3 k3 b3; have hb3 := Mk.pbk HM.out HN2.out k3; have c2' := Joins.cell_of_block hb3 2; have z2' := Joins.unfrozen_of_block hb3 2; clear o3 b3 k3 hb3))
      go_roundw
      case rel => exact ⟨i + 1, upd fb i q, a3, c3, hlt, by go_num, HS.out⟩
      case measure => simp [intOf]; omega
    · obtain rfl : i = n := by omega
      have i1 : ¬ (i : Int) < (i : Int) := by omega
      obtain ⟨ra, cp, hp, hb⟩ := HE.out _ _ _ _ _ HM.out
      clear hlt hi HM
      go_wp2
      go_ret2
      exact ⟨pb, ra, cp, fb, rfl, hp, hb⟩
end
end Go.Proofs.YtgodjnbbocnckaaGreat

namespace Go.Proofs.YtgodjnbbocnckaaGreat
open Go.RowKit Go.Maps Go.ChangeMaps
set_option linter.unusedVariables false
set_option linter.unusedSimpArgs false
set_option maxRecDepth 100000

/-- The law's world in memory. -/
structure WwIs (w : World) (ww : Nat) (X : Ad) (cs : List Nat) (st : Nat → Option Nat) (pn : Nat → Nat) : Prop where
  ex : ∃ C : Array Value, w.heap[ww]? = some (.cells C 39) ∧ C.size = 28 ∧ (C[0]? = some (.pointer (some ⟨X.db, 0, none⟩)) ∧ C[1]? = some (.pointer (some ⟨X.sb, 0, none⟩)) ∧ C[2]? = some (.pointer (some ⟨X.l, 0, none⟩)) ∧ C[3]? = some (.pointer (some ⟨X.pb, 0, none⟩))) ∧ (∀ i, i < 8 → C[4 + i]? = some (.string (txO cs (st i)))) ∧ (∀ i, i < 8 → C[12 + i]? = some (.int .i64 (lnO (st i)))) ∧ (∀ i, i < 8 → C[20 + i]? = some (.int .i64 (pn i : Int)))
/-- Its disk and store alone. -/
structure WwF (w : World) (ww : Nat) (X : Ad) : Prop where
  ex : ∃ C : Array Value, w.heap[ww]? = some (.cells C 39) ∧ C[0]? = some (.pointer (some ⟨X.db, 0, none⟩)) ∧ C[1]? = some (.pointer (some ⟨X.sb, 0, none⟩))
/-- How many pages are pinned. -/
def pc (pn : Nat → Nat) : Nat → Nat
  | 0 => 0
  | i + 1 => if 0 < pn i then pc pn i + 1 else pc pn i
section
variable [Inhabited PrSet] {B k ww : Nat} {w w' wr : World} {S S' : Dk} {X : Ad} {G : Gp} {cs : List Nat} {st pg : Nat → Option Nat} {pn : Nat → Nat}
end
section
variable {B k ww : Nat} {w w' wr : World} {S S' : Dk} {X : Ad} {G : Gp} {cs : List Nat} {st pg : Nat → Option Nat} {pn : Nat → Nat}
theorem WwIs.c0 (h : WwIs w ww X cs st pn) : w.cell? ⟨ww, 0, none⟩ = some (.pointer (some ⟨X.db, 0, none⟩)) := by obtain ⟨C, e, _, h0, _⟩ := h.ex; exact (Joins.cell_of_block e 0).trans h0.1
end
section
variable [Inhabited PrSet] {B k ww : Nat} {w w' wr : World} {S S' : Dk} {X : Ad} {G : Gp} {cs : List Nat} {st pg : Nat → Option Nat} {pn : Nat → Nat}
end
section
variable {B k ww : Nat} {w w' wr : World} {S S' : Dk} {X : Ad} {G : Gp} {cs : List Nat} {st pg : Nat → Option Nat} {pn : Nat → Nat}
theorem WwIs.c1 (h : WwIs w ww X cs st pn) : w.cell? ⟨ww, 1, none⟩ = some (.pointer (some ⟨X.sb, 0, none⟩)) := by obtain ⟨C, e, _, h0, _⟩ := h.ex; exact (Joins.cell_of_block e 1).trans h0.2.1
end
section
variable [Inhabited PrSet] {B k ww : Nat} {w w' wr : World} {S S' : Dk} {X : Ad} {G : Gp} {cs : List Nat} {st pg : Nat → Option Nat} {pn : Nat → Nat}
end
section
variable {B k ww : Nat} {w w' wr : World} {S S' : Dk} {X : Ad} {G : Gp} {cs : List Nat} {st pg : Nat → Option Nat} {pn : Nat → Nat}
theorem WwIs.c2 (h : WwIs w ww X cs st pn) : w.cell? ⟨ww, 2, none⟩ = some (.pointer (some ⟨X.l, 0, none⟩)) := by obtain ⟨C, e, _, h0, _⟩ := h.ex; exact (Joins.cell_of_block e 2).trans h0.2.2.1
end
section
variable [Inhabited PrSet] {B k ww : Nat} {w w' wr : World} {S S' : Dk} {X : Ad} {G : Gp} {cs : List Nat} {st pg : Nat → Option Nat} {pn : Nat → Nat}
end
section
variable {B k ww : Nat} {w w' wr : World} {S S' : Dk} {X : Ad} {G : Gp} {cs : List Nat} {st pg : Nat → Option Nat} {pn : Nat → Nat}
theorem WwIs.c3 (h : WwIs w ww X cs st pn) : w.cell? ⟨ww, 3, none⟩ = some (.pointer (some ⟨X.pb, 0, none⟩)) := by obtain ⟨C, e, _, h0, _⟩ := h.ex; exact (Joins.cell_of_block e 3).trans h0.2.2.2
end
section
variable [Inhabited PrSet] {B k ww : Nat} {w w' wr : World} {S S' : Dk} {X : Ad} {G : Gp} {cs : List Nat} {st pg : Nat → Option Nat} {pn : Nat → Nat}
end
section
variable {B k ww : Nat} {w w' wr : World} {S S' : Dk} {X : Ad} {G : Gp} {cs : List Nat} {st pg : Nat → Option Nat} {pn : Nat → Nat}
theorem WwIs.tx (h : WwIs w ww X cs st pn) {i : Nat} (hi : i < 8) : w.cell? ⟨ww, 4 + i, none⟩ = some (.string (txO cs (st i))) := by obtain ⟨C, e, _, _, h0, _⟩ := h.ex; exact (Joins.cell_of_block e _).trans (h0 i hi)
end
section
variable [Inhabited PrSet] {B k ww : Nat} {w w' wr : World} {S S' : Dk} {X : Ad} {G : Gp} {cs : List Nat} {st pg : Nat → Option Nat} {pn : Nat → Nat}
end
section
variable {B k ww : Nat} {w w' wr : World} {S S' : Dk} {X : Ad} {G : Gp} {cs : List Nat} {st pg : Nat → Option Nat} {pn : Nat → Nat}
theorem WwIs.ln (h : WwIs w ww X cs st pn) {i : Nat} (hi : i < 8) : w.cell? ⟨ww, 12 + i, none⟩ = some (.int .i64 (lnO (st i))) := by obtain ⟨C, e, _, _, _, h0, _⟩ := h.ex; exact (Joins.cell_of_block e _).trans (h0 i hi)
end
section
variable [Inhabited PrSet] {B k ww : Nat} {w w' wr : World} {S S' : Dk} {X : Ad} {G : Gp} {cs : List Nat} {st pg : Nat → Option Nat} {pn : Nat → Nat}
end
section
variable {B k ww : Nat} {w w' wr : World} {S S' : Dk} {X : Ad} {G : Gp} {cs : List Nat} {st pg : Nat → Option Nat} {pn : Nat → Nat}
theorem WwIs.pns (h : WwIs w ww X cs st pn) {i : Nat} (hi : i < 8) : w.cell? ⟨ww, 20 + i, none⟩ = some (.int .i64 (pn i : Int)) := by obtain ⟨C, e, _, _, _, _, h0⟩ := h.ex; exact (Joins.cell_of_block e _).trans (h0 i hi)
end
section
variable [Inhabited PrSet] {B k ww : Nat} {w w' wr : World} {S S' : Dk} {X : Ad} {G : Gp} {cs : List Nat} {st pg : Nat → Option Nat} {pn : Nat → Nat}
end
section
variable {B k ww : Nat} {w w' wr : World} {S S' : Dk} {X : Ad} {G : Gp} {cs : List Nat} {st pg : Nat → Option Nat} {pn : Nat → Nat}
theorem WwIs.z (h : WwIs w ww X cs st pn) (i : Nat) : w.frozen? ⟨ww, i, none⟩ = false := by obtain ⟨C, e, _⟩ := h.ex; exact Joins.unfrozen_of_block e i
end
section
variable [Inhabited PrSet] {B k ww : Nat} {w w' wr : World} {S S' : Dk} {X : Ad} {G : Gp} {cs : List Nat} {st pg : Nat → Option Nat} {pn : Nat → Nat}
end
section
variable {B k ww : Nat} {w w' wr : World} {S S' : Dk} {X : Ad} {G : Gp} {cs : List Nat} {st pg : Nat → Option Nat} {pn : Nat → Nat}
theorem WwIs.lt (h : WwIs w ww X cs st pn) : ww < w.heap.size := by obtain ⟨C, e, _⟩ := h.ex; exact lt_of_some e
end
section
variable [Inhabited PrSet] {B k ww : Nat} {w w' wr : World} {S S' : Dk} {X : Ad} {G : Gp} {cs : List Nat} {st pg : Nat → Option Nat} {pn : Nat → Nat}
end
section
variable {B k ww : Nat} {w w' wr : World} {S S' : Dk} {X : Ad} {G : Gp} {cs : List Nat} {st pg : Nat → Option Nat} {pn : Nat → Nat}
theorem WwIs.f (h : WwIs w ww X cs st pn) : WwF w ww X := by obtain ⟨C, e, _, h0, _⟩ := h.ex; exact ⟨C, e, h0.1, h0.2.1⟩
end
section
variable [Inhabited PrSet] {B k ww : Nat} {w w' wr : World} {S S' : Dk} {X : Ad} {G : Gp} {cs : List Nat} {st pg : Nat → Option Nat} {pn : Nat → Nat}
end
section
variable {B k ww : Nat} {w w' wr : World} {S S' : Dk} {X : Ad} {G : Gp} {cs : List Nat} {st pg : Nat → Option Nat} {pn : Nat → Nat}
theorem WwIs.below (h : WwIs w ww X cs st pn) (hb : Below w.heap.size w w') : WwIs w' ww X cs st pn := by obtain ⟨C, e, r⟩ := h.ex; exact ⟨C, (hb.block _ (lt_of_some e)).trans e, r⟩
end
section
variable [Inhabited PrSet] {B k ww : Nat} {w w' wr : World} {S S' : Dk} {X : Ad} {G : Gp} {cs : List Nat} {st pg : Nat → Option Nat} {pn : Nat → Nat}
theorem WwIs.kept {B' : Nat} (h : WwIs w ww X cs st pn) (hb : Kp isQ B' w w') : WwIs w' ww X cs st pn := by obtain ⟨C, e, r⟩ := h.ex; exact ⟨C, hb.block _ _ e (by simp [isQ, isA, isD, isL, isF]), r⟩
end
section
variable {B k ww : Nat} {w w' wr : World} {S S' : Dk} {X : Ad} {G : Gp} {cs : List Nat} {st pg : Nat → Option Nat} {pn : Nat → Nat}
theorem WwF.c0 (h : WwF w ww X) : w.cell? ⟨ww, 0, none⟩ = some (.pointer (some ⟨X.db, 0, none⟩)) := by obtain ⟨C, e, h0, _⟩ := h.ex; exact (Joins.cell_of_block e 0).trans h0
end
section
variable [Inhabited PrSet] {B k ww : Nat} {w w' wr : World} {S S' : Dk} {X : Ad} {G : Gp} {cs : List Nat} {st pg : Nat → Option Nat} {pn : Nat → Nat}
end
section
variable {B k ww : Nat} {w w' wr : World} {S S' : Dk} {X : Ad} {G : Gp} {cs : List Nat} {st pg : Nat → Option Nat} {pn : Nat → Nat}
theorem WwF.c1 (h : WwF w ww X) : w.cell? ⟨ww, 1, none⟩ = some (.pointer (some ⟨X.sb, 0, none⟩)) := by obtain ⟨C, e, _, h0⟩ := h.ex; exact (Joins.cell_of_block e 1).trans h0
end
section
variable [Inhabited PrSet] {B k ww : Nat} {w w' wr : World} {S S' : Dk} {X : Ad} {G : Gp} {cs : List Nat} {st pg : Nat → Option Nat} {pn : Nat → Nat}
end
section
variable {B k ww : Nat} {w w' wr : World} {S S' : Dk} {X : Ad} {G : Gp} {cs : List Nat} {st pg : Nat → Option Nat} {pn : Nat → Nat}
theorem WwF.below (h : WwF w ww X) (hb : Below w.heap.size w w') : WwF w' ww X := by obtain ⟨C, e, r⟩ := h.ex; exact ⟨C, (hb.block _ (lt_of_some e)).trans e, r⟩
end
section
variable [Inhabited PrSet] {B k ww : Nat} {w w' wr : World} {S S' : Dk} {X : Ad} {G : Gp} {cs : List Nat} {st pg : Nat → Option Nat} {pn : Nat → Nat}
theorem WwF.kept {B' : Nat} (h : WwF w ww X) (hb : Kp isQ B' w w') : WwF w' ww X := by obtain ⟨C, e, r⟩ := h.ex; exact ⟨C, hb.block _ _ e (by simp [isQ, isA, isD, isL, isF]), r⟩
end
section
variable {B k ww : Nat} {w w' wr : World} {S S' : Dk} {X : Ad} {G : Gp} {cs : List Nat} {st pg : Nat → Option Nat} {pn : Nat → Nat}
theorem WwIs.snoc (h : WwIs w ww X cs st pn) (hs : ∀ id, id < 8 → ∀ r, st id = some r → r < cs.length) (c : Nat) : WwIs w ww X (cs ++ [c]) st pn := by
  obtain ⟨C, e, h1, h2, h3, h4, h5⟩ := h.ex
  exact ⟨C, e, h1, h2, fun i hi => by rw [txO_snoc cs c (hs i hi)]; exact h3 i hi, h4, h5⟩
end
section
variable [Inhabited PrSet] {B k ww : Nat} {w w' wr : World} {S S' : Dk} {X : Ad} {G : Gp} {cs : List Nat} {st pg : Nat → Option Nat} {pn : Nat → Nat}
end
section
variable {B k ww : Nat} {w w' wr : World} {S S' : Dk} {X : Ad} {G : Gp} {cs : List Nat} {st pg : Nat → Option Nat} {pn : Nat → Nat}
/-- A page's text and record are noted. -/
theorem WwIs.set (h : WwIs w ww X cs st pn) {d r : Nat} (hd : d < 8) : WwIs ((w.setCell ⟨ww, 4 + d, none⟩ (.string (txO cs (some r)))).setCell ⟨ww, 12 + d, none⟩ (.int .i64 (lnO (some r)))) ww X cs (upd st d (some r)) pn := by
  obtain ⟨C, e, h1, h2, h3, h4, h5⟩ := h.ex
  refine ⟨(C.setIfInBounds (4 + d) (.string (txO cs (some r)))).setIfInBounds (12 + d) (.int .i64 (lnO (some r))), Joins.block_setCell (Joins.block_setCell e _) _, by simp [h1], ?_, fun i hi => ?_, fun i hi => ?_, fun i hi => ?_⟩
  · refine ⟨?_, ?_, ?_, ?_⟩
    · rw [Array.getElem?_setIfInBounds_ne (by omega), Array.getElem?_setIfInBounds_ne (by omega)]; exact h2.1
    · rw [Array.getElem?_setIfInBounds_ne (by omega), Array.getElem?_setIfInBounds_ne (by omega)]; exact h2.2.1
    · rw [Array.getElem?_setIfInBounds_ne (by omega), Array.getElem?_setIfInBounds_ne (by omega)]; exact h2.2.2.1
    · rw [Array.getElem?_setIfInBounds_ne (by omega), Array.getElem?_setIfInBounds_ne (by omega)]; exact h2.2.2.2
  · rw [Array.getElem?_setIfInBounds_ne (by omega)]
    by_cases e2 : i = d
    · subst e2; rw [Array.getElem?_setIfInBounds_self_of_lt (by omega), upd_same]
    · rw [Array.getElem?_setIfInBounds_ne (by omega), upd_other _ _ e2]; exact h3 i hi
  · by_cases e2 : i = d
    · subst e2; rw [Array.getElem?_setIfInBounds_self_of_lt (by simp; omega), upd_same]
    · rw [Array.getElem?_setIfInBounds_ne (by omega), Array.getElem?_setIfInBounds_ne (by omega), upd_other _ _ e2]; exact h4 i hi
  · rw [Array.getElem?_setIfInBounds_ne (by omega), Array.getElem?_setIfInBounds_ne (by omega)]; exact h5 i hi
end
section
variable [Inhabited PrSet] {B k ww : Nat} {w w' wr : World} {S S' : Dk} {X : Ad} {G : Gp} {cs : List Nat} {st pg : Nat → Option Nat} {pn : Nat → Nat}
end
section
variable {B k ww : Nat} {w w' wr : World} {S S' : Dk} {X : Ad} {G : Gp} {cs : List Nat} {st pg : Nat → Option Nat} {pn : Nat → Nat}
theorem WwIs.pin (h : WwIs w ww X cs st pn) {d x : Nat} (hd : d < 8) : WwIs (w.setCell ⟨ww, 20 + d, none⟩ (.int .i64 (x : Int))) ww X cs st (upd pn d x) := by
  obtain ⟨C, e, h1, h2, h3, h4, h5⟩ := h.ex
  refine ⟨C.setIfInBounds (20 + d) (.int .i64 (x : Int)), Joins.block_setCell e _, by simp [h1], ?_, fun i hi => ?_, fun i hi => ?_, fun i hi => ?_⟩
  · refine ⟨?_, ?_, ?_, ?_⟩
    · rw [Array.getElem?_setIfInBounds_ne (by omega)]; exact h2.1
    · rw [Array.getElem?_setIfInBounds_ne (by omega)]; exact h2.2.1
    · rw [Array.getElem?_setIfInBounds_ne (by omega)]; exact h2.2.2.1
    · rw [Array.getElem?_setIfInBounds_ne (by omega)]; exact h2.2.2.2
  · rw [Array.getElem?_setIfInBounds_ne (by omega)]; exact h3 i hi
  · rw [Array.getElem?_setIfInBounds_ne (by omega)]; exact h4 i hi
  · by_cases e2 : i = d
    · subst e2; rw [Array.getElem?_setIfInBounds_self_of_lt (by omega), upd_same]
    · rw [Array.getElem?_setIfInBounds_ne (by omega), upd_other _ _ e2]; exact h5 i hi
end
section
variable [Inhabited PrSet] {B k ww : Nat} {w w' wr : World} {S S' : Dk} {X : Ad} {G : Gp} {cs : List Nat} {st pg : Nat → Option Nat} {pn : Nat → Nat}
/-! ### The world's own block is turned -/
def isW : Obj → Prop
  | .cells _ t _ => t = 39
  | _ => False
end
section
variable {B k ww : Nat} {w w' wr : World} {S S' : Dk} {X : Ad} {G : Gp} {cs : List Nat} {st pg : Nat → Option Nat} {pn : Nat → Nat}
theorem isW_not : ∀ o, isA o → ¬ isW o := by
  intro o ha hs
  cases o with
  | cells cs t fz =>
    have ht : t = 39 := hs
    subst ht
    rcases ha with ha | ha
    · rcases ha with ha | ha <;> exact absurd ha (by decide)
    · rcases ha with ha | ha | ha <;> exact absurd ha (by decide)
  | _ => exact hs
end
section
variable [Inhabited PrSet] {B k ww : Nat} {w w' wr : World} {S S' : Dk} {X : Ad} {G : Gp} {cs : List Nat} {st pg : Nat → Option Nat} {pn : Nat → Nat}
theorem WwIs.kp (h : WwIs w ww X cs st pn) (hB : Ow B ww) (i : Nat) (u : Value) : Kp isW B w (w.setCell ⟨ww, i, none⟩ u) := by
  obtain ⟨C, e, _⟩ := h.ex
  exact Kp.cell e rfl hB
theorem Pq.keptW {sure B' : Nat} (h : Pq B w X k S cs sure G) (hb : Kp isW B' w w') : Pq B w' X k S cs sure G := by
  refine ⟨⟨h.lv.lx.keptA isW_not hb, h.lv.up, h.lv.fit, h.lv.hs, h.lv.n, h.lv.r2, h.lv.q⟩, ⟨hb.block _ _ h.st.blk (by simp [isW])⟩, ?_, h.n, h.len, h.cb⟩
  have hp := h.po
  refine ⟨hb.block _ _ hp.blk (by simp [isW]), ?_, fun j hj => hb.block _ _ (hp.fr j hj) (by simp [isW]), hp.inj, hp.n1, hp.n2, hp.gp, hp.gf, hp.gr, hp.h0, hp.h1⟩
  obtain ⟨cur, fz, e, hc⟩ := hp.row
  exact ⟨cur, fz, hb.block _ _ e (by simp [isW]), hc⟩
theorem Pv.keptW {sure B' : Nat} (h : Pv B w X k S cs sure G st pn pg) (hb : Kp isW B' w w') : Pv B w' X k S cs sure G st pn pg := ⟨h.q.keptW hb, h.p, h.v⟩
/-! ### The law's own small functions -/
end
section
variable {B k ww : Nat} {w w' wr : World} {S S' : Dk} {X : Ad} {G : Gp} {cs : List Nat} {st pg : Nat → Option Nat} {pn : Nat → Nat}
theorem fill_any (x : Nat) (hx : x < 256) (w : World) : Calls Tryz.prog 23 #[.int .u8 (x : Int)] w fun e w' => e = .returned (.string (fillS x)) ∧ Below w.heap.size w w' := by
  have hmk : ∀ w, (Instr.makeSlice 94 (.int .i64 224) (.int .i64 224)).run Tryz.prog w = .ok (.slice (some ⟨w.heap.size, 0, none⟩) 224 224) (w.alloc (.cells (madeCells #[.int .u8 0] 224) 5)) :=
    fun w => run_make_row' 94 5 (.int .u8 0) 1 Tryz.underlying94 (by kernel_rfl) rfl .i64 .i64 224 (by omega) (by omega) w
  obtain ⟨M, hM⟩ : ∃ M, M = madeCells #[Value.int .u8 0] 224 := ⟨_, rfl⟩
  have hMz : M.size = 224 := by rw [hM]; exact size_madeCells _ _
  rw [← hM] at hmk
  clear hM
  go_enter Tryz.func23, Tryz.ntmps23
  go_wp2
  go_loopw [4] (fun i wr => ∃ (j : Nat) (C : Array Value), j ≤ 224 ∧ i = .int .i64 j ∧ wr.heap[w.heap.size]? = some (.cells C 5) ∧ C.size = 224 ∧ Hid (∀ i, i < j → C[i]? = some (.int .u8 (x : Int))) ∧ Below w.heap.size w wr) (fun i _ => 224 - (intOf i).toNat)
  case atStart =>
    exact ⟨0, M, by omega, rfl, (MapKept.heap_alloc w _).1, hMz, fun i hi => absurd hi (by omega), (Below.refl _ _).alloc (Nat.le_refl _) _⟩
  case round =>
    obtain ⟨j, C, hj, rfl, hC, hz, hc, hb⟩ := hrel
    by_cases hlt : j < 224
    · obtain ⟨v, ev⟩ : ∃ v, C[j]? = some v := ⟨_, Array.getElem?_eq_getElem (by omega)⟩
      have k0 := (Joins.cell_of_block hC j).trans ev
      have hf := Joins.unfrozen_of_block hC j
      go_wp2
      go_roundw
      case rel =>
        refine ⟨j + 1, _, by omega, by go_num, Joins.block_setCell hC _, by simpa using hz, fun i hi => ?_, hb.setCell (Nat.le_refl _) _⟩
        rw [Array.getElem?_setIfInBounds]
        by_cases e : j = i
        · subst e; rw [if_pos rfl, if_pos (by omega)]
        · rw [if_neg e]; exact hc.out i (by omega)
      case measure => simp [intOf]; omega
    · obtain rfl : j = 224 := by omega
      have hcv : (convert 94 9 (.slice (some ⟨w.heap.size, 0, none⟩) 224 224)).run Tryz.prog wr = .ok (.string (fillS x)) wr := by
        have := Lib.run_convert_whole (P := Tryz.prog) wr 94 5 9 Tryz.underlying94 Tryz.underlying5 Tryz.underlying9 w.heap.size 0 (fillS x) (fun i hi => by
          rw [fillS_get x i hi]
          rw [Joins.cell_of_block hC, Nat.zero_add, hc.out i (by rw [fillS_size] at hi; exact hi)]
          have : (UInt8.ofNat x).toNat = x := by simp; omega
          rw [this]) 224
        rw [fillS_size] at this
        exact this
      go_wp2
      go_ret
      exact ⟨rfl, hb⟩
end
section
variable [Inhabited PrSet] {B k ww : Nat} {w w' wr : World} {S S' : Dk} {X : Ad} {G : Gp} {cs : List Nat} {st pg : Nat → Option Nat} {pn : Nat → Nat}
end
section
variable {B k ww : Nat} {w w' wr : World} {S S' : Dk} {X : Ad} {G : Gp} {cs : List Nat} {st pg : Nat → Option Nat} {pn : Nat → Nat}
theorem in_any (id : Int) (w : World) : Calls Tryz.prog 39 #[.int .i64 id] w fun e w' => e = .returned (.bool (decide (0 ≤ id ∧ id < 8))) ∧ w' = w := by
  by_cases h1 : 0 ≤ id
  · by_cases h2 : id < 8
    · go_enter Tryz.func39, Tryz.ntmps39
      go_wp2
      go_ret
      exact ⟨by simp [h1, h2], rfl⟩
    · go_enter Tryz.func39, Tryz.ntmps39
      go_wp2
      go_ret
      exact ⟨by simp [h1, h2], rfl⟩
  · go_enter Tryz.func39, Tryz.ntmps39
    go_wp2
    go_ret
    exact ⟨by simp; omega, rfl⟩
end
section
variable [Inhabited PrSet] {B k ww : Nat} {w w' wr : World} {S S' : Dk} {X : Ad} {G : Gp} {cs : List Nat} {st pg : Nat → Option Nat} {pn : Nat → Nat}
end
section
variable {B k ww : Nat} {w w' wr : World} {S S' : Dk} {X : Ad} {G : Gp} {cs : List Nat} {st pg : Nat → Option Nat} {pn : Nat → Nat}
theorem pc_le (pn : Nat → Nat) (i : Nat) : pc pn i ≤ i := by
  induction i with
  | zero => exact Nat.le_refl _
  | succ i ih => unfold pc; split <;> omega
end
section
variable [Inhabited PrSet] {B k ww : Nat} {w w' wr : World} {S S' : Dk} {X : Ad} {G : Gp} {cs : List Nat} {st pg : Nat → Option Nat} {pn : Nat → Nat}
end
section
variable {B k ww : Nat} {w w' wr : World} {S S' : Dk} {X : Ad} {G : Gp} {cs : List Nat} {st pg : Nat → Option Nat} {pn : Nat → Nat}
theorem pc_mono (pn : Nat → Nat) {i j : Nat} (h : i ≤ j) : pc pn i ≤ pc pn j := by
  induction j with
  | zero => have : i = 0 := by omega
            subst this; exact Nat.le_refl _
  | succ j ih =>
    by_cases e : i = j + 1
    · subst e; exact Nat.le_refl _
    · have := ih (by omega)
      show _ ≤ (if 0 < pn j then pc pn j + 1 else pc pn j)
      split <;> omega
end
section
variable [Inhabited PrSet] {B k ww : Nat} {w w' wr : World} {S S' : Dk} {X : Ad} {G : Gp} {cs : List Nat} {st pg : Nat → Option Nat} {pn : Nat → Nat}
end
section
variable {B k ww : Nat} {w w' wr : World} {S S' : Dk} {X : Ad} {G : Gp} {cs : List Nat} {st pg : Nat → Option Nat} {pn : Nat → Nat}
theorem pc_two (pn : Nat → Nat) {a b n : Nat} (hab : a < b) (hb : b < n) (h1 : 0 < pn a) (h2 : 0 < pn b) : 2 ≤ pc pn n := by
  have e1 : pc pn (a + 1) = pc pn a + 1 := by show (if 0 < pn a then _ else _) = _; rw [if_pos h1]
  have e2 : pc pn (b + 1) = pc pn b + 1 := by show (if 0 < pn b then _ else _) = _; rw [if_pos h2]
  have := pc_mono pn (show a + 1 ≤ b by omega)
  have := pc_mono pn (show b + 1 ≤ n by omega)
  omega
end
section
variable [Inhabited PrSet] {B k ww : Nat} {w w' wr : World} {S S' : Dk} {X : Ad} {G : Gp} {cs : List Nat} {st pg : Nat → Option Nat} {pn : Nat → Nat}
end
section
variable {B k ww : Nat} {w w' wr : World} {S S' : Dk} {X : Ad} {G : Gp} {cs : List Nat} {st pg : Nat → Option Nat} {pn : Nat → Nat}
theorem pinned_any (h : WwIs w ww X cs st pn) : Calls Tryz.prog 40 #[.pointer (some ⟨ww, 0, none⟩)] w fun e w' => e = .returned (.int .i64 (pc pn 8 : Int)) ∧ w' = w := by
  have H : Hid (WwIs w ww X cs st pn) := h
  clear h
  go_enter Tryz.func40, Tryz.ntmps40
  go_wp2
  go_loopw [3, 4] (fun nv iv wr => ∃ i : Nat, i ≤ 8 ∧ iv = .int .i64 (i : Int) ∧ nv = .int .i64 (pc pn i : Int) ∧ wr = w) (fun _ iv _ => 8 - (intOf iv).toNat)
  case atStart => exact ⟨0, by omega, rfl, rfl, rfl⟩
  case round =>
    obtain ⟨i, hi, rfl, rfl, rfl⟩ := hrel
    by_cases hlt : i < 8
    · have i1 : (i : Int) < 8 := by omega
      have hpn := H.out.pns hlt
      have hpc := pc_le pn i
      have hpc2 : (pc pn i : Int) ≤ 8 := by omega
      have hpc0 : (0 : Int) ≤ (pc pn i : Int) := by omega
      by_cases hz : 0 < pn i
      · have hz2 : (0 : Int) < (pn i : Int) := by omega
        have HE : Hid ((pc pn (i + 1) : Int) = (pc pn i : Int) + 1) := by
          have : pc pn (i + 1) = pc pn i + 1 := by show (if 0 < pn i then _ else _) = _; rw [if_pos hz]
          exact (by omega : (pc pn (i + 1) : Int) = (pc pn i : Int) + 1)
        clear hz hpc
        generalize (pn i : Int) = x at *
        go_wp2
        go_roundw
        case rel => exact ⟨i + 1, hlt, by go_num, by rw [HE.out], by first | rfl | trivial⟩
        case measure => simp [intOf]; omega
      · have hz2 : ¬ (0 : Int) < (pn i : Int) := by omega
        have HE : Hid ((pc pn (i + 1) : Int) = (pc pn i : Int)) := by
          have : pc pn (i + 1) = pc pn i := by show (if 0 < pn i then _ else _) = _; rw [if_neg hz]
          exact (by omega : (pc pn (i + 1) : Int) = (pc pn i : Int))
        clear hz hpc
        generalize (pn i : Int) = x at *
        go_wp2
        go_roundw
        case rel => exact ⟨i + 1, hlt, by go_num, by rw [HE.out], by first | rfl | trivial⟩
        case measure => simp [intOf]; omega
    · obtain rfl : i = 8 := by omega
      clear hlt hi
      go_wp2
      go_ret
      exact ⟨rfl, rfl⟩
end
section
variable [Inhabited PrSet] {B k ww : Nat} {w w' wr : World} {S S' : Dk} {X : Ad} {G : Gp} {cs : List Nat} {st pg : Nat → Option Nat} {pn : Nat → Nat}
end
end Go.Proofs.YtgodjnbbocnckaaGreat

namespace Go.Proofs.YtgodjnbbocnckaaGreat
open Go.RowKit Go.Maps Go.ChangeMaps
set_option linter.unusedVariables false
set_option linter.unusedSimpArgs false
set_option maxRecDepth 100000

/-- The law's world, and its pool. -/
structure PW [Inhabited PrSet] (B : Nat) (w : World) (ww : Nat) (X : Ad) (k : Nat) (S : Dk) (cs : List Nat) (sure : Nat) (G : Gp) (st : Nat → Option Nat) (pn : Nat → Nat) (pg : Nat → Option Nat) (qn : Nat → Nat) : Prop where
  pv : Pv B w X k S cs sure G st pn pg
  wb : WwIs w ww X cs st qn
  ge : Ow B ww
  pb : ∀ d, pn d ≤ 1000
/-- The power went. -/
structure LW [Inhabited PrSet] (B : Nat) (w : World) (ww : Nat) (X : Ad) (k : Nat) (cs : List Nat) : Prop where
  ex : ∃ S m, Lo B w X.db X.sb k S cs m
  wb : WwF w ww X
section
variable [Inhabited PrSet] {B k k' ww sure : Nat} {w w' wr : World} {S S' : Dk} {X : Ad} {G : Gp} {cs : List Nat} {st pg : Nat → Option Nat} {pn qn : Nat → Nat}
theorem PW.below (h : PW B w ww X k S cs sure G st pn pg qn) (hb : Below w.heap.size w w') : PW B w' ww X k S cs sure G st pn pg qn := ⟨h.pv.below hb, h.wb.below hb, h.ge, h.pb⟩
theorem PW.mono (h : PW B w ww X k S cs sure G st pn pg qn) (hk : k ≤ k') : PW B w ww X k' S cs sure G st pn pg qn := ⟨h.pv.mono hk, h.wb, h.ge, h.pb⟩
theorem PW.le (h : PW B w ww X k S cs sure G st pn pg qn) : B ≤ w.heap.size := h.pv.q.le
theorem LW.below (h : LW B w ww X k cs) (hb : Below w.heap.size w w') : LW B w' ww X k cs := by
  obtain ⟨S, m, hL⟩ := h.ex
  exact ⟨⟨S, m, hL.below hb⟩, h.wb.below hb⟩
theorem LW.mono (h : LW B w ww X k cs) (hk : k ≤ k') : LW B w ww X k' cs := by
  obtain ⟨S, m, hL⟩ := h.ex
  exact ⟨⟨S, m, hL.mono hk⟩, h.wb⟩
def ww0 (X : Ad) : Array Value := #[.pointer (some ⟨X.db, 0, none⟩), .pointer (some ⟨X.sb, 0, none⟩), .pointer (some ⟨X.l, 0, none⟩), .pointer (some ⟨X.pb, 0, none⟩), .string ⟨#[]⟩, .string ⟨#[]⟩, .string ⟨#[]⟩, .string ⟨#[]⟩, .string ⟨#[]⟩, .string ⟨#[]⟩, .string ⟨#[]⟩, .string ⟨#[]⟩, .int .i64 0, .int .i64 0, .int .i64 0, .int .i64 0, .int .i64 0, .int .i64 0, .int .i64 0, .int .i64 0, .int .i64 0, .int .i64 0, .int .i64 0, .int .i64 0, .int .i64 0, .int .i64 0, .int .i64 0, .int .i64 0]
end
section
variable {B k k' ww sure : Nat} {w w' wr : World} {S S' : Dk} {X : Ad} {G : Gp} {cs : List Nat} {st pg : Nat → Option Nat} {pn qn : Nat → Nat}
theorem eight {P : Nat → Prop} (h0 : P 0) (h1 : P 1) (h2 : P 2) (h3 : P 3) (h4 : P 4) (h5 : P 5) (h6 : P 6) (h7 : P 7) : ∀ i, i < 8 → P i := by
  intro i hi
  have : i = 0 ∨ i = 1 ∨ i = 2 ∨ i = 3 ∨ i = 4 ∨ i = 5 ∨ i = 6 ∨ i = 7 := by omega
  rcases this with rfl | rfl | rfl | rfl | rfl | rfl | rfl | rfl <;> assumption
end
section
variable [Inhabited PrSet] {B k k' ww sure : Nat} {w w' wr : World} {S S' : Dk} {X : Ad} {G : Gp} {cs : List Nat} {st pg : Nat → Option Nat} {pn qn : Nat → Nat}
end
section
variable {B k k' ww sure : Nat} {w w' wr : World} {S S' : Dk} {X : Ad} {G : Gp} {cs : List Nat} {st pg : Nat → Option Nat} {pn qn : Nat → Nat}
theorem WwIs.new (h : w.heap[ww]? = some (.cells (ww0 X) 39)) : WwIs w ww X [] (fun _ => none) (fun _ => 0) :=
  ⟨_, h, rfl, ⟨rfl, rfl, rfl, rfl⟩, eight rfl rfl rfl rfl rfl rfl rfl rfl, eight rfl rfl rfl rfl rfl rfl rfl rfl, eight rfl rfl rfl rfl rfl rfl rfl rfl⟩
end
section
variable [Inhabited PrSet] {B k k' ww sure : Nat} {w w' wr : World} {S S' : Dk} {X : Ad} {G : Gp} {cs : List Nat} {st pg : Nat → Option Nat} {pn qn : Nat → Nat}
end
section
variable {B k k' ww sure : Nat} {w w' wr : World} {S S' : Dk} {X : Ad} {G : Gp} {cs : List Nat} {st pg : Nat → Option Nat} {pn qn : Nat → Nat}
theorem wpList_build_ww {ops : Array Oper} {rest : List Oper} {o : Oper} {a : Act} {Q : Exit → Act → World → Prop} (w : World) (hg : o.guard = none) (x0 x1 x2 x3 : Operand) (hop : o.op = Op.build 39 #[(0, x0), (1, x1), (2, x2), (3, x3)]) (h0 : a.eval x0 = .pointer (some ⟨X.db, 0, none⟩)) (h1 : a.eval x1 = .pointer (some ⟨X.sb, 0, none⟩)) (h2 : a.eval x2 = .pointer (some ⟨X.l, 0, none⟩)) (h3 : a.eval x3 = .pointer (some ⟨X.pb, 0, none⟩))
    (h : wpList Tryz.prog ops Q rest (a.put o.dst (.agg (ww0 X))) w) : wpList Tryz.prog ops Q (o :: rest) a w := by
  refine wpList_plain hg fun K' hK' => ?_
  unfold Oper.wp
  have hb : (Instr.build 39 #[(0, .pointer (some ⟨X.db, 0, none⟩)), (1, .pointer (some ⟨X.sb, 0, none⟩)), (2, .pointer (some ⟨X.l, 0, none⟩)), (3, .pointer (some ⟨X.pb, 0, none⟩))]).run Tryz.prog w = .ok (.agg (ww0 X)) w := by kernel_rfl
  simp [execOp, hop, h0, h1, h2, h3, hb, Result.andThen]
  exact hK' _ _ h
end
section
variable [Inhabited PrSet] {B k k' ww sure : Nat} {w w' wr : World} {S S' : Dk} {X : Ad} {G : Gp} {cs : List Nat} {st pg : Nat → Option Nat} {pn qn : Nat → Nat}
/-- A new world. -/
structure MdO (w w' : World) (n : Nat) (e : Ending) (ww : Nat) (X : Ad) (S : Dk) (G : Gp) : Prop where
  e : e = .returned (.pointer (some ⟨ww, 0, none⟩))
  pw : PW w.heap.size w' ww X 41 S [] 0 G (fun _ => none) (fun _ => 0) (fun _ => none) (fun _ => 0)
  n : X.n = n
  set : S.set = false
  G : G = ⟨0, 0, 0, fun _ => zF⟩
  bel : Below w.heap.size w w'
  sb : w.heap.size ≤ X.sb
end
section
variable {B k k' ww sure : Nat} {w w' wr : World} {S S' : Dk} {X : Ad} {G : Gp} {cs : List Nat} {st pg : Nat → Option Nat} {pn qn : Nat → Nat}
theorem new_sp (S : Dk) (h : ∀ i, 40 ≤ i → S.now i = zs64) : Sp S [] 0 (fun _ => none) := ⟨fun id q h1 h2 => h _ (by omega), fun id k h1 h2 => by cases h2⟩
end
section
variable [Inhabited PrSet] {B k k' ww sure : Nat} {w w' wr : World} {S S' : Dk} {X : Ad} {G : Gp} {cs : List Nat} {st pg : Nat → Option Nat} {pn qn : Nat → Nat}
set_option maxHeartbeats 2000000 in
theorem made_any (n : Nat) (h2 : 2 ≤ n) (h10 : n ≤ 10) (w : World) (hlp : Ltp w) : Calls Tryz.prog 10 #[.int .i64 (n : Int)] w fun e w' => ∃ ww X S G, MdO w w' n e ww X S G := by
  have CN : Hid (Calls Tryz.prog 37 #[.int .i64 80] w fun e w' => e = .returned (.tuple #[.pointer (some ⟨w.heap.size + 2, 0, none⟩), .int .i64 0]) ∧ Ds w.heap.size w' (w.heap.size + 2) 0 (newDk 80) ∧ Below w.heap.size w w') := Ds.new 80 (by omega) (by omega) w hlp
  have CO : Hid (∀ wx, Ds w.heap.size wx (w.heap.size + 2) 0 (newDk 80) → Calls Tryz.prog 20 #[.pointer (some ⟨w.heap.size + 2, 0, none⟩), .int .i64 0, .int .i64 40, .int .i64 1] wx fun e w' => ∃ S' l, e = .returned (.tuple #[.pointer (some ⟨l, 0, none⟩), .int .i64 0]) ∧ (S'.set = false ∧ S'.n = 80 ∧ ∀ i, 40 ≤ i → S'.now i = zs64) ∧ Lv w.heap.size w' l 41 S' (w.heap.size + 2) 0 40 1 [] 0 ∧ Kp isA w.heap.size wx w') := fun wx hd => by
    refine ((new_wt 80 0 40 (by omega)).open2 (bs := 0) (sc := 40) (run := 1) (fit_nil (by omega) (by omega)) (by simp) hd (by omega) (by omega) (by omega) (by show 0 + 40 ≤ 80; omega) rfl rfl).mono ?_
    rintro e w' ⟨j, S', l, he, ⟨h1, h2, h3, h4⟩, hlv, hK, hO⟩
    have hj : j = 0 := by simpa using h2
    subst hj
    refine ⟨S', l, he, ⟨h3, h4, fun i hi => ?_⟩, hlv, hK⟩
    have hz : (newDk 80).now i = zs64 := rfl
    rcases hO with ⟨_, rfl⟩ | ⟨h5, hL⟩
    · exact hz
    · obtain ⟨hu, hw, hsu⟩ := hL.ok rfl
      unfold Dk.now
      rw [hw]
      show S'.sure i = _
      rw [hsu]
      have : nw 0 (cat (List.take 0 [])) 1 ((cat (List.take 0 [])).size / 58) (min ((cat (List.take 0 [])).size / 58 + 1) 40) i = none := by
        unfold nw
        rw [if_neg (by omega)]
      rw [this]
      exact hz
  have CS : Hid (∀ wx S1 k, Ds w.heap.size wx (w.heap.size + 2) k S1 → S1.n = 80 → Calls Tryz.prog 38 #[.pointer (some ⟨w.heap.size + 2, 0, none⟩), .int .i64 40, .int .i64 8, .int .i64 1] wx fun e w' => e = .returned (.tuple #[.pointer (some ⟨wx.heap.size, 0, none⟩), .int .i64 0]) ∧ StIs w' wx.heap.size (w.heap.size + 2) 40 8 1 ∧ Below wx.heap.size wx w') := fun wx S1 k hd hn => by
    obtain ⟨lb, mb, m, d1, d2, d3, d4⟩ := hd.dsk
    exact StNew_good 40 8 1 wx d1 hd.q.ok (by omega) (by omega) (by omega) (by omega) (by rw [hn]; omega)
  have CP : Hid (∀ wx sb l, Ltp wx → Calls Tryz.prog 29 #[.pointer (some ⟨sb, 0, none⟩), .pointer (some ⟨l, 0, none⟩), .int .i64 (n : Int)] wx fun e w' => ∃ pb ra cp fb, NwO wx w' (w.heap.size + 2) sb l n e pb ra cp fb) := fun wx sb l hx => New_po (w.heap.size + 2) sb l n h2 (by omega) wx hx
  generalize hdb : w.heap.size + 2 = db at *
  have HLp : Hid (Ltp w) := hlp
  clear hdb h2 h10 hlp
  go_enter Tryz.func10, Tryz.ntmps10
  go_wp2_with (first
    | (go_at_call 37; refine CN.out.mono ?_; rintro e w1 ⟨rfl, D1, b1⟩)
    | (go_at_call 20; refine (CO.out _ D1).mono ?_; rintro e w2 ⟨S2, l, rfl, hS2, L2, K2⟩)
    | (go_at_call 38; refine (CS.out _ _ _ L2.lx.d hS2.2.1).mono ?_; rintro e w3 ⟨rfl, T3, b3⟩)
    | (go_at_call 29; refine (CP.out _ _ _ (L2.lx.d.lp.below b3)).mono ?_; rintro e w4 ⟨pb, ra, cp, fb, N4⟩; have he := N4.e; subst he)
    | (refine wpList_build_ww (X := ⟨db, w2.heap.size, l, pb, ra, cp, n, fb⟩) _ rfl (.tmp 52) (.tmp 53) (.tmp 54) (.tmp 55) rfl rfl rfl rfl rfl ?_)
    | (refine wpList_box_o (A := ww0 ⟨db, w2.heap.size, l, pb, ra, cp, n, fb⟩) _ rfl _ rfl rfl ?_; intro w5 b5 N5))
  go_ret
  have hs12 : w.heap.size ≤ w2.heap.size := Nat.le_trans b1.size K2.size
  have hs13 : w.heap.size ≤ w3.heap.size := Nat.le_trans hs12 b3.size
  have hb4 : Below w2.heap.size w2 w4 := thn b3 N4.bel
  have hb5 : Below w2.heap.size w2 w5 := thn hb4 N5.below
  refine ⟨b5, ⟨db, w2.heap.size, l, pb, ra, cp, n, fb⟩, S2, _, rfl, ⟨⟨⟨L2.below hb5, (T3.below N4.bel).below N5.below, (N4.po.mono hs13).below N5.below, hS2.2.1, by simp, by simp⟩, new_sp S2 hS2.2.2, Iv.new n⟩, WwIs.new N5.blk, HLp.out.ow (Nat.le_refl _) (by have := N5.eq; have := N4.bel.size; omega), fun d => Nat.zero_le _⟩, rfl, hS2.1, rfl, ?_, hs12⟩
  exact ((b1.trans K2.bel).trans (hb5.mono hs12))
end
end Go.Proofs.YtgodjnbbocnckaaGreat

namespace Go.Proofs.YtgodjnbbocnckaaGreat
open Go.RowKit Go.Maps Go.ChangeMaps
set_option linter.unusedVariables false
set_option linter.unusedSimpArgs false
set_option maxRecDepth 100000

section
variable [Inhabited PrSet] {B k k' ww sure : Nat} {w w' wr : World} {S S' : Dk} {X : Ad} {G : Gp} {cs : List Nat} {st pg : Nat → Option Nat} {pn qn : Nat → Nat}
theorem PW.append (h : PW B w ww X k S cs sure G st pn pg qn) (c : Nat) (hc : c < 256) (hl : cs.length < 100) : Calls Tryz.prog 57 #[.pointer (some ⟨X.l, 0, none⟩), .agg ((cmS (c : Int)).A nilV nilV)] w fun e w' => e = .returned (.tuple #[.int .i64 (lnO (some cs.length)), .int .i64 0]) ∧ PW B w' ww X k S (cs ++ [c]) sure G st pn pg qn ∧ Below B w w' := by
  obtain ⟨e1, e2, _⟩ := fcm_ok hc
  have hz := fsOf_sz h.pv.q.cb
  refine (h.pv.q.lv.append (recV_cm _ (c : Int)) (small_cm (c : Int)) e1 (by show _ + (fcm c).size ≤ _; rw [e2, hz]; omega)).mono ?_
  rintro e w' ⟨he, h1, k1⟩
  have hK : Kp isA B w w' := k1.l
  have e3 : ((cat (fsOf cs)).size : Int) + 1 = lnO (some cs.length) := by rw [hz]; simp only [lnO]; omega
  rw [e3] at he
  refine ⟨he, ⟨⟨⟨?_, h.pv.q.st.kept hK.q, h.pv.q.po.kept hK, h.pv.q.n, by rw [List.length_append]; simp; omega, fun x hx => ?_⟩, h.pv.p.snoc h.pv.q.sl c, h.pv.v.snoc c⟩, (h.wb.kept hK.q).snoc h.pv.v.sl c, h.ge, h.pb⟩, hK.bel⟩
  · rw [fsOf_snoc]; exact h1
  · rcases List.mem_append.1 hx with hx | hx
    · exact h.pv.q.cb x hx
    · rw [List.mem_singleton] at hx; subst hx; exact hc
/-- What set comes to. -/
structure SeO (B : Nat) (w w' : World) (ww : Nat) (X : Ad) (k : Nat) (S : Dk) (cs : List Nat) (c sure : Nat) (G : Gp) (st : Nat → Option Nat) (pn : Nat → Nat) (pg : Nat → Option Nat) (qn : Nat → Nat) (id : Int) (b : Bool) : Prop where
  or : (b = true ∧ ¬ (0 ≤ id ∧ id < 8) ∧ PW B w' ww X k S (cs ++ [c]) sure G st pn pg qn) ∨ (b = decide (2 ≤ pc qn 8) ∧ (0 ≤ id ∧ id < 8) ∧ (∀ i, i < X.n → (G.F i).pn ≠ 0) ∧ PW B w' ww X k S (cs ++ [c]) sure G st pn pg qn)
    ∨ (b = true ∧ ∃ (d j : Nat) (S' : Dk) (sure' : Nat) (G' : Gp) (pg' : Nat → Option Nat), id = (d : Int) ∧ d < 8 ∧ PW B w' ww X k S' (cs ++ [c]) sure' G' (upd st d (some cs.length)) pn pg' qn ∧ j < X.n ∧ (G'.F j).has (d : Int) ∧ 0 < (G'.F j).si ∧ (∀ i, i < X.n → i ≠ j → (G.F i).pn ≠ 0 → G'.F i = G.F i) ∧ (S.set = false → S'.set = false) ∧ (∀ i, i < X.n → (G.F i).pn ≠ 0 → (G'.F i).id = (G.F i).id))
    ∨ (b = false ∧ S.set = true ∧ LW B w' ww X k (cs ++ [c]))
  bel : Below B w w'
/-- What the pool's Set comes to, of a page that there is. -/
structure S3O (B : Nat) (w w' : World) (ww : Nat) (X : Ad) (k : Nat) (S : Dk) (cs : List Nat) (r sure : Nat) (G : Gp) (st : Nat → Option Nat) (pn : Nat → Nat) (pg : Nat → Option Nat) (qn : Nat → Nat) (d : Nat) (y : Int) : Prop where
  or : (y = 0 ∧ ∃ (j : Nat) (S' : Dk) (sure' : Nat) (G' : Gp) (pg' : Nat → Option Nat), Pv B w' X k S' cs sure' G' (upd st d (some r)) pn pg' ∧ j < X.n ∧ (G'.F j).has (d : Int) ∧ 0 < (G'.F j).si ∧ (∀ i, i < X.n → i ≠ j → (G.F i).pn ≠ 0 → G'.F i = G.F i) ∧ (S.set = false → S'.set = false) ∧ (∀ i, i < X.n → (G.F i).pn ≠ 0 → (G'.F i).id = (G.F i).id))
    ∨ (y = 7 ∧ (∀ i, i < X.n → (G.F i).pn ≠ 0) ∧ Pv B w' X k S cs sure G st pn pg) ∨ (y = 9 ∧ S.set = true ∧ ∃ S' m, Lo B w' X.db X.sb k S' cs m)
  wb : WwIs w' ww X cs st qn
  bel : Below B w w'
theorem PW.seti (h : PW B w ww X k S cs sure G st pn pg qn) (hk : k ≤ 29000) (d : Nat) (hd : d < 8) (r : Nat) (hr : r < cs.length) (hst : ∀ id', id' < 8 → ∀ r0, st id' = some r0 → r0 ≤ r) : Calls Tryz.prog 30 #[.pointer (some ⟨X.pb, 0, none⟩), .int .i64 (d : Int), .string (fillS (cs.getD r 0)), .int .i64 (lnO (some r))] w fun e w' => ∃ y, e = .returned (.int .i64 y) ∧ S3O B w w' ww X (k + 46) S cs r sure G st pn pg qn d y := by
  have hle := h.le
  refine (Set_any h.pv hk (d : Int) (fillS (cs.getD r 0)) (fillS_size _) (lnO (some r)) (lnO_pos r)).mono ?_
  rintro e w' ⟨y, he, hO⟩
  refine ⟨y, he, ?_⟩
  by_cases hy : y = 0
  · obtain ⟨w1, j, S1, s1, G1, p1, T, Q, K⟩ := hO.ok hy
    refine ⟨Or.inl ⟨hy, j, S1, s1, _, p1, ⟨Q, T.v.p, T.v.v.setp T.hj T.has hr hst⟩, T.hj, ?_, ?_, fun i hi hij hp => ?_, T.cm, fun i hi hp => ?_⟩, h.wb.kept K, K.bel⟩
    · show (upd G1.F j _ j).has _
      rw [upd_same]; exact T.has
    · show 0 < (upd G1.F j _ j).si
      rw [upd_same]
      show 0 < (if 0 < (G1.F j).si then (G1.F j).si else lnO (some r))
      have := lnO_pos r
      split <;> omega
    · show upd G1.F j _ i = _
      rw [upd_other _ _ hij]
      exact T.keep i hi hp
    · show (upd G1.F j _ i).id = _
      by_cases e : i = j
      · subst e; rw [upd_same]; show (G1.F i).id = _; rw [T.keep i hi hp]
      · rw [upd_other _ _ e, T.keep i hi hp]
  · have hE := hO.bad hy
    rcases hE.or with ⟨e1, e2, _⟩ | ⟨e1, e2, e3, e4, e5⟩ | ⟨e1, e2, e3⟩
    · exact absurd ⟨by omega, by omega⟩ e2
    · exact ⟨Or.inr (Or.inl ⟨e1, e4, (h.pv.below e5).mono (by omega)⟩), h.wb.below e5, e5.mono hle⟩
    · exact ⟨Or.inr (Or.inr ⟨e1, e3.set, e3.ex⟩), h.wb.kept e3.kp, e3.kp.bel⟩
theorem PW.seto (h : PW B w ww X k S cs sure G st pn pg qn) (hk : k ≤ 29000) (id : Int) (hid : ¬ (0 ≤ id ∧ id < 8)) (c : Nat) (l : Int) (hl : 1 ≤ l) : Calls Tryz.prog 30 #[.pointer (some ⟨X.pb, 0, none⟩), .int .i64 id, .string (fillS c), .int .i64 l] w fun e w' => e = .returned (.int .i64 6) ∧ Below w.heap.size w w' := by
  refine (Set_any h.pv hk id (fillS c) (fillS_size _) l hl).mono ?_
  rintro e w' ⟨y, he, hO⟩
  by_cases hy : y = 0
  · obtain ⟨w1, j, S1, s1, G1, p1, T, Q, K⟩ := hO.ok hy
    obtain ⟨d, h1, h2⟩ := T.v.v.us j T.hj T.has.1
    have a1 := h2.id
    have a2 := T.has.2
    exact absurd ⟨by omega, by omega⟩ hid
  · rcases (hO.bad hy).or with ⟨e1, e2, e3⟩ | ⟨e1, e2, _⟩ | ⟨e1, e2, _⟩
    · subst e1; exact ⟨he, e3⟩
    · exact absurd e2 hid
    · exact absurd e2 hid
end
section
variable {B k k' ww sure : Nat} {w w' wr : World} {S S' : Dk} {X : Ad} {G : Gp} {cs : List Nat} {st pg : Nat → Option Nat} {pn qn : Nat → Nat}
theorem build_cm (c : Int) (W : World) : (Instr.build 51 #[(0, .int .i64 7), (1, .int .i64 c), (2, .int .i64 1)]).run Tryz.prog W = .ok (.agg ((cmS c).A nilV nilV)) W := by kernel_rfl
end
section
variable [Inhabited PrSet] {B k k' ww sure : Nat} {w w' wr : World} {S S' : Dk} {X : Ad} {G : Gp} {cs : List Nat} {st pg : Nat → Option Nat} {pn qn : Nat → Nat}
end
section
variable {B k k' ww sure : Nat} {w w' wr : World} {S S' : Dk} {X : Ad} {G : Gp} {cs : List Nat} {st pg : Nat → Option Nat} {pn qn : Nat → Nat}
theorem wpList_build_cm {ops : Array Oper} {rest : List Oper} {o : Oper} {a : Act} {Q : Exit → Act → World → Prop} {c : Int} (w : World) (hg : o.guard = none) (x : Operand) (hop : o.op = Op.build 51 #[(0, .const (.int .i64 7)), (1, x), (2, .const (.int .i64 1))]) (hx : a.eval x = .int .i64 c)
    (h : wpList Tryz.prog ops Q rest (a.put o.dst (.agg ((cmS c).A nilV nilV))) w) : wpList Tryz.prog ops Q (o :: rest) a w := by
  refine wpList_plain hg fun K' hK' => ?_
  unfold Oper.wp
  have h7 : a.eval (.const (.int .i64 7)) = .int .i64 7 := rfl
  have h1 : a.eval (.const (.int .i64 1)) = .int .i64 1 := rfl
  simp [execOp, hop, hx, h7, h1, build_cm, Result.andThen]
  exact hK' _ _ h
end
section
variable [Inhabited PrSet] {B k k' ww sure : Nat} {w w' wr : World} {S S' : Dk} {X : Ad} {G : Gp} {cs : List Nat} {st pg : Nat → Option Nat} {pn qn : Nat → Nat}
set_option maxHeartbeats 4000000 in
theorem set_out (h : PW B w ww X k S cs sure G st pn pg qn) (hk : k ≤ 29000) (c : Nat) (hc : c < 256) (hl : cs.length < 100) (id : Int) (hid : ¬ (0 ≤ id ∧ id < 8)) : Calls Tryz.prog 24 #[.pointer (some ⟨ww, 0, none⟩), .int .i64 id, .int .u8 (c : Int)] w fun e w' => e = .returned (.bool true) ∧ SeO B w w' ww X (k + 46) S cs c sure G st pn pg qn id true := by
  have CA : Hid (Calls Tryz.prog 57 #[.pointer (some ⟨X.l, 0, none⟩), .agg ((cmS (c : Int)).A nilV nilV)] w fun e w' => e = .returned (.tuple #[.int .i64 (lnO (some cs.length)), .int .i64 0]) ∧ PW B w' ww X k S (cs ++ [c]) sure G st pn pg qn ∧ Below B w w') := h.append c hc hl
  have CF : Hid (∀ wx, Calls Tryz.prog 23 #[.int .u8 (c : Int)] wx fun e w' => e = .returned (.string (fillS c)) ∧ Below wx.heap.size wx w') := fun wx => fill_any c hc wx
  have CS : Hid (∀ wx, PW B wx ww X k S (cs ++ [c]) sure G st pn pg qn → Calls Tryz.prog 30 #[.pointer (some ⟨X.pb, 0, none⟩), .int .i64 id, .string (fillS c), .int .i64 (lnO (some cs.length))] wx fun e w' => e = .returned (.int .i64 6) ∧ Below wx.heap.size wx w') := fun wx hx => hx.seto hk id hid c _ (lnO_pos _)
  have c2 := h.wb.c2
  have hc0 : (0 : Int) ≤ (c : Int) := by omega
  have hc1 : (c : Int) ≤ 255 := by omega
  have HI : Hid (¬ (0 ≤ id ∧ id < 8)) := hid
  have hor : id < 0 ∨ 8 ≤ id := by omega
  clear h hk hc hl hid
  generalize lnO (some cs.length) = ln at *
  generalize (c : Int) = cI at *
  go_enter Tryz.func24, Tryz.ntmps24
  go_wp2_with (first
    | (refine wpList_build_cm (c := cI) _ rfl (.tmp 16) rfl rfl ?_)
    | (go_at_call 57; refine CA.out.mono ?_; rintro e w1 ⟨rfl, H1, b1⟩; have HP : Hid (PW B w1 ww X k S (cs ++ [c]) sure G st pn pg qn) := H1; have HB : Hid (Below B w w1) := b1; clear H1 b1))
  have q3 := (HP.out.below ((Below.refl _ _).drew)).wb.c3
  have hd1 : Hid (Below w1.heap.size w1 w1.drew) := (Below.refl _ _).drew
  go_region_held3 (fun W => W.cell? ⟨ww, 3, none⟩ = some (.pointer (some ⟨X.pb, 0, none⟩))) (first | exact keep2 | exact keep1 | exact q3 | go_keep) (first
    | (go_at_call 23; refine (CF.out _).mono ?_; rintro e w2 ⟨rfl, b2⟩; have HP2 : Hid (PW B w2 ww X k S (cs ++ [c]) sure G st pn pg qn) := (HP.out.below (thn hd1.out b2)); have HB2 : Hid (Below w1.heap.size w1 w2) := thn hd1.out b2; have keep1 := HP2.out.wb.c3)
    | (go_at_call 30; refine (CS.out _ HP2.out).mono ?_; rintro e w3 ⟨rfl, b3⟩; have HP3 : Hid (PW B w3 ww X k S (cs ++ [c]) sure G st pn pg qn) := HP2.out.below b3; have HB3 : Hid (Below w1.heap.size w1 w3) := thn HB2.out b3; have keep2 := HP3.out.wb.c3))
  rcases hor with h1 | h1
  · go_wp2
    go_ret
    exact ⟨rfl, Or.inl ⟨rfl, HI.out, HP3.out.mono (by omega)⟩, HB.out.trans (HB3.out.mono HP.out.le)⟩
  · go_wp2
    go_ret
    exact ⟨rfl, Or.inl ⟨rfl, HI.out, HP3.out.mono (by omega)⟩, HB.out.trans (HB3.out.mono HP.out.le)⟩
end
end Go.Proofs.YtgodjnbbocnckaaGreat

namespace Go.Proofs.YtgodjnbbocnckaaGreat
open Go.RowKit Go.Maps Go.ChangeMaps
set_option linter.unusedVariables false
set_option linter.unusedSimpArgs false
set_option maxRecDepth 100000

section
variable [Inhabited PrSet] {B k k' ww sure : Nat} {w w' wr : World} {S S' : Dk} {X : Ad} {G : Gp} {cs : List Nat} {st pg : Nat → Option Nat} {pn qn : Nat → Nat}
theorem Pv.two (h : Pv B w X k S cs sure G st pn pg) (hp : ∀ i, i < X.n → (G.F i).pn ≠ 0) : 2 ≤ pc pn 8 := by
  have hn := h.q.po.n1
  have us : ∀ i, i < X.n → ∃ d, d < 8 ∧ (G.F i).has ((d : Nat) : Int) ∧ 0 < pn d := fun i hi => by
    cases hu : (G.F i).us with
    | false => exact absurd (h.v.un i hi hu).2 (hp i hi)
    | true =>
      obtain ⟨d, h1, h2⟩ := h.v.us i hi hu
      refine ⟨d, h1, ⟨hu, h2.id⟩, ?_⟩
      have a1 := h2.pn
      have a2 := hp i hi
      omega
  obtain ⟨d0, a1, a2, a3⟩ := us 0 (by omega)
  obtain ⟨d1, b1, b2, b3⟩ := us 1 (by omega)
  have hne : d0 ≠ d1 := fun e => by
    subst e
    have := h.v.ds 0 1 _ (by omega) (by omega) a2 b2
    omega
  rcases Nat.lt_or_ge d0 d1 with h1 | h1
  · exact pc_two pn h1 b1 a3 b3
  · exact pc_two pn (by omega) a1 b3 a3
theorem PW.turnW (h : Pv B w X k S cs sure G st pn pg) (hw : Kp isW B w w') (hb : WwIs w' ww X cs st qn) (hg : Ow B ww) (hp : ∀ d, pn d ≤ 1000) : PW B w' ww X k S cs sure G st pn pg qn := ⟨h.keptW hw, hb, hg, hp⟩
theorem Lo.keptW {db sb m : Nat} (h : Lo B w db sb k S cs m) {B' : Nat} (hb : Kp isW B' w w') : Lo B w' db sb k S cs m := by
  refine ⟨?_, ⟨hb.block _ _ h.st.blk (by simp [isW])⟩, h.wt, h.all, h.n, h.up, h.len, h.cb, h.hm⟩
  obtain ⟨lb, mb, m', d1, d2, d3, d4⟩ := h.d.dsk
  have e1 : w'.heap[lb]? = w.heap[lb]? := by
    obtain ⟨cur, fz, e2⟩ := d1.row.ty
    rw [e2]; exact hb.block _ _ e2 (by simp [isW])
  have e3 : w'.heap[mb]? = w.heap[mb]? := by
    obtain ⟨es, c, e2⟩ := d1.map.is
    rw [e2]; exact hb.block _ _ e2 (by simp [isW])
  exact ⟨⟨lb, mb, m', ⟨hb.block _ _ d1.blk (by simp [isW]), d1.row.of_block e1 hb.size, d1.map.of_block e3, d1.ne⟩, d2, d3, d4⟩, h.d.q, h.d.hd, Nat.le_trans h.d.lt hb.size, h.d.lp.kp hb⟩
end
section
variable {B k k' ww sure : Nat} {w w' wr : World} {S S' : Dk} {X : Ad} {G : Gp} {cs : List Nat} {st pg : Nat → Option Nat} {pn qn : Nat → Nat}
theorem WwIs.lnS (h : WwIs w ww X cs st pn) {d : Nat} (hd : d < 8) (u : Value) : (w.setCell ⟨ww, 4 + d, none⟩ u).cell? ⟨ww, 12 + d, none⟩ = some (.int .i64 (lnO (st d))) ∧ (w.setCell ⟨ww, 4 + d, none⟩ u).frozen? ⟨ww, 12 + d, none⟩ = false := by
  obtain ⟨C, e, h1, h2, h3, h4, h5⟩ := h.ex
  have e2 := Joins.block_setCell (i := 4 + d) e u
  refine ⟨(Joins.cell_of_block e2 _).trans ?_, Joins.unfrozen_of_block e2 _⟩
  rw [Array.getElem?_setIfInBounds_ne (by omega)]; exact h4 d hd
end
section
variable [Inhabited PrSet] {B k k' ww sure : Nat} {w w' wr : World} {S S' : Dk} {X : Ad} {G : Gp} {cs : List Nat} {st pg : Nat → Option Nat} {pn qn : Nat → Nat}
end
section
variable {B k k' ww sure : Nat} {w w' wr : World} {S S' : Dk} {X : Ad} {G : Gp} {cs : List Nat} {st pg : Nat → Option Nat} {pn qn : Nat → Nat}
theorem WwIs.fs {i j : Nat} {u v : Value} (h : WwIs w ww X cs st pn) (hi : 2 ≤ i) (hj : 2 ≤ j) : WwF ((w.setCell ⟨ww, i, none⟩ u).setCell ⟨ww, j, none⟩ v) ww X := by
  obtain ⟨C, e, h1, h2, _⟩ := h.ex
  refine ⟨_, Joins.block_setCell (Joins.block_setCell e _) _, ?_, ?_⟩
  · rw [Array.getElem?_setIfInBounds_ne (by omega), Array.getElem?_setIfInBounds_ne (by omega)]; exact h2.1
  · rw [Array.getElem?_setIfInBounds_ne (by omega), Array.getElem?_setIfInBounds_ne (by omega)]; exact h2.2.1
end
section
variable [Inhabited PrSet] {B k k' ww sure : Nat} {w w' wr : World} {S S' : Dk} {X : Ad} {G : Gp} {cs : List Nat} {st pg : Nat → Option Nat} {pn qn : Nat → Nat}
set_option maxHeartbeats 8000000 in
theorem set_in (h : PW B w ww X k S cs sure G st pn pg qn) (hk : k ≤ 29000) (c : Nat) (hc : c < 256) (hl : cs.length < 100) (d : Nat) (hd : d < 8) : Calls Tryz.prog 24 #[.pointer (some ⟨ww, 0, none⟩), .int .i64 (d : Int), .int .u8 (c : Int)] w fun e w' => ∃ b, e = .returned (.bool b) ∧ SeO B w w' ww X (k + 46) S cs c sure G st pn pg qn (d : Int) b := by
  have CA : Hid (Calls Tryz.prog 57 #[.pointer (some ⟨X.l, 0, none⟩), .agg ((cmS (c : Int)).A nilV nilV)] w fun e w' => e = .returned (.tuple #[.int .i64 (lnO (some cs.length)), .int .i64 0]) ∧ PW B w' ww X k S (cs ++ [c]) sure G st pn pg qn ∧ Below B w w') := h.append c hc hl
  have CF : Hid (∀ wx, Calls Tryz.prog 23 #[.int .u8 (c : Int)] wx fun e w' => e = .returned (.string (fillS c)) ∧ Below wx.heap.size wx w') := fun wx => fill_any c hc wx
  have hsl := h.pv.v.sl
  have CS : Hid (∀ wx, PW B wx ww X k S (cs ++ [c]) sure G st pn pg qn → Calls Tryz.prog 30 #[.pointer (some ⟨X.pb, 0, none⟩), .int .i64 (d : Int), .string (fillS c), .int .i64 (lnO (some cs.length))] wx fun e w' => ∃ y, e = .returned (.int .i64 y) ∧ S3O B wx w' ww X (k + 46) S (cs ++ [c]) cs.length sure G st pn pg qn d y) := fun wx hx => by
    have := hx.seti hk d hd cs.length (by simp) (fun id' h1 r0 h2 => Nat.le_of_lt (hsl id' h1 r0 h2))
    rw [getD_last] at this
    exact this
  have HTx : Hid (txO (cs ++ [c]) (some cs.length) = fillS c) := by show fillS _ = _; rw [getD_last]
  have CP : Hid (∀ wx, WwIs wx ww X (cs ++ [c]) st qn → Calls Tryz.prog 40 #[.pointer (some ⟨ww, 0, none⟩)] wx fun e w' => e = .returned (.int .i64 (pc qn 8 : Int)) ∧ w' = wx) := fun wx hx => pinned_any hx
  have c2 := h.wb.c2
  have hc0 : (0 : Int) ≤ (c : Int) := by omega
  have hc1 : (c : Int) ≤ 255 := by omega
  have d0 : ¬ (d : Int) < 0 := by omega
  have d8 : ¬ (8 : Int) ≤ (d : Int) := by omega
  have d9 : (d : Int) < 8 := by omega
  have d00 : (0 : Int) ≤ (d : Int) := by omega
  have hge : Hid (Ow B ww) := h.ge
  have hpb : Hid (∀ d, pn d ≤ 1000) := h.pb
  have HD : Hid (d < 8) := hd
  clear h hk hc hl hsl
  generalize hln : lnO (some cs.length) = ln at *
  have HLn : Hid (lnO (some cs.length) = ln) := hln
  clear hln
  generalize (c : Int) = cI at *
  go_enter Tryz.func24, Tryz.ntmps24
  go_wp2_with (first
    | (refine wpList_build_cm (c := cI) _ rfl (.tmp 16) rfl rfl ?_)
    | (go_at_call 57; refine CA.out.mono ?_; rintro e w1 ⟨rfl, H1, b1⟩; have HP : Hid (PW B w1 ww X k S (cs ++ [c]) sure G st pn pg qn) := H1; have HB : Hid (Below B w w1) := b1; clear H1 b1))
  have q3 := (HP.out.below ((Below.refl _ _).drew)).wb.c3
  have hd1 : Hid (Below w1.heap.size w1 w1.drew) := (Below.refl _ _).drew
  go_region_held3 (fun W => W.cell? ⟨ww, 3, none⟩ = some (.pointer (some ⟨X.pb, 0, none⟩))) (first | exact keep2 | exact keep1 | exact q3 | go_keep) (first
    | (go_at_call 23; refine (CF.out _).mono ?_; rintro e w2 ⟨rfl, b2⟩; have HP2 : Hid (PW B w2 ww X k S (cs ++ [c]) sure G st pn pg qn) := (HP.out.below (thn hd1.out b2)); have HB2 : Hid (Below w1.heap.size w1 w2) := thn hd1.out b2; have keep1 := HP2.out.wb.c3)
    | (go_at_call 30; refine (CS.out _ HP2.out).mono ?_; rintro e w3 ⟨y, rfl, hO⟩; have HO : Hid (S3O B w2 w3 ww X (k + 46) S (cs ++ [c]) cs.length sure G st pn pg qn d y) := hO; have HW3 : Hid (WwIs w3 ww X (cs ++ [c]) st qn) := hO.wb; have HB3 : Hid (Below B w w3) := (HB.out.trans (HB2.out.mono HP.out.le)).trans hO.bel; have keep2 := hO.wb.c3; clear hO))
  rcases HO.out.or with ⟨hy, j, S3, s3, G3, p3, V3, hj3, hh3, hs3, hk3, hc3, hi3⟩ | ⟨hy, hp, V3⟩ | ⟨hy, hset, S3, m3, L3⟩
  · subst hy
    have H7 : Hid (Pv B w3 X (k + 46) S3 (cs ++ [c]) s3 G3 (upd st d (some cs.length)) pn p3) := V3
    have H8 : Hid (j < X.n ∧ (G3.F j).has (d : Int) ∧ 0 < (G3.F j).si ∧ (∀ i, i < X.n → i ≠ j → (G.F i).pn ≠ 0 → G3.F i = G.F i) ∧ (S.set = false → S3.set = false) ∧ (∀ i, i < X.n → (G.F i).pn ≠ 0 → (G3.F i).id = (G.F i).id)) := ⟨hj3, hh3, hs3, hk3, hc3, hi3⟩
    clear V3 hj3 hh3 hs3 hk3 hc3 hi3 HO
    go_wp2
    have hd3 : Hid (Below w3.heap.size w3 w3.drew) := (Below.refl _ _).drew
    go_region_held3 (fun W => True) (trivial) (first
      | (go_at_call 23; refine (CF.out _).mono ?_; rintro e w4 ⟨rfl, b4⟩; have HB4 : Hid (Below w3.heap.size w3 w4) := thn hd3.out b4; have HW4 : Hid (WwIs w4 ww X (cs ++ [c]) st qn) := HW3.out.below (thn hd3.out b4); have t4 := HW4.out.tx HD.out; have z4 := HW4.out.z (4 + d); clear b4))
    have t5 := (HW4.out.lnS HD.out (.string (fillS c))).1
    have z5 := (HW4.out.lnS HD.out (.string (fillS c))).2
    clear t4 z4
    go_wp2
    go_ret
    have e1 := HTx.out
    have e2 := HLn.out
    have W5 := HW4.out.set (r := cs.length) HD.out
    rw [e1, e2] at W5
    have K1 : Kp isW B w4 (w4.setCell ⟨ww, 4 + d, none⟩ (.string (fillS c))) := HW4.out.kp hge.out _ _
    have K2 : Kp isW B w4 ((w4.setCell ⟨ww, 4 + d, none⟩ (.string (fillS c))).setCell ⟨ww, 12 + d, none⟩ (.int .i64 ln)) := K1.trans (by
      obtain ⟨C, eC, _⟩ := HW4.out.ex
      exact Kp.cell (Joins.block_setCell (i := 4 + d) eC (.string (fillS c))) rfl hge.out)
    obtain ⟨a1, a2, a3, a4, a5, a6⟩ := H8.out
    refine ⟨true, rfl, Or.inr (Or.inr (Or.inl ⟨rfl, d, j, S3, s3, G3, p3, rfl, HD.out, ⟨(H7.out.below HB4.out).keptW K2, W5, hge.out, hpb.out⟩, a1, a2, a3, a4, a5, a6⟩)), ?_⟩
    exact (HB3.out.trans (HB4.out.mono (Nat.le_trans H7.out.q.le (Nat.le_refl _)))).trans K2.bel
  · subst hy
    have H7 : Hid (Pv B w3 X (k + 46) S (cs ++ [c]) sure G st pn pg) := V3
    have H8 : Hid (∀ i, i < X.n → (G.F i).pn ≠ 0) := hp
    clear V3 hp HO
    go_wp2_with (go_at_call 40; refine (CP.out _ HW3.out).mono ?_; rintro e w4 ⟨rfl, rfl⟩)
    go_ret
    exact ⟨decide (2 ≤ pc qn 8), by simp; omega, Or.inr (Or.inl ⟨rfl, ⟨d00, d9⟩, H8.out, ⟨H7.out, HW3.out, hge.out, hpb.out⟩⟩), HB3.out⟩
  · subst hy
    have H7 : Hid (Lo B w3 X.db X.sb (k + 46) S3 (cs ++ [c]) m3) := L3
    have H8 : Hid (S.set = true) := hset
    clear L3 hset HO
    go_wp2
    have hd3 : Hid (Below w3.heap.size w3 w3.drew) := (Below.refl _ _).drew
    go_region_held3 (fun W => True) (trivial) (first
      | (go_at_call 23; refine (CF.out _).mono ?_; rintro e w4 ⟨rfl, b4⟩; have HB4 : Hid (Below w3.heap.size w3 w4) := thn hd3.out b4; have HW4 : Hid (WwIs w4 ww X (cs ++ [c]) st qn) := HW3.out.below (thn hd3.out b4); have t4 := HW4.out.tx HD.out; have z4 := HW4.out.z (4 + d); clear b4))
    have t5 := (HW4.out.lnS HD.out (.string (fillS c))).1
    have z5 := (HW4.out.lnS HD.out (.string (fillS c))).2
    clear t4 z4
    go_wp2
    go_ret
    have K1 : Kp isW B w4 (w4.setCell ⟨ww, 4 + d, none⟩ (.string (fillS c))) := HW4.out.kp hge.out _ _
    have K2 : Kp isW B w4 ((w4.setCell ⟨ww, 4 + d, none⟩ (.string (fillS c))).setCell ⟨ww, 12 + d, none⟩ (.int .i64 ln)) := K1.trans (by
      obtain ⟨C, eC, _⟩ := HW4.out.ex
      exact Kp.cell (Joins.block_setCell (i := 4 + d) eC (.string (fillS c))) rfl hge.out)
    refine ⟨false, rfl, Or.inr (Or.inr (Or.inr ⟨rfl, H8.out, ⟨⟨S3, m3, (H7.out.below HB4.out).keptW K2⟩, HW4.out.fs (by omega) (by omega)⟩⟩)), ?_⟩
    exact (HB3.out.trans (HB4.out.mono H7.out.d.lt)).trans K2.bel
end
end Go.Proofs.YtgodjnbbocnckaaGreat

namespace Go.Proofs.YtgodjnbbocnckaaGreat
open Go.RowKit Go.Maps Go.ChangeMaps
set_option linter.unusedVariables false
set_option linter.unusedSimpArgs false
set_option maxRecDepth 100000

/-- A page was set, nothing is pinned. -/
structure AwO [Inhabited PrSet] (B : Nat) (w' : World) (ww : Nat) (X : Ad) (k : Nat) (cs : List Nat) (st : Nat → Option Nat) (d : Nat) : Prop where
  ex : ∃ (S : Dk) (sure : Nat) (G : Gp) (pg : Nat → Option Nat), PW B w' ww X k S cs sure G st (fun _ => 0) pg (fun _ => 0) ∧ S.set = false ∧ ∃ j, j < X.n ∧ (G.F j).has (d : Int) ∧ 0 < (G.F j).si
section
variable [Inhabited PrSet] {B k k' ww sure : Nat} {w w' wr : World} {S S' : Dk} {X : Ad} {G : Gp} {cs : List Nat} {st pg : Nat → Option Nat} {pn qn : Nat → Nat}
theorem PW.rd (h : PW B w ww X k S cs sure G st pn pg qn) (d : Nat) (hd : d < 8) : Calls Tryz.prog 21 #[.pointer (some ⟨X.sb, 0, none⟩), .int .i64 (d : Int)] w fun e w' => e = .returned (.tuple #[.string (txO cs (pg d)), .int .i64 (lnO (pg d)), .int .i64 (if pg d = none then 8 else 0)]) ∧ Below w.heap.size w w' := by
  have := h.pv.q.ds.strd h.pv.q.st h.pv.q.lv.up h.pv.q.n (d : Int)
  rw [h.pv.p.rd (by have := h.pv.q.sl; have := h.pv.q.len; omega) hd] at this
  exact this
theorem PW.pins0 (h : PW B w ww X k S cs sure G st (fun _ => 0) pg (fun _ => 0)) {j : Nat} (hj : j < X.n) : (G.F j).pn = 0 := by
  cases hu : (G.F j).us with
  | false => exact (h.pv.v.un j hj hu).2
  | true =>
    obtain ⟨d, h1, h2⟩ := h.pv.v.us j hj hu
    exact h2.pn
theorem set_calm (h : PW B w ww X k S cs sure G st (fun _ => 0) pg (fun _ => 0)) (hs : S.set = false) (hk : k ≤ 29000) (c : Nat) (hc : c < 256) (hl : cs.length < 100) (d : Nat) (hd : d < 8) : Calls Tryz.prog 24 #[.pointer (some ⟨ww, 0, none⟩), .int .i64 (d : Int), .int .u8 (c : Int)] w fun e w' => e = .returned (.bool true) ∧ AwO B w' ww X (k + 46) (cs ++ [c]) (upd st d (some cs.length)) d ∧ Below B w w' := by
  refine (set_in h hk c hc hl d hd).mono ?_
  rintro e w' ⟨b, he, hO⟩
  have hn := h.pv.q.po.n1
  rcases hO.or with ⟨_, e2, _⟩ | ⟨_, _, e3, _⟩ | ⟨e1, d', j, S1, s1, G1, p1, a1, a2, a3, a4, a5, a6, a7, a8, a9⟩ | ⟨_, e2, _⟩
  · exact absurd ⟨by omega, by omega⟩ e2
  · exact absurd (h.pins0 (j := 0) (by omega)) (e3 0 (by omega))
  · have : d' = d := by omega
    subst this
    subst e1
    exact ⟨he, ⟨S1, s1, G1, p1, a3, a8 hs, j, a4, a5, a6⟩, hO.bel⟩
  · rw [hs] at e2; cases e2
theorem AwO.set {d0 : Nat} (h : AwO B w ww X k cs st d0) (hk : k ≤ 29000) (c : Nat) (hc : c < 256) (hl : cs.length < 100) (d : Nat) (hd : d < 8) : Calls Tryz.prog 24 #[.pointer (some ⟨ww, 0, none⟩), .int .i64 (d : Int), .int .u8 (c : Int)] w fun e w' => e = .returned (.bool true) ∧ AwO B w' ww X (k + 46) (cs ++ [c]) (upd st d (some cs.length)) d ∧ Below B w w' := by
  obtain ⟨S, sure, G, pg, h1, h2, _⟩ := h.ex
  exact set_calm h1 h2 hk c hc hl d hd
/-- Of three pages that were set two are not both dirty in two frames. -/
theorem PW.some_read (h : PW B w ww X k S cs sure G st pn pg qn) (hn : X.n = 2) (h0 : st 0 ≠ none) (h1 : st 1 ≠ none) (h2 : ∃ j, j < X.n ∧ (G.F j).has ((2 : Nat) : Int)) : (if pg 0 = none then (8 : Int) else 0) = 0 ∨ (if pg 1 = none then (8 : Int) else 0) = 0 := by
  by_cases p0 : pg 0 = none
  · by_cases p1 : pg 1 = none
    · exfalso
      have f0 : ∃ j, j < X.n ∧ (G.F j).has ((0 : Nat) : Int) := by
        rcases Classical.em (∃ j, j < X.n ∧ (G.F j).has ((0 : Nat) : Int)) with hx | hx
        · exact hx
        · exact absurd ((h.pv.v.cl 0 (by omega) (fun j hj hh => absurd ⟨j, hj, hh⟩ hx)).symm.trans p0) h0
      have f1 : ∃ j, j < X.n ∧ (G.F j).has ((1 : Nat) : Int) := by
        rcases Classical.em (∃ j, j < X.n ∧ (G.F j).has ((1 : Nat) : Int)) with hx | hx
        · exact hx
        · exact absurd ((h.pv.v.cl 1 (by omega) (fun j hj hh => absurd ⟨j, hj, hh⟩ hx)).symm.trans p1) h1
      obtain ⟨a, ha, hha⟩ := f0
      obtain ⟨b, hb, hhb⟩ := f1
      obtain ⟨c, hc, hhc⟩ := h2
      have n1 : a ≠ b := fun e => by subst e; have x := hha.2; have y := hhb.2; omega
      have n2 : a ≠ c := fun e => by subst e; have x := hha.2; have y := hhc.2; omega
      have n3 : b ≠ c := fun e => by subst e; have x := hhb.2; have y := hhc.2; omega
      omega
    · exact Or.inr (if_neg p1)
  · exact Or.inl (if_neg p0)
end
section
variable {B k k' ww sure : Nat} {w w' wr : World} {S S' : Dk} {X : Ad} {G : Gp} {cs : List Nat} {st pg : Nat → Option Nat} {pn qn : Nat → Nat}
set_option maxHeartbeats 4000000 in
theorem awake10 (w : World) : Calls Tryz.prog 9 #[] w fun e w' => e = .returned (.bool true) ∧ Below w.heap.size w w' := by
  letI : Inhabited PrSet := ⟨⟨fun _ => none⟩⟩
  have CM : Hid (Calls Tryz.prog 10 #[.int .i64 2] w fun e w' => ∃ ww X S G, MdO w w' 2 e ww X S G) := made_any 2 (by omega) (by omega) w (Ltp_none w)
  have C1 : Hid (∀ wx ww X S G, PW w.heap.size wx ww X 41 S [] 0 G (fun _ => none) (fun _ => 0) (fun _ => none) (fun _ => 0) → S.set = false → Calls Tryz.prog 24 #[.pointer (some ⟨ww, 0, none⟩), .int .i64 0, .int .u8 1] wx fun e w' => e = .returned (.bool true) ∧ AwO w.heap.size w' ww X 87 [1] (upd (fun _ => none) 0 (some 0)) 0 ∧ Below w.heap.size wx w') := fun wx ww X S G h hs => set_calm h hs (by omega) 1 (by omega) (by simp) 0 (by omega)
  have C2 : Hid (∀ wx ww X, AwO w.heap.size wx ww X 87 [1] (upd (fun _ => none) 0 (some 0)) 0 → Calls Tryz.prog 24 #[.pointer (some ⟨ww, 0, none⟩), .int .i64 1, .int .u8 2] wx fun e w' => e = .returned (.bool true) ∧ AwO w.heap.size w' ww X 133 [1, 2] (upd (upd (fun _ => none) 0 (some 0)) 1 (some 1)) 1 ∧ Below w.heap.size wx w') := fun wx ww X h => h.set (by omega) 2 (by omega) (by simp) 1 (by omega)
  have C3 : Hid (∀ wx ww X, AwO w.heap.size wx ww X 133 [1, 2] (upd (upd (fun _ => none) 0 (some 0)) 1 (some 1)) 1 → Calls Tryz.prog 24 #[.pointer (some ⟨ww, 0, none⟩), .int .i64 2, .int .u8 3] wx fun e w' => e = .returned (.bool true) ∧ AwO w.heap.size w' ww X 179 [1, 2, 3] (upd (upd (upd (fun _ => none) 0 (some 0)) 1 (some 1)) 2 (some 2)) 2 ∧ Below w.heap.size wx w') := fun wx ww X h => h.set (by omega) 3 (by omega) (by simp) 2 (by omega)
  have CR0 : Hid (∀ wx ww X S sure G pg, PW w.heap.size wx ww X 179 S [1, 2, 3] sure G (upd (upd (upd (fun _ => none) 0 (some 0)) 1 (some 1)) 2 (some 2)) (fun _ => 0) pg (fun _ => 0) → Calls Tryz.prog 21 #[.pointer (some ⟨X.sb, 0, none⟩), .int .i64 0] wx fun e w' => ∃ t l, e = .returned (.tuple #[.string t, .int .i64 l, .int .i64 (if pg 0 = none then 8 else 0)]) ∧ Below wx.heap.size wx w') := fun wx ww X S sure G pg h => by
    refine (h.rd 0 (by omega)).mono ?_
    rintro e w' ⟨he, hb⟩
    exact ⟨_, _, he, hb⟩
  have CR1 : Hid (∀ wx ww X S sure G pg, PW w.heap.size wx ww X 179 S [1, 2, 3] sure G (upd (upd (upd (fun _ => none) 0 (some 0)) 1 (some 1)) 2 (some 2)) (fun _ => 0) pg (fun _ => 0) → Calls Tryz.prog 21 #[.pointer (some ⟨X.sb, 0, none⟩), .int .i64 1] wx fun e w' => ∃ t l, e = .returned (.tuple #[.string t, .int .i64 l, .int .i64 (if pg 1 = none then 8 else 0)]) ∧ Below wx.heap.size wx w') := fun wx ww X S sure G pg h => by
    refine (h.rd 1 (by omega)).mono ?_
    rintro e w' ⟨he, hb⟩
    exact ⟨_, _, he, hb⟩
  have CD : Hid (∀ wx ww X S sure G pg, PW w.heap.size wx ww X 179 S [1, 2, 3] sure G (upd (upd (upd (fun _ => none) 0 (some 0)) 1 (some 1)) 2 (some 2)) (fun _ => 0) pg (fun _ => 0) → (∃ j, j < X.n ∧ (G.F j).has ((2 : Nat) : Int) ∧ 0 < (G.F j).si) → Calls Tryz.prog 26 #[.pointer (some ⟨X.pb, 0, none⟩), .int .i64 2] wx fun e w' => e = .returned (.bool true) ∧ w' = wx) := fun wx ww X S sure G pg h hj => by
    have := Dirty_any h.pv 2
    rw [dtb_iff.2 (by obtain ⟨j, a, b, c⟩ := hj; exact ⟨j, a, b, c⟩)] at this
    exact this
  have HR : Hid (∀ wx ww X S sure G pg, PW w.heap.size wx ww X 179 S [1, 2, 3] sure G (upd (upd (upd (fun _ => none) 0 (some 0)) 1 (some 1)) 2 (some 2)) (fun _ => 0) pg (fun _ => 0) → X.n = 2 → (∃ j, j < X.n ∧ (G.F j).has ((2 : Nat) : Int) ∧ 0 < (G.F j).si) → (if pg 0 = none then (8 : Int) else 0) = 0 ∨ (if pg 1 = none then (8 : Int) else 0) = 0) := fun wx ww X S sure G pg h hn hj => h.some_read hn (by simp [upd]) (by simp [upd]) (by obtain ⟨j, a, b, _⟩ := hj; exact ⟨j, a, b⟩)
  generalize (upd (upd (upd (fun _ => none) 0 (some 0)) 1 (some 1)) 2 (some 2) : Nat → Option Nat) = st3 at *
  generalize (upd (upd (fun _ => none) 0 (some 0)) 1 (some 1) : Nat → Option Nat) = st2 at *
  generalize (upd (fun _ => none) 0 (some 0) : Nat → Option Nat) = st1 at *
  go_enter Tryz.func9, Tryz.ntmps9
  go_wp2_with (first
    | (go_at_call 10; refine CM.out.mono ?_; rintro e w1 ⟨ww, X, S1, G1, M1⟩; have he := M1.e; subst he; have HN : Hid (X.n = 2) := M1.n; have P1 : Hid (PW w.heap.size w1 ww X 41 S1 [] 0 G1 (fun _ => none) (fun _ => 0) (fun _ => none) (fun _ => 0)) := M1.pw; have s1 : Hid (S1.set = false) := M1.set; have b1 : Hid (Below w.heap.size w w1) := M1.bel; clear M1)
    | (go_at_call 24; refine (C1.out _ _ _ _ _ P1.out s1.out).mono ?_; clear P1 s1; rintro e w2 ⟨rfl, A2, b2⟩; have B2 : Hid (Below w.heap.size w w2) := b1.out.trans b2; clear b1 b2)
    | (go_at_call 24; refine (C2.out _ _ _ A2).mono ?_; clear A2; rintro e w3 ⟨rfl, A3, b3⟩; have B3 : Hid (Below w.heap.size w w3) := B2.out.trans b3; clear B2 b3)
    | (go_at_call 24; refine (C3.out _ _ _ A3).mono ?_; clear A3; rintro e w4 ⟨rfl, A4, b4⟩; have B4 : Hid (Below w.heap.size w w4) := B3.out.trans b4; clear B3 b4; obtain ⟨S4, u4, G4, p4, P4, _, hj4⟩ := A4.ex; have HJ : Hid (∃ j, j < X.n ∧ (G4.F j).has ((2 : Nat) : Int) ∧ 0 < (G4.F j).si) := hj4; have HP4 : Hid (PW w.heap.size w4 ww X 179 S4 [1, 2, 3] u4 G4 st3 (fun _ => 0) p4 (fun _ => 0)) := P4; have k1 := P4.wb.c1; have k3 := P4.wb.c3; have hor := HR.out _ _ _ _ _ _ _ P4 HN.out hj4; clear hj4 A4; have CQ0 : Hid (∀ wx, Below w4.heap.size w4 wx → Calls Tryz.prog 21 #[.pointer (some ⟨X.sb, 0, none⟩), .int .i64 0] wx fun e w' => ∃ t l, e = .returned (.tuple #[.string t, .int .i64 l, .int .i64 (if p4 0 = none then 8 else 0)]) ∧ Below wx.heap.size wx w') := (fun wx hx => CR0.out _ _ _ _ _ _ _ (HP4.out.below hx)); have CQ1 : Hid (∀ wx, Below w4.heap.size w4 wx → Calls Tryz.prog 21 #[.pointer (some ⟨X.sb, 0, none⟩), .int .i64 1] wx fun e w' => ∃ t l, e = .returned (.tuple #[.string t, .int .i64 l, .int .i64 (if p4 1 = none then 8 else 0)]) ∧ Below wx.heap.size wx w') := (fun wx hx => CR1.out _ _ _ _ _ _ _ (HP4.out.below hx)); clear P4; generalize (if p4 0 = none then (8 : Int) else 0) = y0 at *; generalize (if p4 1 = none then (8 : Int) else 0) = y1 at *; have r0 : Hid (Below w4.heap.size w4 w4) := Below.refl _ _; rcases hor with rfl | rfl)
    | (go_at_call 21; refine (CQ0.out _ r0.out).mono ?_; clear r0; rintro e w5 ⟨t5, l5, rfl, b5⟩; have HP5 : Hid (PW w.heap.size w5 ww X 179 S4 [1, 2, 3] u4 G4 st3 (fun _ => 0) p4 (fun _ => 0)) := HP4.out.below b5; have k5 := HP5.out.wb.c1)
    | (go_at_call 21; refine (CQ1.out _ b5).mono ?_; rintro e w6 ⟨t6, l6, rfl, b6⟩; have HP6 : Hid (PW w.heap.size w6 ww X 179 S4 [1, 2, 3] u4 G4 st3 (fun _ => 0) p4 (fun _ => 0)) := HP5.out.below b6; have k6 := HP6.out.wb.c3)
    | (go_at_call 26; refine (CD.out _ _ _ _ _ _ _ HP6.out HJ.out).mono ?_; rintro e w7 ⟨rfl, rfl⟩))
  all_goals go_ret
  all_goals exact ⟨by simp, B4.out.trans ((thn b5 b6).mono B4.out.size)⟩
end
section
variable [Inhabited PrSet] {B k k' ww sure : Nat} {w w' wr : World} {S S' : Dk} {X : Ad} {G : Gp} {cs : List Nat} {st pg : Nat → Option Nat} {pn qn : Nat → Nat}
end
end Go.Proofs.YtgodjnbbocnckaaGreat
