/- What a pool's log and store have, by the records alone: plain; Flush told with its sectors; Need and page writes over one predicate. The pool's pick, read, write, and its frames gathered: dirtyOf. The pool's save: the log's records, then the pages. The pool's save, walked. What a pool's frames have to do with the records: plain. The pool's take. The pool's calls: Get, Set, Pin, Unpin, Dirty, Flush, FlushAll, Pages. -/
import Derived.Test.YtgodjnbbocnckaaGreatMap
import Derived.Deep.RegionHeld3
namespace Go.Proofs.YtgodjnbbocnckaaGreat
open Go.RowKit Go.Maps Go.ChangeMaps
set_option linter.unusedVariables false
set_option linter.unusedSimpArgs false
set_option maxRecDepth 100000

/-- 224 bytes of one kind. -/
def fillS (x : Nat) : ByteArray := ⟨Array.replicate 224 (UInt8.ofNat x)⟩
theorem fillS_size (x : Nat) : (fillS x).size = 224 := by simp [fillS, ByteArray.size]
theorem fillS_get (x : Nat) (i : Nat) (hi : i < (fillS x).size) : (fillS x)[i] = UInt8.ofNat x := by
  show (fillS x).data[i] = _
  simp [fillS]
/-- The log's frames: a commit's record for each byte. -/
def fcm (c : Nat) : ByteArray := (frameM (cmM (c : Int))).1
def fsOf (cs : List Nat) : List ByteArray := cs.map fcm
theorem fcm_ok {c : Nat} (h : c < 256) : (frameM (cmM (c : Int))).2 = 0 ∧ (fcm c).size = 19 ∧ recF (fcm c) = cmM (c : Int) := cm_frame (c : Int) (by omega) (by omega)
theorem fsOf_sz {cs : List Nat} (h : ∀ c ∈ cs, c < 256) : (cat (fsOf cs)).size = 19 * cs.length := by
  have := sz_take (fs := fsOf cs) (fun f hf => by
    obtain ⟨c, hc, rfl⟩ := List.mem_map.1 hf
    exact (fcm_ok (h c hc)).2.1)
  rw [this]; simp [fsOf]
theorem fsOf_off {cs : List Nat} (h : ∀ c ∈ cs, c < 256) {i : Nat} (hi : i ≤ cs.length) : off (fsOf cs) i = 19 * i := by
  have e : (fsOf cs).take i = fsOf (cs.take i) := by simp [fsOf, List.map_take]
  unfold off
  rw [e, fsOf_sz (fun c hc => h c (List.mem_of_mem_take hc)), List.length_take]
  omega
theorem fsOf_snoc (cs : List Nat) (c : Nat) : fsOf (cs ++ [c]) = fsOf cs ++ [fcm c] := by simp [fsOf]
theorem fsOf_len (cs : List Nat) : (fsOf cs).length = cs.length := by simp [fsOf]
/-- A page as a record made it. -/
def txO (cs : List Nat) : Option Nat → ByteArray
  | none => ⟨#[]⟩
  | some k => fillS (cs.getD k 0)
def lnO : Option Nat → Int
  | none => 0
  | some k => 19 * (k : Int) + 1
def secO (cs : List Nat) (o : Option Nat) (q : Nat) : ByteArray :=
  match o with
  | none => zs64
  | some k => sec 1 (19 * k + 1) (fillS (cs.getD k 0)) q
/-- What the store's sectors have. -/
structure Sp (S : Dk) (cs : List Nat) (sure : Nat) (pg : Nat → Option Nat) : Prop where
  at_ : ∀ id q, id < 8 → q < 4 → S.now (40 + 4 * id + q) = secO cs (pg id) q
  lt : ∀ id k, id < 8 → pg id = some k → k < sure
/-- What they can have behind a loss. -/
def RW (cs : List Nat) (m i : Nat) (c : ByteArray) : Prop := ∀ id q, id < 8 → q < 4 → i = 40 + 4 * id + q → c = zs64 ∨ ∃ k, k < m ∧ c = sec 1 (19 * k + 1) (fillS (cs.getD k 0)) q
section
variable {B k db bs sc run sure l m : Nat} {w w' : World} {S S' : Dk} {fs : List ByteArray} {X : Ad} {G : Gp} {cs : List Nat} {pg : Nat → Option Nat}
theorem getD_snoc (cs : List Nat) (c : Nat) {k : Nat} (h : k < cs.length) : (cs ++ [c]).getD k 0 = cs.getD k 0 := by
  simp [List.getD, List.getElem?_append_left h]
theorem getD_last (cs : List Nat) (c : Nat) : (cs ++ [c]).getD cs.length 0 = c := by simp [List.getD]
theorem txO_snoc (cs : List Nat) (c : Nat) {o : Option Nat} (h : ∀ k, o = some k → k < cs.length) : txO (cs ++ [c]) o = txO cs o := by
  cases o with
  | none => rfl
  | some k => show fillS _ = fillS _; rw [getD_snoc cs c (h k rfl)]
theorem secO_snoc (cs : List Nat) (c : Nat) {o : Option Nat} (h : ∀ k, o = some k → k < cs.length) (q : Nat) : secO (cs ++ [c]) o q = secO cs o q := by
  cases o with
  | none => rfl
  | some k => show sec _ _ (fillS _) _ = sec _ _ (fillS _) _; rw [getD_snoc cs c (h k rfl)]
theorem Sp.snoc (h : Sp S cs sure pg) (hs : sure ≤ cs.length) (c : Nat) : Sp S (cs ++ [c]) sure pg :=
  ⟨fun id q h1 h2 => by rw [secO_snoc cs c (fun k hk => by have := h.lt id k h1 hk; omega)]; exact h.at_ id q h1 h2, h.lt⟩
theorem Sp.mono {sure' : Nat} (h : Sp S cs sure pg) (hs : sure ≤ sure') : Sp S cs sure' pg := ⟨h.at_, fun id k h1 h2 => Nat.lt_of_lt_of_le (h.lt id k h1 h2) hs⟩
theorem Sp.eq (h : Sp S cs sure pg) (he : ∀ i, 40 ≤ i → S'.now i = S.now i) : Sp S' cs sure pg := ⟨fun id q h1 h2 => by rw [he _ (by omega)]; exact h.at_ id q h1 h2, h.lt⟩
theorem rd_out (S : Dk) {id : Int} (h : ¬ (0 ≤ id ∧ id < 8)) : rdOut 40 8 1 S id = (⟨#[]⟩, 0, 6) := by
  unfold rdOut; rw [if_pos (by omega)]
/-- A page is read. -/
theorem Sp.rd (h : Sp S cs sure pg) (hs : sure ≤ 1000) {id : Nat} (hid : id < 8) : rdOut 40 8 1 S (id : Int) = (txO cs (pg id), lnO (pg id), if pg id = none then 8 else 0) := by
  unfold rdOut
  rw [if_neg (by omega), Int.toNat_natCast]
  cases hp : pg id with
  | none =>
    rw [rdV_none (fun i hi => by rw [h.at_ id i hid hi, hp]; show gnS zs64 ≠ 1; rw [gnS_zero]; omega)]
    rfl
  | some k =>
    have hk := h.lt id k hid hp
    rw [rdV_whole (g := 1) (l := 19 * k + 1) (t := fillS (cs.getD k 0)) (by omega) (by omega) (fillS_size _) (fun i hi => by rw [h.at_ id i hid hi, hp]; rfl)]
    simp only [txO, lnO]
    refine Prod.ext rfl (Prod.ext ?_ (by simp))
    show ((19 * k + 1 : Nat) : Int) = 19 * (k : Int) + 1
    omega
theorem Sp.all (h : Sp S cs sure pg) (hw : ∀ i, S.wait i = none) : AllR (RW cs sure) S := by
  refine ⟨fun i id q h1 h2 e => ?_, fun i c hc => by rw [hw] at hc; cases hc⟩
  subst e
  have := h.at_ id q h1 h2
  unfold Dk.now at this
  rw [hw] at this
  have hn : S.sure (40 + 4 * id + q) = secO cs (pg id) q := this
  rw [hn]
  cases hp : pg id with
  | none => exact Or.inl rfl
  | some k => exact Or.inr ⟨k, h.lt id k h1 hp, rfl⟩
theorem RW.mono {m m' i : Nat} {c : ByteArray} (h : RW cs m i c) (hm : m ≤ m') : RW cs m' i c := fun id q h1 h2 e => by
  rcases h id q h1 h2 e with e | ⟨k, hk, e⟩
  · exact Or.inl e
  · exact Or.inr ⟨k, by omega, e⟩
/-- Flush, told with its sectors. -/
theorem Lv.flush2 (h : Lv B w l k S db bs sc run fs sure) (hk : k ≤ 30000) : Calls Tryz.prog 101 #[.pointer (some ⟨l, 0, none⟩)] w fun e w' => ∃ y, e = .returned (.int .i64 y) ∧ ∃ S', Kp isA B w w' ∧ ((y = 0 ∧ Lv B w' l (k + sc + 1) S' db bs sc run fs fs.length) ∨ (y = 9 ∧ Ds B w' db (k + sc + 1) S' ∧ Wt S' bs sc run fs sure)) ∧ ∃ N, Laid S S' N y ∧ ∀ i c, N i = some c → bs ≤ i ∧ i < bs + sc := by
  obtain ⟨Q, hQ, hstd⟩ := h.q
  have hle := h.lx.le
  have hm := off_mono (l := fs) h.hs
  rw [off_all] at hm
  rcases Nat.lt_or_ge (off fs sure) (cat fs).size with hd | hd
  · refine (flush_any h.lx hk h.fit hd (by have := h.r2; omega) h.n h.up).mono ?_
    rintro e w' ⟨S', x, rfl, hF⟩
    have hlx := hF.lx
    have hL := hF.ld
    have hT := fs_split fs sure
    refine ⟨x, rfl, S', hF.kp, ?_, _, hL, fun i c hc => ?_⟩
    · by_cases hx : x = 0
      · subst hx
        obtain ⟨hu, hw, _⟩ := hL.ok rfl
        left
        refine ⟨rfl, ?_, hu, h.fit, Nat.le_refl _, by rw [hL.n]; exact h.n, h.r2, ?_⟩
        · rw [off_all]; exact hlx
        · refine ⟨_, hQ.laid (Nat.le_refl _) hL, ?_⟩
          rw [List.take_length]
          exact hstd.flush hT hd h.fit.sz
      · obtain ⟨h9, hu, hw⟩ := hL.bad hx
        right
        refine ⟨h9, hlx.d, ?_⟩
        obtain ⟨Q', hQ', hor⟩ := hQ.lost (Nat.le_refl _) hL hx
        refine ⟨Q', hQ', fun rn hr => ?_⟩
        have hsz : (cat (fs.take sure)).size = off fs sure := rfl
        obtain ⟨y, z, e1, e2⟩ := hstd.grow (T := cat fs) (Q' := Q') (r' := run) hT h.fit.sz hr (Nat.le_refl _) (fun i hi => by
          rcases hor i hi with e | ⟨e3, e4, e⟩
          · exact Or.inl e
          · exact Or.inr ⟨by rw [hsz]; omega, e⟩) (Or.inl rfl)
        exact ⟨z, by rw [e1]; exact e2, by rw [e1, bsz, hsz]; omega⟩
    · unfold nw at hc
      split at hc
      · rename_i hb
        have := h.fit.sz
        omega
      · cases hc
  · have hd2 : off fs sure = (cat fs).size := by omega
    refine (flush_same h.lx h.fit hd2).mono ?_
    rintro e w' ⟨rfl, hb⟩
    have he : sure = fs.length := off_inj h.fit.frm h.hs (Nat.le_refl _) (by rw [hd2, off_all])
    refine ⟨0, rfl, S, Kp.of_below hb hle, Or.inl ⟨rfl, ?_⟩, fun _ => none, ⟨rfl, fun _ => ⟨h.up, hQ.wait, fun i => ?_⟩, fun h => absurd rfl h, fun R hR _ => hR, fun hs => ⟨rfl, hs⟩⟩, fun i c hc => by cases hc⟩
    · have := (h.below hb).mono (k' := k + sc + 1) (by omega)
      rw [he] at this
      exact this
    · show S.sure i = S.now i
      unfold Dk.now
      rw [hQ.wait]; rfl
theorem Lv.nowait (h : Lv B w l k S db bs sc run fs sure) (i : Nat) : S.wait i = none := by obtain ⟨Q, hQ, _⟩ := h.q; exact hQ.wait i
/-- What is laid elsewhere leaves the log as it is. -/
theorem Lv.laid {k' : Nat} (h : Lv B w l k S db bs sc run fs sure) {N : Nat → Option ByteArray} (hL : Laid S S' N 0) (hN : ∀ i c, N i = some c → i < bs ∨ bs + sc ≤ i) (hd : Ds B w' db k' S') (hK : Kp isD B w w') : Lv B w' l k' S' db bs sc run fs sure := by
  obtain ⟨hu, hw, hsu⟩ := hL.ok rfl
  obtain ⟨Q, hQ, hs⟩ := h.q
  refine ⟨⟨hd, h.lx.g.keptD hK⟩, hu, h.fit, h.hs, by rw [hL.n]; exact h.n, h.r2, Q, ⟨fun i hi => ?_, hQ.run, hQ.sz, hw⟩, hs⟩
  unfold Dk.now
  rw [hw]
  show S'.sure (bs + i) = _
  rw [hsu]
  cases hc : N (bs + i) with
  | none => exact hQ.now i hi
  | some c => have := hN _ _ hc; omega
theorem Wt.laid {r lo : Nat} (h : Wt S bs sc r fs lo) {N : Nat → Option ByteArray} {y : Int} (hL : Laid S S' N y) (hy : y ≠ 0) (hN : ∀ i c, N i = some c → i < bs ∨ bs + sc ≤ i) : Wt S' bs sc r fs lo := by
  obtain ⟨Q, hQ, hs⟩ := h.q
  obtain ⟨_, _, hw⟩ := hL.bad hy
  have hA : AllR (fun j c => ∀ i, i < sc → j = bs + i → c = encQ (Q i)) S := by
    refine ⟨fun j i hi e => ?_, fun j c hc => by rw [hQ.wait] at hc; cases hc⟩
    subst e
    exact hQ.lasts hi
  have hB := hL.all _ hA (fun j c hc i hi e => by have := hN j c hc; omega)
  refine ⟨Q, ⟨fun i hi => ?_, hQ.run, hQ.sz, hw⟩, hs⟩
  unfold Dk.now
  rw [hw]
  exact hB.sure _ i hi rfl
/-- A pool, its log, its store, its disk. -/
structure Pq (B : Nat) (w : World) (X : Ad) (k : Nat) (S : Dk) (cs : List Nat) (sure : Nat) (G : Gp) : Prop where
  lv : Lv B w X.l k S X.db 0 40 1 (fsOf cs) sure
  st : StIs w X.sb X.db 40 8 1
  po : PoIs B w X G
  n : S.n = 80
  len : cs.length ≤ 100
  cb : ∀ c ∈ cs, c < 256
/-- What is left behind a loss. -/
structure Lo (B : Nat) (w : World) (db sb k : Nat) (S : Dk) (cs : List Nat) (m : Nat) : Prop where
  d : Ds B w db k S
  st : StIs w sb db 40 8 1
  wt : Wt S 0 40 1 (fsOf cs) m
  all : AllR (RW cs m) S
  n : S.n = 80
  up : S.up = false
  len : cs.length ≤ 100
  cb : ∀ c ∈ cs, c < 256
  hm : m ≤ cs.length
theorem Pq.sl (h : Pq B w X k S cs sure G) : sure ≤ cs.length := by have := h.lv.hs; rw [fsOf_len] at this; exact this
theorem Pq.le (h : Pq B w X k S cs sure G) : B ≤ w.heap.size := h.lv.lx.le
theorem Pq.ds (h : Pq B w X k S cs sure G) : Ds B w X.db k S := h.lv.lx.d
theorem Pq.below (h : Pq B w X k S cs sure G) (hb : Below w.heap.size w w') : Pq B w' X k S cs sure G := ⟨h.lv.below hb, h.st.below hb, h.po.below hb, h.n, h.len, h.cb⟩
theorem Pq.drew (h : Pq B w X k S cs sure G) : Pq B w.drew X k S cs sure G := h.below ((Below.refl _ _).drew)
theorem Pq.drewN (h : Pq B w X k S cs sure G) (n : Nat) : Pq B (w.drewN n) X k S cs sure G := h.below (Sm.below_dr (Below.refl _ _) n)
theorem Pq.mono {k' : Nat} (h : Pq B w X k S cs sure G) (hk : k ≤ k') : Pq B w X k' S cs sure G := ⟨h.lv.mono hk, h.st, h.po, h.n, h.len, h.cb⟩
theorem Lv.keptF (h : Lv B w l k S db bs sc run fs sure) {B' : Nat} (hb : Kp isF B' w w') : Lv B w' l k S db bs sc run fs sure := ⟨h.lx.keptA isF_not hb, h.up, h.fit, h.hs, h.n, h.r2, h.q⟩
/-- The pool's own fields are turned. -/
theorem Pq.turn {G' : Gp} (h : Pq B w X k S cs sure G) (hp : PoIs B w' X G' ∧ Kp isF B w w') : Pq B w' X k S cs sure G' := ⟨h.lv.keptF hp.2, h.st.kept hp.2.f, hp.1, h.n, h.len, h.cb⟩
theorem Pq.offs (h : Pq B w X k S cs sure G) {i : Nat} (hi : i ≤ cs.length) : off (fsOf cs) i = 19 * i := fsOf_off h.cb hi
/-- Need. -/
theorem Pq.need (h : Pq B w X k S cs sure G) (hp : Sp S cs sure pg) (hk : k ≤ 30000) (r : Nat) (hr : r < cs.length) : Calls Tryz.prog 80 #[.pointer (some ⟨X.l, 0, none⟩), .int .i64 (lnO (some r))] w fun e w' => ∃ y, e = .returned (.int .i64 y) ∧ Kp isA B w w' ∧ ∃ S' sure', (S.set = false → y = 0 ∧ S'.set = false) ∧ ((y = 0 ∧ Pq B w' X (k + 41) S' cs sure' G ∧ Sp S' cs sure' pg ∧ sure ≤ sure' ∧ r < sure') ∨ (y = 9 ∧ Lo B w' X.db X.sb (k + 41) S' cs sure)) := by
  have hsl := h.sl
  have hle := h.le
  by_cases hx : lnO (some r) < (off (fsOf cs) sure : Int) + 1
  · refine (need_near h.lv.lx _ hx).mono ?_
    rintro e w' ⟨rfl, rfl⟩
    refine ⟨0, rfl, Kp.refl _ _ _, S, sure, fun hs => ⟨rfl, hs⟩, Or.inl ⟨rfl, h.mono (by omega), hp, Nat.le_refl _, ?_⟩⟩
    rw [h.offs hsl] at hx
    simp only [lnO] at hx
    omega
  · refine (need_far (P := fun y w' => Kp isA B w w' ∧ ∃ S' sure', (S.set = false → y = 0 ∧ S'.set = false) ∧ ((y = 0 ∧ Pq B w' X (k + 41) S' cs sure' G ∧ Sp S' cs sure' pg ∧ sure ≤ sure' ∧ r < sure') ∨ (y = 9 ∧ Lo B w' X.db X.sb (k + 41) S' cs sure))) h.lv.lx _ hx ((h.lv.flush2 hk).mono ?_))
    rintro e w' ⟨y, rfl, S', hK, hor, N, hL, hN⟩
    refine ⟨y, rfl, hK, S', ?_⟩
    rcases hor with ⟨rfl, hlv⟩ | ⟨rfl, hd, hwt⟩
    · obtain ⟨hu, hw, hsu⟩ := hL.ok rfl
      rw [fsOf_len] at hlv
      refine ⟨cs.length, hL.calm, Or.inl ⟨rfl, ⟨hlv, h.st.kept hK.q, h.po.kept hK, by rw [hL.n]; exact h.n, h.len, h.cb⟩, (hp.mono hsl).eq (fun i hi => ?_), hsl, hr⟩⟩
      unfold Dk.now
      rw [hw]
      show S'.sure i = _
      rw [hsu]
      cases hc : N i with
      | none => rfl
      | some c => have := hN _ _ hc; omega
    · refine ⟨sure, fun hs => absurd (hL.calm hs).1 (by omega), Or.inr ⟨rfl, hd, h.st.kept hK.q, hwt, hL.all _ (hp.all h.lv.nowait) (fun i c hc id q h1 h2 e => by have := hN _ _ hc; omega), by rw [hL.n]; exact h.n, (hL.bad (by omega)).2.1, h.len, h.cb, hsl⟩⟩
end
end Go.Proofs.YtgodjnbbocnckaaGreat

namespace Go.Proofs.YtgodjnbbocnckaaGreat
open Go.RowKit Go.Maps Go.ChangeMaps
set_option linter.unusedVariables false
set_option linter.unusedSimpArgs false
set_option maxRecDepth 100000

section
variable {B k : Nat} {w w' : World} {X : Ad} {G : Gp} {S S' : Dk}
/-- Where the hand stands behind i steps. -/
def at_ (hd n i : Nat) : Nat := if hd + i < n then hd + i else hd + i - n
theorem at_lt {hd n i : Nat} (h : hd ≤ n) (hi : i < n) : at_ hd n i < n := by unfold at_; split <;> omega
theorem at_all {hd n j : Nat} (h : hd ≤ n) (hj : j < n) : ∃ i, i < n ∧ at_ hd n i = j := by
  by_cases e : hd ≤ j
  · exact ⟨j - hd, by omega, by unfold at_; rw [if_pos (by omega)]; omega⟩
  · exact ⟨j + n - hd, by omega, by unfold at_; rw [if_neg (by omega)]; omega⟩
theorem at_rem {hd n i : Nat} (h : hd ≤ n) (hi : i < n) : (((hd : Int) + (i : Int)).tmod (n : Int)) = ((at_ hd n i : Nat) : Int) := by
  have := rem_lt (a := hd + i) (n := n) (by omega)
  rw [show ((hd + i : Nat) : Int) = (hd : Int) + (i : Int) by omega] at this
  rw [this]
  rfl
set_option maxHeartbeats 1000000 in
theorem pick_some (h : PoIs B w X G) (hz : ∃ j, j < X.n ∧ (G.F j).pn = 0) : Calls Tryz.prog 66 #[.pointer (some ⟨X.pb, 0, none⟩)] w fun e w' => ∃ a : Nat, e = .returned (.int .i64 (a : Int)) ∧ a < X.n ∧ (G.F a).pn = 0 ∧ Below w.heap.size w w' := by
  obtain ⟨hd, hhd⟩ : ∃ hd : Nat, G.hd = (hd : Int) := ⟨G.hd.toNat, by have := h.h0; omega⟩
  have hle : hd ≤ X.n := by have := h.h1; omega
  obtain ⟨j, hj, hp⟩ := hz
  obtain ⟨m, hm, rfl⟩ := at_all hle hj
  have H : Hid (PoIs B w X G) := h
  have c2 := h.c2
  have hn2 := h.n2
  have hn1 := h.n1
  have HP : Hid ((G.F (at_ hd X.n m)).pn = 0) := hp
  have hm64 : Hid (m < X.n) := hm
  clear h hp hj
  go_enter Tryz.func66, Tryz.ntmps66
  go_wp2
  go_loopw [10] (fun iv wr => ∃ i : Nat, i ≤ m ∧ iv = .int .i64 (i : Int) ∧ Below w.heap.size w wr) (fun iv _ => m - (intOf iv).toNat)
  case atStart => exact ⟨0, Nat.zero_le _, rfl, Below.refl _ _⟩
  case round =>
    obtain ⟨i, hi, rfl, hb⟩ := hrel
    have hin : i < X.n := by omega
    have i1 : (i : Int) < (X.n : Int) := by omega
    have hi64 : (i : Int) ≤ 64 := by omega
    have Hw := H.out.below hb
    have c2 := Hw.c2
    have c3 := Hw.c3
    rw [hhd] at c3
    have hal := at_lt hle hin
    have ra := Hw.ra hal
    have f5 := Hw.f5 hal
    have hrem := at_rem hle hin
    have hw1 : IntKind.i64.wrap ((hd : Int) + (i : Int)) = (hd : Int) + (i : Int) := by rw [IntKind.wrap_i64]; omega
    have hn0 : ¬ ((X.n : Int) = 0) := by omega
    have hai : ((at_ hd X.n i : Nat) : Int) < (X.n : Int) := by omega
    have HB : Hid (Below w.heap.size w wr) := hb
    clear hb Hw
    generalize hat : at_ hd X.n i = a at *
    have hai0 : (0 : Int) ≤ (a : Int) := by omega
    by_cases hz : (G.F a).pn = 0
    · rw [hz] at f5
      have HZ : Hid ((G.F a).pn = 0) := hz
      have hal' : Hid (a < X.n) := hal
      clear hz hat hal
      go_wp2
      go_quiet (fail)
      go_wp2
      go_ret
      exact ⟨a, rfl, hal'.out, HZ.out, Sm.below_dr HB.out nq⟩
    · have hzb : ((G.F a).pn == 0) = false := by simpa using hz
      have hlt : Hid (i < m) := by
        have : i ≠ m := fun e => by subst e; rw [hat] at HP; exact hz HP.out
        exact (by omega : i < m)
      clear hz hat hal
      generalize (G.F a).pn = y at *
      go_wp2
      go_quiet (fail)
      go_wp2
      go_roundw
      case rel => exact ⟨i + 1, hlt.out, by go_num, Sm.below_dr HB.out nq⟩
      case measure => have := hlt.out; simp [intOf]; omega
set_option maxHeartbeats 1000000 in
theorem pick_none (h : PoIs B w X G) (hz : ∀ j, j < X.n → (G.F j).pn ≠ 0) : Calls Tryz.prog 66 #[.pointer (some ⟨X.pb, 0, none⟩)] w fun e w' => e = .returned (.int .i64 (-1)) ∧ Below w.heap.size w w' := by
  obtain ⟨hd, hhd⟩ : ∃ hd : Nat, G.hd = (hd : Int) := ⟨G.hd.toNat, by have := h.h0; omega⟩
  have hle : hd ≤ X.n := by have := h.h1; omega
  have H : Hid (PoIs B w X G) := h
  have c2 := h.c2
  have hn2 := h.n2
  have hn1 := h.n1
  have HZ : Hid (∀ j, j < X.n → (G.F j).pn ≠ 0) := hz
  clear h hz
  go_enter Tryz.func66, Tryz.ntmps66
  go_wp2
  go_loopw [10] (fun iv wr => ∃ i : Nat, i ≤ X.n ∧ iv = .int .i64 (i : Int) ∧ Below w.heap.size w wr) (fun iv _ => X.n - (intOf iv).toNat)
  case atStart => exact ⟨0, Nat.zero_le _, rfl, Below.refl _ _⟩
  case round =>
    obtain ⟨i, hi, rfl, hb⟩ := hrel
    have HB : Hid (Below w.heap.size w wr) := hb
    by_cases hin : i < X.n
    · have i1 : (i : Int) < (X.n : Int) := by omega
      have hi64 : (i : Int) ≤ 64 := by omega
      have Hw := H.out.below hb
      have c2 := Hw.c2
      have c3 := Hw.c3
      rw [hhd] at c3
      have hal := at_lt hle hin
      have ra := Hw.ra hal
      have f5 := Hw.f5 hal
      have hrem := at_rem hle hin
      have hw1 : IntKind.i64.wrap ((hd : Int) + (i : Int)) = (hd : Int) + (i : Int) := by rw [IntKind.wrap_i64]; omega
      have hn0 : ¬ ((X.n : Int) = 0) := by omega
      have hai : ((at_ hd X.n i : Nat) : Int) < (X.n : Int) := by omega
      have hzb : ((G.F (at_ hd X.n i)).pn == 0) = false := by simpa using HZ.out _ hal
      clear hb Hw hal
      generalize at_ hd X.n i = a at *
      have hai0 : (0 : Int) ≤ (a : Int) := by omega
      generalize (G.F a).pn = y at *
      go_wp2
      go_quiet (fail)
      go_wp2
      go_roundw
      case rel => exact ⟨i + 1, hin, by go_num, Sm.below_dr HB.out nq⟩
      case measure => simp [intOf]; omega
    · have i1 : ¬ (i : Int) < (X.n : Int) := by omega
      clear hin hb
      go_wp2
      go_ret
      exact ⟨rfl, HB.out⟩
/-! ### A page by value -/
def pgA (id : Int) (t : ByteArray) (l : Int) : Array Value := #[.int .i64 id, .string t, .int .i64 l]
theorem info_pg : (Tryz.prog.info? 83).map (·.size) = some 3 := by kernel_rfl
theorem zero_pg (w : World) : (zeroValue 83).run Tryz.prog w = .ok (.agg (pgA 0 ⟨#[]⟩ 0)) w := by kernel_rfl
theorem one_pg (id : Int) (t : ByteArray) (l : Int) : ∀ v ∈ (pgA id t l).toList, v.oneCell' = true := by
  intro v hv
  simp [pgA] at hv
  rcases hv with rfl | rfl | rfl <;> rfl
theorem results_pg2 {fn : Func} {p u : Tmp} (h : fn.results = #[.cell p 83, .tmp u]) (tmps : Array Value) (w : World) {b : Nat} {id l : Int} {t : ByteArray}
    (hp : tmps.getD p undef = .pointer (some ⟨b, 0, none⟩)) (hg : w.heap[b]? = some (.cells (pgA id t l) 83)) : (results fn tmps).run Tryz.prog w = .ok (.tuple #[.agg (pgA id t l), tmps.getD u undef]) w := by
  have hl := run_loadVar_row (P := Tryz.prog) w b 83 83 (pgA id t l) (0, 0) _ hg Tryz.underlying83 rfl info_pg
  have hp' : tmps[p]?.getD undef = .pointer (some ⟨b, 0, none⟩) := by simpa using hp
  simp only [results, h]
  simp [Sem.run_bind, Result.andThen, hp', asAddr, hl]
/-- What the pool reads of a page. -/
def rdP (S : Dk) (id : Int) : ByteArray × Int × Int := if (rdOut 40 8 1 S id).2.2 = 8 ∨ (rdOut 40 8 1 S id).2.2 = 10 then (⟨#[]⟩, 0, 0) else rdOut 40 8 1 S id
set_option maxHeartbeats 1000000 in
theorem read_po (h : PoIs B w X G) (hd : Ds B w X.db k S) (hs : StIs w X.sb X.db 40 8 1) (hu : S.up = true) (hn : S.n = 80) (id : Int) : Calls Tryz.prog 65 #[.pointer (some ⟨X.pb, 0, none⟩), .int .i64 id] w fun e w' =>
    e = .returned (.tuple #[.agg (pgA id (rdP S id).1 (rdP S id).2.1), .int .i64 (rdP S id).2.2]) ∧ Below w.heap.size w w' := by
  have CR : Hid (∀ wx, Below w.heap.size w wx → Calls Tryz.prog 21 #[.pointer (some ⟨X.sb, 0, none⟩), .int .i64 id] wx fun e w' =>
    e = .returned (.tuple #[.string (rdOut 40 8 1 S id).1, .int .i64 (rdOut 40 8 1 S id).2.1, .int .i64 (rdOut 40 8 1 S id).2.2]) ∧ Below wx.heap.size wx w') := fun wx hx => (hd.below hx).strd (hs.below hx) hu hn id
  have H : Hid (∀ wx, Below w.heap.size w wx → wx.cell? ⟨X.pb, 0, none⟩ = some (.pointer (some ⟨X.sb, 0, none⟩))) := fun wx hx => (h.below hx).c0
  have hb1 : ∀ W (i : Int), (Instr.build 83 #[(0, .int .i64 i)]).run Tryz.prog W = .ok (.agg (pgA i ⟨#[]⟩ 0)) W := fun W i => by kernel_rfl
  have hb2 : ∀ W (i l : Int) t, (Instr.build 83 #[(0, .int .i64 i), (1, .string t), (2, .int .i64 l)]).run Tryz.prog W = .ok (.agg (pgA i t l)) W := fun W i l t => by kernel_rfl
  unfold rdP
  generalize rdOut 40 8 1 S id = R at *
  obtain ⟨t, l, y⟩ := R
  dsimp only at *
  clear h hd hs
  by_cases h8 : y = 8
  · subst h8
    go_enter Tryz.func65, Tryz.ntmps65
    go_wp2_with (first
      | (refine wpList_new_o _ rfl rfl (zero_pg _) ?_; intro w1 b1 N1; have c0 := H.out _ N1.below)
      | (go_at_call 21; refine (CR.out _ N1.below).mono ?_; rintro e w2 ⟨rfl, b2⟩; have p1 : w2.heap[b1]? = some (.cells (pgA 0 ⟨#[]⟩ 0) 83) := (b2.block _ (lt_of_some N1.blk)).trans N1.blk)
      | (refine wpList_put_o (A' := pgA id ⟨#[]⟩ 0) _ rfl (.tmp 4) (.tmp 26) rfl rfl rfl p1 info_pg rfl (one_pg _ _ _) ?_; intro w3 P3))
    refine bodyPost_ret (results_pg2 rfl _ _ rfl P3.blk) rfl ?_
    have e1 := N1.eq
    have h2 := b2.size
    have h3 := lt_of_some N1.blk
    exact ⟨rfl, (thn N1.below b2).trans (P3.off.below (fun k hk => by omega) (by omega))⟩
  · by_cases h10 : y = 10
    · subst h10
      go_enter Tryz.func65, Tryz.ntmps65
      go_wp2_with (first
        | (refine wpList_new_o _ rfl rfl (zero_pg _) ?_; intro w1 b1 N1; have c0 := H.out _ N1.below)
        | (go_at_call 21; refine (CR.out _ N1.below).mono ?_; rintro e w2 ⟨rfl, b2⟩; have p1 : w2.heap[b1]? = some (.cells (pgA 0 ⟨#[]⟩ 0) 83) := (b2.block _ (lt_of_some N1.blk)).trans N1.blk)
        | (refine wpList_put_o (A' := pgA id ⟨#[]⟩ 0) _ rfl (.tmp 4) (.tmp 26) rfl rfl rfl p1 info_pg rfl (one_pg _ _ _) ?_; intro w3 P3))
      refine bodyPost_ret (results_pg2 rfl _ _ rfl P3.blk) rfl ?_
      have e1 := N1.eq
      have h2 := b2.size
      have h3 := lt_of_some N1.blk
      exact ⟨rfl, (thn N1.below b2).trans (P3.off.below (fun k hk => by omega) (by omega))⟩
    · have t1 : (y == 8) = false := by simpa using h8
      have t2 : (y == 10) = false := by simpa using h10
      rw [if_neg (by omega)]
      clear h8 h10
      go_enter Tryz.func65, Tryz.ntmps65
      go_wp2_with (first
        | (refine wpList_new_o _ rfl rfl (zero_pg _) ?_; intro w1 b1 N1; have c0 := H.out _ N1.below)
        | (go_at_call 21; refine (CR.out _ N1.below).mono ?_; rintro e w2 ⟨rfl, b2⟩; have p1 : w2.heap[b1]? = some (.cells (pgA 0 ⟨#[]⟩ 0) 83) := (b2.block _ (lt_of_some N1.blk)).trans N1.blk)
        | (refine wpList_put_o (A' := pgA id t l) _ rfl (.tmp 4) (.tmp 30) rfl rfl rfl p1 info_pg rfl (one_pg _ _ _) ?_; intro w3 P3))
      refine bodyPost_ret (results_pg2 rfl _ _ rfl P3.blk) rfl ?_
      have e1 := N1.eq
      have h2 := b2.size
      have h3 := lt_of_some N1.blk
      exact ⟨rfl, (thn N1.below b2).trans (P3.off.below (fun k hk => by omega) (by omega))⟩
set_option maxHeartbeats 1000000 in
theorem write_po (h : PoIs B w X G) (hd : Ds B w X.db k S) (hs : StIs w X.sb X.db 40 8 1) (hk : k ≤ 70000) (hu : S.up = true) (hn : S.n = 80) (id : Nat) (hid : id < 8) (t : ByteArray) (ht : t.size = 224) (l : Nat) (hl : l < 281474976710656) :
    Calls Tryz.prog 81 #[.pointer (some ⟨X.pb, 0, none⟩), .agg (pgA (id : Int) t (l : Int))] w fun e w' => ∃ S' y, e = .returned (.int .i64 y) ∧ Ds B w' X.db (k + 5) S' ∧ Kp isD B w w' ∧ Laid S S' (nwK (40 + 4 * id) (sec 1 l t) 4) y := by
  have CW : Hid (∀ wx, Below w.heap.size w wx → Calls Tryz.prog 102 #[.pointer (some ⟨X.sb, 0, none⟩), .int .i64 (id : Int), .string t, .int .i64 (l : Int)] wx fun e w' => ∃ S' y, e = .returned (.int .i64 y) ∧ Ds B w' X.db (k + 4) S' ∧ Kp isD B wx w' ∧ Wrt S S' (nwK (40 + 4 * id) (sec 1 l t) 4) y) := fun wx hx => (hd.below hx).stw (hs.below hx) (by omega) hu hn id hid t ht l hl
  have CS : Hid (∀ wx S1 (y : Int), (y != 0) = false → StIs wx X.sb X.db 40 8 1 → Ds B wx X.db (k + 4) S1 → Wrt S S1 (nwK (40 + 4 * id) (sec 1 l t) 4) y → Calls Tryz.prog 103 #[.pointer (some ⟨X.sb, 0, none⟩)] wx fun e w' => ∃ S2 y, e = .returned (.int .i64 y) ∧ Ds B w' X.db (k + 5) S2 ∧ Kp isD B wx w' ∧ Laid S S2 (nwK (40 + 4 * id) (sec 1 l t) 4) y) := fun wx S1 y hy q1 q2 q3 => by
    obtain rfl : y = 0 := by simpa using hy
    exact q2.sts q1 (by omega) q3
  have HC : Hid (∀ wx, Below w.heap.size w wx → wx.cell? ⟨X.pb, 0, none⟩ = some (.pointer (some ⟨X.sb, 0, none⟩)) ∧ X.pb < wx.heap.size) := fun wx hx => ⟨(h.below hx).c0, (h.below hx).lt⟩
  have HP : Hid (∀ wx w2, Below w.heap.size w wx → Kp isA B wx w2 → w2.cell? ⟨X.pb, 0, none⟩ = some (.pointer (some ⟨X.sb, 0, none⟩))) := fun wx w2 hx hk2 => ((h.below hx).kept hk2).c0
  have HS : Hid (∀ wx w2, Below w.heap.size w wx → Kp isD B wx w2 → StIs w2 X.sb X.db 40 8 1 ∧ w2.cell? ⟨X.pb, 0, none⟩ = some (.pointer (some ⟨X.sb, 0, none⟩))) := fun wx w2 hx hk2 => ⟨(hs.below hx).kept hk2.d.q, ((h.below hx).kept hk2.d).c0⟩
  have hle := hd.lt
  clear h hd hs hk hid hl
  generalize nwK (40 + 4 * id) (sec 1 l t) 4 = N at *
  generalize (id : Int) = idI at *
  generalize (l : Int) = lI at *
  clear ht
  go_enter Tryz.func81, Tryz.ntmps81
  go_wp2_with (first
    | (refine wpList_box_o (A := pgA idI t lI) _ rfl _ rfl rfl ?_; intro w1 b1 N1))
  have HN : Hid (∀ wx, Kp isA B w1 wx → B ≤ w1.heap.size → wx.cell? ⟨X.pb, 0, none⟩ = some (.pointer (some ⟨X.sb, 0, none⟩)) ∧ wx.cell? ⟨b1, 0, none⟩ = some (.int .i64 idI) ∧ wx.cell? ⟨b1, 1, none⟩ = some (.string t) ∧ wx.cell? ⟨b1, 2, none⟩ = some (.int .i64 lI)) := fun wx hx hB => by
    have e := hx.block _ _ N1.blk (by simp [isA, isD, isL])
    exact ⟨HP.out _ _ N1.below hx, Joins.cell_of_block e 0, Joins.cell_of_block e 1, Joins.cell_of_block e 2⟩
  have hB1 : Hid (B ≤ w1.heap.size) := Nat.le_trans hle N1.below.size
  have bd : Hid (Below w.heap.size w w1.drew) := N1.below.drew
  have kd := HN.out w1.drew (Kp.of_below ((Below.refl _ _).drew) hB1.out) hB1.out
  have q0 := kd.1
  have q1 := kd.2.1
  have q2 := kd.2.2.1
  have q3 := kd.2.2.2
  have HD1 : Hid (Below w1.heap.size w1 w1.drew) := (Below.refl _ _).drew
  clear kd
  go_region_held3 (fun W => W.cell? ⟨X.pb, 0, none⟩ = some (.pointer (some ⟨X.sb, 0, none⟩)) ∧ W.cell? ⟨b1, 0, none⟩ = some (.int .i64 idI) ∧ W.cell? ⟨b1, 1, none⟩ = some (.string t) ∧ W.cell? ⟨b1, 2, none⟩ = some (.int .i64 lI)) (first | exact ⟨keep1, keep2, keep3, keep4⟩ | exact ⟨q0, q1, q2, q3⟩ | go_keep) (first
    | (go_at_call 102; refine (CW.out _ bd.out).mono ?_; rintro e w2 ⟨S1, y, rfl, D2, k2, W2⟩; have K2 : Hid (Kp isA B w1 w2) := (Kp.of_below HD1.out hB1.out).trans k2.d; have kk := HN.out _ K2.out hB1.out; have keep1 := kk.1; have keep2 := kk.2.1; have keep3 := kk.2.2.1; have keep4 := kk.2.2.2; clear kk; have HS2 : Hid (StIs w2 X.sb X.db 40 8 1) := (HS.out _ _ bd.out k2).1; have HD2 : Hid (Ds B w2 X.db (k + 4) S1) := D2; have HW2 : Hid (Wrt S S1 N y) := W2; have HK2 : Hid (Kp isD B w w2) := (Kp.of_below bd.out hle).trans k2; clear D2 k2 W2))
  by_cases he : y = 0
  · subst he
    go_wp2_with (go_at_call 103; refine (CS.out _ _ _ rfl HS2.out HD2.out HW2.out).mono ?_; rintro e w3 ⟨S3, z, rfl, D3, k3, L3⟩)
    go_ret
    exact ⟨S3, z, rfl, D3, HK2.out.trans k3, L3⟩
  · have heb : (y != 0) = true := by simpa using he
    go_wp2
    go_ret
    exact ⟨S1, y, rfl, HD2.out.mono (by omega), HK2.out, HW2.out.laid he⟩
end
end Go.Proofs.YtgodjnbbocnckaaGreat

namespace Go.Proofs.YtgodjnbbocnckaaGreat
open Go.RowKit Go.Maps Go.ChangeMaps
set_option linter.unusedVariables false
set_option linter.unusedSimpArgs false
set_option maxRecDepth 100000

/-- What the pages on the disk are behind some frames' saving. -/
def pgw (G : Gp) (st pg : Nat → Option Nat) (ds : List Nat) (id : Nat) : Option Nat := if ds.any (fun j => (G.F j).id == (id : Int)) then st id else pg id
def Fm.cl (f : Fm) : Fm := { f with si := 0 }
def cln (G : Gp) (ds : List Nat) : Gp := { G with F := fun j => if j ∈ ds then (G.F j).cl else G.F j }
/-- A frame whose page was set by a record. -/
structure Dj (cs : List Nat) (G : Gp) (st : Nat → Option Nat) (j : Nat) : Prop where
  ex : ∃ id r, id < 8 ∧ (G.F j).id = ((id : Nat) : Int) ∧ st id = some r ∧ r < cs.length ∧ (G.F j).tx = fillS (cs.getD r 0) ∧ (G.F j).ln = lnO (some r)
section
variable {B k k' db sb sure sure1 m i : Nat} {w w' w0 wr : World} {S S' S1 S2 : Dk} {X : Ad} {G : Gp} {cs : List Nat} {st pg : Nat → Option Nat} {ds : List Nat}
theorem pgw_nil : pgw G st pg [] = pg := by funext id; simp [pgw]
theorem pgw_snoc (j : Nat) (id : Nat) : pgw G st pg (ds ++ [j]) id = if (G.F j).id = (id : Int) then st id else pgw G st pg ds id := by
  unfold pgw
  rw [List.any_append]
  by_cases h : (G.F j).id = (id : Int)
  · rw [if_pos h, if_pos (by simp [h])]
  · rw [if_neg h]
    have : ([j].any fun j => (G.F j).id == (id : Int)) = false := by simp [h]
    rw [this, Bool.or_false]
theorem cln_nil : cln G [] = G := by unfold cln; simp
theorem cln_snoc (j : Nat) : (cln G ds).set j ((cln G ds).F j).cl = cln G (ds ++ [j]) := by
  unfold Gp.set cln
  congr 1
  funext i
  unfold upd
  by_cases h : i = j
  · subst h
    rw [if_pos rfl, if_pos (by simp)]
    by_cases hi : i ∈ ds
    · dsimp only; rw [if_pos hi]; rfl
    · dsimp only; rw [if_neg hi]
  · rw [if_neg h]
    by_cases hi : i ∈ ds
    · dsimp only; rw [if_pos hi, if_pos (by simp [hi])]
    · dsimp only; rw [if_neg hi, if_neg (by simp [hi, h])]
theorem Lo.mono (h : Lo B w db sb k S cs m) (hk : k ≤ k') : Lo B w db sb k' S cs m := ⟨h.d.mono hk, h.st, h.wt, h.all, h.n, h.up, h.len, h.cb, h.hm⟩
theorem Lo.below (h : Lo B w db sb k S cs m) (hb : Below w.heap.size w w') : Lo B w' db sb k S cs m := ⟨h.d.below hb, h.st.below hb, h.wt, h.all, h.n, h.up, h.len, h.cb, h.hm⟩
/-- The power went. -/
structure Ls (B : Nat) (w w' : World) (X : Ad) (k : Nat) (S : Dk) (cs : List Nat) : Prop where
  ex : ∃ S' m, Lo B w' X.db X.sb k S' cs m
  set : S.set = true
  kp : Kp isQ B w w'
structure Sv1 (B : Nat) (w wr : World) (X : Ad) (k : Nat) (S S1 : Dk) (cs : List Nat) (sure sure1 : Nat) (G : Gp) (st pg : Nat → Option Nat) (ds : List Nat) (i : Nat) : Prop where
  q : Pq B wr X (k + 41 * i) S1 cs sure1 G
  p : Sp S1 cs sure1 pg
  le : sure ≤ sure1
  rc : ∀ j ∈ ds.take i, ∀ id r, (G.F j).id = ((id : Nat) : Int) → st id = some r → r < sure1
  cm : S.set = false → S1.set = false
  kp : Kp isA B w wr
structure Sv2 (B : Nat) (w wr : World) (X : Ad) (k : Nat) (S S1 : Dk) (cs : List Nat) (sure1 : Nat) (G : Gp) (st pg : Nat → Option Nat) (ds : List Nat) (i : Nat) : Prop where
  q : Pq B wr X (k + 5 * i) S1 cs sure1 G
  p : Sp S1 cs sure1 (pgw G st pg (ds.take i))
  cm : S.set = false → S1.set = false
  kp : Kp isA B w wr
structure Sv3 (B : Nat) (w wr : World) (X : Ad) (k : Nat) (S1 : Dk) (cs : List Nat) (sure1 : Nat) (G : Gp) (ds : List Nat) (i : Nat) : Prop where
  q : Pq B wr X k S1 cs sure1 (cln G (ds.take i))
  kp : Kp isQ B w wr
theorem Sv1.need (h : Sv1 B w wr X k S S1 cs sure sure1 G st pg ds i) (hk : k + 41 * i ≤ 30000) (hi : i < ds.length) (hD : Dj cs G st ds[i]) (hb : Below wr.heap.size wr w') : Calls Tryz.prog 80 #[.pointer (some ⟨X.l, 0, none⟩), .int .i64 (G.F ds[i]).ln] w' fun e w' => ∃ y, e = .returned (.int .i64 y) ∧ (y = 0 → ∃ S2 sure2, Sv1 B w w' X k S S2 cs sure sure2 G st pg ds (i + 1)) ∧ (y ≠ 0 → y = 9 ∧ Ls B w w' X (k + 41 * (i + 1)) S cs) ∧ Kp isA B wr w' := by
  obtain ⟨id, r, h1, h2, h3, h4, h5, h6⟩ := hD.ex
  rw [h6]
  have hle := h.q.le
  refine ((h.q.below hb).need h.p hk r h4).mono ?_
  rintro e w2 ⟨y, he, hK, S2, sure2, hc, hor⟩
  have hK2 : Kp isA B wr w2 := (Kp.of_below hb hle).trans hK
  refine ⟨y, he, fun hy => ?_, fun hy => ?_, hK2⟩
  · rcases hor with ⟨_, q1, q2, q3, q4⟩ | ⟨h9, _⟩
    · refine ⟨S2, sure2, q1, q2, by have := h.le; omega, fun j hj id' r' e1 e2 => ?_, fun hs => (hc (h.cm hs)).2, h.kp.trans hK2⟩
      rw [List.take_succ_eq_append_getElem hi] at hj
      rcases List.mem_append.1 hj with hj | hj
      · have := h.rc j hj id' r' e1 e2; omega
      · rw [List.mem_singleton] at hj
        subst hj
        rw [h2] at e1
        have : id' = id := by omega
        subst this
        rw [h3] at e2
        cases e2
        exact q4
    · omega
  · rcases hor with ⟨h0, _⟩ | ⟨h9, hL⟩
    · exact absurd h0 hy
    · refine ⟨h9, ⟨_, _, hL⟩, ?_, (h.kp.trans hK2).q⟩
      cases hs : S.set with
      | true => rfl
      | false => exact absurd (hc (h.cm hs)).1 hy
theorem Sv2.write (h : Sv2 B w wr X k S S1 cs sure1 G st pg ds i) (hk : k + 5 * i ≤ 60000) (hi : i < ds.length) (hD : Dj cs G st ds[i]) (hrc : ∀ id r, (G.F ds[i]).id = ((id : Nat) : Int) → st id = some r → r < sure1) : Calls Tryz.prog 81 #[.pointer (some ⟨X.pb, 0, none⟩), .agg (pgA (G.F ds[i]).id (G.F ds[i]).tx (G.F ds[i]).ln)] wr fun e w' => ∃ y, e = .returned (.int .i64 y) ∧ (y = 0 → ∃ S2, Sv2 B w w' X k S S2 cs sure1 G st pg ds (i + 1)) ∧ (y ≠ 0 → y = 9 ∧ Ls B w w' X (k + 5 * (i + 1)) S cs) ∧ Kp isA B wr w' := by
  obtain ⟨id, r, h1, h2, h3, h4, h5, h6⟩ := hD.ex
  have hr := hrc id r h2 h3
  have hq := h.q
  have hlen := hq.len
  rw [h2, h5, h6]
  have e6 : lnO (some r) = ((19 * r + 1 : Nat) : Int) := by simp only [lnO]; omega
  rw [e6]
  refine (write_po hq.po hq.ds hq.st (by omega) hq.lv.up hq.n id h1 (fillS (cs.getD r 0)) (fillS_size _) (19 * r + 1) (by omega)).mono ?_
  rintro e w2 ⟨S2, y, he, hd, hK, hL⟩
  have hN : ∀ i c, nwK (40 + 4 * id) (sec 1 (19 * r + 1) (fillS (cs.getD r 0))) 4 i = some c → 40 ≤ i ∧ ∃ q, q < 4 ∧ i = 40 + 4 * id + q ∧ c = sec 1 (19 * r + 1) (fillS (cs.getD r 0)) q := fun i c hc => by
    unfold nwK at hc
    split at hc
    · rename_i hb
      injection hc with hc
      refine ⟨by omega, i - (40 + 4 * id), by omega, by omega, ?_⟩
      rw [← hc, pad_self (sec_size (fillS_size _) (by omega))]
    · cases hc
  refine ⟨y, he, fun hy => ?_, fun hy => ?_, hK.d⟩
  · subst hy
    obtain ⟨hu, hw, hsu⟩ := hL.ok rfl
    refine ⟨S2, ⟨hq.lv.laid hL (fun i c hc => Or.inr (hN i c hc).1) hd hK, hq.st.kept hK.d.q, hq.po.kept hK.d, by rw [hL.n]; exact hq.n, hq.len, hq.cb⟩, ?_, fun hs => (hL.calm (h.cm hs)).2, h.kp.trans hK.d⟩
    rw [List.take_succ_eq_append_getElem hi]
    refine ⟨fun id' q a1 a2 => ?_, fun id' r' a1 a2 => ?_⟩
    · unfold Dk.now
      rw [hw]
      show S2.sure _ = _
      rw [hsu, pgw_snoc, h2]
      by_cases hid : id = id'
      · subst hid
        rw [if_pos rfl, h3]
        have : nwK (40 + 4 * id) (sec 1 (19 * r + 1) (fillS (cs.getD r 0))) 4 (40 + 4 * id + q) = some (sec 1 (19 * r + 1) (fillS (cs.getD r 0)) q) := by
          unfold nwK
          rw [if_pos (by omega), Nat.add_sub_cancel_left, pad_self (sec_size (fillS_size _) a2)]
        rw [this]; rfl
      · rw [if_neg (by omega)]
        have : nwK (40 + 4 * id) (sec 1 (19 * r + 1) (fillS (cs.getD r 0))) 4 (40 + 4 * id' + q) = none := by
          unfold nwK; rw [if_neg (by omega)]
        rw [this]
        exact h.p.at_ id' q a1 a2
    · rw [pgw_snoc, h2] at a2
      by_cases hid : id = id'
      · subst hid
        rw [if_pos rfl] at a2
        rw [h3] at a2
        cases a2
        exact hr
      · rw [if_neg (by omega)] at a2
        exact h.p.lt id' r' a1 a2
  · refine ⟨(hL.bad hy).1, ⟨S2, sure1, hd.mono (by omega), hq.st.kept hK.d.q, hq.lv.wt.laid hL hy (fun i c hc => Or.inr (hN i c hc).1), hL.all _ (h.p.all hq.lv.nowait) (fun i c hc id' q a1 a2 e => ?_), by rw [hL.n]; exact hq.n, (hL.bad hy).2.1, hq.len, hq.cb, hq.sl⟩, ?_, (h.kp.trans hK.d).q⟩
    · obtain ⟨_, q', b1, b2, b3⟩ := hN i c hc
      refine Or.inr ⟨r, hr, ?_⟩
      rw [b3]
      congr 1
      omega
    · cases hs : S.set with
      | true => rfl
      | false => exact absurd (hL.calm (h.cm hs)).1 hy
theorem Sv3.step (h : Sv3 B w wr X k S1 cs sure1 G ds i) (hi : i < ds.length) (hn : ds[i] < X.n) : Sv3 B w (wr.setCell ⟨X.fb ds[i], 4, none⟩ (.int .i64 0)) X k S1 cs sure1 G ds (i + 1) := by
  have hp := h.q.po.setF (j := ds[i]) hn (f := ((cln G (ds.take i)).F ds[i]).cl) (i := 4) (u := .int .i64 0) rfl h.q.le
  have hq := h.q.turn hp
  rw [cln_snoc, ← List.take_succ_eq_append_getElem hi] at hq
  exact ⟨hq, h.kp.trans hp.2.f⟩
end
end Go.Proofs.YtgodjnbbocnckaaGreat

namespace Go.Proofs.YtgodjnbbocnckaaGreat
open Go.RowKit Go.Maps Go.ChangeMaps
set_option linter.unusedVariables false
set_option linter.unusedSimpArgs false
set_option maxRecDepth 100000

/-- What save comes to, where all went well. -/
structure SvO (B : Nat) (w w' : World) (X : Ad) (k : Nat) (S : Dk) (cs : List Nat) (sure : Nat) (G : Gp) (st pg : Nat → Option Nat) (js ds : List Nat) (S' : Dk) (sure' : Nat) (sv : Int) : Prop where
  perm : ds.Perm (js.filter (dty G))
  q : Pq B w' X k S' cs sure' { cln G ds with sv := sv }
  p : Sp S' cs sure' (pgw G st pg ds)
  le : sure ≤ sure'
  cm : S.set = false → S'.set = false
  kp : Kp isQ B w w'
section
variable {B k k' db sb sure sure1 m i : Nat} {w w' w0 wr : World} {S S' S1 S2 : Dk} {X : Ad} {G : Gp} {cs : List Nat} {st pg : Nat → Option Nat} {ds js : List Nat} {a : Option Addr}
theorem wpList_load_pg {ops : Array Oper} {rest : List Oper} {o : Oper} {act : Act} {Q : Exit → Act → World → Prop} {j : Nat} (w : World) (hg : o.guard = none) (x : Operand) (hop : o.op = Op.load 83 x) (hx : act.eval x = .pointer (some ⟨X.fb j, 0, none⟩)) (hp : PoIs B w X G) (hj : j < X.n)
    (h : wpList Tryz.prog ops Q rest (act.put o.dst (.agg (pgA (G.F j).id (G.F j).tx (G.F j).ln))) w) : wpList Tryz.prog ops Q (o :: rest) act w := by
  refine wpList_load_mid hg 83 x hop (X.fb j) 0 hx ((pgA (G.F j).id (G.F j).tx (G.F j).ln).toList) _ (fun i u hu => ?_) Tryz.underlying83 rfl info_pg h
  have hi : i < 3 := by
    have := (List.getElem?_eq_some_iff.1 hu).1
    simpa [pgA] using this
  rw [Nat.zero_add]
  have : i = 0 ∨ i = 1 ∨ i = 2 := by omega
  rcases this with rfl | rfl | rfl
  · simp [pgA] at hu; subst hu; exact hp.f0 hj
  · simp [pgA] at hu; subst hu; exact hp.f1 hj
  · simp [pgA] at hu; subst hu; exact hp.f2 hj
set_option maxHeartbeats 8000000 in
theorem save_po (h : Pq B w X k S cs sure G) (hp : Sp S cs sure pg) (hk : k + 46 * js.length ≤ 30000) (hps : Ps w X a js) (hl : js.length ≤ 64) (c : Nat) (hD : ∀ j ∈ js, dty G j = true → Dj cs G st j) :
    Calls Tryz.prog 62 #[.pointer (some ⟨X.pb, 0, none⟩), .slice a js.length c] w fun e w' => ∃ y, e = .returned (.int .i64 y) ∧ (y = 0 → ∃ ds S' sure' sv, SvO B w w' X (k + 46 * js.length) S cs sure G st pg js ds S' sure' sv) ∧ (y ≠ 0 → y = 9 ∧ Ls B w w' X (k + 46 * js.length) S cs) := by
  have CD : Hid (Calls Tryz.prog 63 #[.slice a js.length c] w fun e w' => ∃ a' c' ds, Dl w w' X G js e a' c' ds) := dirtyOf_po h.po hps hl c
  have H : Hid (Pq B w X k S cs sure G) := h
  have HP : Hid (Sp S cs sure pg) := hp
  have HD : Hid (∀ j ∈ js, dty G j = true → Dj cs G st j) := hD
  have hle := h.le
  clear h hp hps hD
  go_enter Tryz.func62, Tryz.ntmps62
  go_wp2_with (go_at_call 63; refine CD.out.mono ?_; rintro e w1 ⟨a1, c1, ds, D1⟩; have he := D1.e; subst he)
  have hlen : ds.length ≤ js.length := by
    have h1 := D1.perm.length_eq
    have h2 := List.length_filter_le (dty G) js
    omega
  have hds : Hid (∀ j ∈ ds, j < X.n ∧ Dj cs G st j) := fun j hj => by
    have h1 := D1.perm.subset hj
    have h2 := List.mem_filter.1 h1
    obtain ⟨i, hi, rfl⟩ := List.getElem_of_mem hj
    exact ⟨(D1.ps.at_ i hi).1, HD.out _ h2.1 h2.2⟩
  have hb1 := D1.below
  have P1 : Hid (Ps w1 X a1 ds) := D1.ps
  have PM : Hid (ds.Perm (js.filter (dty G))) := D1.perm
  have S0 : Hid (Sv1 B w w1 X k S S cs sure sure G st pg ds 0) := ⟨H.out.below hb1, HP.out, Nat.le_refl _, fun j hj => by simp at hj, fun h => h, Kp.of_below hb1 hle⟩
  have HK1 : Hid (Kp isA B w w1) := Kp.of_below hb1 hle
  clear D1 hb1 CD
  go_wp2
  go_loopw [18] (fun iv wr => ∃ (i : Nat) (S1 : Dk) (sure1 : Nat), i ≤ ds.length ∧ iv = .int .i64 (i : Int) ∧ Sv1 B w wr X k S S1 cs sure sure1 G st pg ds i ∧ Kp isA B w1 wr) (fun iv _ => ds.length - (intOf iv).toNat)
  case atStart => exact ⟨0, S, sure, Nat.zero_le _, rfl, S0.out, Kp.refl _ _ _⟩
  case round =>
    obtain ⟨i, S1, sure1, hi, rfl, hS1, hK⟩ := hrel
    have HS1 : Hid (Sv1 B w wr X k S S1 cs sure sure1 G st pg ds i) := hS1
    have HK : Hid (Kp isA B w1 wr) := hK
    clear hS1 hK
    by_cases hlt : i < ds.length
    · have i1 : (i : Int) < (ds.length : Int) := by omega
      have i64 : (i : Int) ≤ 64 := by omega
      obtain ⟨hjn, g, hga, _, _, hgc⟩ := (P1.out.kept HK.out.q).at_ i hlt
      subst hga
      have hDj := (hds.out ds[i] (List.getElem_mem hlt)).2
      have CN : Hid (∀ wx, Below wr.heap.size wr wx → Calls Tryz.prog 80 #[.pointer (some ⟨X.l, 0, none⟩), .int .i64 (G.F ds[i]).ln] wx fun e w' => ∃ y, e = .returned (.int .i64 y) ∧ (y = 0 → ∃ S2 sure2, Sv1 B w w' X k S S2 cs sure sure2 G st pg ds (i + 1)) ∧ (y ≠ 0 → y = 9 ∧ Ls B w w' X (k + 41 * (i + 1)) S cs) ∧ Kp isA B wr w') := fun wx hx => HS1.out.need (by omega) hlt hDj hx
      have HC : Hid (∀ wx, Kp isA B wr wx → wx.cell? ⟨X.pb, 1, none⟩ = some (.pointer (some ⟨X.l, 0, none⟩)) ∧ wx.cell? ⟨X.fb ds[i], 2, none⟩ = some (.int .i64 (G.F ds[i]).ln)) := fun wx hx => ⟨(HS1.out.q.po.kept hx).c1, (HS1.out.q.po.kept hx).f2 hjn⟩
      have hrefl : Hid (Kp isA B wr wr) := Kp.refl _ _ _
      have hwB : Hid (B ≤ wr.heap.size) := HS1.out.q.le
      unfold ptF at hgc
      generalize (G.F ds[i]).ln = ln at *
      generalize X.fb ds[i] = fb at *
      go_wp2
      have q1 := (HC.out wr hrefl.out).1
      have q2 := (HC.out wr hrefl.out).2
      have kd := HC.out wr.drew (Kp.of_below ((Below.refl _ _).drew) hwB.out)
      have q3 := kd.1
      have q4 := kd.2
      have bd : Hid (Below wr.heap.size wr wr.drew) := (Below.refl _ _).drew
      clear kd
      go_region_held3 (fun W => W.cell? ⟨X.pb, 1, none⟩ = some (.pointer (some ⟨X.l, 0, none⟩)) ∧ W.cell? ⟨fb, 2, none⟩ = some (.int .i64 ln)) (first | exact ⟨keep1, keep2⟩ | exact ⟨q3, q4⟩ | go_keep) (first
        | (go_at_call 80; refine (CN.out _ bd.out).mono ?_; rintro e wB ⟨y, rfl, hy0, hy9, hKB⟩; have HY0 : Hid (y = 0 → ∃ S2 sure2, Sv1 B w wB X k S S2 cs sure sure2 G st pg ds (i + 1)) := hy0; have HY9 : Hid (y ≠ 0 → y = 9 ∧ Ls B w wB X (k + 41 * (i + 1)) S cs) := hy9; have HKB : Hid (Kp isA B wr wB) := hKB; have keep1 := (HC.out _ hKB).1; have keep2 := (HC.out _ hKB).2; clear hy0 hy9 hKB))
      by_cases he : y = 0
      · subst he
        obtain ⟨S2, sure2, hS2⟩ := HY0.out rfl
        have HS2 : Hid (Sv1 B w wB X k S S2 cs sure sure2 G st pg ds (i + 1)) := hS2
        clear hS2
        go_wp2
        go_roundw
        case rel => exact ⟨i + 1, S2, sure2, hlt, by go_num, HS2.out, HK.out.trans HKB.out⟩
        case measure => simp [intOf]; omega
      · have heb : (y != 0) = true := by simpa using he
        obtain ⟨h9, hLs⟩ := HY9.out he
        have HLs : Hid (Ls B w wB X (k + 41 * (i + 1)) S cs) := hLs
        have H9 : Hid (y = 9) := h9
        clear hLs h9
        go_wp2
        go_ret
        refine ⟨y, rfl, fun e => absurd e he, fun _ => ⟨H9.out, ?_⟩⟩
        obtain ⟨⟨S3, m3, hLo⟩, hset, hkp⟩ := HLs.out
        exact ⟨⟨S3, m3, hLo.mono (by omega)⟩, hset, hkp⟩
    · obtain rfl : i = ds.length := by omega
      have i1 : ¬ (ds.length : Int) < (ds.length : Int) := by omega
      clear hlt hi
      have T0 : Hid (Sv2 B w wr X (k + 41 * ds.length) S S1 cs sure1 G st pg ds 0) := ⟨HS1.out.q, by rw [List.take_zero, pgw_nil]; exact HS1.out.p, HS1.out.cm, HS1.out.kp⟩
      have hsu : Hid (sure ≤ sure1) := HS1.out.le
      have hrc : Hid (∀ j ∈ ds, ∀ id r, (G.F j).id = ((id : Nat) : Int) → st id = some r → r < sure1) := by
        have := HS1.out.rc
        rw [List.take_length] at this
        exact this
      have P2 : Hid (Ps wr X a1 ds) := P1.out.kept HK.out.q
      have hwB : Hid (B ≤ wr.heap.size) := T0.out.q.le
      clear HS1 HK HK1 P1 S0
      generalize wr = w2 at *
      go_wp2
      go_loopw [38] (fun iv wq => ∃ (i : Nat) (S2 : Dk), i ≤ ds.length ∧ iv = .int .i64 (i : Int) ∧ Sv2 B w wq X (k + 41 * ds.length) S S2 cs sure1 G st pg ds i ∧ Kp isA B w2 wq) (fun iv _ => ds.length - (intOf iv).toNat)
      case atStart => exact ⟨0, S1, Nat.zero_le _, rfl, T0.out, Kp.refl _ _ _⟩
      case round =>
        obtain ⟨i, S2, hi, rfl, hS2, hK2⟩ := hrel
        have HS2 : Hid (Sv2 B w wr X (k + 41 * ds.length) S S2 cs sure1 G st pg ds i) := hS2
        have HK2 : Hid (Kp isA B w2 wr) := hK2
        clear hS2 hK2
        by_cases hlt : i < ds.length
        · have i1 : (i : Int) < (ds.length : Int) := by omega
          have i64 : (i : Int) ≤ 64 := by omega
          obtain ⟨hjn, g, hga, _, _, hgc⟩ := (P2.out.kept HK2.out.q).at_ i hlt
          subst hga
          have hDj := (hds.out ds[i] (List.getElem_mem hlt)).2
          have CW : Hid (Calls Tryz.prog 81 #[.pointer (some ⟨X.pb, 0, none⟩), .agg (pgA (G.F ds[i]).id (G.F ds[i]).tx (G.F ds[i]).ln)] wr fun e w' => ∃ y, e = .returned (.int .i64 y) ∧ (y = 0 → ∃ S3, Sv2 B w w' X (k + 41 * ds.length) S S3 cs sure1 G st pg ds (i + 1)) ∧ (y ≠ 0 → y = 9 ∧ Ls B w w' X (k + 41 * ds.length + 5 * (i + 1)) S cs) ∧ Kp isA B wr w') := HS2.out.write (by omega) hlt hDj (hrc.out _ (List.getElem_mem hlt))
          have HPo : Hid (PoIs B wr X G) := HS2.out.q.po
          have hjH : Hid (ds[i] < X.n) := hjn
          clear hjn hDj
          unfold ptF at hgc
          generalize ds[i] = j at *
          go_wp2_with (first
            | (refine wpList_load_pg (B := B) (X := X) (G := G) (j := j) _ rfl _ rfl rfl HPo.out hjH.out ?_)
            | (go_at_call 81; refine CW.out.mono ?_; rintro e wB ⟨y, rfl, hy0, hy9, hKB⟩; have HY0 : Hid (y = 0 → ∃ S3, Sv2 B w wB X (k + 41 * ds.length) S S3 cs sure1 G st pg ds (i + 1)) := hy0; have HY9 : Hid (y ≠ 0 → y = 9 ∧ Ls B w wB X (k + 41 * ds.length + 5 * (i + 1)) S cs) := hy9; have HKB : Hid (Kp isA B wr wB) := hKB; clear hy0 hy9 hKB))
          · have he : y ≠ 0 := by simpa using ‹(y != 0) = true›
            obtain ⟨h9, hLs⟩ := HY9.out he
            go_ret
            refine ⟨y, rfl, fun e => absurd e he, fun _ => ⟨h9, ?_⟩⟩
            obtain ⟨⟨S3, m3, hLo⟩, hset, hkp⟩ := hLs
            exact ⟨⟨S3, m3, hLo.mono (by omega)⟩, hset, hkp⟩
          · have he : y = 0 := by simpa using ‹(y != 0) = false›
            obtain ⟨S3, hS3⟩ := HY0.out he
            go_roundw
            case rel => exact ⟨i + 1, S3, hlt, by go_num, hS3, HK2.out.trans HKB.out⟩
            case measure => simp [intOf]; omega
        · obtain rfl : i = ds.length := by omega
          have i1 : ¬ (ds.length : Int) < (ds.length : Int) := by omega
          clear hlt hi
          have U0 : Hid (Sv3 B w wr X (k + 46 * js.length) S2 cs sure1 G ds 0) := ⟨by rw [List.take_zero, cln_nil]; exact HS2.out.q.mono (by omega), HS2.out.kp.q⟩
          have HSp : Hid (Sp S2 cs sure1 (pgw G st pg ds)) := by
            have := HS2.out.p
            rw [List.take_length] at this
            exact this
          have HCm : Hid (S.set = false → S2.set = false) := HS2.out.cm
          have P3 : Hid (Ps wr X a1 ds) := P2.out.kept HK2.out.q
          clear HS2 HK2 P2 T0 hwB
          generalize wr = w3 at *
          go_wp2
          go_loopw [54] (fun iv wq => ∃ (i : Nat), i ≤ ds.length ∧ iv = .int .i64 (i : Int) ∧ Sv3 B w wq X (k + 46 * js.length) S2 cs sure1 G ds i ∧ Kp isQ B w3 wq) (fun iv _ => ds.length - (intOf iv).toNat)
          case atStart => exact ⟨0, Nat.zero_le _, rfl, U0.out, Kp.refl _ _ _⟩
          case round =>
            obtain ⟨i, hi, rfl, hS3, hK3⟩ := hrel
            have HS3 : Hid (Sv3 B w wr X (k + 46 * js.length) S2 cs sure1 G ds i) := hS3
            have HK3 : Hid (Kp isQ B w3 wr) := hK3
            clear hS3 hK3
            by_cases hlt : i < ds.length
            · have i1 : (i : Int) < (ds.length : Int) := by omega
              have i64 : (i : Int) ≤ 64 := by omega
              obtain ⟨hjn, g, hga, _, _, hgc⟩ := (P3.out.kept HK3.out).at_ i hlt
              subst hga
              have f4 := HS3.out.q.po.f4 hjn
              have z4 := HS3.out.q.po.fz hjn 4
              have HN : Hid (Sv3 B w (wr.setCell ⟨X.fb ds[i], 4, none⟩ (.int .i64 0)) X (k + 46 * js.length) S2 cs sure1 G ds (i + 1)) := HS3.out.step hlt hjn
              have HKN : Hid (Kp isQ B wr (wr.setCell ⟨X.fb ds[i], 4, none⟩ (.int .i64 0))) := (HS3.out.q.po.setF (j := ds[i]) hjn (f := ((cln G (ds.take i)).F ds[i]).cl) (i := 4) (u := .int .i64 0) rfl HS3.out.q.le).2.f
              clear hjn
              unfold ptF at hgc
              generalize ds[i] = j at *
              generalize ((cln G (List.take i ds)).F j).si = si at *
              go_wp2
              go_roundw
              case rel => exact ⟨i + 1, hlt, by go_num, HN.out, HK3.out.trans HKN.out⟩
              case measure => simp [intOf]; omega
            · obtain rfl : i = ds.length := by omega
              have i1 : ¬ (ds.length : Int) < (ds.length : Int) := by omega
              have hq := HS3.out.q
              rw [List.take_length] at hq
              have c4 := hq.po.c4
              have z4 := hq.po.z 4
              have HF : Hid (∀ x : Int, Pq B (wr.setCell ⟨X.pb, 4, none⟩ (.int .i64 x)) X (k + 46 * js.length) S2 cs sure1 { cln G ds with sv := x } ∧ Kp isF B wr (wr.setCell ⟨X.pb, 4, none⟩ (.int .i64 x))) := fun x => by
                have := hq.po.setP (G' := { cln G ds with sv := x }) (i := 4) (u := .int .i64 x) rfl rfl hq.po.h0 hq.po.h1 hq.le
                exact ⟨hq.turn this, this.2⟩
              have HKw : Hid (Kp isQ B w wr) := HS3.out.kp
              clear hlt hi hq HS3 HK3
              generalize (cln G ds).sv = sv at *
              go_wp2
              go_ret
              refine ⟨0, rfl, fun _ => ⟨ds, S2, sure1, _, PM.out, (HF.out _).1, HSp.out, hsu.out, HCm.out, HKw.out.trans (HF.out _).2.f⟩, fun e => absurd rfl e⟩
end
end Go.Proofs.YtgodjnbbocnckaaGreat

namespace Go.Proofs.YtgodjnbbocnckaaGreat
open Go.RowKit Go.Maps Go.ChangeMaps
set_option linter.unusedVariables false
set_option linter.unusedSimpArgs false
set_option maxRecDepth 100000

/-- A frame's page, as it was set last. -/
structure Fat (cs : List Nat) (f : Fm) (st : Nat → Option Nat) (pins : Nat → Nat) (q : Nat) : Prop where
  id : f.id = (q : Int)
  tx : f.tx = txO cs (st q)
  ln : f.ln = lnO (st q)
  pn : f.pn = (pins q : Int)
  si : f.si = 0 ∨ ∃ k r, st q = some r ∧ k ≤ r ∧ f.si = lnO (some k)
structure Iv (cs : List Nat) (n : Nat) (F : Nat → Fm) (st : Nat → Option Nat) (pn : Nat → Nat) (pg : Nat → Option Nat) : Prop where
  us : ∀ j, j < n → (F j).us = true → ∃ id : Nat, id < 8 ∧ Fat cs (F j) st pn id
  un : ∀ j, j < n → (F j).us = false → (F j).si = 0 ∧ (F j).pn = 0
  ds : ∀ (i j : Nat) (id : Int), i < n → j < n → (F i).has id → (F j).has id → i = j
  cl : ∀ id : Nat, id < 8 → (∀ j, j < n → (F j).has (id : Int) → (F j).si = 0) → pg id = st id
  pl : ∀ id : Nat, id < 8 → ∀ k, pg id = some k → ∃ r, st id = some r ∧ k ≤ r
  sl : ∀ id : Nat, id < 8 → ∀ r, st id = some r → r < cs.length
  np : ∀ id : Nat, id < 8 → pn id ≠ 0 → ∃ j, j < n ∧ (F j).has (id : Int)
section
variable {B k k' db sb sure sure1 m i n : Nat} {w w' w0 wr : World} {S S' S1 S2 : Dk} {X : Ad} {G : Gp} {cs : List Nat} {st pg : Nat → Option Nat} {pn : Nat → Nat} {ds js : List Nat} {F : Nat → Fm}
theorem lnO_pos (k : Nat) : 1 ≤ lnO (some k) := by simp only [lnO]; omega
theorem lnO_le {k r : Nat} (h : k ≤ r) : lnO (some k) ≤ lnO (some r) := by simp only [lnO]; omega
theorem lnO_inj {a b : Option Nat} (h : lnO a = lnO b) : a = b := by
  cases a <;> cases b <;> simp only [lnO] at h
  · rfl
  · omega
  · omega
  · congr 1; omega
theorem Iv.fat (h : Iv cs n F st pn pg) {j id : Nat} (hj : j < n) (hh : (F j).has (id : Int)) : id < 8 ∧ Fat cs (F j) st pn id := by
  obtain ⟨id', h1, h2⟩ := h.us j hj hh.1
  have e1 := h2.id
  have e2 := hh.2
  have : id' = id := by omega
  subst this
  exact ⟨h1, h2⟩
theorem Iv.pos (h : Iv cs n F st pn pg) {j : Nat} (hj : j < n) (hd : 0 < (F j).si) : ∃ id k r, id < 8 ∧ Fat cs (F j) st pn id ∧ (F j).has (id : Int) ∧ st id = some r ∧ k ≤ r ∧ (F j).si = lnO (some k) := by
  cases hu : (F j).us with
  | false => have := (h.un j hj hu).1; omega
  | true =>
    obtain ⟨id, h1, h2⟩ := h.us j hj hu
    rcases h2.si with e | ⟨k, r, e1, e2, e3⟩
    · omega
    · exact ⟨id, k, r, h1, h2, ⟨hu, h2.id⟩, e1, e2, e3⟩
theorem Iv.dj {G : Gp} (h : Iv cs n G.F st pn pg) {j : Nat} (hj : j < n) (hd : dty G j = true) : Dj cs G st j := by
  obtain ⟨id, k, r, h1, h2, h3, h4, h5, h6⟩ := h.pos hj (by simpa [dty] using hd)
  refine ⟨id, r, h1, h2.id, h4, h.sl id h1 r h4, ?_, ?_⟩
  · rw [h2.tx, h4]; rfl
  · rw [h2.ln, h4]
theorem Iv.snoc (h : Iv cs n F st pn pg) (c : Nat) : Iv (cs ++ [c]) n F st pn pg := by
  refine ⟨fun j hj hu => ?_, h.un, h.ds, h.cl, h.pl, fun id h1 r h2 => ?_, h.np⟩
  · obtain ⟨id, h1, h2⟩ := h.us j hj hu
    exact ⟨id, h1, h2.id, by rw [txO_snoc cs c (fun r hr => h.sl id h1 r hr)]; exact h2.tx, h2.ln, h2.pn, h2.si⟩
  · have := h.sl id h1 r h2
    rw [List.length_append]; omega
theorem cl_has {f : Fm} {id : Int} : f.cl.has id ↔ f.has id := Iff.rfl
/-- Pages are saved. -/
theorem Iv.saved {G : Gp} (h : Iv cs n G.F st pn pg) (ds : List Nat) : Iv cs n (cln G ds).F st pn (pgw G st pg ds) := by
  have hF : ∀ j, (cln G ds).F j = if j ∈ ds then (G.F j).cl else G.F j := fun j => rfl
  have hh : ∀ j id, ((cln G ds).F j).has id ↔ (G.F j).has id := fun j id => by rw [hF]; split <;> exact Iff.rfl
  refine ⟨fun j hj hu => ?_, fun j hj hu => ?_, fun i j id hi hj h1 h2 => h.ds i j id hi hj ((hh _ _).1 h1) ((hh _ _).1 h2), fun id h1 h2 => ?_, fun id h1 k h2 => ?_, h.sl, fun id h1 h2 => ?_⟩
  · rw [hF] at hu ⊢
    by_cases hm : j ∈ ds
    · rw [if_pos hm] at hu ⊢
      obtain ⟨id, h1, h2⟩ := h.us j hj hu
      exact ⟨id, h1, h2.id, h2.tx, h2.ln, h2.pn, Or.inl rfl⟩
    · rw [if_neg hm] at hu ⊢
      exact h.us j hj hu
  · rw [hF] at hu ⊢
    by_cases hm : j ∈ ds
    · rw [if_pos hm] at hu ⊢
      exact ⟨rfl, (h.un j hj hu).2⟩
    · rw [if_neg hm] at hu ⊢
      exact h.un j hj hu
  · unfold pgw
    by_cases ha : (ds.any fun j => (G.F j).id == (id : Int)) = true
    · rw [if_pos ha]
    · rw [if_neg ha]
      refine h.cl id h1 (fun j hj hhas => ?_)
      have := h2 j hj ((hh _ _).2 hhas)
      rw [hF] at this
      by_cases hm : j ∈ ds
      · exfalso
        apply ha
        rw [List.any_eq_true]
        exact ⟨j, hm, by rw [hhas.2]; simp⟩
      · rw [if_neg hm] at this; exact this
  · unfold pgw at h2
    split at h2
    · exact ⟨k, h2, Nat.le_refl _⟩
    · exact h.pl id h1 k h2
  · obtain ⟨j, hj, hhas⟩ := h.np id h1 h2
    exact ⟨j, hj, (hh _ _).2 hhas⟩
/-- A page that is in no frame is taken into one. -/
theorem Iv.taken (h : Iv cs n F st pn pg) {a id : Nat} (ha : a < n) (hid : id < 8) (hno : ∀ j, j < n → ¬ (F j).has (id : Int)) (hp : (F a).pn = 0) (hs : (F a).si = 0) : Iv cs n (upd F a ⟨(id : Int), txO cs (pg id), lnO (pg id), true, 0, 0⟩) st pn pg := by
  have hpg : pg id = st id := h.cl id hid (fun j hj hh => absurd hh (hno j hj))
  have hpn : pn id = 0 := by
    cases e : pn id with
    | zero => rfl
    | succ x => obtain ⟨j, hj, hh⟩ := h.np id hid (by omega); exact absurd hh (hno j hj)
  have hsame : ∀ j, j ≠ a → upd F a (⟨(id : Int), txO cs (pg id), lnO (pg id), true, 0, 0⟩ : Fm) j = F j := fun j hj => upd_other _ _ hj
  have hat : upd F a (⟨(id : Int), txO cs (pg id), lnO (pg id), true, 0, 0⟩ : Fm) a = ⟨(id : Int), txO cs (pg id), lnO (pg id), true, 0, 0⟩ := upd_same _ _ _
  refine ⟨fun j hj hu => ?_, fun j hj hu => ?_, fun i j id' hi hj h1 h2 => ?_, fun id' h1 h2 => ?_, h.pl, h.sl, fun id' h1 h2 => ?_⟩
  · by_cases e : j = a
    · subst e
      rw [hat]
      exact ⟨id, hid, rfl, by rw [hpg], by rw [hpg], by rw [hpn]; rfl, Or.inl rfl⟩
    · rw [hsame j e] at hu ⊢
      exact h.us j hj hu
  · by_cases e : j = a
    · subst e; rw [hat] at hu; cases hu
    · rw [hsame j e] at hu ⊢; exact h.un j hj hu
  · by_cases e1 : i = a
    · by_cases e2 : j = a
      · omega
      · subst e1
        rw [hat] at h1
        rw [hsame j e2] at h2
        have : (id : Int) = id' := h1.2
        subst this
        exact absurd h2 (hno j hj)
    · by_cases e2 : j = a
      · subst e2
        rw [hat] at h2
        rw [hsame i e1] at h1
        have : (id : Int) = id' := h2.2
        subst this
        exact absurd h1 (hno i hi)
      · rw [hsame i e1] at h1
        rw [hsame j e2] at h2
        exact h.ds i j id' hi hj h1 h2
  · refine h.cl id' h1 (fun j hj hh => ?_)
    by_cases e : j = a
    · subst e; exact hs
    · have := h2 j hj (by rw [hsame j e]; exact hh)
      rw [hsame j e] at this
      exact this
  · obtain ⟨j, hj, hh⟩ := h.np id' h1 h2
    by_cases e : j = a
    · subst e
      have := (h.fat hj hh).2.pn
      omega
    · exact ⟨j, hj, by rw [hsame j e]; exact hh⟩
/-- A page in a frame is set by the newest record. -/
theorem Iv.setp (h : Iv cs n F st pn pg) {j id r : Nat} (hj : j < n) (hh : (F j).has (id : Int)) (hr : r < cs.length) (hst : ∀ id', id' < 8 → ∀ r0, st id' = some r0 → r0 ≤ r) : Iv cs n (upd F j { F j with tx := fillS (cs.getD r 0), ln := lnO (some r), si := if 0 < (F j).si then (F j).si else lnO (some r) }) (upd st id (some r)) pn pg := by
  obtain ⟨hid, hf⟩ := h.fat hj hh
  have hsame : ∀ i, i ≠ j → upd F j ({ F j with tx := fillS (cs.getD r 0), ln := lnO (some r), si := if 0 < (F j).si then (F j).si else lnO (some r) } : Fm) i = F i := fun i hi => upd_other _ _ hi
  have hat : upd F j ({ F j with tx := fillS (cs.getD r 0), ln := lnO (some r), si := if 0 < (F j).si then (F j).si else lnO (some r) } : Fm) j = { F j with tx := fillS (cs.getD r 0), ln := lnO (some r), si := if 0 < (F j).si then (F j).si else lnO (some r) } := upd_same _ _ _
  have hpos : 0 < (if 0 < (F j).si then (F j).si else lnO (some r)) := by
    have := lnO_pos r
    split <;> omega
  have hoth : ∀ i, i < n → i ≠ j → ¬ (F i).has (id : Int) := fun i hi e h2 => e (h.ds i j _ hi hj h2 hh)
  refine ⟨fun i hi hu => ?_, fun i hi hu => ?_, fun i i' id' hi hi' h1 h2 => ?_, fun id' h1 h2 => ?_, fun id' h1 k h2 => ?_, fun id' h1 r' h2 => ?_, fun id' h1 h2 => ?_⟩
  · by_cases e : i = j
    · subst e
      rw [hat]
      refine ⟨id, hid, hf.id, by rw [upd_same]; rfl, by rw [upd_same], hf.pn, Or.inr ?_⟩
      rw [upd_same]
      by_cases hs : 0 < (F i).si
      · rcases hf.si with e0 | ⟨k, r0, e1, e2, e3⟩
        · omega
        · refine ⟨k, r, rfl, Nat.le_trans e2 (hst id hid r0 e1), ?_⟩
          show (if 0 < (F i).si then (F i).si else lnO (some r)) = _
          rw [if_pos hs]; exact e3
      · refine ⟨r, r, rfl, Nat.le_refl _, ?_⟩
        show (if 0 < (F i).si then (F i).si else lnO (some r)) = _
        rw [if_neg hs]
    · rw [hsame i e] at hu ⊢
      obtain ⟨id', h1, h2⟩ := h.us i hi hu
      have hne : id' ≠ id := fun e2 => by subst e2; exact hoth i hi e ⟨hu, h2.id⟩
      exact ⟨id', h1, h2.id, by rw [upd_other _ _ hne]; exact h2.tx, by rw [upd_other _ _ hne]; exact h2.ln, h2.pn, by rw [upd_other _ _ hne]; exact h2.si⟩
  · by_cases e : i = j
    · subst e; rw [hat] at hu; rw [hh.1] at hu; cases hu
    · rw [hsame i e] at hu ⊢; exact h.un i hi hu
  · have c1 : (F i).has id' := by
      by_cases e : i = j
      · subst e; rw [hat] at h1; exact h1
      · rw [hsame i e] at h1; exact h1
    have c2 : (F i').has id' := by
      by_cases e : i' = j
      · subst e; rw [hat] at h2; exact h2
      · rw [hsame i' e] at h2; exact h2
    exact h.ds i i' id' hi hi' c1 c2
  · by_cases e : id' = id
    · subst e
      have := h2 j hj (by rw [hat]; exact hh)
      rw [hat] at this
      dsimp only at this
      omega
    · rw [upd_other _ _ e]
      refine h.cl id' h1 (fun i hi hh' => ?_)
      have hij : i ≠ j := fun e2 => by subst e2; have a1 := hh'.2; have a2 := hh.2; omega
      have := h2 i hi (by rw [hsame i hij]; exact hh')
      rw [hsame i hij] at this
      exact this
  · obtain ⟨r0, e1, e2⟩ := h.pl id' h1 k h2
    by_cases e : id' = id
    · subst e
      exact ⟨r, upd_same _ _ _, Nat.le_trans e2 (hst id' h1 r0 e1)⟩
    · exact ⟨r0, by rw [upd_other _ _ e]; exact e1, e2⟩
  · by_cases e : id' = id
    · subst e; rw [upd_same] at h2; cases h2; exact hr
    · rw [upd_other _ _ e] at h2; exact h.sl id' h1 r' h2
  · obtain ⟨i, hi, hh'⟩ := h.np id' h1 h2
    refine ⟨i, hi, ?_⟩
    by_cases e : i = j
    · subst e; rw [hat]; exact hh'
    · rw [hsame i e]; exact hh'
/-- A page in a frame is pinned so often. -/
theorem Iv.pin (h : Iv cs n F st pn pg) {j id : Nat} (hj : j < n) (hh : (F j).has (id : Int)) (x : Nat) : Iv cs n (upd F j { F j with pn := (x : Int) }) st (upd pn id x) pg := by
  obtain ⟨hid, hf⟩ := h.fat hj hh
  have hsame : ∀ i, i ≠ j → upd F j ({ F j with pn := (x : Int) } : Fm) i = F i := fun i hi => upd_other _ _ hi
  have hat : upd F j ({ F j with pn := (x : Int) } : Fm) j = { F j with pn := (x : Int) } := upd_same _ _ _
  have hoth : ∀ i, i < n → i ≠ j → ¬ (F i).has (id : Int) := fun i hi e h2 => e (h.ds i j _ hi hj h2 hh)
  have hhas : ∀ i id', (upd F j ({ F j with pn := (x : Int) } : Fm) i).has id' ↔ (F i).has id' := fun i id' => by
    by_cases e : i = j
    · subst e; rw [hat]; exact Iff.rfl
    · rw [hsame i e]
  refine ⟨fun i hi hu => ?_, fun i hi hu => ?_, fun i i' id' hi hi' h1 h2 => h.ds i i' id' hi hi' ((hhas _ _).1 h1) ((hhas _ _).1 h2), fun id' h1 h2 => ?_, h.pl, h.sl, fun id' h1 h2 => ?_⟩
  · by_cases e : i = j
    · subst e
      rw [hat]
      exact ⟨id, hid, hf.id, hf.tx, hf.ln, by rw [upd_same], hf.si⟩
    · rw [hsame i e] at hu ⊢
      obtain ⟨id', h1, h2⟩ := h.us i hi hu
      have hne : id' ≠ id := fun e2 => by subst e2; exact hoth i hi e ⟨hu, h2.id⟩
      exact ⟨id', h1, h2.id, h2.tx, h2.ln, by rw [upd_other _ _ hne]; exact h2.pn, h2.si⟩
  · by_cases e : i = j
    · subst e; rw [hat] at hu; rw [hh.1] at hu; cases hu
    · rw [hsame i e] at hu ⊢; exact h.un i hi hu
  · refine h.cl id' h1 (fun i hi hh' => ?_)
    have := h2 i hi ((hhas _ _).2 hh')
    by_cases e : i = j
    · subst e; rw [hat] at this; exact this
    · rw [hsame i e] at this; exact this
  · by_cases e : id' = id
    · subst e; exact ⟨j, hj, (hhas _ _).2 hh⟩
    · rw [upd_other _ _ e] at h2
      obtain ⟨i, hi, hh'⟩ := h.np id' h1 h2
      exact ⟨i, hi, (hhas _ _).2 hh'⟩
/-- A new pool. -/
theorem Iv.new (n : Nat) : Iv [] n (fun _ => zF) (fun _ => none) (fun _ => 0) (fun _ => none) :=
  ⟨(fun j hj hu => by cases hu), fun j hj hu => ⟨rfl, rfl⟩, (fun i j id hi hj h1 h2 => by cases h1.1), fun id h1 h2 => rfl, (fun id h1 k h2 => by cases h2), (fun id h1 r h2 => by cases h2), fun id h1 h2 => absurd rfl h2⟩
/-- A pool, and what was set. -/
structure Pv (B : Nat) (w : World) (X : Ad) (k : Nat) (S : Dk) (cs : List Nat) (sure : Nat) (G : Gp) (st : Nat → Option Nat) (pn : Nat → Nat) (pg : Nat → Option Nat) : Prop where
  q : Pq B w X k S cs sure G
  p : Sp S cs sure pg
  v : Iv cs X.n G.F st pn pg
theorem Pv.below (h : Pv B w X k S cs sure G st pn pg) (hb : Below w.heap.size w w') : Pv B w' X k S cs sure G st pn pg := ⟨h.q.below hb, h.p, h.v⟩
theorem Pv.mono (h : Pv B w X k S cs sure G st pn pg) (hk : k ≤ k') : Pv B w X k' S cs sure G st pn pg := ⟨h.q.mono hk, h.p, h.v⟩
theorem Pv.saved {sv : Int} (h : Pv B w X k S cs sure G st pn pg) (hs : SvO B w w' X k' S cs sure G st pg js ds S' sure1 sv) : Pv B w' X k' S' cs sure1 { cln G ds with sv := sv } st pn (pgw G st pg ds) := ⟨hs.q, hs.p, h.v.saved ds⟩
theorem Pv.rdP (h : Pv B w X k S cs sure G st pn pg) {id : Nat} (hid : id < 8) : rdP S (id : Int) = (txO cs (pg id), lnO (pg id), 0) := by
  have hs := h.q.sl
  have hl := h.q.len
  unfold Go.Proofs.YtgodjnbbocnckaaGreat.rdP
  rw [h.p.rd (by omega) hid]
  cases hp : pg id with
  | none => simp [txO, lnO]
  | some r => simp
theorem Pv.rdOutP (h : Pv B w X k S cs sure G st pn pg) {id : Int} (hid : ¬ (0 ≤ id ∧ id < 8)) : Go.Proofs.YtgodjnbbocnckaaGreat.rdP S id = (⟨#[]⟩, 0, 6) := by
  unfold Go.Proofs.YtgodjnbbocnckaaGreat.rdP
  rw [rd_out S hid]
  simp
end
end Go.Proofs.YtgodjnbbocnckaaGreat

namespace Go.Proofs.YtgodjnbbocnckaaGreat
open Go.RowKit Go.Maps Go.ChangeMaps
set_option linter.unusedVariables false
set_option linter.unusedSimpArgs false
set_option maxRecDepth 100000

/-- A page was taken into a frame. -/
structure Tk (B : Nat) (w w' : World) (X : Ad) (k : Nat) (S : Dk) (cs : List Nat) (G : Gp) (st : Nat → Option Nat) (pn : Nat → Nat) (id : Int) (j : Nat) (S' : Dk) (sure' : Nat) (G' : Gp) (pg' : Nat → Option Nat) : Prop where
  v : Pv B w' X k S' cs sure' G' st pn pg'
  hj : j < X.n
  has : (G'.F j).has id
  cm : S.set = false → S'.set = false
  kp : Kp isQ B w w'
  keep : ∀ i, i < X.n → (G.F i).pn ≠ 0 → G'.F i = G.F i
  new : (∀ i, i < X.n → ¬ (G.F i).has id) → (G'.F j).si = 0
  hit : (∃ i, i < X.n ∧ (G.F i).has id) → G' = G
section
variable {B k k' sure sure1 m : Nat} {w w' wr : World} {S S' : Dk} {X : Ad} {G : Gp} {cs : List Nat} {st pg : Nat → Option Nat} {pn : Nat → Nat}
theorem tor {y : Int} {P Q : Prop} (h0 : y = 0 → P) (h9 : y ≠ 0 → Q) : (y = 0 ∧ P) ∨ (y ≠ 0 ∧ Q) := by
  by_cases h : y = 0
  · exact Or.inl ⟨h, h0 h⟩
  · exact Or.inr ⟨h, h9 h⟩
theorem one_fm (f : Fm) : ∀ v ∈ f.A.toList, v.oneCell' = true := by
  intro v hv
  simp [Fm.A] at hv
  rcases hv with rfl | rfl | rfl | rfl | rfl | rfl <;> rfl
theorem info_fm : (Tryz.prog.info? 85).map (·.size) = some 6 := by kernel_rfl
theorem wpList_load_o {ops : Array Oper} {rest : List Oper} {o : Oper} {a : Act} {Q : Exit → Act → World → Prop} {b : Nat} {id l : Int} {t : ByteArray} (w : World) (hg : o.guard = none) (x : Operand) (hop : o.op = Op.load 83 x) (hx : a.eval x = .pointer (some ⟨b, 0, none⟩)) (hs : w.heap[b]? = some (.cells (pgA id t l) 83))
    (h : wpList Tryz.prog ops Q rest (a.put o.dst (.agg (pgA id t l))) w) : wpList Tryz.prog ops Q (o :: rest) a w :=
  wpList_load_row hg 83 x hop b hx 83 _ (0, 0) _ hs Tryz.underlying83 rfl info_pg h
theorem wpList_build_fm {ops : Array Oper} {rest : List Oper} {o : Oper} {a : Act} {Q : Exit → Act → World → Prop} {i l : Int} {t : ByteArray} (w : World) (hg : o.guard = none) (x : Operand) (hop : o.op = Op.build 85 #[(0, x), (1, .const (.bool true))]) (hx : a.eval x = .agg (pgA i t l))
    (h : wpList Tryz.prog ops Q rest (a.put o.dst (.agg (⟨i, t, l, true, 0, 0⟩ : Fm).A)) w) : wpList Tryz.prog ops Q (o :: rest) a w := by
  refine wpList_plain hg fun K' hK' => ?_
  unfold Oper.wp
  have hb : (Instr.build 85 #[(0, .agg (pgA i t l)), (1, .bool true)]).run Tryz.prog w = .ok (.agg (⟨i, t, l, true, 0, 0⟩ : Fm).A) w := by kernel_rfl
  have hc : a.eval (.const (.bool true)) = .bool true := rfl
  simp [execOp, hop, hx, hc, hb, Result.andThen]
  exact hK' _ _ h
theorem take_hit (h : PoIs B w X G) (id : Int) (j : Nat) (hj : j < X.n) (hh : (G.F j).has id) (hlt : ∀ i, i < j → ¬ (G.F i).has id) : Calls Tryz.prog 43 #[.pointer (some ⟨X.pb, 0, none⟩), .int .i64 id] w fun e w' => e = .returned (.tuple #[.pointer (some ⟨X.fb j, 0, none⟩), .int .i64 0]) ∧ w' = w := by
  have CM : Hid (Calls Tryz.prog 60 #[.pointer (some ⟨X.pb, 0, none⟩)] w fun e w' => e = .returned (.bool true) ∧ w' = w) := isMade_po h
  have CF : Hid (Calls Tryz.prog 58 #[.pointer (some ⟨X.pb, 0, none⟩), .int .i64 id] w fun e w' => e = .returned (.pointer (some ⟨X.fb j, 0, none⟩)) ∧ w' = w) := find_hit h id j hj hh hlt
  clear h hh hlt
  generalize X.fb j = fb at *
  go_enter Tryz.func43, Tryz.ntmps43
  go_wp2_with (first
    | (go_at_call 60; refine CM.out.mono ?_; rintro e w1 ⟨rfl, rfl⟩)
    | (go_at_call 58; refine CF.out.mono ?_; rintro e w1 ⟨rfl, rfl⟩))
  go_ret2
  exact ⟨rfl, rfl⟩
theorem Pv.cr (h : Pv B w X k S cs sure G st pn pg) (id : Int) (wx : World) (hx : Below w.heap.size w wx) : Calls Tryz.prog 65 #[.pointer (some ⟨X.pb, 0, none⟩), .int .i64 id] wx fun e w' =>
    e = .returned (.tuple #[.agg (pgA id (Go.Proofs.YtgodjnbbocnckaaGreat.rdP S id).1 (Go.Proofs.YtgodjnbbocnckaaGreat.rdP S id).2.1), .int .i64 (Go.Proofs.YtgodjnbbocnckaaGreat.rdP S id).2.2]) ∧ Below wx.heap.size wx w' :=
  read_po (h.q.below hx).po (h.q.below hx).ds (h.q.below hx).st h.q.lv.up h.q.n id
set_option maxHeartbeats 1000000 in
theorem take_out (h : Pv B w X k S cs sure G st pn pg) (id : Int) (hid : ¬ (0 ≤ id ∧ id < 8)) : Calls Tryz.prog 43 #[.pointer (some ⟨X.pb, 0, none⟩), .int .i64 id] w fun e w' => e = .returned (.tuple #[.pointer none, .int .i64 6]) ∧ Below w.heap.size w w' := by
  have hno : ∀ i, i < X.n → ¬ (G.F i).has id := fun i hi hh => by
    obtain ⟨id', h1, h2⟩ := h.v.us i hi hh.1
    have e1 := h2.id
    have e2 := hh.2
    omega
  have CM : Hid (Calls Tryz.prog 60 #[.pointer (some ⟨X.pb, 0, none⟩)] w fun e w' => e = .returned (.bool true) ∧ w' = w) := isMade_po h.q.po
  have CF : Hid (Calls Tryz.prog 58 #[.pointer (some ⟨X.pb, 0, none⟩), .int .i64 id] w fun e w' => e = .returned (.pointer none) ∧ w' = w) := find_miss h.q.po id hno
  have CR : Hid (Calls Tryz.prog 65 #[.pointer (some ⟨X.pb, 0, none⟩), .int .i64 id] w fun e w' => e = .returned (.tuple #[.agg (pgA id ⟨#[]⟩ 0), .int .i64 6]) ∧ Below w.heap.size w w') := by
    have := h.cr id w (Below.refl _ _)
    rw [h.rdOutP hid] at this
    exact this
  clear h hno hid
  go_enter Tryz.func43, Tryz.ntmps43
  go_wp2_with (first
    | (go_at_call 60; refine CM.out.mono ?_; rintro e w1 ⟨rfl, rfl⟩)
    | (go_at_call 58; refine CF.out.mono ?_; rintro e w1 ⟨rfl, rfl⟩)
    | (go_at_call 65; refine CR.out.mono ?_; rintro e w2 ⟨rfl, b2⟩)
    | (refine wpList_new_o _ rfl rfl (zero_pg _) ?_; intro w3 b3 N3)
    | (refine wpList_put_o (A' := pgA id ⟨#[]⟩ 0) _ rfl (.tmp 7) (.tmp 25) rfl rfl rfl N3.blk info_pg rfl (one_pg _ _ _) ?_; intro w4 P4))
  go_ret2
  have e3 := N3.eq
  have s2 := b2.size
  have s3 := N3.below.size
  exact ⟨rfl, (thn b2 N3.below).trans (P4.off.below (fun k hk => by omega) (by omega))⟩
set_option maxHeartbeats 1000000 in
theorem take_full (h : Pv B w X k S cs sure G st pn pg) (id : Nat) (hid : id < 8) (hno : ∀ i, i < X.n → ¬ (G.F i).has (id : Int)) (hp : ∀ i, i < X.n → (G.F i).pn ≠ 0) : Calls Tryz.prog 43 #[.pointer (some ⟨X.pb, 0, none⟩), .int .i64 (id : Int)] w fun e w' => e = .returned (.tuple #[.pointer none, .int .i64 7]) ∧ Below w.heap.size w w' := by
  have CM : Hid (Calls Tryz.prog 60 #[.pointer (some ⟨X.pb, 0, none⟩)] w fun e w' => e = .returned (.bool true) ∧ w' = w) := isMade_po h.q.po
  have CF : Hid (Calls Tryz.prog 58 #[.pointer (some ⟨X.pb, 0, none⟩), .int .i64 (id : Int)] w fun e w' => e = .returned (.pointer none) ∧ w' = w) := find_miss h.q.po id hno
  obtain ⟨tx, htx⟩ : ∃ tx, tx = txO cs (pg id) := ⟨_, rfl⟩
  obtain ⟨ln, hln⟩ : ∃ ln, ln = lnO (pg id) := ⟨_, rfl⟩
  have CR : Hid (Calls Tryz.prog 65 #[.pointer (some ⟨X.pb, 0, none⟩), .int .i64 (id : Int)] w fun e w' => e = .returned (.tuple #[.agg (pgA (id : Int) tx ln), .int .i64 0]) ∧ Below w.heap.size w w') := by
    have := h.cr id w (Below.refl _ _)
    rw [h.rdP hid, ← htx, ← hln] at this
    exact this
  have CP : Hid (∀ wx, Below w.heap.size w wx → Calls Tryz.prog 66 #[.pointer (some ⟨X.pb, 0, none⟩)] wx fun e w' => e = .returned (.int .i64 (-1)) ∧ Below wx.heap.size wx w') := fun wx hx => pick_none (h.q.po.below hx) hp
  clear h hno hid hp htx hln
  generalize (id : Int) = idI at *
  go_enter Tryz.func43, Tryz.ntmps43
  go_wp2_with (first
    | (go_at_call 60; refine CM.out.mono ?_; rintro e w1 ⟨rfl, rfl⟩)
    | (go_at_call 58; refine CF.out.mono ?_; rintro e w1 ⟨rfl, rfl⟩)
    | (go_at_call 65; refine CR.out.mono ?_; rintro e w2 ⟨rfl, b2⟩)
    | (refine wpList_new_o _ rfl rfl (zero_pg _) ?_; intro w3 b3 N3)
    | (refine wpList_put_o (A' := pgA idI tx ln) _ rfl (.tmp 7) (.tmp 25) rfl rfl rfl N3.blk info_pg rfl (one_pg _ _ _) ?_; intro w4 P4; have B4 : Hid (Below w1.heap.size w1 w4) := (thn b2 N3.below).trans (P4.off.below (fun k hk => (by have e3 := N3.eq; have s2 := b2.size; omega)) (by have s2 := b2.size; have s3 := N3.below.size; omega)))
    | (go_at_call 66; refine (CP.out _ B4.out).mono ?_; rintro e w5 ⟨rfl, b5⟩))
  go_ret2
  exact ⟨rfl, thn B4.out b5⟩
set_option maxHeartbeats 8000000 in
theorem take_new (h : Pv B w X k S cs sure G st pn pg) (hk : k ≤ 29000) (id : Nat) (hid : id < 8) (hno : ∀ i, i < X.n → ¬ (G.F i).has (id : Int)) (hp : ∃ i, i < X.n ∧ (G.F i).pn = 0) : Calls Tryz.prog 43 #[.pointer (some ⟨X.pb, 0, none⟩), .int .i64 (id : Int)] w fun e w' => ∃ p y, e = .returned (.tuple #[p, .int .i64 y]) ∧ (y = 0 → ∃ j S' sure' G' pg', p = .pointer (some ⟨X.fb j, 0, none⟩) ∧ Tk B w w' X (k + 46) S cs G st pn (id : Int) j S' sure' G' pg') ∧ (y ≠ 0 → p = .pointer none ∧ y = 9 ∧ Ls B w w' X (k + 46) S cs) := by
  have CM : Hid (Calls Tryz.prog 60 #[.pointer (some ⟨X.pb, 0, none⟩)] w fun e w' => e = .returned (.bool true) ∧ w' = w) := isMade_po h.q.po
  have CF : Hid (Calls Tryz.prog 58 #[.pointer (some ⟨X.pb, 0, none⟩), .int .i64 (id : Int)] w fun e w' => e = .returned (.pointer none) ∧ w' = w) := find_miss h.q.po id hno
  obtain ⟨tx, htx⟩ : ∃ tx, tx = txO cs (pg id) := ⟨_, rfl⟩
  obtain ⟨ln, hln⟩ : ∃ ln, ln = lnO (pg id) := ⟨_, rfl⟩
  have CR : Hid (Calls Tryz.prog 65 #[.pointer (some ⟨X.pb, 0, none⟩), .int .i64 (id : Int)] w fun e w' => e = .returned (.tuple #[.agg (pgA (id : Int) tx ln), .int .i64 0]) ∧ Below w.heap.size w w') := by
    have := h.cr id w (Below.refl _ _)
    rw [h.rdP hid, ← htx, ← hln] at this
    exact this
  have CP : Hid (∀ wx, Below w.heap.size w wx → Calls Tryz.prog 66 #[.pointer (some ⟨X.pb, 0, none⟩)] wx fun e w' => ∃ a : Nat, e = .returned (.int .i64 (a : Int)) ∧ a < X.n ∧ (G.F a).pn = 0 ∧ Below wx.heap.size wx w') := fun wx hx => pick_some (h.q.po.below hx) hp
  have HC : Hid (∀ wx a, Below w.heap.size w wx → a < X.n → wx.cell? ⟨X.pb, 2, none⟩ = some (.slice (some ⟨X.ra, 0, none⟩) X.n X.cp) ∧ wx.cell? ⟨X.ra, a, none⟩ = some (.pointer (some ⟨X.fb a, 0, none⟩))) := fun wx a hx ha => ⟨(h.q.po.below hx).c2, (h.q.po.below hx).ra ha⟩
  have CS : Hid (∀ wx a, Below w.heap.size w wx → a < X.n → Calls Tryz.prog 62 #[.pointer (some ⟨X.pb, 0, none⟩), .slice (some ⟨wx.heap.size, 0, none⟩) 1 1] (wx.alloc (.cells #[.pointer (some ⟨X.fb a, 0, none⟩)] 79)) fun e w' => ∃ y, e = .returned (.int .i64 y) ∧ (y = 0 → ∃ ds S' sure' sv, SvO B (wx.alloc (.cells #[.pointer (some ⟨X.fb a, 0, none⟩)] 79)) w' X (k + 46) S cs sure G st pg [a] ds S' sure' sv) ∧ (y ≠ 0 → y = 9 ∧ Ls B (wx.alloc (.cells #[.pointer (some ⟨X.fb a, 0, none⟩)] 79)) w' X (k + 46) S cs) ∧ Kp isQ B (wx.alloc (.cells #[.pointer (some ⟨X.fb a, 0, none⟩)] 79)) w') := fun wx a hx ha => by
    have hb : Below w.heap.size w (wx.alloc (.cells #[.pointer (some ⟨X.fb a, 0, none⟩)] 79)) := hx.alloc hx.size _
    have := save_po (js := [a]) (st := st) (h.q.below hb) h.p (by simp; omega) (Ps.one wx ha) (by simp) 1 (fun j hj hd => by rw [List.mem_singleton] at hj; subst hj; exact h.v.dj ha hd)
    refine this.mono ?_
    rintro e w' ⟨y, he, h0, h9⟩
    refine ⟨y, he, h0, h9, ?_⟩
    by_cases hy : y = 0
    · obtain ⟨ds, S1, s1, sv, q⟩ := h0 hy
      exact q.kp
    · exact (h9 hy).2.kp
  have hle := h.q.le
  have hn2 := h.q.po.n2
  have HE : Hid (∀ wx w3 a ds S' sure' sv, Below w.heap.size w wx → a < X.n → (G.F a).pn = 0 → SvO B wx w3 X (k + 46) S cs sure G st pg [a] ds S' sure' sv → Pv B w3 X (k + 46) S' cs sure' { cln G ds with sv := sv } st pn (pgw G st pg ds) ∧ ((cln G ds).F a).si = 0 ∧ ((cln G ds).F a).pn = 0 ∧ (∀ i, i < X.n → ¬ ((cln G ds).F i).has (id : Int)) ∧ tx = txO cs (pgw G st pg ds id) ∧ ln = lnO (pgw G st pg ds id) ∧ (∀ i, i ≠ a → (cln G ds).F i = G.F i) ∧ (S.set = false → S'.set = false)) := fun wx w3 a ds S' sure' sv hx ha hpa hs => by
    have hF : ∀ j, (cln G ds).F j = if j ∈ ds then (G.F j).cl else G.F j := fun j => rfl
    have hmem : ∀ j, j ∈ ds ↔ j = a ∧ dty G a = true := fun j => by
      rw [hs.perm.mem_iff, List.mem_filter, List.mem_singleton]
      constructor
      · rintro ⟨rfl, h2⟩; exact ⟨rfl, h2⟩
      · rintro ⟨rfl, h2⟩; exact ⟨rfl, h2⟩
    have hpg : pgw G st pg ds id = pg id := by
      unfold pgw
      rw [if_neg]
      intro hany
      obtain ⟨j, hj, he⟩ := List.any_eq_true.1 hany
      obtain ⟨rfl, hd⟩ := (hmem j).1 hj
      have he' : (G.F j).id = (id : Int) := by simpa using he
      refine hno j ha ⟨?_, he'⟩
      cases hu : (G.F j).us with
      | true => rfl
      | false =>
        have := (h.v.un j ha hu).1
        simp [dty, this] at hd
    refine ⟨(h.below hx).saved hs, ?_, ?_, fun i hi hh => ?_, by rw [hpg]; exact htx, by rw [hpg]; exact hln, fun i hi => ?_, hs.cm⟩
    · rw [hF]
      by_cases hd : dty G a = true
      · rw [if_pos ((hmem a).2 ⟨rfl, hd⟩)]; rfl
      · rw [if_neg (fun hm => hd ((hmem a).1 hm).2)]
        cases hu : (G.F a).us with
        | false => exact (h.v.un a ha hu).1
        | true =>
          obtain ⟨id', h1, h2⟩ := h.v.us a ha hu
          rcases h2.si with e | ⟨k0, r0, _, _, e3⟩
          · exact e
          · exfalso
            apply hd
            have := lnO_pos k0
            simp only [dty, decide_eq_true_eq]
            omega
    · rw [hF]; split
      · exact hpa
      · exact hpa
    · rw [hF] at hh
      split at hh
      · exact hno i hi hh
      · exact hno i hi hh
    · rw [hF, if_neg (fun hm => hi ((hmem i).1 hm).1)]
  have HNo : Hid (∀ i, i < X.n → ¬ (G.F i).has (id : Int)) := hno
  have hidH : Hid (id < 8) := hid
  clear h hno hid hp htx hln hk
  go_enter Tryz.func43, Tryz.ntmps43
  go_wp2_with (first
    | (go_at_call 60; refine CM.out.mono ?_; rintro e w1 ⟨rfl, rfl⟩)
    | (go_at_call 58; refine CF.out.mono ?_; rintro e w1 ⟨rfl, rfl⟩)
    | (go_at_call 65; refine CR.out.mono ?_; rintro e w2 ⟨rfl, b2⟩)
    | (refine wpList_new_o _ rfl rfl (zero_pg _) ?_; intro w3 b3 N3)
    | (refine wpList_put_o (A' := pgA (id : Int) tx ln) _ rfl (.tmp 7) (.tmp 25) rfl rfl rfl N3.blk info_pg rfl (one_pg _ _ _) ?_; intro w4 P4; have B4 : Hid (Below w1.heap.size w1 w4) := (thn b2 N3.below).trans (P4.off.below (fun k hk => (by have e3 := N3.eq; have s2 := b2.size; omega)) (by have s2 := b2.size; have s3 := N3.below.size; omega)); have p4 := P4.blk; clear P4 N3 b2)
    | (go_at_call 66; refine (CP.out _ B4.out).mono ?_; rintro e w5 ⟨a, rfl, ha, hpa, b5⟩; have B5 : Hid (Below w1.heap.size w1 w5) := thn B4.out b5; have p5 : Hid (w5.heap[b3]? = some (.cells (pgA (id : Int) tx ln) 83)) := (b5.block _ (lt_of_some p4)).trans p4; have c2 := (HC.out _ a B5.out ha).1; have ra := (HC.out _ a B5.out ha).2; have ha1 : (a : Int) < (X.n : Int) := (by omega); have ha2 : ¬ (a : Int) < 0 := (by omega); have ha3 : (a : Int) ≤ 64 := (by omega); have HA : Hid (a < X.n) := ha; have HPA : Hid ((G.F a).pn = 0) := hpa; clear ha hpa b5 B4 p4)
    | (go_at_call 62; refine (CS.out _ a B5.out HA.out).mono ?_; rintro e w6 ⟨y, rfl, h0, h9, K6⟩; rcases tor h0 h9 with ⟨rfl, hP⟩ | ⟨hy, hQ⟩ <;> first
        | (obtain ⟨ds, S6, sure6, sv6, O6⟩ := hP; have E6 := HE.out _ _ a ds S6 sure6 sv6 (B5.out.alloc (by exact B5.out.size) _) HA.out HPA.out O6; have p6 : w6.heap[b3]? = some (.cells (pgA (id : Int) tx ln) 83) := O6.kp.block _ _ ((((Below.refl _ _).alloc (Nat.le_refl _) _).block b3 (lt_of_some p5.out)).trans p5.out) (by simp [isQ, isA, isD, isL, isF]); have K6' : Hid (Kp isQ B w1 w6) := (Kp.of_below (B5.out.alloc (by exact B5.out.size) _) hle).trans O6.kp; obtain ⟨V6, e1, e2, e3, e4, e5, e6, e7⟩ := E6; have fr6 := V6.q.po.fr a HA.out; have HV6 : Hid (Pv B w6 X (k + 46) S6 cs sure6 { cln G ds with sv := sv6 } st pn (pgw G st pg ds)) := V6; have E1 : Hid (((cln G ds).F a).si = 0) := e1; have E2 : Hid (((cln G ds).F a).pn = 0) := e2; have E3 : Hid (∀ i, i < X.n → ¬ ((cln G ds).F i).has (id : Int)) := e3; have E4 : Hid (tx = txO cs (pgw G st pg ds id)) := e4; have E5 : Hid (ln = lnO (pgw G st pg ds id)) := e5; have E6 : Hid (∀ i, i ≠ a → (cln G ds).F i = G.F i) := e6; have E7 : Hid (S.set = false → S6.set = false) := e7; clear V6 e1 e2 e3 e4 e5 e6 e7 O6 h0 h9 c2 ra)
        | (have hyb : (y != 0) = true := (by simpa using hy); have HQ : Hid (y = 9 ∧ Ls B (w5.alloc (.cells #[.pointer (some ⟨X.fb a, 0, none⟩)] 79)) w6 X (k + 46) S cs) := hQ; clear h0 h9 hQ))
    | (refine wpList_load_o _ rfl (.tmp 7) rfl rfl p6 ?_)
    | (refine wpList_build_fm (i := (id : Int)) (t := tx) (l := ln) _ rfl (.tmp 49) rfl rfl ?_)
    | (refine wpList_put_o (A' := (⟨(id : Int), tx, ln, true, 0, 0⟩ : Fm).A) _ rfl (.tmp 51) (.tmp 50) rfl rfl rfl fr6 info_fm rfl (one_fm _) ?_; intro w7 P7; have U7 := HV6.out.q.po.putF HA.out (f := ⟨(id : Int), tx, ln, true, 0, 0⟩) P7.off P7.blk HV6.out.q.le; have Q7 : Hid (Pq B w7 X (k + 46) S6 cs sure6 (({ cln G ds with sv := sv6 } : Gp).set a ⟨(id : Int), tx, ln, true, 0, 0⟩)) := HV6.out.q.turn U7; have K7 : Hid (Kp isQ B w6 w7) := U7.2.f; have c3 := Q7.out.po.c3; have z3 := Q7.out.po.z 3; have c5 := Q7.out.po.c5; have z5 := Q7.out.po.z 5; clear U7 P7 fr6 p6))
  · have V6 := HV6.out
    have hh0 : (0 : Int) ≤ (a : Int) + 1 := by omega
    have hh1 : (a : Int) + 1 ≤ (X.n : Int) := by omega
    go_ret2
    have P8 := Q7.out.po.setP (G' := { ({ cln G ds with sv := sv6 } : Gp).set a ⟨(id : Int), tx, ln, true, 0, 0⟩ with hd := (a : Int) + 1 }) (i := 3) (u := .int .i64 ((a : Int) + 1)) rfl rfl hh0 hh1 Q7.out.le
    have Q8 := Q7.out.turn P8
    have P9 := fun x => Q8.po.setP (G' := { ({ ({ cln G ds with sv := sv6 } : Gp).set a ⟨(id : Int), tx, ln, true, 0, 0⟩ with hd := (a : Int) + 1 } : Gp) with tk := x }) (i := 5) (u := .int .i64 x) rfl rfl hh0 hh1 Q8.le
    have e4 := E4.out
    have e5 := E5.out
    have hF : ∀ i, upd (cln G ds).F a (⟨(id : Int), tx, ln, true, 0, 0⟩ : Fm) i = if i = a then ⟨(id : Int), tx, ln, true, 0, 0⟩ else (cln G ds).F i := fun i => rfl
    refine ⟨_, 0, rfl, fun _ => ⟨a, rfl, S6, sure6, _, pgw G st pg ds, ⟨Q8.turn (P9 _), V6.p, ?_⟩, HA.out, ?_, E7.out, ((K6'.out.trans K7.out).trans P8.2.f).trans (P9 _).2.f, fun i hi hp => ?_, fun _ => ?_, fun ⟨i, hi, hh⟩ => absurd hh (HNo.out i hi)⟩, fun e => absurd rfl e⟩
    · have := V6.v.taken HA.out hidH.out E3.out E2.out E1.out
      rw [← e4, ← e5] at this
      exact this
    · show (upd (cln G ds).F a (⟨(id : Int), tx, ln, true, 0, 0⟩ : Fm) a).has _
      rw [upd_same]
      exact ⟨rfl, rfl⟩
    · have hia : i ≠ a := fun e => by subst e; exact hp HPA.out
      show upd (cln G ds).F a (⟨(id : Int), tx, ln, true, 0, 0⟩ : Fm) i = _
      rw [upd_other _ _ hia]
      exact E6.out i hia
    · show (upd (cln G ds).F a (⟨(id : Int), tx, ln, true, 0, 0⟩ : Fm) a).si = 0
      rw [upd_same]
  · go_ret2
    refine ⟨_, y, rfl, fun e => absurd e hy, fun _ => ⟨rfl, HQ.out.1, ?_⟩⟩
    obtain ⟨q1, q2, q3⟩ := HQ.out.2
    exact ⟨q1, q2, (Kp.of_below (B5.out.alloc (by exact B5.out.size) _) hle).trans q3⟩
end
end Go.Proofs.YtgodjnbbocnckaaGreat

namespace Go.Proofs.YtgodjnbbocnckaaGreat
open Go.RowKit Go.Maps Go.ChangeMaps
set_option linter.unusedVariables false
set_option linter.unusedSimpArgs false
set_option maxRecDepth 100000

/-- Why a page is not taken into a frame. -/
structure Er (B : Nat) (w w' : World) (X : Ad) (k : Nat) (S : Dk) (cs : List Nat) (G : Gp) (id : Int) (y : Int) : Prop where
  or : (y = 6 ∧ ¬ (0 ≤ id ∧ id < 8) ∧ Below w.heap.size w w') ∨ (y = 7 ∧ (0 ≤ id ∧ id < 8) ∧ (∀ i, i < X.n → ¬ (G.F i).has id) ∧ (∀ i, i < X.n → (G.F i).pn ≠ 0) ∧ Below w.heap.size w w') ∨ (y = 9 ∧ (0 ≤ id ∧ id < 8) ∧ Ls B w w' X k S cs)
section
variable {B k k' sure sure1 m : Nat} {w w' wr : World} {S S' : Dk} {X : Ad} {G : Gp} {cs : List Nat} {st pg : Nat → Option Nat} {pn : Nat → Nat}
theorem first_has (F : Nat → Fm) (id : Int) (n : Nat) (h : ∃ j, j < n ∧ (F j).has id) : ∃ j, j < n ∧ (F j).has id ∧ ∀ i, i < j → ¬ (F i).has id := by
  induction n with
  | zero => obtain ⟨j, hj, _⟩ := h; omega
  | succ n ih =>
    by_cases h2 : ∃ j, j < n ∧ (F j).has id
    · obtain ⟨j, h1, h3, h4⟩ := ih h2
      exact ⟨j, by omega, h3, h4⟩
    · obtain ⟨j, hj, hh⟩ := h
      have : j = n := by
        rcases Nat.lt_or_ge j n with h5 | h5
        · exact absurd ⟨j, h5, hh⟩ h2
        · omega
      subst this
      exact ⟨j, by omega, hh, fun i hi hh2 => h2 ⟨i, hi, hh2⟩⟩
theorem set_set (j : Nat) (f f' : Fm) : (G.set j f).set j f' = G.set j f' := by
  unfold Gp.set
  congr 1
  funext i
  unfold upd
  split
  · rfl
  · rename_i h; dsimp only; rw [if_neg h]
theorem take_any (h : Pv B w X k S cs sure G st pn pg) (hk : k ≤ 29000) (id : Int) : Calls Tryz.prog 43 #[.pointer (some ⟨X.pb, 0, none⟩), .int .i64 id] w fun e w' => ∃ p y, e = .returned (.tuple #[p, .int .i64 y]) ∧ (y = 0 → ∃ j S' sure' G' pg', p = .pointer (some ⟨X.fb j, 0, none⟩) ∧ Tk B w w' X (k + 46) S cs G st pn id j S' sure' G' pg') ∧ (y ≠ 0 → p = .pointer none ∧ Er B w w' X (k + 46) S cs G id y) := by
  by_cases hid : 0 ≤ id ∧ id < 8
  · by_cases hex : ∃ j, j < X.n ∧ (G.F j).has id
    · obtain ⟨j, hj, hh, hlt⟩ := first_has G.F id X.n hex
      refine (take_hit h.q.po id j hj hh hlt).mono ?_
      rintro e w' ⟨he, rfl⟩
      refine ⟨_, 0, he, fun _ => ⟨j, S, sure, G, pg, rfl, h.mono (by omega), hj, hh, fun h => h, Kp.refl _ _ _, fun _ _ _ => rfl, fun hno => absurd hh (hno j hj), fun _ => rfl⟩, fun e => absurd rfl e⟩
    · obtain ⟨d, rfl⟩ : ∃ d : Nat, id = (d : Int) := ⟨id.toNat, by omega⟩
      have hno : ∀ i, i < X.n → ¬ (G.F i).has (d : Int) := fun i hi hh => hex ⟨i, hi, hh⟩
      by_cases hp : ∃ i, i < X.n ∧ (G.F i).pn = 0
      · refine (take_new h hk d (by omega) hno hp).mono ?_
        rintro e w' ⟨p, y, he, h0, h9⟩
        exact ⟨p, y, he, h0, fun hy => ⟨(h9 hy).1, by rw [(h9 hy).2.1]; exact ⟨Or.inr (Or.inr ⟨rfl, hid, (h9 hy).2.2⟩)⟩⟩⟩
      · have hp' : ∀ i, i < X.n → (G.F i).pn ≠ 0 := fun i hi e => hp ⟨i, hi, e⟩
        refine (take_full h d (by omega) hno hp').mono ?_
        rintro e w' ⟨he, hb⟩
        exact ⟨_, 7, he, fun e => by omega, fun _ => ⟨rfl, ⟨Or.inr (Or.inl ⟨rfl, hid, hno, hp', hb⟩)⟩⟩⟩
  · refine (take_out h id hid).mono ?_
    rintro e w' ⟨he, hb⟩
    exact ⟨_, 6, he, fun e => by omega, fun _ => ⟨rfl, ⟨Or.inl ⟨rfl, hid, hb⟩⟩⟩⟩
/-- Get. -/
structure GtO (B : Nat) (w w' : World) (X : Ad) (k : Nat) (S : Dk) (cs : List Nat) (G : Gp) (st : Nat → Option Nat) (pn : Nat → Nat) (id : Int) (t : ByteArray) (l y : Int) : Prop where
  ok : y = 0 → ∃ (d j : Nat) (S' : Dk) (sure' : Nat) (G' : Gp) (pg' : Nat → Option Nat), id = (d : Int) ∧ d < 8 ∧ t = txO cs (st d) ∧ l = lnO (st d) ∧ Tk B w w' X k S cs G st pn id j S' sure' G' pg'
  bad : y ≠ 0 → t = ⟨#[]⟩ ∧ l = 0 ∧ Er B w w' X k S cs G id y
theorem Tk.below {id : Int} {j : Nat} {S' : Dk} {G' : Gp} {pg' : Nat → Option Nat} (h : Tk B w wr X k S cs G st pn id j S' sure1 G' pg') (hb : Below wr.heap.size wr w') (hB : B ≤ w.heap.size) : Tk B w w' X k S cs G st pn id j S' sure1 G' pg' :=
  ⟨h.v.below hb, h.hj, h.has, h.cm, h.kp.below hb hB, h.keep, h.new, h.hit⟩
set_option maxHeartbeats 2000000 in
theorem Get_any (h : Pv B w X k S cs sure G st pn pg) (hk : k ≤ 29000) (id : Int) : Calls Tryz.prog 14 #[.pointer (some ⟨X.pb, 0, none⟩), .int .i64 id] w fun e w' => ∃ t l y, e = .returned (.tuple #[.string t, .int .i64 l, .int .i64 y]) ∧ GtO B w w' X (k + 46) S cs G st pn id t l y := by
  have CT : Hid (Calls Tryz.prog 43 #[.pointer (some ⟨X.pb, 0, none⟩), .int .i64 id] w fun e w' => ∃ p y, e = .returned (.tuple #[p, .int .i64 y]) ∧ (y = 0 → ∃ j S' sure' G' pg', p = .pointer (some ⟨X.fb j, 0, none⟩) ∧ Tk B w w' X (k + 46) S cs G st pn id j S' sure' G' pg') ∧ (y ≠ 0 → p = .pointer none ∧ Er B w w' X (k + 46) S cs G id y)) := take_any h hk id
  have hle := h.q.le
  clear h hk
  go_enter Tryz.func14, Tryz.ntmps14
  go_wp2_with (go_at_call 43; refine CT.out.mono ?_; rintro e w1 ⟨p, y, rfl, h0, h9⟩; rcases tor h0 h9 with ⟨rfl, hP⟩ | ⟨hy, hQ⟩ <;> first
    | (obtain ⟨j, S1, sure1, G1, pg1, rfl, T1⟩ := hP; have f1 := T1.v.q.po.f1 T1.hj; have f2 := T1.v.q.po.f2 T1.hj; have HT : Hid (Tk B w w1 X (k + 46) S cs G st pn id j S1 sure1 G1 pg1) := T1; clear T1 h0 h9)
    | (obtain ⟨rfl, hE⟩ := hQ; have hyb : (y != 0) = true := (by simpa using hy); have HE : Hid (Er B w w1 X (k + 46) S cs G id y) := hE; clear h0 h9 hE))
  · generalize ht : (G1.F j).tx = t at *
    generalize hl : (G1.F j).ln = l at *
    have HTx : Hid ((G1.F j).tx = t) := ht
    have HLn : Hid ((G1.F j).ln = l) := hl
    clear ht hl
    go_quiet (fail)
    go_wp2
    go_ret3
    obtain ⟨d, h1, h2⟩ := HT.out.v.v.us j HT.out.hj HT.out.has.1
    refine ⟨_, _, _, rfl, ⟨fun _ => ⟨d, j, S1, sure1, G1, pg1, ?_, h1, ?_, ?_, HT.out.below (Sm.below_dr (Below.refl _ _) nq) hle⟩, fun e => absurd rfl e⟩⟩
    · rw [← HT.out.has.2]; exact h2.id
    · rw [← HTx.out]; exact h2.tx
    · rw [← HLn.out]; exact h2.ln
  · go_ret3
    exact ⟨_, _, y, rfl, ⟨fun e => absurd e hy, fun _ => ⟨rfl, rfl, HE.out⟩⟩⟩
/-- A frame that is set. -/
def Fm.put (f : Fm) (t : ByteArray) (l : Int) : Fm := { f with tx := t, ln := l, si := if 0 < f.si then f.si else l }
structure StO (B : Nat) (w w' : World) (X : Ad) (k : Nat) (S : Dk) (cs : List Nat) (G : Gp) (st : Nat → Option Nat) (pn : Nat → Nat) (id : Int) (t : ByteArray) (l y : Int) : Prop where
  ok : y = 0 → ∃ (w1 : World) (j : Nat) (S' : Dk) (sure' : Nat) (G' : Gp) (pg' : Nat → Option Nat), Tk B w w1 X k S cs G st pn id j S' sure' G' pg' ∧ Pq B w' X k S' cs sure' (G'.set j ((G'.F j).put t l)) ∧ Kp isQ B w w'
  bad : y ≠ 0 → Er B w w' X k S cs G id y
set_option maxHeartbeats 4000000 in
theorem Set_any (h : Pv B w X k S cs sure G st pn pg) (hk : k ≤ 29000) (id : Int) (t : ByteArray) (ht : t.size = 224) (l : Int) (hl : 1 ≤ l) : Calls Tryz.prog 30 #[.pointer (some ⟨X.pb, 0, none⟩), .int .i64 id, .string t, .int .i64 l] w fun e w' => ∃ y, e = .returned (.int .i64 y) ∧ StO B w w' X (k + 46) S cs G st pn id t l y := by
  have CM : Hid (Calls Tryz.prog 60 #[.pointer (some ⟨X.pb, 0, none⟩)] w fun e w' => e = .returned (.bool true) ∧ w' = w) := isMade_po h.q.po
  have CT : Hid (Calls Tryz.prog 43 #[.pointer (some ⟨X.pb, 0, none⟩), .int .i64 id] w fun e w' => ∃ p y, e = .returned (.tuple #[p, .int .i64 y]) ∧ (y = 0 → ∃ j S' sure' G' pg', p = .pointer (some ⟨X.fb j, 0, none⟩) ∧ Tk B w w' X (k + 46) S cs G st pn id j S' sure' G' pg') ∧ (y ≠ 0 → p = .pointer none ∧ Er B w w' X (k + 46) S cs G id y)) := take_any h hk id
  have HS : Hid (∀ w1 j S1 sure1 G1 pg1, Tk B w w1 X (k + 46) S cs G st pn id j S1 sure1 G1 pg1 → Pq B ((w1.setCell ⟨X.fb j, 1, none⟩ (.string t)).setCell ⟨X.fb j, 2, none⟩ (.int .i64 l)) X (k + 46) S1 cs sure1 (G1.set j { G1.F j with tx := t, ln := l }) ∧ Kp isQ B w ((w1.setCell ⟨X.fb j, 1, none⟩ (.string t)).setCell ⟨X.fb j, 2, none⟩ (.int .i64 l)) ∧ ((w1.setCell ⟨X.fb j, 1, none⟩ (.string t)).setCell ⟨X.fb j, 2, none⟩ (.int .i64 l)).cell? ⟨X.fb j, 4, none⟩ = some (.int .i64 (G1.F j).si)) := fun w1 j S1 sure1 G1 pg1 T => by
    have P1 := T.v.q.po.setF T.hj (f := { G1.F j with tx := t }) (i := 1) (u := .string t) rfl T.v.q.le
    have Q1 := T.v.q.turn P1
    have P2 := Q1.po.setF T.hj (f := { G1.F j with tx := t, ln := l }) (i := 2) (u := .int .i64 l) (by
      show ((upd G1.F j ({ G1.F j with tx := t } : Fm)) j).A.setIfInBounds 2 _ = _
      rw [upd_same]; rfl) Q1.le
    have Q2 := Q1.turn P2
    have e : (G1.set j { G1.F j with tx := t }).set j { G1.F j with tx := t, ln := l } = G1.set j { G1.F j with tx := t, ln := l } := by
      unfold Gp.set
      congr 1
      funext i
      unfold upd
      split
      · rfl
      · rename_i h; dsimp only; rw [if_neg h]
    rw [e] at Q2
    refine ⟨Q2, (T.kp.trans P1.2.f).trans P2.2.f, ?_⟩
    have := Q2.po.f4 T.hj
    have e2 : ((G1.set j { G1.F j with tx := t, ln := l }).F j).si = (G1.F j).si := by
      show (upd G1.F j _ j).si = _
      rw [upd_same]
    rw [e2] at this
    exact this
  have hle := h.q.le
  have l1 : ¬ l < 1 := by omega
  have htI : (t.size : Int) = 224 := by omega
  clear h hk hl
  go_enter Tryz.func30, Tryz.ntmps30
  go_wp2_with (first
    | (go_at_call 60; refine CM.out.mono ?_; rintro e w0 ⟨rfl, rfl⟩)
    | (go_at_call 43; refine CT.out.mono ?_; rintro e w1 ⟨p, y, rfl, h0, h9⟩; rcases tor h0 h9 with ⟨rfl, hP⟩ | ⟨hy, hQ⟩ <;> first
        | (obtain ⟨j, S1, sure1, G1, pg1, rfl, T1⟩ := hP; have f1 := T1.v.q.po.f1 T1.hj; have f2 := T1.v.q.po.f2 T1.hj; have z1 := T1.v.q.po.fz T1.hj 1; have z2 := T1.v.q.po.fz T1.hj 2; have HT : Hid (Tk B w0 w1 X (k + 46) S cs G st pn id j S1 sure1 G1 pg1) := T1; have U := HS.out _ _ _ _ _ _ T1; have f4 := U.2.2; have HU : Hid (Pq B ((w1.setCell ⟨X.fb j, 1, none⟩ (.string t)).setCell ⟨X.fb j, 2, none⟩ (.int .i64 l)) X (k + 46) S1 cs sure1 (G1.set j { G1.F j with tx := t, ln := l }) ∧ Kp isQ B w0 ((w1.setCell ⟨X.fb j, 1, none⟩ (.string t)).setCell ⟨X.fb j, 2, none⟩ (.int .i64 l))) := ⟨U.1, U.2.1⟩; clear U T1 h0 h9; generalize hsi : (G1.F j).si = si at f4; have HSi : Hid ((G1.F j).si = si) := hsi; clear hsi)
        | (obtain ⟨rfl, hE⟩ := hQ; have hyb : (y != 0) = true := (by simpa using hy); have HE : Hid (Er B w0 w1 X (k + 46) S cs G id y) := hE; clear h0 h9 hE))
    | (go_at_call 59; refine (isDirty_at f4).mono ?_; rintro e w2 ⟨rfl, rfl⟩; have z4 := HU.out.1.po.fz HT.out.hj 4))
  · have hs : ¬ 0 < si := by simpa using ‹(!decide (0 < si)) = true›
    go_ret
    have P3 := HU.out.1.po.setF HT.out.hj (f := (G1.F j).put t l) (i := 4) (u := .int .i64 l) (by
      show ((upd G1.F j ({ G1.F j with tx := t, ln := l } : Fm)) j).A.setIfInBounds 4 _ = _
      rw [upd_same]
      unfold Fm.put
      rw [HSi.out, if_neg hs]; rfl) HU.out.1.le
    have Q3 := HU.out.1.turn P3
    rw [set_set] at Q3
    exact ⟨0, rfl, fun _ => ⟨w1, j, S1, sure1, G1, pg1, HT.out, Q3, HU.out.2.trans P3.2.f⟩, fun e => absurd rfl e⟩
  · have hs : 0 < si := by simpa using ‹(!decide (0 < si)) = false›
    go_ret
    have e : (G1.F j).put t l = { G1.F j with tx := t, ln := l } := by
      unfold Fm.put
      rw [if_pos (by rw [HSi.out]; exact hs)]
    refine ⟨0, rfl, fun _ => ⟨w1, j, S1, sure1, G1, pg1, HT.out, ?_, HU.out.2⟩, fun e => absurd rfl e⟩
    rw [e]
    exact HU.out.1
  · go_ret
    exact ⟨y, rfl, fun e => absurd e hy, fun _ => HE.out⟩
theorem Set_form (h : PoIs B w X G) (id : Int) (t : ByteArray) (ht : t.size ≠ 224) (hz : t.size ≤ 9223372036854775807) (l : Int) : Calls Tryz.prog 30 #[.pointer (some ⟨X.pb, 0, none⟩), .int .i64 id, .string t, .int .i64 l] w fun e w' => e = .returned (.int .i64 4) ∧ w' = w := by
  have CM : Hid (Calls Tryz.prog 60 #[.pointer (some ⟨X.pb, 0, none⟩)] w fun e w' => e = .returned (.bool true) ∧ w' = w) := isMade_po h
  have htI : ((t.size : Int) != 224) = true := by simp; omega
  clear h ht
  go_enter Tryz.func30, Tryz.ntmps30
  go_wp2_with (go_at_call 60; refine CM.out.mono ?_; rintro e w0 ⟨rfl, rfl⟩)
  go_ret
  exact ⟨rfl, rfl⟩
theorem Set_arg (h : PoIs B w X G) (id : Int) (t : ByteArray) (ht : t.size = 224) (l : Int) (hl : l < 1) : Calls Tryz.prog 30 #[.pointer (some ⟨X.pb, 0, none⟩), .int .i64 id, .string t, .int .i64 l] w fun e w' => e = .returned (.int .i64 1) ∧ w' = w := by
  have CM : Hid (Calls Tryz.prog 60 #[.pointer (some ⟨X.pb, 0, none⟩)] w fun e w' => e = .returned (.bool true) ∧ w' = w) := isMade_po h
  have htI : (t.size : Int) = 224 := by omega
  clear h
  go_enter Tryz.func30, Tryz.ntmps30
  go_wp2_with (go_at_call 60; refine CM.out.mono ?_; rintro e w0 ⟨rfl, rfl⟩)
  go_ret
  exact ⟨rfl, rfl⟩
theorem Pages_po (h : PoIs B w X G) (hs : StIs w X.sb X.db 40 8 1) : Calls Tryz.prog 31 #[.pointer (some ⟨X.pb, 0, none⟩)] w fun e w' => e = .returned (.int .i64 8) ∧ w' = w := by
  have CM : Hid (Calls Tryz.prog 60 #[.pointer (some ⟨X.pb, 0, none⟩)] w fun e w' => e = .returned (.bool true) ∧ w' = w) := isMade_po h
  have CP : Hid (Calls Tryz.prog 61 #[.pointer (some ⟨X.sb, 0, none⟩)] w fun e w' => e = .returned (.int .i64 8) ∧ w' = w) := StPages_any w hs
  have c0 := h.c0
  clear h hs
  go_enter Tryz.func31, Tryz.ntmps31
  go_wp2_with (first
    | (go_at_call 60; refine CM.out.mono ?_; rintro e w0 ⟨rfl, rfl⟩)
    | (go_at_call 61; refine CP.out.mono ?_; rintro e w1 ⟨rfl, rfl⟩))
  go_ret
  exact ⟨rfl, rfl⟩
/-- Is a page dirty? -/
def dtb (F : Nat → Fm) (n : Nat) (id : Int) : Bool := (List.range n).any (fun j => (F j).us && (F j).id == id && decide (0 < (F j).si))
theorem dtb_iff {F : Nat → Fm} {n : Nat} {id : Int} : dtb F n id = true ↔ ∃ j, j < n ∧ (F j).has id ∧ 0 < (F j).si := by
  unfold dtb
  rw [List.any_eq_true]
  constructor
  · rintro ⟨j, hj, h⟩
    simp only [Bool.and_eq_true, beq_iff_eq, decide_eq_true_eq] at h
    exact ⟨j, List.mem_range.1 hj, ⟨h.1.1, h.1.2⟩, h.2⟩
  · rintro ⟨j, hj, ⟨h1, h2⟩, h3⟩
    refine ⟨j, List.mem_range.2 hj, ?_⟩
    simp [h1, h2, h3]
theorem Dirty_any (h : Pv B w X k S cs sure G st pn pg) (id : Int) : Calls Tryz.prog 26 #[.pointer (some ⟨X.pb, 0, none⟩), .int .i64 id] w fun e w' => e = .returned (.bool (dtb G.F X.n id)) ∧ w' = w := by
  by_cases hex : ∃ j, j < X.n ∧ (G.F j).has id
  · obtain ⟨j, hj, hh, hlt⟩ := first_has G.F id X.n hex
    have CF : Hid (Calls Tryz.prog 58 #[.pointer (some ⟨X.pb, 0, none⟩), .int .i64 id] w fun e w' => e = .returned (.pointer (some ⟨X.fb j, 0, none⟩)) ∧ w' = w) := find_hit h.q.po id j hj hh hlt
    have e : dtb G.F X.n id = decide (0 < (G.F j).si) := by
      by_cases hd : 0 < (G.F j).si
      · rw [dtb_iff.2 ⟨j, hj, hh, hd⟩]; simp [hd]
      · have : dtb G.F X.n id = false := by
          cases hb : dtb G.F X.n id with
          | false => rfl
          | true =>
            obtain ⟨i, hi, h1, h2⟩ := dtb_iff.1 hb
            have := h.v.ds i j id hi hj h1 hh
            subst this
            exact absurd h2 hd
        rw [this]; simp [hd]
    rw [e]
    have CD : Hid (Calls Tryz.prog 59 #[.pointer (some ⟨X.fb j, 0, none⟩)] w fun e w' => e = .returned (.bool (decide (0 < (G.F j).si))) ∧ w' = w) := isDirty_at (h.q.po.f4 hj)
    clear h hex hh hlt e
    generalize decide (0 < (G.F j).si) = b at *
    go_enter Tryz.func26, Tryz.ntmps26
    go_wp2_with (first
      | (go_at_call 58; refine CF.out.mono ?_; rintro e w0 ⟨rfl, rfl⟩)
      | (go_at_call 59; refine CD.out.mono ?_; rintro e w1 ⟨rfl, rfl⟩))
    go_ret
    exact ⟨rfl, rfl⟩
  · have CF : Hid (Calls Tryz.prog 58 #[.pointer (some ⟨X.pb, 0, none⟩), .int .i64 id] w fun e w' => e = .returned (.pointer none) ∧ w' = w) := find_miss h.q.po id (fun i hi hh => hex ⟨i, hi, hh⟩)
    have e : dtb G.F X.n id = false := by
      cases hb : dtb G.F X.n id with
      | false => rfl
      | true =>
        obtain ⟨i, hi, h1, h2⟩ := dtb_iff.1 hb
        exact absurd ⟨i, hi, h1⟩ hex
    rw [e]
    clear h hex e
    go_enter Tryz.func26, Tryz.ntmps26
    go_wp2_with (go_at_call 58; refine CF.out.mono ?_; rintro e w0 ⟨rfl, rfl⟩)
    go_ret
    exact ⟨rfl, rfl⟩
/-- Pin. -/
structure PnO (B : Nat) (w w' : World) (X : Ad) (k : Nat) (S : Dk) (cs : List Nat) (G : Gp) (st : Nat → Option Nat) (pn : Nat → Nat) (id : Int) (y : Int) : Prop where
  ok : y = 0 → ∃ (w1 : World) (d j : Nat) (S' : Dk) (sure' : Nat) (G' : Gp) (pg' : Nat → Option Nat), id = (d : Int) ∧ d < 8 ∧ Tk B w w1 X k S cs G st pn id j S' sure' G' pg' ∧ Pv B w' X k S' cs sure' (G'.set j { G'.F j with pn := ((pn d + 1 : Nat) : Int) }) st (upd pn d (pn d + 1)) pg' ∧ Kp isQ B w w'
  bad : y ≠ 0 → Er B w w' X k S cs G id y
set_option maxHeartbeats 2000000 in
theorem Pin_any (h : Pv B w X k S cs sure G st pn pg) (hk : k ≤ 29000) (id : Int) (hp : ∀ d, pn d ≤ 1000) : Calls Tryz.prog 25 #[.pointer (some ⟨X.pb, 0, none⟩), .int .i64 id] w fun e w' => ∃ y, e = .returned (.int .i64 y) ∧ PnO B w w' X (k + 46) S cs G st pn id y := by
  have CT : Hid (Calls Tryz.prog 43 #[.pointer (some ⟨X.pb, 0, none⟩), .int .i64 id] w fun e w' => ∃ p y, e = .returned (.tuple #[p, .int .i64 y]) ∧ (y = 0 → ∃ j S' sure' G' pg', p = .pointer (some ⟨X.fb j, 0, none⟩) ∧ Tk B w w' X (k + 46) S cs G st pn id j S' sure' G' pg') ∧ (y ≠ 0 → p = .pointer none ∧ Er B w w' X (k + 46) S cs G id y)) := take_any h hk id
  have HF : Hid (∀ w1 j S1 sure1 G1 pg1, Tk B w w1 X (k + 46) S cs G st pn id j S1 sure1 G1 pg1 → ∃ d : Nat, id = (d : Int) ∧ d < 8 ∧ (G1.F j).pn = (pn d : Int) ∧ Pv B (w1.setCell ⟨X.fb j, 5, none⟩ (.int .i64 ((pn d : Int) + 1))) X (k + 46) S1 cs sure1 (G1.set j { G1.F j with pn := ((pn d + 1 : Nat) : Int) }) st (upd pn d (pn d + 1)) pg1 ∧ Kp isQ B w (w1.setCell ⟨X.fb j, 5, none⟩ (.int .i64 ((pn d : Int) + 1)))) := fun w1 j S1 sure1 G1 pg1 T => by
    obtain ⟨d, h1, h2⟩ := T.v.v.us j T.hj T.has.1
    have e : id = (d : Int) := by rw [← T.has.2]; exact h2.id
    subst e
    have P1 := T.v.q.po.setF T.hj (f := { G1.F j with pn := ((pn d + 1 : Nat) : Int) }) (i := 5) (u := .int .i64 ((pn d : Int) + 1)) rfl T.v.q.le
    exact ⟨d, rfl, h1, h2.pn, ⟨T.v.q.turn P1, T.v.p, T.v.v.pin T.hj T.has (pn d + 1)⟩, T.kp.trans P1.2.f⟩
  have HP : Hid (∀ d, pn d ≤ 1000) := hp
  clear h hk hp
  go_enter Tryz.func25, Tryz.ntmps25
  go_wp2_with (go_at_call 43; refine CT.out.mono ?_; rintro e w1 ⟨p, y, rfl, h0, h9⟩; rcases tor h0 h9 with ⟨rfl, hP⟩ | ⟨hy, hQ⟩ <;> first
    | (obtain ⟨j, S1, sure1, G1, pg1, rfl, T1⟩ := hP; obtain ⟨d, hd, hd8, hpn, V, K⟩ := HF.out _ _ _ _ _ _ T1; have f5 := T1.v.q.po.f5 T1.hj; rw [hpn] at f5; have z5 := T1.v.q.po.fz T1.hj 5; have HT : Hid (Tk B w w1 X (k + 46) S cs G st pn id j S1 sure1 G1 pg1) := T1; have HV : Hid (Pv B (w1.setCell ⟨X.fb j, 5, none⟩ (.int .i64 ((pn d : Int) + 1))) X (k + 46) S1 cs sure1 (G1.set j { G1.F j with pn := ((pn d + 1 : Nat) : Int) }) st (upd pn d (pn d + 1)) pg1) := V; have HK : Hid (Kp isQ B w (w1.setCell ⟨X.fb j, 5, none⟩ (.int .i64 ((pn d : Int) + 1)))) := K; have HD : Hid (id = (d : Int)) := hd; have HD8 : Hid (d < 8) := hd8; have hb := HP.out d; have hb2 : (pn d : Int) ≤ 1000 := (by omega); have hb3 : (0 : Int) ≤ (pn d : Int) := (by omega); clear T1 h0 h9 hd hd8 hpn V K hb)
    | (obtain ⟨rfl, hE⟩ := hQ; have hyb : (y != 0) = true := (by simpa using hy); have HE : Hid (Er B w w1 X (k + 46) S cs G id y) := hE; clear h0 h9 hE))
  · go_ret
    exact ⟨0, rfl, fun _ => ⟨w1, d, j, S1, sure1, G1, pg1, HD.out, HD8.out, HT.out, HV.out, HK.out⟩, fun e => absurd rfl e⟩
  · go_ret
    exact ⟨y, rfl, fun e => absurd e hy, fun _ => HE.out⟩
theorem Unpin_none (h : Pv B w X k S cs sure G st pn pg) (id : Int) (hz : ∀ d : Nat, id = (d : Int) → d < 8 → pn d = 0) : Calls Tryz.prog 27 #[.pointer (some ⟨X.pb, 0, none⟩), .int .i64 id] w fun e w' => e = .returned (.int .i64 8) ∧ w' = w := by
  have CM : Hid (Calls Tryz.prog 60 #[.pointer (some ⟨X.pb, 0, none⟩)] w fun e w' => e = .returned (.bool true) ∧ w' = w) := isMade_po h.q.po
  by_cases hex : ∃ j, j < X.n ∧ (G.F j).has id
  · obtain ⟨j, hj, hh, hlt⟩ := first_has G.F id X.n hex
    have CF : Hid (Calls Tryz.prog 58 #[.pointer (some ⟨X.pb, 0, none⟩), .int .i64 id] w fun e w' => e = .returned (.pointer (some ⟨X.fb j, 0, none⟩)) ∧ w' = w) := find_hit h.q.po id j hj hh hlt
    have f5 := h.q.po.f5 hj
    have e : (G.F j).pn = 0 := by
      obtain ⟨d, h1, h2⟩ := h.v.us j hj hh.1
      rw [h2.pn, hz d (by rw [← hh.2]; exact h2.id) h1]; rfl
    rw [e] at f5
    clear h hex hh hlt e hz
    go_enter Tryz.func27, Tryz.ntmps27
    go_wp2_with (first
      | (go_at_call 60; refine CM.out.mono ?_; rintro e w1 ⟨rfl, rfl⟩)
      | (go_at_call 58; refine CF.out.mono ?_; rintro e w0 ⟨rfl, rfl⟩))
    go_ret
    exact ⟨rfl, rfl⟩
  · have CF : Hid (Calls Tryz.prog 58 #[.pointer (some ⟨X.pb, 0, none⟩), .int .i64 id] w fun e w' => e = .returned (.pointer none) ∧ w' = w) := find_miss h.q.po id (fun i hi hh => hex ⟨i, hi, hh⟩)
    clear h hex hz
    go_enter Tryz.func27, Tryz.ntmps27
    go_wp2_with (first
      | (go_at_call 60; refine CM.out.mono ?_; rintro e w1 ⟨rfl, rfl⟩)
      | (go_at_call 58; refine CF.out.mono ?_; rintro e w0 ⟨rfl, rfl⟩))
    go_ret
    exact ⟨rfl, rfl⟩
theorem Unpin_ok (h : Pv B w X k S cs sure G st pn pg) (d : Nat) (hd : d < 8) (hz : pn d ≠ 0) (hb : pn d ≤ 1000) : Calls Tryz.prog 27 #[.pointer (some ⟨X.pb, 0, none⟩), .int .i64 (d : Int)] w fun e w' => e = .returned (.int .i64 0) ∧ ∃ j, j < X.n ∧ (G.F j).has (d : Int) ∧ Pv B w' X k S cs sure (G.set j { G.F j with pn := ((pn d - 1 : Nat) : Int) }) st (upd pn d (pn d - 1)) pg ∧ Kp isQ B w w' := by
  have CM : Hid (Calls Tryz.prog 60 #[.pointer (some ⟨X.pb, 0, none⟩)] w fun e w' => e = .returned (.bool true) ∧ w' = w) := isMade_po h.q.po
  obtain ⟨j, hj, hh, hlt⟩ := first_has G.F (d : Int) X.n (h.v.np d hd hz)
  have CF : Hid (Calls Tryz.prog 58 #[.pointer (some ⟨X.pb, 0, none⟩), .int .i64 (d : Int)] w fun e w' => e = .returned (.pointer (some ⟨X.fb j, 0, none⟩)) ∧ w' = w) := find_hit h.q.po (d : Int) j hj hh hlt
  have f5 := h.q.po.f5 hj
  have z5 := h.q.po.fz hj 5
  have e : (G.F j).pn = (pn d : Int) := (h.v.fat hj hh).2.pn
  rw [e] at f5
  have e2 : ((pn d - 1 : Nat) : Int) = (pn d : Int) - 1 := by omega
  have P1 := h.q.po.setF hj (f := { G.F j with pn := ((pn d - 1 : Nat) : Int) }) (i := 5) (u := .int .i64 ((pn d : Int) - 1)) (by rw [← e2]; rfl) h.q.le
  have HV : Hid (Pv B (w.setCell ⟨X.fb j, 5, none⟩ (.int .i64 ((pn d : Int) - 1))) X k S cs sure (G.set j { G.F j with pn := ((pn d - 1 : Nat) : Int) }) st (upd pn d (pn d - 1)) pg ∧ Kp isQ B w (w.setCell ⟨X.fb j, 5, none⟩ (.int .i64 ((pn d : Int) - 1)))) := ⟨⟨h.q.turn P1, h.p, h.v.pin hj hh (pn d - 1)⟩, P1.2.f⟩
  have HJ : Hid (j < X.n ∧ (G.F j).has (d : Int)) := ⟨hj, hh⟩
  have t1 : ((pn d : Int) == 0) = false := by simp; omega
  have t2 : (pn d : Int) ≤ 1000 := by omega
  have t3 : (1 : Int) ≤ (pn d : Int) := by omega
  clear h hj hh hlt e P1 hz hb hd
  go_enter Tryz.func27, Tryz.ntmps27
  go_wp2_with (first
    | (go_at_call 60; refine CM.out.mono ?_; rintro e w1 ⟨rfl, rfl⟩)
    | (go_at_call 58; refine CF.out.mono ?_; rintro e w0 ⟨rfl, rfl⟩))
  go_ret
  exact ⟨rfl, j, HJ.out.1, HJ.out.2, HV.out.1, HV.out.2⟩
end
end Go.Proofs.YtgodjnbbocnckaaGreat
