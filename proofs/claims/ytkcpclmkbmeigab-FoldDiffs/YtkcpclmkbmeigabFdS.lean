/- slices.Insert and slices.Delete at []api.Cell, of one cell. -/
import Derived.Test.YtkcpclmkbmeigabFdM
import Derived.Test.YtkcpclmkbmeigabGm
import Derived.OwnWalk
import Derived.Lib.AppendZerosOnto
import Derived.Lib.Overlaps
import Derived.Lib.Walk
import Derived.Laws.CopyRow
import Derived.Deep.RegionLaw
import Derived.MapKept
import Derived.Laws.AppendOwn
import Derived.Laws.Append
namespace Go.Proofs.Ytkcpclmkbmeigab.Fd
open Go.RowKit Gm
set_option linter.unusedVariables false
set_option linter.unusedSimpArgs false
set_option maxRecDepth 100000
def zC : Value := .agg #[.string ⟨#[]⟩, .string ⟨#[]⟩]
theorem append_own {sl el : TypeId} {k : Nat} {z : Value} (hE : El sl el k z) {w : World} {v : Value} {n : Nat} {xs : List Value} (hrow : w.ownsRow 0 el k v n xs) (ad : Addr) (hsp : ad.spot = none) (m c : Nat) (news : List Value) (hl : news.length = m * k)
    (hnews : ∀ j u, news[j]? = some u → w.cell? (ad.add j) = some u) (h1 : ∀ u ∈ news, u.oneCell' = true) (hm : 0 < m) (hn : n + m ≤ 100000) (ty : TypeId) :
    ∃ v' w', (Builtin.append_ #[sl, sl] ty #[v, .slice (some ad) m c]).run Try.prog w = .ok v' w' ∧ w'.ownsRow 0 el k v' (n + m) (xs ++ news) ∧ w.grownBy w' v.ownBlock ∧ (v'.ownBlock = v.ownBlock ∨ v'.ownBlock = some w.heap.size) := by
  obtain ⟨i, hi, hz0, hz1, hz2⟩ := hE.info
  have hby : (n + m) * i.bytes ≤ 140737488355328 := Nat.le_trans (Nat.mul_le_mul hn hz2) (by omega)
  obtain ⟨v', w', hr, ho, hgr, _⟩ := run_append_own (P := Try.prog) w 0 sl ty el i z k i.bytes hE.un hi hz0 hz1 rfl hE.zc hE.k0 v n xs hrow ad m c news hl hnews h1 (by unfold maxLen; omega) hby (Nat.zero_le _)
  refine ⟨v', w', hr, ho, hgr, ?_⟩
  have hl1 : news.length = m * i.size := by rw [hz1]; exact hl
  rcases hrow.2 with ⟨rfl, hn0⟩ | ⟨b, cap, cur, rfl, hbg, hgg, hnc, hcm, hcs, htake⟩
  · subst hn0
    have hr2 := run_append_nil (P := Try.prog) w sl ty el i z hE.un hi hz0 ad m c news hl1 hnews hm (by omega) (by rw [Nat.zero_add] at hby; omega)
    rw [hr2] at hr
    injection hr with e1 e2
    subst e1
    exact Or.inr rfl
  · by_cases hroom : n + m ≤ cap
    · have hr2 := run_append_room (P := Try.prog) w sl ty el i hE.un hi b n cap cur hgg ad m c news hl1 hnews h1 hroom (by rw [hz1, hcs, hl, ← Nat.add_mul]; exact Nat.mul_le_mul_right _ hroom)
      rw [hr2] at hr
      injection hr with e1 e2
      subst e1
      exact Or.inl rfl
    · have holds : ∀ j u, xs[j]? = some u → w.cell? ((⟨b, 0, none⟩ : Addr).add j) = some u := by
        intro j u hu
        have hadd : (⟨b, 0, none⟩ : Addr).add j = ⟨b, j, none⟩ := by unfold Addr.add; split <;> simp_all
        rw [hadd, cell_of_row w b j cur el (0, 0) hgg]
        rw [← htake, List.getElem?_take] at hu
        split at hu
        · simpa using hu
        · cases hu
      have hr2 := run_append_grow (P := Try.prog) w sl ty el i z hE.un hi hz0 ⟨b, 0, none⟩ n cap xs (by rw [hz1, hrow.1]) holds ad m c news hl1 hnews (by omega) (by omega) (growslice_fits (by omega) (by omega))
      rw [hr2] at hr
      injection hr with e1 e2
      subst e1
      exact Or.inr rfl
theorem wpList_append_gen {ops : Array Oper} {rest : List Oper} {o : Oper} {act : Act} {Q : Exit → Act → World → Prop} {w : World} {sl el : TypeId} {k : Nat} {z : Value} (hE : El sl el k z) (hgd : o.guard = none) (s x : Operand)
    (ho : o.op = .call { callee := .builtin .append, args := #[s, x], argTypes := #[sl, sl] }) {v : Value} {n : Nat} {xs : List Value} (hs : act.eval s = v) (hrow : w.ownsRow 0 el k v n xs)
    {ad : Addr} {m c : Nat} {news : List Value} (hx : act.eval x = .slice (some ad) m c) (hsp : ad.spot = none) (hl : news.length = m * k) (hnews : ∀ j u, news[j]? = some u → w.cell? (ad.add j) = some u) (h1 : ∀ u ∈ news, u.oneCell' = true) (hm : 0 < m) (hn : n + m ≤ 100000)
    (K : ∀ v' w', w'.ownsRow 0 el k v' (n + m) (xs ++ news) → w.grownBy w' v.ownBlock → (v'.ownBlock = v.ownBlock ∨ v'.ownBlock = some w.heap.size) → wpList Try.prog ops Q rest (act.put o.dst v') w') : wpList Try.prog ops Q (o :: rest) act w := by
  refine wpList_plain hgd fun K' hK => ?_
  obtain ⟨v', w', hr, h2, h3, h4⟩ := append_own hE hrow ad hsp m c news hl hnews h1 hm hn o.type
  unfold Oper.wp execOp
  simp only [ho, resolve, invoke, builtin, Sem.run_bind, Sem.run_pure, Result.andThen_ok, List.map_toArray, List.map_cons, List.map_nil, hs, hx, hr]
  exact hK _ _ (K v' w' h2 h3 h4)
theorem run_copy_k (w : World) (dT sT ty elem : TypeId) (sz g o dLen dCap : Nat) (a : Addr) (sLen sCap : Nat) (cur : Array Value) (t : TypeId) (cs : List Value)
    (hu : Try.prog.underlying dT = some (.slice elem)) (hs : (Try.prog.info? elem).map (·.size) = some sz)
    (hg : w.heap[g]? = some (.cells cur t (0, 0))) (hn : cs.length = Nat.min sLen dLen * sz)
    (hsrc : ∀ j v, cs[j]? = some v → w.cell? (a.add j) = some v) (hfit : o + cs.length ≤ cur.size) (h1 : ∀ v ∈ cs, v.oneCell' = true) :
    (Builtin.copy_ #[dT, sT] ty #[.slice (some ⟨g, o, none⟩) dLen dCap, .slice (some a) sLen sCap]).run Try.prog w =
      .ok (goInt (Nat.min sLen dLen)) (w.setRow g (cur.toList.take o ++ cs ++ cur.toList.drop (o + cs.length)).toArray) := by
  have hl := run_loadCells_list (P := Try.prog) w a cs hsrc
  have hst := run_storeCells_at Try.prog g o t cs 0 cur w hg (by simpa using hfit) h1
  cases hq : Try.prog.info? elem with
  | none => simp [hq] at hs
  | some i =>
    have hi : i.size = sz := by simpa [hq] using hs
    simp [Builtin.copy_, run_underlying hu, Builtin.lenOf, Builtin.firstCells, sizeOf, typeInfo, hq, hi, ← hn, hl, hst]
theorem step_copy_run {ops : Array Oper} {o : Oper} {a : Act} {w : World} {K : Act → World → Prop} {Q : Exit → Act → World → Prop} {E : Prop}
    (hg : o.guard = none) (d x : Operand) (dT sT : TypeId) (hop : o.op = Op.call { callee := Callee.builtin Builtin.copy, args := #[d, x], argTypes := #[dT, sT] })
    (v u : Value) (hd : a.eval d = v) (hx : a.eval x = u) {v' : Value} {w' : World} (hr : (Builtin.copy_ #[dT, sT] o.type #[v, u]).run Try.prog w = .ok v' w') (hK : K (a.put o.dst v') w') :
    if Region.wanted o (yielded ops a.tmps) = true then Oper.wp Try.prog o a w K Q else E := by
  have hw : Region.wanted o (yielded ops a.tmps) = true := by simp [Region.wanted, hg]
  rw [if_pos hw]
  unfold Oper.wp
  simp [execOp, hop, resolve, invoke, builtin, hd, hx, hr, Result.andThen]
  exact hK
theorem elC : El 35 41 2 (.agg #[.string ⟨#[]⟩, .string ⟨#[]⟩]) := ⟨Try.underlying35, by
  obtain ⟨i, h1, h2, h3, h4⟩ := info_parts (show (Try.prog.info? 41).map (fun i => (i.zero, i.size, i.bytes)) = some (some (.agg #[.string ⟨#[]⟩, .string ⟨#[]⟩]), 2, 32) by kernel_rfl)
  exact ⟨i, h1, h2, h3, by omega⟩, rfl, by omega⟩
theorem size_ce : (Try.prog.info? 41).map (·.size) = some 2 := by kernel_rfl
theorem stC : St 41 2 := ⟨⟨_, Try.underlying41⟩, by kernel_rfl⟩
/-- What a row of pairs is with one more at place i. -/
def ins2 (xs : List Value) (i : Nat) (p t : Value) : List Value := xs.take (i * 2) ++ [p, t] ++ xs.drop (i * 2)
theorem ins2_end {xs : List Value} {n : Nat} (h : xs.length = n * 2) (p t : Value) : ins2 xs n p t = xs ++ [p, t] := by
  unfold ins2
  rw [List.take_of_length_le (by omega), List.drop_of_length_le (by omega), List.append_nil]
structure Inew (w w' : World) (v v' : Value) (n : Nat) (xs : List Value) : Prop where
  row : w'.ownsRow 0 41 2 v' n xs
  gr : w.grownBy w' v.ownBlock
  own : v'.ownBlock = v.ownBlock ∨ ∃ g, v'.ownBlock = some g ∧ w.heap.size ≤ g
theorem cell_pair {w : World} {vb : Nat} {p t : Value} {ty : TypeId} (h : w.heap[vb]? = some (.cells #[p, t] ty)) : ∀ j u, [p, t][j]? = some u → w.cell? ((⟨vb, 0, none⟩ : Addr).add j) = some u := fun j u hj => by
  have hadd : (⟨vb, 0, none⟩ : Addr).add j = ⟨vb, j, none⟩ := by unfold Addr.add; split <;> simp_all
  rw [hadd, cell_of_row w vb j _ ty (0, 0) h]
  simpa using hj
set_option maxHeartbeats 1000000 in
theorem Insert_end {w : World} {v : Value} {n : Nat} {xs : List Value} (hrow : w.ownsRow 0 41 2 v n xs) (hn : n ≤ 1000) (vb : Nat) (p : ByteArray) (t : ByteArray) (hvb : w.heap[vb]? = some (.cells #[.string p, .string t] 41)) :
    Calls Try.prog 29 #[v, .int .i64 (n : Int), .slice (some ⟨vb, 0, none⟩) 1 1] w fun e w' => ∃ v', e = .returned v' ∧ Inew w w' v v' (n + 1) (ins2 xs n (.string p) (.string t)) := by
  rw [ins2_end hrow.1]
  have hnews := cell_pair hvb
  have hv : ∃ a c, v = .slice a n c ∧ n ≤ c ∧ c ≤ maxLen ∧ (a = none → c = 0) ∧ ∀ ad, a = some ad → ad = ⟨ad.block, 0, none⟩ := by
    rcases hrow.2 with ⟨rfl, hn0⟩ | ⟨b, cap, cur, rfl, hb, hg, h1, h2, h3, h4⟩
    · subst hn0
      exact ⟨none, 0, rfl, Nat.le_refl _, by unfold maxLen; omega, fun _ => rfl, fun _ e => by cases e⟩
    · exact ⟨_, cap, rfl, h1, h2, (fun e => by cases e), fun ad e => by cases e; rfl⟩
  obtain ⟨a, c, rfl, hc, hcm, ha, hb⟩ := hv
  have hcm' : c ≤ 9223372036854775807 := by unfold maxLen at hcm; omega
  rcases a with _ | ⟨ab, ao, asp⟩
  · have hc0 := ha rfl
    subst hc0
    have hn0 : n = 0 := by omega
    subst hn0
    clear hcm hb ha hvb
    go_enter Try.func29, Try.ntmps29
    go_wp2_with (at_builtin; refine wpList_append_gen elC rfl _ _ rfl rfl hrow (m := 1) (c := 1) (news := [.string p, .string t]) rfl rfl rfl hnews (by intro u hu; simp at hu; rcases hu with rfl | rfl <;> rfl) (by omega) (by omega) ?_; intro v' w' r1 g1 o1)
    go_ret
    exact ⟨_, rfl, r1, g1, o1.imp id (fun e => ⟨_, e, Nat.le_refl _⟩)⟩
  · have e := hb _ rfl
    cases e
    clear hcm hb ha hvb
    go_enter Try.func29, Try.ntmps29
    go_wp2_with (at_builtin; refine wpList_append_gen elC rfl _ _ rfl rfl hrow (m := 1) (c := 1) (news := [.string p, .string t]) rfl rfl rfl hnews (by intro u hu; simp at hu; rcases hu with rfl | rfl <;> rfl) (by omega) (by omega) ?_; intro v' w' r1 g1 o1)
    all_goals go_ret
    all_goals exact ⟨_, rfl, r1, g1, o1.imp id (fun e => ⟨_, e, Nat.le_refl _⟩)⟩
theorem take_cat {xs ys : List Value} {n : Nat} (h : xs.length = n) : (xs ++ ys).take n = xs := by subst h; simp
theorem drop_cat {xs ys : List Value} {n : Nat} (h : xs.length = n) : (xs ++ ys).drop n = ys := by subst h; simp
theorem shift_row {cur : Array Value} {xs : List Value} {n c i : Nat} (hx : cur.toList.take (n * 2) = xs) (hl : xs.length = n * 2) (hi : i < n) (hc : n + 1 ≤ c) (hz : cur.size = c * 2) (p t : Value) :
    let R1 := cur.toList.take ((i + 1) * 2) ++ xs.drop (i * 2) ++ cur.toList.drop ((i + 1) * 2 + (xs.drop (i * 2)).length)
    R1.take (i * 2) ++ [p, t] ++ R1.drop (i * 2 + 2) = ins2 xs i p t ++ cur.toList.drop ((n + 1) * 2) := by
  intro R1
  have hcl : cur.toList.length = c * 2 := by simpa using hz
  have hxd : (xs.drop (i * 2)).length = (n - i) * 2 := by rw [List.length_drop, hl]; omega
  have e0 : cur.toList.take ((i + 1) * 2) = xs.take (i * 2) ++ (cur.toList.drop (i * 2)).take 2 := by
    rw [← hx, List.take_take, show min (i * 2) (n * 2) = i * 2 by omega, show (i + 1) * 2 = i * 2 + 2 by omega, List.take_add]
  have e1 : R1 = xs.take (i * 2) ++ ((cur.toList.drop (i * 2)).take 2 ++ (xs.drop (i * 2) ++ cur.toList.drop ((n + 1) * 2))) := by
    show cur.toList.take ((i + 1) * 2) ++ xs.drop (i * 2) ++ cur.toList.drop ((i + 1) * 2 + (xs.drop (i * 2)).length) = _
    rw [e0, hxd, show (i + 1) * 2 + (n - i) * 2 = (n + 1) * 2 by omega]
    simp only [List.append_assoc]
  have l1 : (xs.take (i * 2)).length = i * 2 := by rw [List.length_take, hl]; omega
  have l2 : ((cur.toList.drop (i * 2)).take 2).length = 2 := by rw [List.length_take, List.length_drop, hcl]; omega
  rw [e1, take_cat l1, ← List.drop_drop, drop_cat l1, drop_cat l2]
  unfold ins2
  simp only [List.append_assoc]
theorem ins2_length {xs : List Value} {n i : Nat} (hl : xs.length = n * 2) (hi : i ≤ n) (p t : Value) : (ins2 xs i p t).length = (n + 1) * 2 := by
  unfold ins2
  simp only [List.length_append, List.length_take, List.length_drop, hl, List.length_cons, List.length_nil]
  omega
theorem grown_setRow2 (w : World) (b : Nat) (r1 r2 : Array Value) : w.grownBy ((w.drew.setRow b r1).setRow b r2) (some b) := ⟨rfl, rfl, rfl, by simp, fun k _ hk => (setRow_other _ b k _ (fun e => hk (by rw [e]))).trans (setRow_other w.drew b k _ (fun e => hk (by rw [e])))⟩
set_option maxHeartbeats 2000000 in
theorem Insert_room {w : World} {ab c n i : Nat} {cur : Array Value} {xs : List Value} (hb : w.heap[ab]? = some (.cells cur 41)) (hcm : c ≤ maxLen) (hz : cur.size = c * 2) (hx : cur.toList.take (n * 2) = xs) (hl : xs.length = n * 2) (h1 : ∀ u ∈ xs, u.oneCell' = true) (hi : i < n) (hc : n + 1 ≤ c) (hn : n ≤ 1000) (vb : Nat) (p : ByteArray) (t : ByteArray) (hvb : w.heap[vb]? = some (.cells #[.string p, .string t] 41)) (hne : vb ≠ ab) :
    Calls Try.prog 29 #[.slice (some ⟨ab, 0, none⟩) n c, .int .i64 (i : Int), .slice (some ⟨vb, 0, none⟩) 1 1] w fun e w' => ∃ v', e = .returned v' ∧ Inew w w' (.slice (some ⟨ab, 0, none⟩) n c) v' (n + 1) (ins2 xs i (.string p) (.string t)) := by
  have hnews := cell_pair hvb
  have hcm' : c ≤ 9223372036854775807 := by unfold maxLen at hcm; omega
  have hov : ∀ lb cb, (callFunc 39 #[.slice (some ⟨vb, 0, none⟩) 1 1, .slice (some ⟨ab, (i + 1) * 2, none⟩) lb cb]).run Try.prog w = .ok (.value (.bool false)) w := fun lb cb => by
    rw [run_callFunc_extern Try.func39 (by kernel_rfl) (by kernel_rfl) (by kernel_rfl) (e := Extern.SlicesOverlaps.overlaps #[35, 35] #[4]) (by kernel_rfl),
      Lib.run_overlaps_apart w 35 4 41 Try.underlying35 2 (fun w => by kernel_rfl) ⟨vb, 0, none⟩ ⟨ab, (i + 1) * 2, none⟩ 1 1 lb cb hne 41 41 2 (c * 2) (by simp [World.shape?, hvb]) (by simp [World.shape?, hb, hz]) (by omega) (by simp [World.frozen?, hvb]) (by simp [World.frozen?, hvb])]
    rfl
  have hxd : (xs.drop (i * 2)).length = (n - i) * 2 := by rw [List.length_drop, hl]; omega
  have hcp1 : ∀ ty dc sc, (Builtin.copy_ #[35, 35] ty #[.slice (some ⟨ab, (i + 1) * 2, none⟩) (n - i) dc, .slice (some ⟨ab, i * 2, none⟩) (n + 1 - i) sc]).run Try.prog w.drew = _ := fun ty dc sc =>
    run_copy_k w.drew _ _ ty 41 2 ab ((i + 1) * 2) (n - i) dc ⟨ab, i * 2, none⟩ (n + 1 - i) sc cur 41 (xs.drop (i * 2)) Try.underlying35 size_ce hb (by rw [hxd]; simp only [Nat.min_def]; split <;> omega)
      (fun j v hj => by
        have hadd : (⟨ab, i * 2, none⟩ : Addr).add j = ⟨ab, i * 2 + j, none⟩ := by unfold Addr.add; split <;> simp_all
        rw [hadd, cell_of_row w.drew ab _ cur 41 (0, 0) hb]
        rw [List.getElem?_drop, ← hx, List.getElem?_take] at hj
        split at hj
        · simpa using hj
        · cases hj)
      (by rw [hxd, hz]; omega) (fun u hu => h1 u (List.mem_of_mem_drop hu))
  obtain ⟨R1, hR1⟩ : ∃ R1, R1 = cur.toList.take ((i + 1) * 2) ++ xs.drop (i * 2) ++ cur.toList.drop ((i + 1) * 2 + (xs.drop (i * 2)).length) := ⟨_, rfl⟩
  have hR2 := shift_row hx hl hi hc hz (.string p) (.string t)
  simp only [] at hR2
  rw [← hR1] at hR2
  have hRl : R1.length = c * 2 := by
    rw [hR1]
    simp only [List.length_append, List.length_take, List.length_drop, hl, Array.length_toList, hz]
    omega
  have hbk1 : (w.drew.setRow ab R1.toArray).heap[ab]? = some (.cells R1.toArray 41) := setRow_heap w.drew ab cur _ 41 _ hb
  have hcp2 : ∀ ty dc, (Builtin.copy_ #[35, 35] ty #[.slice (some ⟨ab, i * 2, none⟩) (n + 1 - i) dc, .slice (some ⟨vb, 0, none⟩) 1 1]).run Try.prog (w.drew.setRow ab R1.toArray) = _ := fun ty dc =>
    run_copy_k (w.drew.setRow ab R1.toArray) _ _ ty 41 2 ab (i * 2) (n + 1 - i) dc ⟨vb, 0, none⟩ 1 1 R1.toArray 41 [.string p, .string t] Try.underlying35 size_ce hbk1 (by rw [show Nat.min 1 (n + 1 - i) = 1 from Nat.min_eq_left (by omega)]; rfl)
      (fun j v hj => by
        have := hnews j v hj
        rwa [World.cell?_of_block (w := w) (w' := w.drew.setRow ab R1.toArray)]
        have : ((⟨vb, 0, none⟩ : Addr).add j).block = vb := by unfold Addr.add; split <;> rfl
        rw [this]
        exact setRow_other w.drew ab vb _ hne)
      (by simp [hRl]; omega) (by intro u hu; simp at hu; rcases hu with rfl | rfl <;> rfl)
  rw [← hR1] at hcp1
  have e2 : (List.take (i * 2) R1 ++ [Value.string p, .string t] ++ List.drop (i * 2 + [Value.string p, .string t].length) R1) = ins2 xs i (.string p) (.string t) ++ cur.toList.drop ((n + 1) * 2) := hR2
  have e3 : R1.toArray.toList = R1 := rfl
  rw [e3, e2] at hcp2
  have hlen := ins2_length hl (Nat.le_of_lt hi) (.string p) (.string t)
  have HF : Hid (((w.drew.setRow ab R1.toArray).setRow ab (ins2 xs i (.string p) (.string t) ++ cur.toList.drop ((n + 1) * 2)).toArray).ownsRow 0 41 2 (.slice (some ⟨ab, 0, none⟩) (n + 1) c) (n + 1) (ins2 xs i (.string p) (.string t))) :=
    ⟨hlen, Or.inr ⟨ab, c, _, rfl, Nat.zero_le _, setRow_heap _ ab _ _ 41 _ hbk1, hc, hcm, by simp only [List.size_toArray, List.length_append, hlen, List.length_drop, Array.length_toList, hz]; omega, take_cat hlen⟩⟩
  generalize (ins2 xs i (.string p) (.string t) ++ cur.toList.drop ((n + 1) * 2)).toArray = R2 at *
  have hw1 : IntKind.i64.wrap ((i : Int) + 1) = (i : Int) + 1 := by rw [IntKind.wrap_i64]; omega
  have hb1 : (0 : Int) ≤ (i : Int) + 1 := by omega
  have hz2 : ¬ ((i : Int) = (n : Int)) := by omega
  have htn : ((i : Int) + 1).toNat = i + 1 := by omega
  have hb2 : ¬ (c = i + 1) := by omega
  have hb3 : (i : Int) ≤ (n : Int) + 1 := by omega
  have hb4 : ¬ (c = i) := by omega
  have hin : i ≤ n := by omega
  clear hlen hR2 hbk1 hx h1 hl hR1 hxd hnews hvb hb hcm hRl hz e2 e3
  go_enter Try.func29, Try.ntmps29
  go_wp2_with (simp only [hov])
  go_region_law (refine step_copy_run rfl _ _ 35 35 rfl _ _ (by simp [Act.eval, Act.put]) (by simp [Act.eval, Act.put]) (hcp1 _ _ _) ?_)
  go_wp2_with (at_builtin; refine Lib.wpList_copy_run _ rfl _ _ 35 35 rfl _ _ rfl rfl (hcp2 _ _) ?_)
  go_ret
  exact ⟨_, rfl, ⟨HF.out, grown_setRow2 w ab _ _, Or.inl rfl⟩⟩
theorem zeroCells_size (z : Array Value) (n : Nat) : (Builtin.zeroCells z n).size = n * z.size := by simp [Builtin.zeroCells]
theorem grow_row {ROW : List Value} {xs : List Value} {n G i : Nat} (hx : ROW.take (i * 2) = xs.take (i * 2)) (hl : xs.length = n * 2) (hi : i < n) (hG : n + 1 ≤ G) (hz : ROW.length = G * 2) (p t : Value) :
    let R1 := ROW.take (i * 2) ++ [p, t] ++ ROW.drop (i * 2 + 2)
    R1.length = G * 2 ∧ R1.take ((i + 1) * 2) ++ xs.drop (i * 2) ++ R1.drop ((i + 1) * 2 + (xs.drop (i * 2)).length) = ins2 xs i p t ++ ROW.drop ((n + 1) * 2) := by
  intro R1
  have hxd : (xs.drop (i * 2)).length = (n - i) * 2 := by rw [List.length_drop, hl]; omega
  have l1 : (ROW.take (i * 2) ++ [p, t]).length = (i + 1) * 2 := by simp only [List.length_append, List.length_take, hz, List.length_cons, List.length_nil]; omega
  refine ⟨by simp only [R1, List.length_append, List.length_take, List.length_drop, hz, List.length_cons, List.length_nil]; omega, ?_⟩
  rw [hxd, ← List.drop_drop, take_cat l1, drop_cat l1, List.drop_drop, hx, show i * 2 + 2 + (n - i) * 2 = (n + 1) * 2 by omega]
  unfold ins2
  simp only [List.append_assoc]
set_option maxHeartbeats 2000000 in
theorem Insert_grow {w : World} {ab c n i : Nat} {cur : Array Value} {xs : List Value} (hb : w.heap[ab]? = some (.cells cur 41)) (hz : cur.size = c * 2) (hx : cur.toList.take (n * 2) = xs) (hl : xs.length = n * 2) (h1 : ∀ u ∈ xs, u.oneCell' = true) (hi : i < n) (hnc : n ≤ c) (hc : c < n + 1) (hn : n ≤ 1000) (vb : Nat) (p : ByteArray) (t : ByteArray) (hvb : w.heap[vb]? = some (.cells #[.string p, .string t] 41)) (hne : vb ≠ ab) :
    Calls Try.prog 29 #[.slice (some ⟨ab, 0, none⟩) n c, .int .i64 (i : Int), .slice (some ⟨vb, 0, none⟩) 1 1] w fun e w' => ∃ v', e = .returned v' ∧ Inew w w' (.slice (some ⟨ab, 0, none⟩) n c) v' (n + 1) (ins2 xs i (.string p) (.string t)) := by
  have hnews := cell_pair hvb
  have hcn : c = n := by omega
  subst hcn
  obtain ⟨i0, hi0, hz0, hzs, hzb⟩ := info_parts (show (Try.prog.info? 41).map (fun i => (i.zero, i.size, i.bytes)) = some (some zC, 2, 32) by kernel_rfl)
  have hsrc : ∀ (w' : World), w'.heap[ab]? = some (.cells cur 41) → ∀ j u, j < c * 2 → xs[j]? = some u → w'.cell? ⟨ab, j, none⟩ = some u := fun w' hw j u hj hu => by
    rw [cell_of_row w' ab j cur 41 (0, 0) hw]
    rw [← hx, List.getElem?_take, if_pos hj] at hu
    simpa using hu
  have hadd : ∀ (b o j : Nat), (⟨b, o, none⟩ : Addr).add j = ⟨b, o + j, none⟩ := fun b o j => by unfold Addr.add; split <;> simp_all
  have htl : (xs.take (i * 2)).length = i * 2 := by rw [List.length_take, hl]; omega
  have hold : (Builtin.firstCells i0.size i (.slice (some ⟨ab, 0, none⟩) i c)).run Try.prog w.drew = .ok (xs.take (i * 2)).toArray w.drew := by
    rw [hzs]
    exact run_firstCells_some w.drew 2 i ⟨ab, 0, none⟩ i c (xs.take (i * 2)) (by rw [htl]) (fun j u hj => by
      rw [hadd, Nat.zero_add]
      rw [List.getElem?_take] at hj
      split at hj
      · exact hsrc w.drew hb j u (by omega) hj
      · cases hj)
  have hik : i + (c + 1 - i) = c + 1 := by omega
  have hkk : (c : Int) + 1 - (i : Int) = ((c + 1 - i : Nat) : Int) := by omega
  have hrz : ∀ ty, (Builtin.append_ #[35, 3] ty #[.slice (some ⟨ab, 0, none⟩) i c, .int .i64 ((c : Int) + 1 - (i : Int))]).run Try.prog w = .ok (.slice (some ⟨w.heap.size, 0, none⟩) (c + 1) (grownCap w (c + 1) c 41)) (w.drew.alloc (.cells ((xs.take (i * 2)).toArray ++ Builtin.zeroCells zC.cells (c + 1 - i) ++ Builtin.zeroCells zC.cells (grownCap w (c + 1) c 41 - (c + 1))) 41)) := fun ty => by
    have h := Lib.run_append_grow_zeros w 35 3 ty 41 i0 _ .i64 .i64 Try.underlying35 Try.underlying3 hi0 hz0 (some ⟨ab, 0, none⟩) i c (xs.take (i * 2)) hold (c + 1 - i) (by omega) (by omega) (by omega) (by omega) (by rw [hzb]; omega) (by rw [hzb, hik]; exact growslice_fits (by omega) (by omega))
    rw [hik] at h
    rw [hkk]
    exact h
  obtain ⟨G, hG⟩ : ∃ G, G = grownCap w (c + 1) c 41 := ⟨_, rfl⟩
  have hGn : c + 1 ≤ G := by rw [hG]; exact grownCap_ge w _ _ _
  have hGm : G ≤ maxLen := by rw [hG]; exact grownCap_le_maxLen w (c + 1) c _ (by unfold maxLen; omega)
  obtain ⟨ROW, hROW⟩ : ∃ ROW : Array Value, ROW = (xs.take (i * 2)).toArray ++ Builtin.zeroCells zC.cells (c + 1 - i) ++ Builtin.zeroCells zC.cells (G - (c + 1)) := ⟨_, rfl⟩
  rw [← hG] at hrz
  rw [← hROW] at hrz
  have hRl : ROW.toList.length = G * 2 := by
    rw [hROW]
    have : zC.cells.size = 2 := rfl
    simp only [Array.length_toList, Array.size_append, zeroCells_size, this, List.size_toArray, htl]
    omega
  have hRt : ROW.toList.take (i * 2) = xs.take (i * 2) := by
    rw [hROW, Array.toList_append, Array.toList_append, List.append_assoc]
    exact take_cat htl
  obtain ⟨W1, hW1⟩ : ∃ W1, W1 = w.drew.alloc (.cells ROW 41) := ⟨_, rfl⟩
  rw [← hW1] at hrz
  obtain ⟨g, hg⟩ : ∃ g, g = w.heap.size := ⟨_, rfl⟩
  rw [← hg] at hrz
  have k1 : W1.heap[g]? = some (.cells ROW 41) := by rw [hW1, hg]; exact (MapKept.heap_alloc w.drew _).1
  have gr1 : w.grownBy W1 none := by
    rw [hW1]
    exact ⟨rfl, rfl, rfl, by simp, fun k hk _ => (World.grownBy_alloc w.drew (.cells ROW 41) none).block k hk (by simp)⟩
  have hxd : (xs.drop (i * 2)).length = (c - i) * 2 := by rw [List.length_drop, hl]; omega
  obtain ⟨hR1l, hR2⟩ := grow_row hRt hl hi hGn hRl (.string p) (.string t)
  obtain ⟨R1, hR1⟩ : ∃ R1, R1 = ROW.toList.take (i * 2) ++ [.string p, .string t] ++ ROW.toList.drop (i * 2 + 2) := ⟨_, rfl⟩
  rw [← hR1] at hR1l hR2
  have hvlt : vb < w.heap.size := lt_of hvb
  have halt : ab < w.heap.size := lt_of hb
  have hcpA : ∀ ty dc, (Builtin.copy_ #[35, 35] ty #[.slice (some ⟨g, i * 2, none⟩) (c + 1 - i) dc, .slice (some ⟨vb, 0, none⟩) 1 1]).run Try.prog W1 = _ := fun ty dc =>
    run_copy_k W1 _ _ ty 41 2 g (i * 2) (c + 1 - i) dc ⟨vb, 0, none⟩ 1 1 ROW 41 [.string p, .string t] Try.underlying35 size_ce k1 (by rw [show Nat.min 1 (c + 1 - i) = 1 from Nat.min_eq_left (by omega)]; rfl)
      (fun j v hj => cell_pair ((gr1.block vb hvlt (by simp)).trans hvb) j v hj)
      (by rw [Array.length_toList] at hRl; simp only [hRl, List.length_cons, List.length_nil]; omega) (by intro u hu; simp at hu; rcases hu with rfl | rfl <;> rfl)
  have e1 : (ROW.toList.take (i * 2) ++ [Value.string p, .string t] ++ ROW.toList.drop (i * 2 + [Value.string p, .string t].length)) = R1 := hR1.symm
  rw [e1] at hcpA
  obtain ⟨W2, hW2⟩ : ∃ W2, W2 = W1.setRow g R1.toArray := ⟨_, rfl⟩
  rw [← hW2] at hcpA
  have k2 : W2.heap[g]? = some (.cells R1.toArray 41) := by rw [hW2]; exact setRow_heap W1 g ROW _ 41 _ k1
  have gr2 : w.grownBy W2 none := by
    rw [hW2]
    exact ⟨gr1.os, gr1.tape, gr1.output, by simpa using gr1.size, fun k hk hn => (setRow_other W1 g k _ (by omega)).trans (gr1.block k hk hn)⟩
  have hcpB : ∀ ty dc sc, (Builtin.copy_ #[35, 35] ty #[.slice (some ⟨g, (i + 1) * 2, none⟩) (c - i) dc, .slice (some ⟨ab, i * 2, none⟩) (c - i) sc]).run Try.prog W2.drew = _ := fun ty dc sc =>
    run_copy_k W2.drew _ _ ty 41 2 g ((i + 1) * 2) (c - i) dc ⟨ab, i * 2, none⟩ (c - i) sc R1.toArray 41 (xs.drop (i * 2)) Try.underlying35 size_ce k2 (by rw [hxd]; simp only [Nat.min_def]; split <;> omega)
      (fun j v hj => by
        rw [hadd]
        rw [List.getElem?_drop] at hj
        have hlt : i * 2 + j < xs.length := (List.getElem?_eq_some_iff.1 hj).1
        exact hsrc W2.drew ((gr2.block ab halt (by simp)).trans hb) _ v (by omega) hj)
      (by simp only [List.size_toArray, hR1l, hxd]; omega) (fun u hu => h1 u (List.mem_of_mem_drop hu))
  have e3 : R1.toArray.toList = R1 := rfl
  rw [e3, hR2] at hcpB
  have hlen := ins2_length hl (Nat.le_of_lt hi) (.string p) (.string t)
  have HF : Hid ((W2.drew.setRow g (ins2 xs i (.string p) (.string t) ++ ROW.toList.drop ((c + 1) * 2)).toArray).ownsRow 0 41 2 (.slice (some ⟨g, 0, none⟩) (c + 1) G) (c + 1) (ins2 xs i (.string p) (.string t))) :=
    ⟨hlen, Or.inr ⟨g, G, _, rfl, Nat.zero_le _, setRow_heap W2.drew g _ _ 41 _ k2, hGn, hGm, by simp only [List.size_toArray, List.length_append, hlen, List.length_drop, hRl]; omega, take_cat hlen⟩⟩
  have HG : Hid (∀ R2, w.grownBy (W2.drew.setRow g R2) (some ab)) := fun R2 => ⟨gr2.os, gr2.tape, gr2.output, by simpa using gr2.size, fun k hk hn => (setRow_other W2.drew g k _ (by omega)).trans (gr2.block k hk (by simp))⟩
  generalize (ins2 xs i (.string p) (.string t) ++ ROW.toList.drop ((c + 1) * 2)).toArray = R2 at *
  have hgle : w.heap.size ≤ g := by omega
  have HL : Hid (w.heap.size ≤ g) := hgle
  have hG63 : G ≤ 9223372036854775807 := by unfold maxLen at hGm; omega
  have hw1 : IntKind.i64.wrap ((i : Int) + 1) = (i : Int) + 1 := by rw [IntKind.wrap_i64]; omega
  have hb1 : (0 : Int) ≤ (i : Int) + 1 := by omega
  have hz2 : ¬ ((i : Int) = (c : Int)) := by omega
  have htn : ((i : Int) + 1).toNat = i + 1 := by omega
  have hb2 : ¬ (G = i + 1) := by omega
  have hb5 : ¬ (G = i) := by omega
  have hb4 : ¬ (c = i) := by omega
  have hb6 : (c : Int) < (c : Int) + 1 := by omega
  have hin : i ≤ c := by omega
  clear hlen hR2 hx h1 hl hR1 hxd hnews hvb hb hRl hz e1 e3 hgle hGm gr1 gr2 k1 k2 hW1 hW2 hg hG hROW hRt hold htl hkk hik hsrc hadd hR1l hi0 hz0 hzs hzb hvlt halt hc hnc
  go_enter Try.func29, Try.ntmps29
  go_wp2_with (first
    | (at_builtin; refine Lib.wpList_append_run _ rfl _ _ _ _ rfl _ _ rfl rfl _ _ (hrz _) ?_)
    | (at_builtin; refine Lib.wpList_copy_run _ rfl _ _ 35 35 rfl _ _ rfl rfl (hcpA _ _) ?_))
  go_region_law (refine step_copy_run rfl _ _ 35 35 rfl _ _ (by simp [Act.eval, Act.put]) (by simp [Act.eval, Act.put]) (hcpB _ _ _) ?_)
  go_wp2
  go_ret
  exact ⟨_, rfl, ⟨HF.out, HG.out _, Or.inr ⟨g, rfl, HL.out⟩⟩⟩
theorem Insert_any {w : World} {v : Value} {n i : Nat} {xs : List Value} (hrow : w.ownsRow 0 41 2 v n xs) (h1 : ∀ u ∈ xs, u.oneCell' = true) (hi : i ≤ n) (hn : n ≤ 1000) (vb : Nat) (p : ByteArray) (t : ByteArray) (hvb : w.heap[vb]? = some (.cells #[.string p, .string t] 41)) (hne : v.ownBlock ≠ some vb) :
    Calls Try.prog 29 #[v, .int .i64 (i : Int), .slice (some ⟨vb, 0, none⟩) 1 1] w fun e w' => ∃ v', e = .returned v' ∧ Inew w w' v v' (n + 1) (ins2 xs i (.string p) (.string t)) := by
  by_cases e : i = n
  · subst e; exact Insert_end hrow hn vb p t hvb
  · have hlt : i < n := by omega
    rcases hrow.2 with ⟨rfl, hn0⟩ | ⟨b, cap, cur, rfl, hb, hg, q1, q2, q3, q4⟩
    · omega
    · have hne' : vb ≠ b := fun e => hne (by subst e; rfl)
      by_cases hc : n + 1 ≤ cap
      · exact Insert_room hg q2 q3 q4 hrow.1 h1 hlt hc hn vb p t hvb hne'
      · exact Insert_grow hg q3 q4 hrow.1 h1 hlt q1 (by omega) hn vb p t hvb hne'
/-! ### Delete -/
theorem run_clear_k (w : World) (t e ty ty' : TypeId) (z : Value) (ht : Try.prog.underlying t = some (.slice e)) (hv : ∀ w, (zeroValue e).run Try.prog w = .ok z w) (g o n c : Nat) (cur : Array Value) (hg : w.heap[g]? = some (.cells cur ty' (0, 0))) (hn : 0 < n)
    (hfit : o + (Builtin.zeroCells z.cells n).toList.length ≤ cur.size) (h1 : ∀ v ∈ (Builtin.zeroCells z.cells n).toList, v.oneCell' = true) :
    (Builtin.clear_ #[t] ty #[.slice (some ⟨g, o, none⟩) n c]).run Try.prog w = .ok (.tuple #[]) (w.setRow g (cur.toList.take o ++ (Builtin.zeroCells z.cells n).toList ++ cur.toList.drop (o + (Builtin.zeroCells z.cells n).toList.length)).toArray) := by
  have hst := run_storeCells_at Try.prog g o ty' (Builtin.zeroCells z.cells n).toList 0 cur w hg (by simpa using hfit) h1
  simp only [Nat.add_zero] at hst
  obtain ⟨m, rfl⟩ : ∃ m, n = m + 1 := ⟨n - 1, by omega⟩
  simp [Builtin.clear_, run_underlying ht, hv, hst]
theorem step_append_run {ops : Array Oper} {o : Oper} {a : Act} {w : World} {K : Act → World → Prop} {Q : Exit → Act → World → Prop} {E : Prop}
    (hg : o.guard = none) (d x : Operand) (dT sT : TypeId) (hop : o.op = Op.call { callee := Callee.builtin Builtin.append, args := #[d, x], argTypes := #[dT, sT] })
    (v u : Value) (hd : a.eval d = v) (hx : a.eval x = u) {v' : Value} {w' : World} (hr : (Builtin.append_ #[dT, sT] o.type #[v, u]).run Try.prog w = .ok v' w') (hK : K (a.put o.dst v') w') :
    if Region.wanted o (yielded ops a.tmps) = true then Oper.wp Try.prog o a w K Q else E := by
  have hw : Region.wanted o (yielded ops a.tmps) = true := by simp [Region.wanted, hg]
  rw [if_pos hw]
  unfold Oper.wp
  simp [execOp, hop, resolve, invoke, builtin, hd, hx, hr, Result.andThen]
  exact hK
def del2 (xs : List Value) (i : Nat) : List Value := xs.take (i * 2) ++ xs.drop ((i + 1) * 2)
theorem grown_setRow1 (w : World) (b : Nat) (r1 r2 : Array Value) : w.grownBy ((w.drew.setRow b r1).setRow b r2) (some b) := ⟨rfl, rfl, rfl, by simp, fun k _ hk => (setRow_other _ b k _ (fun e => hk (by rw [e]))).trans (setRow_other w.drew b k _ (fun e => hk (by rw [e])))⟩
theorem zC_one : ∀ n, ∀ v ∈ (Builtin.zeroCells zC.cells n).toList, v.oneCell' = true := by
  intro n v hv
  simp only [Builtin.zeroCells, zC, Value.cells] at hv
  simp at hv
  obtain ⟨i, hi, rfl⟩ := hv
  rcases Nat.mod_two_eq_zero_or_one i with h | h <;> simp [h, Value.oneCell']
set_option maxHeartbeats 2000000 in
theorem Delete_any {w : World} {g c n i : Nat} {cur : Array Value} {xs : List Value} (hb : w.heap[g]? = some (.cells cur 41)) (hcm : c ≤ maxLen) (hz : cur.size = c * 2) (hx : cur.toList.take (n * 2) = xs) (hl : xs.length = n * 2) (h1 : ∀ u ∈ xs, u.oneCell' = true) (hi : i < n) (hnc : n ≤ c) (hn : n ≤ 1000) :
    Calls Try.prog 28 #[.slice (some ⟨g, 0, none⟩) n c, .int .i64 (i : Int), .int .i64 ((i : Int) + 1)] w fun e w' => e = .returned (.slice (some ⟨g, 0, none⟩) (n - 1) c) ∧ w'.ownsRow 0 41 2 (.slice (some ⟨g, 0, none⟩) (n - 1) c) (n - 1) (del2 xs i) ∧ w.grownBy w' (some g) := by
  have hcm' : c ≤ 9223372036854775807 := by unfold maxLen at hcm; omega
  obtain ⟨i0, hi0, hz0, hzs, hzb⟩ := info_parts (show (Try.prog.info? 41).map (fun i => (i.zero, i.size, i.bytes)) = some (some zC, 2, 32) by kernel_rfl)
  obtain ⟨news, hnews⟩ : ∃ news, news = xs.drop ((i + 1) * 2) := ⟨_, rfl⟩
  have hnl : news.length = (n - (i + 1)) * 2 := by rw [hnews, List.length_drop, hl]; omega
  obtain ⟨A, hA, hsrc⟩ : ∃ A : Addr, (if c = i + 1 then (some (⟨g, 0, none⟩ : Addr)) else some ⟨g, (i + 1) * 2, none⟩) = some A ∧ ∀ j v, news[j]? = some v → w.drew.cell? (A.add j) = some v := by
    by_cases h : c = i + 1
    · refine ⟨_, if_pos h, fun j v hj => ?_⟩
      have h0 : news.length = 0 := by rw [hnl]; omega
      rw [List.length_eq_zero_iff.1 h0] at hj
      simp at hj
    · refine ⟨_, if_neg h, fun j v hj => ?_⟩
      have hadd : (⟨g, (i + 1) * 2, none⟩ : Addr).add j = ⟨g, (i + 1) * 2 + j, none⟩ := by unfold Addr.add; split <;> simp_all
      rw [hadd, cell_of_row w.drew g _ cur 41 (0, 0) hb]
      rw [hnews, List.getElem?_drop, ← hx, List.getElem?_take] at hj
      split at hj
      · simpa using hj
      · cases hj
  have hap : ∀ ty, (Builtin.append_ #[35, 35] ty #[.slice (some ⟨g, 0, none⟩) i c, .slice (some A) (n - (i + 1)) (c - (i + 1))]).run Try.prog w.drew = _ := fun ty =>
    run_append_room (P := Try.prog) w.drew 35 ty 41 i0 Try.underlying35 hi0 g i c cur hb A (n - (i + 1)) (c - (i + 1)) news (by rw [hnl, hzs]) hsrc (fun u hu => h1 u (by rw [hnews] at hu; exact List.mem_of_mem_drop hu)) (by omega) (by rw [hzs, hnl, hz]; omega)
  obtain ⟨R1, hR1⟩ : ∃ R1, R1 = cur.toList.take (i * 2) ++ news ++ cur.toList.drop (i * 2 + news.length) := ⟨_, rfl⟩
  rw [hzs, ← hR1, show i + (n - (i + 1)) = n - 1 by omega] at hap
  have hRl : R1.length = c * 2 := by
    rw [hR1]
    simp only [List.length_append, List.length_take, List.length_drop, Array.length_toList, hz, hnl]
    omega
  have hbk1 : (w.drew.setRow g R1.toArray).heap[g]? = some (.cells R1.toArray 41) := setRow_heap w.drew g cur _ 41 _ hb
  have hzl : (Builtin.zeroCells zC.cells 1).toList.length = 2 := by simp [Builtin.zeroCells, zC, Value.cells]
  have hcl : ∀ ty c', (Builtin.clear_ #[35] ty #[.slice (some ⟨g, (n - 1) * 2, none⟩) 1 c']).run Try.prog (w.drew.setRow g R1.toArray) = _ := fun ty c' =>
    run_clear_k (w.drew.setRow g R1.toArray) _ _ ty 41 zC Try.underlying35 (fun w => by kernel_rfl) g ((n - 1) * 2) 1 c' R1.toArray hbk1 (by omega) (by rw [hzl]; simp only [List.size_toArray, hRl]; omega) (zC_one 1)
  obtain ⟨R2, hR2⟩ : ∃ R2, R2 = (R1.toArray.toList.take ((n - 1) * 2) ++ (Builtin.zeroCells zC.cells 1).toList ++ R1.toArray.toList.drop ((n - 1) * 2 + (Builtin.zeroCells zC.cells 1).toList.length)).toArray := ⟨_, rfl⟩
  rw [← hR2] at hcl
  have hdl : (del2 xs i).length = (n - 1) * 2 := by
    unfold del2
    simp only [List.length_append, List.length_take, List.length_drop, hl]
    omega
  have hd : R1.take ((n - 1) * 2) = del2 xs i := by
    have e0 : cur.toList.take (i * 2) = xs.take (i * 2) := by rw [← hx, List.take_take, show min (i * 2) (n * 2) = i * 2 by omega]
    have : R1 = del2 xs i ++ cur.toList.drop (i * 2 + news.length) := by rw [hR1, e0, hnews]; rfl
    rw [this]
    exact take_cat hdl
  have HF : Hid (((w.drew.setRow g R1.toArray).setRow g R2).ownsRow 0 41 2 (.slice (some ⟨g, 0, none⟩) (n - 1) c) (n - 1) (del2 xs i)) :=
    ⟨hdl, Or.inr ⟨g, c, _, rfl, Nat.zero_le _, setRow_heap _ g _ _ 41 _ hbk1, by omega, hcm, by rw [hR2]; simp only [List.size_toArray, List.length_append, List.length_take, List.length_drop, hRl, hzl]; omega, by
      rw [hR2]
      show List.take ((n - 1) * 2) (R1.take ((n - 1) * 2) ++ _ ++ _) = _
      rw [List.append_assoc, hd]
      exact take_cat hdl⟩⟩
  have hw1 : IntKind.i64.wrap ((i : Int) + 1) = (i : Int) + 1 := by rw [IntKind.wrap_i64]; omega
  have hb1 : (0 : Int) ≤ (i : Int) + 1 := by omega
  have htn : ((i : Int) + 1).toNat = i + 1 := by omega
  have hne : ¬ ((i : Int) = (i : Int) + 1) := by omega
  have hin : i ≤ n := by omega
  have hi1 : (i : Int) + 1 ≤ (n : Int) := by omega
  have hic : (i : Int) ≤ (c : Int) := by omega
  have hin2 : i + 1 ≤ n := by omega
  have hn1 : n - 1 ≤ n := by omega
  have hnn : n - (n - 1) = 1 := by omega
  have hne2 : ¬ c = n - 1 := by omega
  clear hd hdl hzl hbk1 hRl hR1 hR2 hsrc hnl hnews h1 hl hx hz hb hi0 hz0 hzs hzb
  go_enter Try.func28, Try.ntmps28
  go_wp2_with fail
  go_region_law (refine step_append_run rfl _ _ 35 35 rfl _ _ (by simp [Act.eval, Act.put]) (by simp [Act.eval, Act.put, hA]) (hap _) ?_)
  go_wp2
  go_ret
  exact ⟨rfl, HF.out, grown_setRow1 w g _ _⟩
end Go.Proofs.Ytkcpclmkbmeigab.Fd
