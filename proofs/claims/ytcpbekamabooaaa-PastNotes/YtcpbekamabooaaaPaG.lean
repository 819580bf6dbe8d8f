/- The law's own past: get. -/
import Derived.Test.YtcpbekamabooaaaPaL
import Derived.Test.YtcpbekamabooaaaGmE
import Derived.Deep.QuietTactic
import Derived.BigRegion
namespace Go.Proofs.Ytcpbekamabooaaa.Pa
open Go.RowKit Gm
set_option linter.unusedVariables false
set_option linter.unusedSimpArgs false
set_option maxRecDepth 100000
def Ws.A (x : Ws) : Array Value := #[.string x.v, .bool x.is]
def eqW (x y : Ws) : Bool := eqB x.v y.v && ((x.is == y.is) && true)
theorem eqls (w : World) (x y : Ws) : (binOp .eql 39 (.agg x.A) (.agg y.A)).run Try.prog w = .ok (.bool (eqW x y)) w ∧ (binOp .neq 39 (.agg x.A) (.agg y.A)).run Try.prog w = .ok (.bool (!eqW x y)) w := by
  refine eql_of (by kernel_rfl) (by kernel_rfl) (fs := [⟨ "Val", 9, 0, false, "", "", 0⟩, ⟨ "Is", 4, 1, false, "", "", 16⟩]) (by kernel_rfl) ?_
  exact eq_field w 9998 (by decide) (by kernel_rfl) rfl rfl (run_equalIn_string w 9998 _ _ _ Try.underlying9) (eq_field w 9998 (by decide) (by kernel_rfl) rfl rfl (run_equalIn_bool' w 9998 _ _ _ Try.underlying4) (eq_none w _ _ _))
theorem stW : St 39 2 := ⟨⟨_, Try.underlying39⟩, by kernel_rfl⟩
theorem stG : St 62 4 := ⟨⟨_, Try.underlying62⟩, by kernel_rfl⟩
/-- get's state: turned, least, is. -/
def g1 (key : ByteArray) (x : Ws) (t : Int) (s : Bool × Int × Bool) (p : ByteArray × Ws) : Bool × Int × Bool := if eqB p.1 key && (!s.1 || decide (t < s.2.1)) then (true, t, eqW p.2 x) else s
def gI (key : ByteArray) (x : Ws) (s : Bool × Int × Bool) (g : Gn) : Bool × Int × Bool := g.ks.foldl (g1 key x g.txn) s
def gF (key : ByteArray) (x : Ws) (P : List Gn) : Bool × Int × Bool := P.foldl (gI key x) (false, 0, false)
theorem fold_succ {α β : Type} (f : β → α → β) (s : β) (l : List α) {i : Nat} (hi : i < l.length) : (l.take (i + 1)).foldl f s = f ((l.take i).foldl f s) l[i] := by
  rw [List.take_succ_eq_append_getElem hi, List.foldl_append]; rfl
section
variable {W W' : Nat → Prop} {w w' : World} {pb : Nat} {v : Value} {L : List Gv} {P : List Gn}
theorem PlI.in_ {a : Option Addr} {n c : Nat} (h : PlI W w pb (.slice a n c) L) {i : Nat} (hi : i < L.length) (hz : L[i].kl.length = L[i].wl.length) : ∃ g ak ck aw cw, a = some ⟨g, 0, none⟩ ∧ w.cell? ⟨g, i * 4, none⟩ = some (.int .i64 L[i].txn) ∧ w.cell? ⟨g, i * 4 + 2, none⟩ = some (.slice ak L[i].g.ks.length ck) ∧ w.cell? ⟨g, i * 4 + 3, none⟩ = some (.slice aw L[i].g.ks.length cw) ∧
    ∀ k (hk : k < L[i].g.ks.length), ∃ gk gw, ak = some ⟨gk, 0, none⟩ ∧ aw = some ⟨gw, 0, none⟩ ∧ w.cell? ⟨gk, k, none⟩ = some (.string L[i].g.ks[k].1) ∧ w.cell? ⟨gw, k * 2, none⟩ = some (.string L[i].g.ks[k].2.v) ∧ w.cell? ⟨gw, k * 2 + 1, none⟩ = some (.bool L[i].g.ks[k].2.is) := by
  obtain ⟨g, e, h1, h2, h3, h4, h5⟩ := h.at_ hi
  have r1 := h.ks _ hi
  have r2 := h.ws _ hi
  have hg : L[i].g.ks.length = L[i].kl.length := by simp [Gv.g, hz]
  obtain ⟨ak, ck, e1, _⟩ := r1.sl
  obtain ⟨aw, cw, e2, _⟩ := r2.sl
  rw [e1] at h3 r1
  rw [e2] at h4 r2
  rw [show (kC L[i].kl).length = L[i].g.ks.length by simp [kC, hg]] at h3
  rw [show (wC L[i].wl).length = L[i].g.ks.length by simp [wC, hg, hz]] at h4
  refine ⟨g, ak, ck, aw, cw, e, h1, h3, h4, fun k hk => ?_⟩
  obtain ⟨gk, ek, _, q1⟩ := r1.at_ (i := k) (by simp only [kC, List.length_map]; omega)
  obtain ⟨gw, ew, _, q2⟩ := r2.at_ (i := k) (by simp only [wC, List.length_map]; omega)
  have c1 := (q1 w rfl).1
  have c2 := (q2 w rfl).1
  simp only [kC, List.getElem_map] at c1
  simp only [wC, List.getElem_map] at c2
  have c10 := c1 0 _ rfl
  rw [Nat.mul_one] at c10
  have e1 : L[i].g.ks[k] = (L[i].kl[k]'(by omega), L[i].wl[k]'(by omega)) := List.getElem_zip
  rw [e1]
  exact ⟨gk, gw, ek, ew, c10, c2 0 _ rfl, c2 1 _ rfl⟩
set_option maxHeartbeats 1000000 in
theorem lget_any (hP : Pl W w pb P) (key : ByteArray) (x : Ws) (hl : P.length ≤ 1000) (hkl : ∀ g ∈ P, g.ks.length ≤ 1000) : Calls Try.prog 21 #[.pointer (some ⟨pb, 0, none⟩), .string key, .agg x.A] w fun e w' => e = .returned (.tuple #[.bool (gF key x P).1, .bool (gF key x P).2.2]) ∧ Below w.heap.size w w' := by
  have hW := hP.lt
  obtain ⟨v, L, h, rfl, hz⟩ := hP.ex
  clear hP
  obtain ⟨a, c, e, _⟩ := h.row.sl
  rw [List.length_map] at e hl
  subst e
  have HK : Hid (∀ i (hi : i < L.length), L[i].g.ks.length ≤ 1000) := fun i hi => hkl _ (List.mem_map.2 ⟨_, List.getElem_mem hi, rfl⟩)
  have HZ : Hid (∀ i (hi : i < L.length), L[i].kl.length = L[i].wl.length) := hz
  have H : Hid (∀ wx, Below w.heap.size w wx → PlI W wx pb (.slice a L.length c) L) := fun wx hb => h.keep fun j hj => hb.block j (hW j hj)
  have E : Hid (∀ w (y : Ws), (binOp .eql 39 (.agg #[.string y.v, .bool y.is]) (.agg #[.string x.v, .bool x.is])).run Try.prog w = .ok (.bool (eqW y x)) w) := fun w y => (eqls w y x).1
  clear h hkl hW hz
  have HG : Hid (gF key x (L.map Gv.g) = L.foldl (fun s y => gI key x s y.g) (false, 0, false)) := List.foldl_map
  rw [HG.out]
  clear HG
  generalize hF : (fun (s : Bool × Int × Bool) (y : Gv) => gI key x s y.g) = F
  have HF : Hid (∀ s y, F s y = gI key x s y.g) := fun s y => by rw [← hF]
  clear hF
  unfold Ws.A
  go_enter Try.func21, Try.ntmps21
  go_wp2_with (refine wpList_box_at (A := #[.string x.v, .bool x.is]) _ rfl _ rfl rfl ?_; intro w1 b1 N1)
  have HN : Hid (∀ wx, Below w1.heap.size w1 wx → wx.cell? ⟨b1, 0, none⟩ = some (.string x.v) ∧ wx.cell? ⟨b1, 1, none⟩ = some (.bool x.is)) := fun wx hb => ⟨(N1.is.bel hb).c 0, (N1.is.bel hb).c 1⟩
  go_loopw [8, 9, 10, 11, 12] (fun s8 s9 s10 s11 s12 wr => ∃ i : Nat, s11 = .int .i64 (i : Int) ∧ i ≤ L.length ∧ Below w1.heap.size w1 wr ∧ s8 = .bool ((L.take i).foldl F (false, 0, false)).1 ∧ s9 = .int .i64 ((L.take i).foldl F (false, 0, false)).2.1 ∧ s10 = .bool ((L.take i).foldl F (false, 0, false)).2.2) (fun s8 s9 s10 s11 s12 _ => L.length - (intOf s11).toNat)
  case atStart => exact ⟨0, rfl, Nat.zero_le _, Below.refl _ _, rfl, rfl, rfl⟩
  case round =>
    obtain ⟨i, rfl, hi, hb0, rfl, rfl, rfl⟩ := hrel
    rename World => wo
    have HB : Hid (Below w1.heap.size w1 wo) := hb0
    clear hb0
    have hp := (H.out wo (thn N1.bel HB.out)).is.c 0
    by_cases hlt : i < L.length
    · have hltI : (i : Int) < (L.length : Int) := by omega
      have HT : Hid ((L.take (i + 1)).foldl F (false, 0, false) = gI key x ((L.take i).foldl F (false, 0, false)) L[i].g) := (by rw [fold_succ F _ L hlt, HF.out] : (L.take (i + 1)).foldl F (false, 0, false) = gI key x ((L.take i).foldl F (false, 0, false)) L[i].g)
      have hkl : L[i].g.ks.length ≤ 1000 := HK.out i hlt
      have HQ : Hid (∀ wx, Below w1.heap.size w1 wx → wx.cell? ⟨pb, 0, none⟩ = some (.slice a L.length c) ∧ ∃ g ak ck aw cw, a = some ⟨g, 0, none⟩ ∧ wx.cell? ⟨g, i * 4, none⟩ = some (.int .i64 L[i].txn) ∧ wx.cell? ⟨g, i * 4 + 2, none⟩ = some (.slice ak L[i].g.ks.length ck) ∧ wx.cell? ⟨g, i * 4 + 3, none⟩ = some (.slice aw L[i].g.ks.length cw) ∧ ∀ k (hk : k < L[i].g.ks.length), ∃ gk gw, ak = some ⟨gk, 0, none⟩ ∧ aw = some ⟨gw, 0, none⟩ ∧ wx.cell? ⟨gk, k, none⟩ = some (.string L[i].g.ks[k].1) ∧ wx.cell? ⟨gw, k * 2, none⟩ = some (.string L[i].g.ks[k].2.v) ∧ wx.cell? ⟨gw, k * 2 + 1, none⟩ = some (.bool L[i].g.ks[k].2.is)) := fun wx hb => ⟨(H.out wx (thn N1.bel hb)).is.c 0, (H.out wx (thn N1.bel hb)).in_ hlt (HZ.out i hlt)⟩
      clear H HK HZ
      unfold gI at HT
      have hgx : L[i].g.txn = L[i].txn := rfl
      rw [hgx] at HT
      clear hgx
      generalize (L.take i).foldl F (false, 0, false) = S0 at *
      generalize L[i].g.ks = K at *
      generalize L[i].txn = tx at *
      go_wp2
      go_loopw [8, 9, 10, 12] (fun s8 s9 s10 s12 wr => ∃ k : Nat, s12 = .int .i64 (k : Int) ∧ k ≤ K.length ∧ Below w1.heap.size w1 wr ∧ s8 = .bool ((K.take k).foldl (g1 key x tx) S0).1 ∧ s9 = .int .i64 ((K.take k).foldl (g1 key x tx) S0).2.1 ∧ s10 = .bool ((K.take k).foldl (g1 key x tx) S0).2.2) (fun s8 s9 s10 s12 _ => K.length - (intOf s12).toNat)
      case atStart => exact ⟨0, rfl, Nat.zero_le _, HB.out, rfl, rfl, rfl⟩
      case round =>
        obtain ⟨k, rfl, hk, hb1, rfl, rfl, rfl⟩ := hrel
        have BQ : Hid (Below w1.heap.size w1 wr) := hb1
        clear hb1
        obtain ⟨p0, g, ak, ck, aw, cw, ea, q0, q2, q3, hin⟩ := HQ.out wr BQ.out
        obtain ⟨x0, x1⟩ := HN.out wr BQ.out
        subst ea
        by_cases hkk : k < K.length
        · have hkI : (k : Int) < (K.length : Int) := by omega
          obtain ⟨gk, gw, e1, e2, r1, r2, r3⟩ := hin k hkk
          subst e1 e2
          have HS : Hid ((K.take (k + 1)).foldl (g1 key x tx) S0 = g1 key x tx ((K.take k).foldl (g1 key x tx) S0) K[k]) := fold_succ _ _ _ hkk
          have E1 := E.out
          have e0 := fun w => E1 w K[k].2
          clear E1 hin HQ
          generalize (K.take k).foldl (g1 key x tx) S0 = S at *
          obtain ⟨S1, S2, S3⟩ := S
          generalize K[k] = z at *
          obtain ⟨zk, zv, zi⟩ := z
          simp only at *
          have HG : Hid (g1 key x tx (S1, S2, S3) (zk, ⟨zv, zi⟩) = if eqB zk key && (!S1 || decide (tx < S2)) then (true, tx, eqW ⟨zv, zi⟩ x) else (S1, S2, S3)) := rfl
          rw [HG.out] at HS
          clear HG
          generalize eqW ⟨zv, zi⟩ x = q at *
          cases h1 : eqB zk key
          · have h1' : (zk.toList == key.toList) = false := h1
            rw [h1] at HS
            go_wp2
            go_roundw
            case rel => exact ⟨k + 1, by rfl, by omega, BQ.out, by rw [HS.out]; rfl, by rw [HS.out]; rfl, by rw [HS.out]; rfl⟩
            case measure => simp [intOf]; omega
          · have h1' : (zk.toList == key.toList) = true := h1
            rw [h1] at HS
            cases S1
            · go_wp2
              go_quiet (fail)
              go_wp2
              go_roundw
              case rel => exact ⟨k + 1, by rfl, by omega, bdr BQ.out _, by rw [HS.out]; rfl, by rw [HS.out]; rfl, by rw [HS.out]; rfl⟩
              case measure => simp [intOf]; omega
            · by_cases h2 : tx < S2
              · go_wp2
                go_quiet (fail)
                go_wp2
                go_roundw
                case rel => exact ⟨k + 1, by rfl, by omega, bdr BQ.out _, by rw [HS.out]; simp [h2], by rw [HS.out]; simp [h2], by rw [HS.out]; simp [h2]⟩
                case measure => simp [intOf]; omega
              · go_wp2
                go_roundw
                case rel => exact ⟨k + 1, by rfl, by omega, BQ.out, by rw [HS.out]; simp [h2], by rw [HS.out]; simp [h2], by rw [HS.out]; simp [h2]⟩
                case measure => simp [intOf]; omega
        · have hkI : ¬ (k : Int) < (K.length : Int) := by omega
          have HE : Hid (K.take k = K) := List.take_of_length_le (by omega)
          rw [HE.out]
          rw [← HT.out]
          clear hin HE
          go_wp2
          go_roundw
          case rel => exact ⟨i + 1, by rfl, by omega, BQ.out, rfl, rfl, rfl⟩
          case measure => simp [intOf]; omega
    · have hltI : ¬ (i : Int) < (L.length : Int) := by omega
      have HE : Hid (L.take i = L) := List.take_of_length_le (by omega)
      rw [HE.out]
      clear H
      go_wp2
      go_ret2
      exact ⟨rfl, thn N1.bel HB.out⟩
end
end Go.Proofs.Ytcpbekamabooaaa.Pa
