import Derived.Test.YtdchjncnjgelhaaGreatMao
import Derived.Test.YtdchjncnjgelhaaGreatMas
import Derived.BigRegion
import Derived.Laws.StructEq
import Derived.Test.YtdchjncnjgelhaaGreatMap
import Derived.BigQuiet
import Derived.Test.YtdchjncnjgelhaaGreatMar
import Derived.Test.YtdchjncnjgelhaaGreatMal
set_option linter.unusedVariables false
set_option linter.unusedSimpArgs false
set_option maxRecDepth 100000
namespace Go.Proofs.YtdchjncnjgelhaaGreat.Lg
open Go.RowKit Go.Maps Go.ChangeMaps
open Gm (thn bl1 bdr)
section
variable {w w0 w':World}{W W':Nat->Prop}
theorem ge_sub (h2:∀ j,W j->w.heap.size<=j) (hs:w.heap.size<=w0.heap.size) (hf:Gm.Fr W W' w0 w'):∀ j,W' j->w.heap.size<=j:=fun j hj=>(hf.sub j hj).elim (h2 j) (fun e=>Nat.le_trans hs e)
end
end Go.Proofs.YtdchjncnjgelhaaGreat.Lg
namespace Go.Proofs.YtdchjncnjgelhaaGreat.Gm
open Go.RowKit
theorem eq_field (w : World) (d : Nat) {A B : Array Value} {a b : Value} {f : Field} {fs : List Field} {r0 r : Bool} (hn : f.name ≠ "_") (hi : (isAgg f.type).run Tryz.prog w = .ok false w) (h1 : A[f.offset]? = some a) (h2 : B[f.offset]? = some b)
  (he:(Op.equalIn (d+1) f.type a b).run Tryz.prog w=.ok r0 w) (h:(Op.eqFields (d+1) A B fs).run Tryz.prog w=.ok r w):(Op.eqFields (d+1) A B (f ::fs)).run Tryz.prog w=.ok (r0&&r) w:=by
 have hp:∀ (C:Array Value) (v:Value),C[f.offset]?=some v->(Go.part f.type C f.offset).run Tryz.prog w=.ok v w:=fun C v hv=>by
  simp[Go.part,Sem.run_bind,hi,Result.andThen,hv]
 rw[Op.eqFields,if_pos hn]
 simp only[Sem.run_bind,hp A a h1,hp B b h2,Result.andThen_ok,he]
 cases r0
 ·simp
 ·simpa using h
theorem eq_none (w:World) (d:Nat) (A B:Array Value):(Op.eqFields d A B []).run Tryz.prog w=.ok true w:=by simp[Op.eqFields]
theorem eql_of {w:World} {t:TypeId} {A B:Array Value} {r:Bool} (hu:Tryz.prog.underlying t=some (.struct (Tryz.prog.fieldsOf t))) (hp:Tryz.prog.stoodInHeld t=false) {fs:List Field} (hf:(Tryz.prog.fieldsOf t).toList=fs) (h:(Op.eqFields 9999 A B fs).run Tryz.prog w=.ok r w) :
  (binOp .eql t (.agg A) (.agg B)).run Tryz.prog w=.ok (.bool r) w/\(binOp .neq t (.agg A) (.agg B)).run Tryz.prog w=.ok (.bool (!r)) w:=by
 have:=run_equalIn_struct (P:=Tryz.prog) w 9999 t A B hu hp
 rw[hf,h] at this
 constructor
 ·rw[run_eql_struct,this];rfl
 ·rw[run_neq_struct,this];rfl
end Go.Proofs.YtdchjncnjgelhaaGreat.Gm
namespace Go.Proofs.YtdchjncnjgelhaaGreat.Lg
open Go.RowKit Go.Maps Go.ChangeMaps
open Gm (thn bl1 bdr)
theorem neqA (w:World) (x y:Int):(binOp .neq 40 (.agg #[.int .i64 x,.int .i64 y]) (.agg #[.int .i64 x,.int .i64 y])).run Tryz.prog w=.ok (.bool false) w:=by
 have := (Gm.eql_of (w := w) (t := 40) (A := #[.int .i64 x, .int .i64 y]) (B := #[.int .i64 x, .int .i64 y]) (by kernel_rfl) (by kernel_rfl) (fs := [⟨ "Txn", 3, 0, false, "", "", 0⟩, ⟨ "Last", 3, 1, false, "", "", 8⟩]) (by kernel_rfl)
  (Gm.eq_field w 9998 (by decide) (by kernel_rfl) rfl rfl (run_equalIn_int w 9998 3 _ _ _ _ Tryz.underlying3) (Gm.eq_field w 9998 (by decide) (by kernel_rfl) rfl rfl (run_equalIn_int w 9998 3 _ _ _ _ Tryz.underlying3) (Gm.eq_none w _ _ _)))).2
 simpa using this
section
variable {w:World}{a a':Option Addr}{n c c':Nat}{L:List Rq.SpL}
set_option maxHeartbeats 1000000 in
theorem same_any (h1:Rq.Sp w (.slice a n c) L) (h2:Rq.Sp w (.slice a' n c') L) (hL:L.length=n) (hn:n<=100000):Calls Tryz.prog 19 #[.slice a n c,.slice a' n c'] w fun e w'=>e=.returned (.bool true)/\Below w.heap.size w w':=by
 have H1:Hid (Rq.Sp w (.slice a n c) L):=h1
 have H2:Hid (Rq.Sp w (.slice a' n c') L):=h2
 have Hm:Hid (L.length=n):=hL
 clear h1 h2 hL
 have mixed:Tryz.prog.follows .mixedOrders=true:=by kernel_rfl
 go_enter Tryz.func19,Tryz.ntmps19
 go_wp2
 go_loopg [5] n (fun k vi wr=>∃ i:Nat,vi=.int .i64 (i:Int)/\n-i<=k/\i<=n/\Below w.heap.size w wr)
 case atStart=>exact⟨0,rfl,by omega,by omega,Below.refl _ _⟩
 case round =>
  obtain⟨i,rfl,hk,him,hB⟩:=hrel
  have HB:Hid (Below w.heap.size w wr):=hB
  by_cases hlt:i<n
  ·have hltI:(i:Int)<(n:Int):=by omega
   have hi1:i<L.length:=by have:=Hm.out;omega
   obtain⟨g,o,rfl,_,c0,c1⟩:=(H1.out.bel HB.out).at_ hi1
   obtain⟨g',o',rfl,_,e0,e1⟩:=(H2.out.bel HB.out).at_ hi1
   have d0:wr.drew.cell? ⟨g,o+i*2,none⟩=some (.int .i64 L[i].1):=c0
   have d1:wr.drew.cell? ⟨g,o+i*2+1,none⟩=some (.int .i64 L[i].2):=c1
   have f0:wr.drew.cell? ⟨g',o'+i*2,none⟩=some (.int .i64 L[i].1):=e0
   have f1:wr.drew.cell? ⟨g',o'+i*2+1,none⟩=some (.int .i64 L[i].2):=e1
   have heq:∀ wx,(binOp .neq 40 (.agg #[.int .i64 L[i].1,.int .i64 L[i].2]) (.agg #[.int .i64 L[i].1,.int .i64 L[i].2])).run Tryz.prog wx=.ok (.bool false) wx:=fun wx=>neqA wx _ _
   generalize L[i].1=ka at *
   generalize L[i].2=kb at *
   clear hB
   go_wp2_with fail
   go_big_region
   all_goals go_wp2
   go_roundg (n-(i+1))
   case measure=>omega
   case rel=>exact⟨i+1,by first |rfl |go_num,Nat.le_refl _,by omega,bdr (HB.out) 1⟩
  ·have hltI:¬ (i:Int)<(n:Int):=by omega
   go_wp2
   go_ret
   exact⟨rfl,HB.out⟩
end
structure RwL (w:World) (L:List Rq.SpL) (e:Ending) (w':World):Prop where
 ex:∃ a c,e=.returned (.slice a L.length c)/\Gm.Row w' 40 2 (.slice a L.length c) (L.map Rq.encS)/\∀ g,(Value.slice a L.length c).ownBlock=some g->w.heap.size<=g
 bel:Below w.heap.size w w'
structure Ow1 (w wr:World) (v:Value) (L:List Rq.SpL):Prop where
 row:Gm.Row wr 40 2 v (L.map Rq.encS)
 own:∀ g,v.ownBlock=some g->w.heap.size<=g
 bel:Below w.heap.size w wr
theorem Ow1.below {w wr w':World} {v:Value} {L:List Rq.SpL} (h:Ow1 w wr v L) (hb:Below wr.heap.size wr w'):Ow1 w w' v L:=⟨h.row.bel hb,h.own,thn h.bel hb⟩
theorem Ow1.push {w wr w':World} {v v':Value} {L:List Rq.SpL} {s:Rq.SpL} (h:Ow1 w wr v L) (A:Gm.App wr w' 40 2 v v' (L.map Rq.encS++[Rq.encS s])):Ow1 w w' v' (L++[s]):=by
 refine⟨?_,fun g e=>?_,h.bel.trans (A.bel h.own h.bel.size)⟩
 ·rw[List.map_append,List.map_singleton];exact A.row
 ·rcases A.own with e2 |e2
  ·exact h.own g (e2.symm.trans e)
  ·rw[e2] at e;cases e;exact h.bel.size
theorem row_cells {w wx:World} {L:List Rq.SpL} {a:Option Addr} {n c:Nat} (h:Gm.Row w 40 2 (.slice a n c) (L.map Rq.encS)) (hb:Below w.heap.size w wx) {i:Nat} (hi:i<L.length):∃ g,a=some ⟨g,0,none⟩/\wx.cell? ⟨g,i*2,none⟩=some (.int .i64 L[i].1)/\wx.cell? ⟨g,i*2+1,none⟩=some (.int .i64 L[i].2):=by
 obtain⟨g,e,hg,hat⟩:=h.at_ (i:=i) (by rw[List.length_map];exact hi)
 have hra:=(hat wx (hb.block g hg)).1
 rw[List.getElem_map] at hra
 exact⟨g,e,by simpa using hra 0 (.int .i64 L[i].1) rfl,hra 1 (.int .i64 L[i].2) rfl⟩
section
variable {w:World}{v:Value}{L:List Rq.SpL}{t x:Int}
set_option maxHeartbeats 2000000 in
theorem tdrop_any (h:Gm.Row w 40 2 v (L.map Rq.encS)) (hl:L.length<=1000):Calls Tryz.prog 50 #[v,.int .i64 t] w fun e w'=>RwL w (gD L t) e w':=by
 obtain⟨a,c,e,_⟩:=h.sl
 rw[List.length_map] at e
 subst e
 have H:Hid (Gm.Row w 40 2 (.slice a L.length c) (L.map Rq.encS)):=h
 have hst:=stAc
 clear h
 have HAt:Hid (∀ wx,Below w.heap.size w wx->∀ i (hi:i<L.length),∃ g,a=some ⟨g,0,none⟩/\wx.cell? ⟨g,i*2,none⟩=some (.int .i64 L[i].1)/\wx.cell? ⟨g,i*2+1,none⟩=some (.int .i64 L[i].2)):=fun wx hb i hi=>row_cells H.out hb hi
 go_enter Tryz.func50,Tryz.ntmps50
 go_wp2
 go_loopg [5,6] L.length (fun k vo vi wr=>∃ (i:Nat) (a1:Option Addr) (c1:Nat),vi=.int .i64 (i:Int)/\L.length-i<=k/\i<=L.length/\vo=.slice a1 (gD (L.take i) t).length c1/\Ow1 w wr vo (gD (L.take i) t))
 case atStart=>exact⟨0,none,0,rfl,by omega,by omega,rfl,⟨Gm.Row.nil _ _ _,fun g e=>(by cases e),Below.refl _ _⟩⟩
 case round =>
  obtain⟨i,a1,c1,rfl,hk,him,rfl,hO⟩:=hrel
  have HO:Hid (Ow1 w wr (.slice a1 (gD (L.take i) t).length c1) (gD (L.take i) t)):=hO
  by_cases hlt:i<L.length
  ·have hltI:(i:Int)<(L.length:Int):=by omega
   obtain⟨g,rfl,x0,x1⟩:=HAt.out wr hO.bel i hlt
   have HE:Hid (gD (L.take (i+1)) t=gD (L.take i) t++gD [L[i]] t):=by
    show _=_
    rw[List.take_succ_eq_append_getElem hlt]
    exact List.filter_append ..
   have HG:Hid ((gD (L.take i) t).length<=1000):=by show _<=_;have:=gD_len (L.take i) t;rw[List.length_take] at this;omega
   clear hO
   generalize L[i]=s at *
   obtain⟨s1,s2⟩:=s
   dsimp only at x0 x1
   generalize gD (L.take i) t=G at *
   by_cases ht:s1=t
   ·subst ht
    have HE2:Hid (gD (L.take (i+1)) s1=G):=HE.out.trans (by unfold gD;simp)
    go_wp2
    go_roundg (L.length-(i+1))
    case measure=>omega
    case rel=>exact⟨i+1,a1,c1,by first |rfl |go_num,Nat.le_refl _,by omega,by rw[HE2.out],by rw[HE2.out];exact HO.out⟩
   ·have HE2:Hid (gD (L.take (i+1)) t=G++[(s1,s2)]):=HE.out.trans (by unfold gD;simp[ht])
    have h1:(s1==t)=false:=by simpa using ht
    have h2:(s1 !=t)=true:=by simp[ht]
    have HlG:Hid ((G.map Rq.encS).length=G.length):=List.length_map ..
    go_wp2_with first
     | (refine Gm.wpList_push elAc (A:=#[.int .i64 s1,.int .i64 s2]) (L:=G.map Rq.encS) rfl _ _ rfl rfl (HO.out.row.bel (bl1 _)) rfl (Gm.At.new _ _ _) rfl (Rq.oneI _ _) (by have:=HG.out;have:=HlG.out;omega) ?_;intro a8 c8 w8 A8;rw[HlG.out] at A8 ⊢;have O8:Hid (Ow1 w w8 (.slice a8 (G.length+1) c8) (G++[(s1,s2)])):=(HO.out.below (bl1 _)).push A8;clear A8)
    go_roundg (L.length-(i+1))
    case measure=>omega
    case rel=>exact⟨i+1,a8,c8,by first |rfl |go_num,Nat.le_refl _,by omega,by rw[HE2.out,List.length_append];rfl,by rw[HE2.out];exact O8.out⟩
  ·have hltI:¬ (i:Int)<(L.length:Int):=by omega
   have e9:L.take i=L:=List.take_of_length_le (by omega)
   rw[e9] at HO ⊢
   go_wp2
   go_ret
   exact⟨⟨a1,c1,rfl,HO.out.row,HO.out.own⟩,HO.out.bel⟩
set_option maxHeartbeats 2000000 in
theorem tput_any (h:Gm.Row w 40 2 v (L.map Rq.encS)) (hl:L.length<=1000):Calls Tryz.prog 22 #[v,.int .i64 t,.int .i64 x] w fun e w'=>RwL w (putL L t x) e w':=by
 obtain⟨a,c,e,_⟩:=h.sl
 rw[List.length_map] at e
 subst e
 have H:Hid (Gm.Row w 40 2 (.slice a L.length c) (L.map Rq.encS)):=h
 have hst:=stAc
 clear h
 have HAt:Hid (∀ wx,Below w.heap.size w wx->∀ i (hi:i<L.length),∃ g,a=some ⟨g,0,none⟩/\wx.cell? ⟨g,i*2,none⟩=some (.int .i64 L[i].1)/\wx.cell? ⟨g,i*2+1,none⟩=some (.int .i64 L[i].2)):=fun wx hb i hi=>row_cells H.out hb hi
 go_enter Tryz.func22,Tryz.ntmps22
 go_wp2
 go_loopg [7,8,9] L.length (fun k vo vd vi wr=>∃ (i:Nat) (a1:Option Addr) (c1:Nat),vi=.int .i64 (i:Int)/\L.length-i<=k/\i<=L.length/\vo=.slice a1 (putF t x (L.take i)).1.length c1/\vd=.bool (putF t x (L.take i)).2/\Ow1 w wr vo (putF t x (L.take i)).1)
 case atStart=>exact⟨0,none,0,rfl,by omega,by omega,rfl,rfl,⟨Gm.Row.nil _ _ _,fun g e=>(by cases e),Below.refl _ _⟩⟩
 case round =>
  obtain⟨i,a1,c1,rfl,hk,him,rfl,rfl,hO⟩:=hrel
  have HO:Hid (Ow1 w wr (.slice a1 (putF t x (L.take i)).1.length c1) (putF t x (L.take i)).1):=hO
  by_cases hlt:i<L.length
  ·have hltI:(i:Int)<(L.length:Int):=by omega
   obtain⟨g,rfl,x0,x1⟩:=HAt.out wr hO.bel i hlt
   have HE:Hid (putF t x (L.take (i+1))=putS t x (putF t x (L.take i)) L[i]):=by
    show _=_
    rw[List.take_succ_eq_append_getElem hlt]
    exact putF_snoc ..
   have HG:Hid ((putF t x (L.take i)).1.length<=2000):=by show _<=_;have:=putF_len t x (L.take i);rw[List.length_take] at this;omega
   have HAx:Hid (∀ wx,Below wr.heap.size wr wx->wx.cell? ⟨g,i*2,none⟩=some (.int .i64 L[i].1)/\wx.cell? ⟨g,i*2+1,none⟩=some (.int .i64 L[i].2)):=fun wx hb=>⟨by rw[World.cell?_of_block (hb.block g (lt_cell x0))];exact x0,by rw[World.cell?_of_block (hb.block g (lt_cell x0))];exact x1⟩
   have HAw:Hid (∀ wx,Below w.heap.size w wx->wx.cell? ⟨g,i*2,none⟩=some (.int .i64 L[i].1)/\wx.cell? ⟨g,i*2+1,none⟩=some (.int .i64 L[i].2)):=fun wx hb=>by
    obtain⟨g2,e2,y0,y1⟩:=HAt.out wx hb i hlt
    cases e2
    exact⟨y0,y1⟩
   clear hO
   generalize L[i]=s at *
   obtain⟨s1,s2⟩:=s
   dsimp only at x0 x1 HAx HAw
   generalize putF t x (L.take i)=q at *
   obtain⟨G,d⟩:=q
   dsimp only at HO HG HE ⊢
   have HlG:Hid ((G.map Rq.encS).length=G.length):=List.length_map ..
   have HlT:Hid (((G++[(t,x)]).map Rq.encS).length=G.length+1):=by show _=_;rw[List.length_map,List.length_append];rfl
   by_cases ht:s1=t
   ·subst ht
    cases d with
    | true =>
     have HE2:Hid (putF s1 x (L.take (i+1))=(G,true)):=HE.out.trans (by unfold putS;simp)
     go_wp2
     go_roundg (L.length-(i+1))
     case measure=>omega
     case rel=>exact⟨i+1,a1,c1,by first |rfl |go_num,Nat.le_refl _,by omega,by rw[HE2.out],by rw[HE2.out],by rw[HE2.out];exact HO.out⟩
    | false =>
     have HE2:Hid (putF s1 x (L.take (i+1))=(G++[(s1,x)],true)):=HE.out.trans (by unfold putS;simp)
     go_wp2_with first
      | (refine Gm.wpList_push elAc (A:=#[.int .i64 s1,.int .i64 x]) (L:=G.map Rq.encS) rfl _ _ rfl rfl (HO.out.row.bel (bl1 _)) rfl (Gm.At.new _ _ _) rfl (Rq.oneI _ _) (by have:=HG.out;have:=HlG.out;omega) ?_;intro a8 c8 w8 A8;rw[HlG.out] at A8 ⊢;have O8:Hid (Ow1 w w8 (.slice a8 (G.length+1) c8) (G++[(s1,x)])):=(HO.out.below (bl1 _)).push A8;clear A8;have z0:=(HAw.out _ O8.out.bel).1;have z1:=(HAw.out _ O8.out.bel).2)
     go_roundg (L.length-(i+1))
     case measure=>omega
     case rel=>exact⟨i+1,a8,c8,by first |rfl |go_num,Nat.le_refl _,by omega,by rw[HE2.out,List.length_append];rfl,by rw[HE2.out],by rw[HE2.out];exact O8.out⟩
   ·have h1:(s1==t)=false:=by simpa using ht
    have h2:(s1 !=t)=true:=by simp[ht]
    cases d with
    | true =>
     have HE2:Hid (putF t x (L.take (i+1))=(G++[(s1,s2)],true)):=HE.out.trans (by unfold putS;simp[ht])
     go_wp2_with first
      | (refine Gm.wpList_push elAc (A:=#[.int .i64 s1,.int .i64 s2]) (L:=G.map Rq.encS) rfl _ _ rfl rfl (HO.out.row.bel (bl1 _)) rfl (Gm.At.new _ _ _) rfl (Rq.oneI _ _) (by have:=HG.out;have:=HlG.out;omega) ?_;intro a8 c8 w8 A8;rw[HlG.out] at A8 ⊢;have O8:Hid (Ow1 w w8 (.slice a8 (G.length+1) c8) (G++[(s1,s2)])):=(HO.out.below (bl1 _)).push A8;clear A8)
     go_roundg (L.length-(i+1))
     case measure=>omega
     case rel=>exact⟨i+1,a8,c8,by first |rfl |go_num,Nat.le_refl _,by omega,by rw[HE2.out,List.length_append];rfl,by rw[HE2.out],by rw[HE2.out];exact O8.out⟩
    | false =>
     by_cases hge:t<=s1
     ·have HE2:Hid (putF t x (L.take (i+1))=(G++[(t,x)]++[(s1,s2)],true)):=HE.out.trans (by unfold putS;simp[ht,hge])
      go_wp2_with first
       | (refine Gm.wpList_push elAc (A:=#[.int .i64 s1,.int .i64 s2]) (L:=(G++[(t,x)]).map Rq.encS) rfl _ _ rfl rfl (O8.out.row.bel (bl1 _)) rfl (Gm.At.new _ _ _) rfl (Rq.oneI _ _) (by have:=HG.out;have:=HlT.out;omega) ?_;intro a9 c9 w9 A9;rw[HlT.out] at A9 ⊢;have O9:Hid (Ow1 w w9 (.slice a9 (G.length+1+1) c9) (G++[(t,x)]++[(s1,s2)])):=(O8.out.below (bl1 _)).push A9;clear A9)
       | (refine Gm.wpList_push elAc (A:=#[.int .i64 t,.int .i64 x]) (L:=G.map Rq.encS) rfl _ _ rfl rfl (HO.out.row.bel (bl1 _)) rfl (Gm.At.new _ _ _) rfl (Rq.oneI _ _) (by have:=HG.out;have:=HlG.out;omega) ?_;intro a8 c8 w8 A8;rw[HlG.out] at A8 ⊢;have O8:Hid (Ow1 w w8 (.slice a8 (G.length+1) c8) (G++[(t,x)])):=(HO.out.below (bl1 _)).push A8;clear A8;have z0:=(HAw.out _ O8.out.bel).1;have z1:=(HAw.out _ O8.out.bel).2)
      go_roundg (L.length-(i+1))
      case measure=>omega
      case rel=>exact⟨i+1,a9,c9,by first |rfl |go_num,Nat.le_refl _,by omega,by rw[HE2.out,List.length_append,List.length_append];rfl,by rw[HE2.out],by rw[HE2.out];exact O9.out⟩
     ·have HE2:Hid (putF t x (L.take (i+1))=(G++[(s1,s2)],false)):=HE.out.trans (by unfold putS;simp[ht,hge])
      go_wp2_with first
       | (refine Gm.wpList_push elAc (A:=#[.int .i64 s1,.int .i64 s2]) (L:=G.map Rq.encS) rfl _ _ rfl rfl (HO.out.row.bel (bl1 _)) rfl (Gm.At.new _ _ _) rfl (Rq.oneI _ _) (by have:=HG.out;have:=HlG.out;omega) ?_;intro a8 c8 w8 A8;rw[HlG.out] at A8 ⊢;have O8:Hid (Ow1 w w8 (.slice a8 (G.length+1) c8) (G++[(s1,s2)])):=(HO.out.below (bl1 _)).push A8;clear A8)
      go_roundg (L.length-(i+1))
      case measure=>omega
      case rel=>exact⟨i+1,a8,c8,by first |rfl |go_num,Nat.le_refl _,by omega,by rw[HE2.out,List.length_append];rfl,by rw[HE2.out],by rw[HE2.out];exact O8.out⟩
  ·have hltI:¬ (i:Int)<(L.length:Int):=by omega
   have e9:L.take i=L:=List.take_of_length_le (by omega)
   rw[e9] at HO ⊢
   have HG:Hid ((putF t x L).1.length<=2000):=by show _<=_;have:=putF_len t x L;omega
   have HP:Hid (putL L t x=if(putF t x L).2=true then(putF t x L).1 else(putF t x L).1++[(t,x)]):=rfl
   generalize putF t x L=q at *
   obtain⟨G,d⟩:=q
   dsimp only at HO HG HP ⊢
   have HlG:Hid ((G.map Rq.encS).length=G.length):=List.length_map ..
   cases d with
   | true =>
    have HP2:putL L t x=G:=HP.out
    go_wp2
    go_ret
    try rw[HP2]
    exact⟨⟨a1,c1,rfl,HO.out.row,HO.out.own⟩,HO.out.bel⟩
   | false =>
    have HP2:putL L t x=G++[(t,x)]:=HP.out
    go_wp2_with first
     | (refine Gm.wpList_push elAc (A:=#[.int .i64 t,.int .i64 x]) (L:=G.map Rq.encS) rfl _ _ rfl rfl (HO.out.row.bel (bl1 _)) rfl (Gm.At.new _ _ _) rfl (Rq.oneI _ _) (by have:=HG.out;have:=HlG.out;omega) ?_;intro a8 c8 w8 A8;rw[HlG.out] at A8 ⊢;have O8:Hid (Ow1 w w8 (.slice a8 (G.length+1) c8) (G++[(t,x)])):=(HO.out.below (bl1 _)).push A8;clear A8)
    go_ret
    try rw[HP2]
    have e:(G++[(t,x)]).length=G.length+1:=by rw[List.length_append];rfl
    exact⟨⟨a8,c8,by rw[e];rfl,by rw[e];exact O8.out.row,by rw[e];exact O8.out.own⟩,O8.out.bel⟩
end
section
variable {w w0 w1 w':World}{ms:List Rm}{a0:Option Addr}{n0 c0 l k:Nat}{fs1:List ByteArray}{W W':Nat->Prop}
structure Lk (w:World) (l:Nat) (fs1:List ByteArray) (k:Nat) (w':World):Prop where
 ex:∃ W gs,Lo W w' l (fs1++gs)/\gs.length<=k/\(∀ j,W j->w.heap.size<=j)/\Below w.heap.size w w'
theorem Lk.bel (h:Lk w l fs1 k w'):Below w.heap.size w w':=by obtain⟨W,gs,_,_,_,h3⟩:=h.ex;exact h3
theorem Lk.append {v:Value} {m:Rm} (h:Lk w l fs1 k w0) (hv:RecV w0 v m) (hm:Small m):Calls Tryz.prog 35 #[.pointer (some ⟨l,0,none⟩),v] w0 fun e w'=>∃ x y,e=.returned (.tuple #[.int .i64 x,.int .i64 y])/\Lk w l fs1 (k+1) w':=by
 obtain⟨W,gs,h1,hk,h2,h3⟩:=h.ex
 refine(h1.append hv hm).mono ?_
 rintro e w' ⟨x,y,fs',W',he,hl,hf,hor⟩
 have hb:Below w.heap.size w w':=h3.trans (hf.bel h2 h3.size)
 rcases hor with⟨_,_,rfl,_⟩ |⟨_,rfl,_⟩
 ·exact⟨x,y,he,W',gs++[(frameM m).1],by rw[← List.append_assoc];exact hl,by simp;omega,ge_sub h2 h3.size hf,hb⟩
 ·exact⟨x,y,he,W',gs,hl,by omega,ge_sub h2 h3.size hf,hb⟩
theorem lk_new (w:World):Calls Tryz.prog 7 #[.int .i64 200] w fun e w'=>∃ db,e=.returned (.tuple #[.pointer (some ⟨db,0,none⟩),.int .i64 0])/\Below w.heap.size w w'/\Hid (Calls Tryz.prog 8 #[.pointer (some ⟨db,0,none⟩),.int .i64 0,.int .i64 200,.int .i64 1] w' fun e w2=>∃ l,e=.returned (.tuple #[.pointer (some ⟨l,0,none⟩),.int .i64 0])/\Lk w l [] 0 w2):=by
 letI:Inhabited PrSet:=⟨⟨fun _=>none⟩⟩
 refine(Ds.new 200 (by omega) (by omega) w (fun j o e=>by cases e)).mono ?_
 rintro e w' ⟨he,h1,h2⟩
 refine⟨_,he,h2,?_⟩
 refine((new_wt 200 0 200 (by omega)).open_ (run:=1) (fit_nil (by omega) (by omega)) (Nat.le_refl _) h1 (by omega) (by omega) (by omega) (by show 0+200<=200;omega) rfl rfl).mono ?_
 rintro e w2 ⟨j,S',l,he,⟨_,hj,hs,hn⟩,hlv,hK⟩
 obtain⟨W,g1,g2,g3⟩:=lv_sup (q:=⟨w.heap.size,0+200+1,S',w.heap.size+2,0,200,1,j⟩) hlv
 rw[List.take_nil] at g3
 exact⟨l,he,W,[],⟨_,g3,rfl⟩,Nat.le_refl _,g3.ge,h2.trans hK.bel⟩
set_option maxHeartbeats 2000000 in
theorem log_lk (hr:RsV w a0 n0 ms) (hs:∀ m∈ms,Small m) (hn:n0<=9223372036854775807) (most:Nat) (hm:most<=1000):Calls Tryz.prog 16 #[.slice a0 n0 c0,.int .i64 (most:Int)] w fun e w'=>∃ l,e=.returned (.pointer (some ⟨l,0,none⟩))/\Lk w l [] most w':=by
 have HR:Hid (RsV w a0 n0 ms):=hr
 have HSm:Hid (∀ m∈ms,Small m):=hs
 have HLn:Hid (ms.length=n0):=hr.len
 have CN:=lk_new w
 obtain⟨N,hN⟩:∃ N,min n0 most=N:=⟨_,rfl⟩
 have HN:Hid (min n0 most=N):=hN
 have HU:Hid (∀ l j wx,Lk w l [] j wx->j<=N->Lk w l [] most wx):=fun l j wx h hj=>by
  obtain⟨W,gs,q1,q2,q3⟩:=h.ex
  exact⟨W,gs,q1,by omega,q3⟩
 clear hr hs hN
 go_enter Tryz.func16,Tryz.ntmps16
 go_wp2_with first
  | (go_at_call 7;refine CN.mono ?_;rintro e w1 ⟨db,rfl,b1,CO⟩)
  | (go_at_call 8;refine CO.out.mono ?_;rintro e w2 ⟨l,rfl,HM⟩;have HM1:Hid (Lk w l [] 0 w2):=HM;clear HM CO)
 go_loopw [9] (fun ix wr=>∃ j:Nat,j<=N/\ix=.int .i64 (j:Int)/\Lk w l [] j wr) (fun ix _=>N-(intOf ix).toNat)
 case atStart=>exact⟨0,Nat.zero_le _,rfl,HM1.out⟩
 case round =>
  clear HM1
  obtain⟨j,hj,rfl,hM⟩:=hrel
  rename World=>wo
  have HM:Hid (Lk w l [] j wo):=hM
  clear hM
  have hNe:=HN.out
  by_cases hlt:j<N
  ·have hj1:(j:Int)<(n0:Int):=by omega
   have hj2:(j:Int)<(most:Int):=by omega
   have hjm:j<ms.length:=by have:=HLn.out;omega
   obtain⟨g,o,I,T,ha,hg,hrg,hv,hh⟩:=HR.out.at_ j hjm
   subst ha
   have hbo:Below w.heap.size w wo:=HM.out.bel
   have hr1:wo.rangeAt g (o+j*13) ((ms[j].s.A I T).toList):=rangeAt_below hrg hg hbo
   have CA:Hid (Calls Tryz.prog 35 #[.pointer (some ⟨l,0,none⟩),.agg (ms[j].s.A I T)] wo fun e w'=>∃ x y,e=.returned (.tuple #[.int .i64 x,.int .i64 y])/\Lk w l [] (j+1) w'):=HM.out.append (hv.below hbo) (HSm.out _ (List.getElem_mem _))
   clear hrg hv hh hbo hg
   generalize ms[j].s=sm at *
   go_wp2_with first
    | (refine wpList_load_rcs (s:=sm) (I:=I) (T:=T) _ rfl (.tmp 45) rfl rfl hr1 ?_;clear hr1)
    | (go_at_call 35;refine CA.out.mono ?_;rintro e w3 ⟨x,y,rfl,HM3⟩)
   go_roundw
   case rel=>exact⟨j+1,by omega,by go_num,HM3⟩
   case measure=>simp[intOf];omega
  ·have hj3:¬ ((j:Int)<(n0:Int)/\(j:Int)<(most:Int)):=by omega
   have HM9:Hid (Lk w l [] most wo):=HU.out _ _ _ HM.out hj
   by_cases hj1:(j:Int)<(n0:Int)
   ·have hj2:¬ (j:Int)<(most:Int):=by omega
    go_wp2
    go_ret
    exact⟨l,rfl,HM9.out⟩
   ·go_wp2
    go_ret
    exact⟨l,rfl,HM9.out⟩
end
theorem frm_tb {f:ByteArray} (h:Frm f) (hk:(recF f).s.kd=9):(recF f).tb.length<=255/\∀ p∈(recF f).tb,wfI p.1:=by
 obtain⟨m,Z,hb,rfl⟩:=h.ex
 have h0:=open_frame hb ⟨#[]⟩ ⟨#[]⟩
 rw[nil_app,app_nil] at h0
 have h1:openM (frameB Z) 0=(cleanM m,6+(Z.size:Int),0):=h0
 have e:recF (frameB Z)=cleanM m:=by unfold recF;rw[h1]
 rw[e] at hk ⊢
 generalize cleanM m=c at *
 have hl:(laidM c).2=0:=by
  refine Classical.byContradiction fun hne=>?_
  by_cases hr:refM c=0
  ·rw[bodyM_err hr hne] at hb
   exact hne (Prod.mk.inj hb).2
  ·rw[bodyM_ref hr] at hb
   exact hr (Prod.mk.inj hb).2
 have e2:laidM c=layB c.tb (stepW (stepW (⟨#[]⟩,0) c.s.kd 1) (c.tb.length:Int) 1):=by
  unfold laidM laidF
  dsimp only
  rw[if_neg (by omega),if_neg (by omega),if_neg (by omega),if_neg (by omega),if_pos hk]
 rw[e2] at hl
 obtain⟨h3,_⟩:=layB_inv hl
 have h4:=layB_was hl
 obtain⟨_,_,h5,_⟩:=stepW_inv (by omega) (by omega) h4
 refine⟨?_,fun p hp=>goodB_wf (h3 p hp)⟩
 have:Pk.limI (1:Int).toNat=256:=by rw[show(1:Int).toNat=1 from rfl];exact Pk.limI_1
 omega
def Md (w1 w2 wx:World):Prop:=w2.heap.size<=wx.heap.size/\∀ j,w1.heap.size<=j->j<w2.heap.size->wx.heap[j]?=w2.heap[j]?
theorem Md.refl (w1 w2:World):Md w1 w2 w2:=⟨Nat.le_refl _,fun _ _ _=>rfl⟩
theorem Md.bel {w1 w2 wx wy:World} (h:Md w1 w2 wx) (hb:Below wx.heap.size wx wy):Md w1 w2 wy:=⟨Nat.le_trans h.1 hb.size,fun j h1 h2=>(hb.block j (Nat.lt_of_lt_of_le h2 h.1)).trans (h.2 j h1 h2)⟩
theorem Md.fr {w1 w2 wx wy:World} {W W':Nat->Prop} (h:Md w1 w2 wx) (hf:Gm.Fr W W' wx wy) (hn:∀ j,w1.heap.size<=j->j<w2.heap.size->¬ W j):Md w1 w2 wy:=⟨Nat.le_trans h.1 hf.size,fun j h1 h2=>(hf.blk j (Nat.lt_of_lt_of_le h2 h.1) (hn j h1 h2)).trans (h.2 j h1 h2)⟩
theorem Md.cell {w1 w2 wx:World} (h:Md w1 w2 wx) {g i:Nat} {v:Value} (h1:w1.heap.size<=g) (hc:w2.cell? ⟨g,i,none⟩=some v):wx.cell? ⟨g,i,none⟩=some v:=by
 rw[World.cell?_of_block (h.2 g h1 (lt_cell hc))];exact hc
structure RwT (w1 w2:World) (fs:List ByteArray) (a a':Option Addr):Prop where
 at_:∀ i (hi:i<fs.length),∃ g g' I aT cT,a=some ⟨g,0,none⟩/\a'=some ⟨g',0,none⟩/\∀ wx,Md w1 w2 wx->wx.rangeAt g (i*13) ((rcd fs i).A I (.slice aT (recF fs[i]).tb.length cT)).toList/\wx.cell? ⟨g',i,none⟩=some (.int .i64 (pla fs i))/\∀ k (hk:k<(recF fs[i]).tb.length),∃ b o,aT=some ⟨b,o,none⟩/\wx.cell? ⟨b,o+k*2,none⟩=some (.int .i64 (recF fs[i]).tb[k].1)/\wx.cell? ⟨b,o+k*2+1,none⟩=some (.int .i64 (recF fs[i]).tb[k].2)
theorem Lo.recsT {W:Nat->Prop} {w1:World} {l:Nat} {fs:List ByteArray} (h:Lo W w1 l fs):Calls Tryz.prog 17 #[.pointer (some ⟨l,0,none⟩)] w1 fun e w2=>∃ a c a' c' W',e=.returned (.tuple #[.slice a fs.length c,.slice a' fs.length c'])/\RwT w1 w2 fs a a'/\Lo W' w2 l fs/\Gm.Fr W W' w1 w2/\∀ j,W' j->j<w1.heap.size:=by
 refine h.records2.mono ?_
 rintro e w2 ⟨v,v2,W',he,hr,hi,hlo,hf,ho⟩
 obtain⟨a,c,e1⟩:=hr.slice
 obtain⟨a',c',e2⟩:=hi.ex
 rw[List.length_map] at e1
 rw[plc_length] at e2
 subst e1 e2
 refine⟨a,c,a',c',W',he,⟨fun i hlt=>?_⟩,hlo,hf,ho⟩
 obtain⟨g,I,T,e3,hra,hrf⟩:=hr.at_ (i:=i) (by rw[List.length_map];exact hlt)
 obtain⟨g',e4,hci⟩:=hi.at_ (i:=i) (by rw[plc_length];exact hlt)
 have hg:w1.heap.size<=g:=by
  obtain⟨es,q1,⟨q2,q3⟩,q4⟩:=hr.ex
  rcases q3 with⟨e,_⟩ |⟨g9,cap,cur,e,hB,hg9,_⟩
  ·rw[e3] at e;injection e with e5 e6 e7;cases e5
  ·rw[e3] at e;injection e with e5 e6 e7;cases e5;exact hB
 have hg':w1.heap.size<=g':=(ownI_lt hi (by rw[e4];rfl)).1
 have hp:=plc_get 1 fs i hlt
 rw[List.getElem?_eq_getElem (by rw[plc_length];exact hlt)] at hp
 have hp:=Option.some.inj hp
 rw[List.getElem_map] at hra hrf
 obtain⟨I',T',e5,_,f2⟩:=hrf.ex
 have eT:T=T':=by
  injection e5 with e5
  have e10:=congrArg (fun a=>a[10]?) e5
  simpa[Sc.A] using e10
 subst eT
 obtain⟨aT,cT,e6,hcs,_,_,_,h5⟩:=f2.ex
 rw[encT_length] at e6
 subst e6
 have hp2:w2.cell? ⟨g',i,none⟩=some (.int .i64 (pla fs i)):=by rw[hci w2 (Below.refl _ _),hp];rfl
 have hk0:w2.cell? ⟨g,i*13+0,none⟩=some (.int .i64 (rcd fs i).kd):=by rw[rcd_at hlt] at hra;exact hra 0 _ rfl
 refine⟨g,g',I,aT,cT,e3,e4,fun wx hm=>⟨?_,hm.cell hg' hp2,fun k hk=>?_⟩⟩
 ·rw[rcd_at hlt] at hra
  exact Gm.range_bel hra (hm.2 g hg (lt_cell hk0))
 ·obtain⟨b,o,e7,hb,hc⟩:=csT_at hcs hk
  obtain⟨q1,q2⟩:=hc w2 (Below.refl _ _)
  have hb1:=h5 b o e7
  exact⟨b,o,e7,hm.cell hb1 q1,hm.cell hb1 q2⟩
end Go.Proofs.YtdchjncnjgelhaaGreat.Lg
