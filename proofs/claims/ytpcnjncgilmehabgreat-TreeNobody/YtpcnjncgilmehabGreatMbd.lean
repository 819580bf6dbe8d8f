import Derived.Test.YtpcnjncgilmehabGreatMbc
import Derived.Lib.AppendZerosOnto
import Derived.Lib.Overlaps
import Derived.Laws.CopyRow
import Derived.Deep.RegionLaw
import Derived.Laws.OwnMore
set_option linter.unusedVariables false
set_option linter.unusedSimpArgs false
set_option maxRecDepth 100000
namespace Go.Proofs.YtpcnjncgilmehabGreat.Tr
open Go.RowKit Go.Maps Go.ChangeMaps
theorem run_copy_k (w:World) (dT sT ty elem:TypeId) (sz g o dLen dCap:Nat) (a:Addr) (sLen sCap:Nat) (cur:Array Value) (t:TypeId) (cs:List Value)
  (hu:Tryz.prog.underlying dT=some (.slice elem)) (hs:(Tryz.prog.info? elem).map (·.size)=some sz)
  (hg:w.heap[g]?=some (.cells cur t (0,0))) (hn:cs.length=Nat.min sLen dLen*sz)
  (hsrc:∀ j v,cs[j]?=some v->w.cell? (a.add j)=some v) (hfit:o+cs.length<=cur.size) (h1:∀ v∈cs,v.oneCell'=true) :
  (Builtin.copy_ #[dT,sT] ty #[.slice (some ⟨g,o,none⟩) dLen dCap,.slice (some a) sLen sCap]).run Tryz.prog w =
   .ok (goInt (Nat.min sLen dLen)) (w.setRow g (cur.toList.take o++cs++cur.toList.drop (o+cs.length)).toArray):=by
 have hl:=run_loadCells_list (P:=Tryz.prog) w a cs hsrc
 have hst:=run_storeCells_at Tryz.prog g o t cs 0 cur w hg (by simpa using hfit) h1
 cases hq:Tryz.prog.info? elem with
 | none=>simp[hq] at hs
 | some i =>
  have hi:i.size=sz:=by simpa[hq] using hs
  simp[Builtin.copy_,run_underlying hu,Builtin.lenOf,Builtin.firstCells,sizeOf,typeInfo,hq,hi,← hn,hl,hst]
def zI:Value:=.agg #[.int .i64 0,.string eb]
theorem elI:El 38 45 2 zI :=
 ⟨Tryz.underlying38,by
  obtain⟨i,h1,h2,h3,h4⟩:=info_parts (show(Tryz.prog.info? 45).map (fun i=>(i.zero,i.size,i.bytes))=some (some zI,2,24) by kernel_rfl)
  exact⟨i,h1,h2,h3,by omega⟩,rfl,by omega⟩
theorem size_im:(Tryz.prog.info? 45).map (·.size)=some 2:=by kernel_rfl
def ins2 (xs:List Value) (i:Nat) (p t:Value):List Value:=xs.take (i*2)++[p,t]++xs.drop (i*2)
theorem ins2_end {xs:List Value} {n:Nat} (h:xs.length=n*2) (p t:Value):ins2 xs n p t=xs++[p,t]:=by
 unfold ins2
 rw[List.take_of_length_le (by omega),List.drop_of_length_le (by omega),List.append_nil]
structure Inew (w w':World) (v v':Value) (n:Nat) (xs:List Value):Prop where
 row:w'.ownsRow 0 45 2 v' n xs
 gr:w.grownBy w' v.ownBlock
 own:v'.ownBlock=v.ownBlock∨∃ g,v'.ownBlock=some g/\w.heap.size<=g
theorem cell_pair {w:World} {vb:Nat} {p t:Value} {ty:TypeId} (h:w.heap[vb]?=some (.cells #[p,t] ty)):∀ j u,[p,t][j]?=some u->w.cell? ((⟨vb,0,none⟩:Addr).add j)=some u:=fun j u hj=>by
 have hadd:(⟨vb,0,none⟩:Addr).add j=⟨vb,j,none⟩:=by unfold Addr.add;split <;> simp_all
 rw[hadd,cell_of_row w vb j _ ty (0,0) h]
 simpa using hj
set_option maxHeartbeats 1000000 in
theorem Insert_end {w:World} {v:Value} {n:Nat} {xs:List Value} (hrow:w.ownsRow 0 45 2 v n xs) (hn:n<=1000) (vb:Nat) (p:Int) (t:ByteArray) (hvb:w.heap[vb]?=some (.cells #[.int .i64 p,.string t] 45)) :
  Calls Tryz.prog 115 #[v,.int .i64 (n:Int),.slice (some ⟨vb,0,none⟩) 1 1] w fun e w'=>∃ v',e=.returned v'/\Inew w w' v v' (n+1) (ins2 xs n (.int .i64 p) (.string t)):=by
 rw[ins2_end hrow.1]
 have hnews:=cell_pair hvb
 have hv:∃ a c,v=.slice a n c/\n<=c/\c<=maxLen/\(a=none->c=0)/\∀ ad,a=some ad->ad=⟨ad.block,0,none⟩:=by
  rcases hrow.2 with⟨rfl,hn0⟩ |⟨b,cap,cur,rfl,hb,hg,h1,h2,h3,h4⟩
  ·subst hn0
   exact⟨none,0,rfl,Nat.le_refl _,by unfold maxLen;omega,fun _=>rfl,fun _ e=>by cases e⟩
  ·exact⟨_,cap,rfl,h1,h2,(fun e=>by cases e),fun ad e=>by cases e;rfl⟩
 obtain⟨a,c,rfl,hc,hcm,ha,hb⟩:=hv
 have hcm':c<=9223372036854775807:=by unfold maxLen at hcm;omega
 rcases a with _ |⟨ab,ao,asp⟩
 ·have hc0:=ha rfl
  subst hc0
  have hn0:n=0:=by omega
  subst hn0
  clear hcm hb ha hvb
  go_enter Tryz.func115,Tryz.ntmps115
  go_wp2_with (at_builtin;refine wpList_append_gen elI rfl _ _ rfl rfl hrow (m:=1) (c:=1) (news:=[.int .i64 p,.string t]) rfl rfl rfl hnews (by intro u hu;simp at hu;rcases hu with rfl |rfl <;> rfl) (by omega) (by omega) ?_;intro v' w' r1 g1 o1)
  go_ret
  exact⟨_,rfl,r1,g1,o1.imp id (fun e=>⟨_,e,Nat.le_refl _⟩)⟩
 ·have e:=hb _ rfl
  cases e
  clear hcm hb ha hvb
  go_enter Tryz.func115,Tryz.ntmps115
  go_wp2_with (at_builtin;refine wpList_append_gen elI rfl _ _ rfl rfl hrow (m:=1) (c:=1) (news:=[.int .i64 p,.string t]) rfl rfl rfl hnews (by intro u hu;simp at hu;rcases hu with rfl |rfl <;> rfl) (by omega) (by omega) ?_;intro v' w' r1 g1 o1)
  all_goals go_ret
  all_goals exact⟨_,rfl,r1,g1,o1.imp id (fun e=>⟨_,e,Nat.le_refl _⟩)⟩
theorem take_cat {xs ys:List Value} {n:Nat} (h:xs.length=n):(xs++ys).take n=xs:=by subst h;simp
theorem drop_cat {xs ys:List Value} {n:Nat} (h:xs.length=n):(xs++ys).drop n=ys:=by subst h;simp
theorem shift_row {cur:Array Value} {xs:List Value} {n c i:Nat} (hx:cur.toList.take (n*2)=xs) (hl:xs.length=n*2) (hi:i<n) (hc:n+1<=c) (hz:cur.size=c*2) (p t:Value) :
  let R1:=cur.toList.take ((i+1)*2)++xs.drop (i*2)++cur.toList.drop ((i+1)*2+(xs.drop (i*2)).length)
  R1.take (i*2)++[p,t]++R1.drop (i*2+2)=ins2 xs i p t++cur.toList.drop ((n+1)*2):=by
 intro R1
 have hcl:cur.toList.length=c*2:=by simpa using hz
 have hxd:(xs.drop (i*2)).length=(n-i)*2:=by rw[List.length_drop,hl];omega
 have e0:cur.toList.take ((i+1)*2)=xs.take (i*2)++(cur.toList.drop (i*2)).take 2:=by
  rw[← hx,List.take_take,show min (i*2) (n*2)=i*2 by omega,show(i+1)*2=i*2+2 by omega,List.take_add]
 have e1:R1=xs.take (i*2)++((cur.toList.drop (i*2)).take 2++(xs.drop (i*2)++cur.toList.drop ((n+1)*2))):=by
  show cur.toList.take ((i+1)*2)++xs.drop (i*2)++cur.toList.drop ((i+1)*2+(xs.drop (i*2)).length)=_
  rw[e0,hxd,show(i+1)*2+(n-i)*2=(n+1)*2 by omega]
  simp only[List.append_assoc]
 have l1:(xs.take (i*2)).length=i*2:=by rw[List.length_take,hl];omega
 have l2:((cur.toList.drop (i*2)).take 2).length=2:=by rw[List.length_take,List.length_drop,hcl];omega
 rw[e1,take_cat l1,← List.drop_drop,drop_cat l1,drop_cat l2]
 unfold ins2
 simp only[List.append_assoc]
theorem ins2_length {xs:List Value} {n i:Nat} (hl:xs.length=n*2) (hi:i<=n) (p t:Value):(ins2 xs i p t).length=(n+1)*2:=by
 unfold ins2
 simp only[List.length_append,List.length_take,List.length_drop,hl,List.length_cons,List.length_nil]
 omega
theorem grown_setRow2 (w:World) (b:Nat) (r1 r2:Array Value):w.grownBy ((w.drew.setRow b r1).setRow b r2) (some b):=⟨rfl,rfl,rfl,by simp,fun k _ hk=>(setRow_other _ b k _ (fun e=>hk (by rw[e]))).trans (setRow_other w.drew b k _ (fun e=>hk (by rw[e])))⟩
set_option maxHeartbeats 2000000 in
theorem Insert_room {w:World} {ab c n i:Nat} {cur:Array Value} {xs:List Value} (hb:w.heap[ab]?=some (.cells cur 45)) (hcm:c<=maxLen) (hz:cur.size=c*2) (hx:cur.toList.take (n*2)=xs) (hl:xs.length=n*2) (h1:∀ u∈xs,u.oneCell'=true) (hi:i<n) (hc:n+1<=c) (hn:n<=1000) (vb:Nat) (p:Int) (t:ByteArray) (hvb:w.heap[vb]?=some (.cells #[.int .i64 p,.string t] 45)) (hne:vb≠ab) :
  Calls Tryz.prog 115 #[.slice (some ⟨ab,0,none⟩) n c,.int .i64 (i:Int),.slice (some ⟨vb,0,none⟩) 1 1] w fun e w'=>∃ v',e=.returned v'/\Inew w w' (.slice (some ⟨ab,0,none⟩) n c) v' (n+1) (ins2 xs i (.int .i64 p) (.string t)):=by
 have hnews:=cell_pair hvb
 have hcm':c<=9223372036854775807:=by unfold maxLen at hcm;omega
 have hov:∀ lb cb,(callFunc 176 #[.slice (some ⟨vb,0,none⟩) 1 1,.slice (some ⟨ab,(i+1)*2,none⟩) lb cb]).run Tryz.prog w=.ok (.value (.bool false)) w:=fun lb cb=>by
  rw[run_callFunc_extern Tryz.func176 (by kernel_rfl) (by kernel_rfl) (by kernel_rfl) (e:=Extern.SlicesOverlaps.overlaps #[38,38] #[4]) (by kernel_rfl),
   Lib.run_overlaps_apart w 38 4 45 Tryz.underlying38 2 (fun w=>by kernel_rfl) ⟨vb,0,none⟩ ⟨ab,(i+1)*2,none⟩ 1 1 lb cb hne 45 45 2 (c*2) (by simp[World.shape?,hvb]) (by simp[World.shape?,hb,hz]) (by omega) (by simp[World.frozen?,hvb]) (by simp[World.frozen?,hvb])]
  rfl
 have hxd:(xs.drop (i*2)).length=(n-i)*2:=by rw[List.length_drop,hl];omega
 have hcp1:∀ ty dc sc,(Builtin.copy_ #[38,38] ty #[.slice (some ⟨ab,(i+1)*2,none⟩) (n-i) dc,.slice (some ⟨ab,i*2,none⟩) (n+1-i) sc]).run Tryz.prog w.drew=_:=fun ty dc sc =>
  run_copy_k w.drew _ _ ty 45 2 ab ((i+1)*2) (n-i) dc ⟨ab,i*2,none⟩ (n+1-i) sc cur 45 (xs.drop (i*2)) Tryz.underlying38 size_im hb (by rw[hxd];simp only[Nat.min_def];split <;> omega)
   (fun j v hj=>by
    have hadd:(⟨ab,i*2,none⟩:Addr).add j=⟨ab,i*2+j,none⟩:=by unfold Addr.add;split <;> simp_all
    rw[hadd,cell_of_row w.drew ab _ cur 45 (0,0) hb]
    rw[List.getElem?_drop,← hx,List.getElem?_take] at hj
    split at hj
    ·simpa using hj
    ·cases hj)
   (by rw[hxd,hz];omega) (fun u hu=>h1 u (List.mem_of_mem_drop hu))
 obtain⟨R1,hR1⟩:∃ R1,R1=cur.toList.take ((i+1)*2)++xs.drop (i*2)++cur.toList.drop ((i+1)*2+(xs.drop (i*2)).length):=⟨_,rfl⟩
 have hR2:=shift_row hx hl hi hc hz (.int .i64 p) (.string t)
 simp only[] at hR2
 rw[← hR1] at hR2
 have hRl:R1.length=c*2:=by
  rw[hR1]
  simp only[List.length_append,List.length_take,List.length_drop,hl,Array.length_toList,hz]
  omega
 have hbk1:(w.drew.setRow ab R1.toArray).heap[ab]?=some (.cells R1.toArray 45):=setRow_heap w.drew ab cur _ 45 _ hb
 have hcp2:∀ ty dc,(Builtin.copy_ #[38,38] ty #[.slice (some ⟨ab,i*2,none⟩) (n+1-i) dc,.slice (some ⟨vb,0,none⟩) 1 1]).run Tryz.prog (w.drew.setRow ab R1.toArray)=_:=fun ty dc =>
  run_copy_k (w.drew.setRow ab R1.toArray) _ _ ty 45 2 ab (i*2) (n+1-i) dc ⟨vb,0,none⟩ 1 1 R1.toArray 45 [.int .i64 p,.string t] Tryz.underlying38 size_im hbk1 (by rw[show Nat.min 1 (n+1-i)=1 from Nat.min_eq_left (by omega)];rfl)
   (fun j v hj=>by
    have:=hnews j v hj
    rwa [World.cell?_of_block (w:=w) (w':=w.drew.setRow ab R1.toArray)]
    have:((⟨vb,0,none⟩:Addr).add j).block=vb:=by unfold Addr.add;split <;> rfl
    rw[this]
    exact setRow_other w.drew ab vb _ hne)
   (by simp[hRl];omega) (by intro u hu;simp at hu;rcases hu with rfl |rfl <;> rfl)
 rw[← hR1] at hcp1
 have e2:(List.take (i*2) R1++[Value.int .i64 p,.string t]++List.drop (i*2+[Value.int .i64 p,.string t].length) R1)=ins2 xs i (.int .i64 p) (.string t)++cur.toList.drop ((n+1)*2):=hR2
 have e3:R1.toArray.toList=R1:=rfl
 rw[e3,e2] at hcp2
 have hlen:=ins2_length hl (Nat.le_of_lt hi) (.int .i64 p) (.string t)
 have HF:Hid (((w.drew.setRow ab R1.toArray).setRow ab (ins2 xs i (.int .i64 p) (.string t)++cur.toList.drop ((n+1)*2)).toArray).ownsRow 0 45 2 (.slice (some ⟨ab,0,none⟩) (n+1) c) (n+1) (ins2 xs i (.int .i64 p) (.string t))) :=
  ⟨hlen,Or.inr ⟨ab,c,_,rfl,Nat.zero_le _,setRow_heap _ ab _ _ 45 _ hbk1,hc,hcm,by simp only[List.size_toArray,List.length_append,hlen,List.length_drop,Array.length_toList,hz];omega,take_cat hlen⟩⟩
 generalize (ins2 xs i (.int .i64 p) (.string t)++cur.toList.drop ((n+1)*2)).toArray=R2 at *
 have hw1:IntKind.i64.wrap ((i:Int)+1)=(i:Int)+1:=by rw[IntKind.wrap_i64];omega
 have hb1:(0:Int)<=(i:Int)+1:=by omega
 have hz2:¬ ((i:Int)=(n:Int)):=by omega
 have htn:((i:Int)+1).toNat=i+1:=by omega
 have hb2:¬ (c=i+1):=by omega
 have hb3:(i:Int)<=(n:Int)+1:=by omega
 have hb4:¬ (c=i):=by omega
 have hin:i<=n:=by omega
 clear hlen hR2 hbk1 hx h1 hl hR1 hxd hnews hvb hb hcm hRl hz e2 e3
 go_enter Tryz.func115,Tryz.ntmps115
 go_wp2_with (simp only[hov])
 go_region_law (refine step_copy_run rfl _ _ 38 38 rfl _ _ (by simp[Act.eval,Act.put]) (by simp[Act.eval,Act.put]) (hcp1 _ _ _) ?_)
 go_wp2_with (at_builtin;refine Lib.wpList_copy_run _ rfl _ _ 38 38 rfl _ _ rfl rfl (hcp2 _ _) ?_)
 go_ret
 exact⟨_,rfl,⟨HF.out,grown_setRow2 w ab _ _,Or.inl rfl⟩⟩
theorem zeroCells_size (z:Array Value) (n:Nat):(Builtin.zeroCells z n).size=n*z.size:=by simp[Builtin.zeroCells]
theorem grow_row {ROW:List Value} {xs:List Value} {n G i:Nat} (hx:ROW.take (i*2)=xs.take (i*2)) (hl:xs.length=n*2) (hi:i<n) (hG:n+1<=G) (hz:ROW.length=G*2) (p t:Value) :
  let R1:=ROW.take (i*2)++[p,t]++ROW.drop (i*2+2)
  R1.length=G*2/\R1.take ((i+1)*2)++xs.drop (i*2)++R1.drop ((i+1)*2+(xs.drop (i*2)).length)=ins2 xs i p t++ROW.drop ((n+1)*2):=by
 intro R1
 have hxd:(xs.drop (i*2)).length=(n-i)*2:=by rw[List.length_drop,hl];omega
 have l1:(ROW.take (i*2)++[p,t]).length=(i+1)*2:=by simp only[List.length_append,List.length_take,hz,List.length_cons,List.length_nil];omega
 refine⟨by simp only[R1,List.length_append,List.length_take,List.length_drop,hz,List.length_cons,List.length_nil];omega,?_⟩
 rw[hxd,← List.drop_drop,take_cat l1,drop_cat l1,List.drop_drop,hx,show i*2+2+(n-i)*2=(n+1)*2 by omega]
 unfold ins2
 simp only[List.append_assoc]
set_option maxHeartbeats 2000000 in
theorem Insert_grow {w:World} {ab c n i:Nat} {cur:Array Value} {xs:List Value} (hb:w.heap[ab]?=some (.cells cur 45)) (hz:cur.size=c*2) (hx:cur.toList.take (n*2)=xs) (hl:xs.length=n*2) (h1:∀ u∈xs,u.oneCell'=true) (hi:i<n) (hnc:n<=c) (hc:c<n+1) (hn:n<=1000) (vb:Nat) (p:Int) (t:ByteArray) (hvb:w.heap[vb]?=some (.cells #[.int .i64 p,.string t] 45)) (hne:vb≠ab) :
  Calls Tryz.prog 115 #[.slice (some ⟨ab,0,none⟩) n c,.int .i64 (i:Int),.slice (some ⟨vb,0,none⟩) 1 1] w fun e w'=>∃ v',e=.returned v'/\Inew w w' (.slice (some ⟨ab,0,none⟩) n c) v' (n+1) (ins2 xs i (.int .i64 p) (.string t)):=by
 have hnews:=cell_pair hvb
 have hcn:c=n:=by omega
 subst hcn
 obtain⟨i0,hi0,hz0,hzs,hzb⟩:=info_parts (show(Tryz.prog.info? 45).map (fun i=>(i.zero,i.size,i.bytes))=some (some zI,2,24) by kernel_rfl)
 have hsrc:∀ (w':World),w'.heap[ab]?=some (.cells cur 45)->∀ j u,j<c*2->xs[j]?=some u->w'.cell? ⟨ab,j,none⟩=some u:=fun w' hw j u hj hu=>by
  rw[cell_of_row w' ab j cur 45 (0,0) hw]
  rw[← hx,List.getElem?_take,if_pos hj] at hu
  simpa using hu
 have hadd:∀ (b o j:Nat),(⟨b,o,none⟩:Addr).add j=⟨b,o+j,none⟩:=fun b o j=>by unfold Addr.add;split <;> simp_all
 have htl:(xs.take (i*2)).length=i*2:=by rw[List.length_take,hl];omega
 have hold:(Builtin.firstCells i0.size i (.slice (some ⟨ab,0,none⟩) i c)).run Tryz.prog w.drew=.ok (xs.take (i*2)).toArray w.drew:=by
  rw[hzs]
  exact run_firstCells_some w.drew 2 i ⟨ab,0,none⟩ i c (xs.take (i*2)) (by rw[htl]) (fun j u hj=>by
   rw[hadd,Nat.zero_add]
   rw[List.getElem?_take] at hj
   split at hj
   ·exact hsrc w.drew hb j u (by omega) hj
   ·cases hj)
 have hik:i+(c+1-i)=c+1:=by omega
 have hkk:(c:Int)+1-(i:Int)=((c+1-i:Nat):Int):=by omega
 have hrz:∀ ty,(Builtin.append_ #[38,3] ty #[.slice (some ⟨ab,0,none⟩) i c,.int .i64 ((c:Int)+1-(i:Int))]).run Tryz.prog w=.ok (.slice (some ⟨w.heap.size,0,none⟩) (c+1) (grownCap w (c+1) c 45)) (w.drew.alloc (.cells ((xs.take (i*2)).toArray++Builtin.zeroCells zI.cells (c+1-i)++Builtin.zeroCells zI.cells (grownCap w (c+1) c 45-(c+1))) 45)):=fun ty=>by
  have h:=Lib.run_append_grow_zeros w 38 3 ty 45 i0 _ .i64 .i64 Tryz.underlying38 Tryz.underlying3 hi0 hz0 (some ⟨ab,0,none⟩) i c (xs.take (i*2)) hold (c+1-i) (by omega) (by omega) (by omega) (by omega) (by rw[hzb];omega) (by rw[hzb,hik];exact growslice_fits (by omega) (by omega))
  rw[hik] at h
  rw[hkk]
  exact h
 obtain⟨G,hG⟩:∃ G,G=grownCap w (c+1) c 45:=⟨_,rfl⟩
 have hGn:c+1<=G:=by rw[hG];exact grownCap_ge w _ _ _
 have hGm:G<=maxLen:=by rw[hG];exact grownCap_le_maxLen w (c+1) c _ (by unfold maxLen;omega)
 obtain⟨ROW,hROW⟩:∃ ROW:Array Value,ROW=(xs.take (i*2)).toArray++Builtin.zeroCells zI.cells (c+1-i)++Builtin.zeroCells zI.cells (G-(c+1)):=⟨_,rfl⟩
 rw[← hG] at hrz
 rw[← hROW] at hrz
 have hRl:ROW.toList.length=G*2:=by
  rw[hROW]
  have:zI.cells.size=2:=rfl
  simp only[Array.length_toList,Array.size_append,zeroCells_size,this,List.size_toArray,htl]
  omega
 have hRt:ROW.toList.take (i*2)=xs.take (i*2):=by
  rw[hROW,Array.toList_append,Array.toList_append,List.append_assoc]
  exact take_cat htl
 obtain⟨W1,hW1⟩:∃ W1,W1=w.drew.alloc (.cells ROW 45):=⟨_,rfl⟩
 rw[← hW1] at hrz
 obtain⟨g,hg⟩:∃ g,g=w.heap.size:=⟨_,rfl⟩
 rw[← hg] at hrz
 have k1:W1.heap[g]?=some (.cells ROW 45):=by rw[hW1,hg];exact(MapKept.heap_alloc w.drew _).1
 have gr1:w.grownBy W1 none:=by
  rw[hW1]
  exact⟨rfl,rfl,rfl,by simp,fun k hk _=>(World.grownBy_alloc w.drew (.cells ROW 45) none).block k hk (by simp)⟩
 have hxd:(xs.drop (i*2)).length=(c-i)*2:=by rw[List.length_drop,hl];omega
 obtain⟨hR1l,hR2⟩:=grow_row hRt hl hi hGn hRl (.int .i64 p) (.string t)
 obtain⟨R1,hR1⟩:∃ R1,R1=ROW.toList.take (i*2)++[.int .i64 p,.string t]++ROW.toList.drop (i*2+2):=⟨_,rfl⟩
 rw[← hR1] at hR1l hR2
 have hvlt:vb<w.heap.size:=lt_of_some hvb
 have halt:ab<w.heap.size:=lt_of_some hb
 have hcpA:∀ ty dc,(Builtin.copy_ #[38,38] ty #[.slice (some ⟨g,i*2,none⟩) (c+1-i) dc,.slice (some ⟨vb,0,none⟩) 1 1]).run Tryz.prog W1=_:=fun ty dc =>
  run_copy_k W1 _ _ ty 45 2 g (i*2) (c+1-i) dc ⟨vb,0,none⟩ 1 1 ROW 45 [.int .i64 p,.string t] Tryz.underlying38 size_im k1 (by rw[show Nat.min 1 (c+1-i)=1 from Nat.min_eq_left (by omega)];rfl)
   (fun j v hj=>cell_pair ((gr1.block vb hvlt (by simp)).trans hvb) j v hj)
   (by rw[Array.length_toList] at hRl;simp only[hRl,List.length_cons,List.length_nil];omega) (by intro u hu;simp at hu;rcases hu with rfl |rfl <;> rfl)
 have e1:(ROW.toList.take (i*2)++[Value.int .i64 p,.string t]++ROW.toList.drop (i*2+[Value.int .i64 p,.string t].length))=R1:=hR1.symm
 rw[e1] at hcpA
 obtain⟨W2,hW2⟩:∃ W2,W2=W1.setRow g R1.toArray:=⟨_,rfl⟩
 rw[← hW2] at hcpA
 have k2:W2.heap[g]?=some (.cells R1.toArray 45):=by rw[hW2];exact setRow_heap W1 g ROW _ 45 _ k1
 have gr2:w.grownBy W2 none:=by
  rw[hW2]
  exact⟨gr1.os,gr1.tape,gr1.output,by simpa using gr1.size,fun k hk hn=>(setRow_other W1 g k _ (by omega)).trans (gr1.block k hk hn)⟩
 have hcpB:∀ ty dc sc,(Builtin.copy_ #[38,38] ty #[.slice (some ⟨g,(i+1)*2,none⟩) (c-i) dc,.slice (some ⟨ab,i*2,none⟩) (c-i) sc]).run Tryz.prog W2.drew=_:=fun ty dc sc =>
  run_copy_k W2.drew _ _ ty 45 2 g ((i+1)*2) (c-i) dc ⟨ab,i*2,none⟩ (c-i) sc R1.toArray 45 (xs.drop (i*2)) Tryz.underlying38 size_im k2 (by rw[hxd];simp only[Nat.min_def];split <;> omega)
   (fun j v hj=>by
    rw[hadd]
    rw[List.getElem?_drop] at hj
    have hlt:i*2+j<xs.length:=(List.getElem?_eq_some_iff.1 hj).1
    exact hsrc W2.drew ((gr2.block ab halt (by simp)).trans hb) _ v (by omega) hj)
   (by simp only[List.size_toArray,hR1l,hxd];omega) (fun u hu=>h1 u (List.mem_of_mem_drop hu))
 have e3:R1.toArray.toList=R1:=rfl
 rw[e3,hR2] at hcpB
 have hlen:=ins2_length hl (Nat.le_of_lt hi) (.int .i64 p) (.string t)
 have HF:Hid ((W2.drew.setRow g (ins2 xs i (.int .i64 p) (.string t)++ROW.toList.drop ((c+1)*2)).toArray).ownsRow 0 45 2 (.slice (some ⟨g,0,none⟩) (c+1) G) (c+1) (ins2 xs i (.int .i64 p) (.string t))) :=
  ⟨hlen,Or.inr ⟨g,G,_,rfl,Nat.zero_le _,setRow_heap W2.drew g _ _ 45 _ k2,hGn,hGm,by simp only[List.size_toArray,List.length_append,hlen,List.length_drop,hRl];omega,take_cat hlen⟩⟩
 have HG:Hid (∀ R2,w.grownBy (W2.drew.setRow g R2) (some ab)):=fun R2=>⟨gr2.os,gr2.tape,gr2.output,by simpa using gr2.size,fun k hk hn=>(setRow_other W2.drew g k _ (by omega)).trans (gr2.block k hk (by simp))⟩
 generalize (ins2 xs i (.int .i64 p) (.string t)++ROW.toList.drop ((c+1)*2)).toArray=R2 at *
 have hgle:w.heap.size<=g:=by omega
 have HL:Hid (w.heap.size<=g):=hgle
 have hG63:G<=9223372036854775807:=by unfold maxLen at hGm;omega
 have hw1:IntKind.i64.wrap ((i:Int)+1)=(i:Int)+1:=by rw[IntKind.wrap_i64];omega
 have hb1:(0:Int)<=(i:Int)+1:=by omega
 have hz2:¬ ((i:Int)=(c:Int)):=by omega
 have htn:((i:Int)+1).toNat=i+1:=by omega
 have hb2:¬ (G=i+1):=by omega
 have hb5:¬ (G=i):=by omega
 have hb4:¬ (c=i):=by omega
 have hb6:(c:Int)<(c:Int)+1:=by omega
 have hin:i<=c:=by omega
 clear hlen hR2 hx h1 hl hR1 hxd hnews hvb hb hRl hz e1 e3 hgle hGm gr1 gr2 k1 k2 hW1 hW2 hg hG hROW hRt hold htl hkk hik hsrc hadd hR1l hi0 hz0 hzs hzb hvlt halt hc hnc
 go_enter Tryz.func115,Tryz.ntmps115
 go_wp2_with (first
  | (at_builtin;refine Lib.wpList_append_run _ rfl _ _ _ _ rfl _ _ rfl rfl _ _ (hrz _) ?_)
  | (at_builtin;refine Lib.wpList_copy_run _ rfl _ _ 38 38 rfl _ _ rfl rfl (hcpA _ _) ?_))
 go_region_law (refine step_copy_run rfl _ _ 38 38 rfl _ _ (by simp[Act.eval,Act.put]) (by simp[Act.eval,Act.put]) (hcpB _ _ _) ?_)
 go_wp2
 go_ret
 exact⟨_,rfl,⟨HF.out,HG.out _,Or.inr ⟨g,rfl,HL.out⟩⟩⟩
theorem Insert_im {w:World} {v:Value} {n i:Nat} {xs:List Value} (hrow:w.ownsRow 0 45 2 v n xs) (h1:∀ u∈xs,u.oneCell'=true) (hi:i<=n) (hn:n<=1000) (vb:Nat) (p:Int) (t:ByteArray) (hvb:w.heap[vb]?=some (.cells #[.int .i64 p,.string t] 45)) (hne:v.ownBlock≠some vb) :
  Calls Tryz.prog 115 #[v,.int .i64 (i:Int),.slice (some ⟨vb,0,none⟩) 1 1] w fun e w'=>∃ v',e=.returned v'/\Inew w w' v v' (n+1) (ins2 xs i (.int .i64 p) (.string t)):=by
 by_cases e:i=n
 ·subst e;exact Insert_end hrow hn vb p t hvb
 ·have hlt:i<n:=by omega
  rcases hrow.2 with⟨rfl,hn0⟩ |⟨b,cap,cur,rfl,hb,hg,q1,q2,q3,q4⟩
  ·omega
  ·have hne':vb≠b:=fun e=>hne (by subst e;rfl)
   by_cases hc:n+1<=cap
   ·exact Insert_room hg q2 q3 q4 hrow.1 h1 hlt hc hn vb p t hvb hne'
   ·exact Insert_grow hg q3 q4 hrow.1 h1 hlt q1 (by omega) hn vb p t hvb hne'
def putI (im:Ims) (id:Nat) (t:ByteArray):Ims:=if inn im id then im.set (pos im id) (id,t) else im.take (pos im id)++[(id,t)]++im.drop (pos im id)
theorem inn_at {im:Ims} {id:Nat} (h:inn im id=true):∃ hp:pos im id<im.length,im[pos im id].1=id:=by
 unfold inn at h
 rcases Nat.lt_or_ge (pos im id) im.length with h1 |h1
 ·rw[List.getElem?_eq_getElem h1] at h
  exact⟨h1,by simpa using h⟩
 ·rw[List.getElem?_eq_none h1] at h;cases h
theorem pos_of {im:Ims} (hr:Rise im) {id i:Nat} (hi:i<im.length) (e:im[i].1=id):pos im id=i:=by
 have h1:¬ i<pos im id:=fun h=>by have:=pos_lt h;omega
 have h2:pos im id<im.length:=by omega
 by_cases h3:pos im id=i
 ·exact h3
 ·have:=List.pairwise_iff_getElem.1 hr (pos im id) i h2 hi (by omega)
  have:=pos_ge hr h2 (Nat.le_refl _)
  omega
theorem inn_of {im:Ims} (hr:Rise im) {id:Nat} {t:ByteArray} (h:(id,t)∈im):inn im id=true/\im[pos im id]?=some (id,t):=by
 obtain⟨i,hi,e⟩:=List.getElem_of_mem h
 have hp:=pos_of hr hi (by rw[e])
 unfold inn
 rw[hp,List.getElem?_eq_getElem hi,e]
 simp
theorem bv_mem {C:Cf} {st:Nat->Option Nat} {im:Ims} (hr:Rise im) {id:Nat} {t:ByteArray} (h:(id,t)∈im):bv C st im id=t:=by
 obtain⟨h1,h2⟩:=inn_of hr h
 unfold bv
 rw[if_pos h1,List.getD_eq_getElem?_getD,h2]
 rfl
theorem bv_not {C:Cf} {st:Nat->Option Nat} {im:Ims} {id:Nat} (h:∀ t,(id,t) ∉ im):bv C st im id=Vw C st id:=by
 unfold bv
 rw[if_neg]
 intro e
 obtain⟨hp,e1⟩:=inn_at e
 exact h im[pos im id].2 (by rw[show(id,im[pos im id].2)=im[pos im id] from Prod.ext e1.symm rfl];exact List.getElem_mem hp)
theorem rise_take {im:Ims} {id:Nat}:∀ q∈im.take (pos im id),q.1<id:=fun q hq=>by
 obtain⟨i,hi,e⟩:=List.getElem_of_mem hq
 rw[List.length_take] at hi
 rw[List.getElem_take] at e
 rw[← e]
 exact pos_lt (by omega)
theorem rise_drop {im:Ims} (hr:Rise im) {id:Nat} (h:inn im id=false):∀ q∈im.drop (pos im id),id<q.1:=fun q hq=>by
 obtain⟨i,hi,e⟩:=List.getElem_of_mem hq
 rw[List.length_drop] at hi
 rw[List.getElem_drop] at e
 have h1:=pos_ge hr (id:=id) (i:=pos im id+i) (by omega) (by omega)
 rw[e] at h1
 by_cases h2:q.1=id
 ·have:(id,q.2)∈im:=by
   rw[show(id,q.2)=q from Prod.ext h2.symm rfl,← e]
   exact List.getElem_mem _
  rw[(inn_of hr this).1] at h
  cases h
 ·omega
theorem putI_set {im:Ims} {id:Nat} (t:ByteArray) (h:inn im id=true):(im.set (pos im id) (id,t)).map (·.1)=im.map (·.1):=by
 obtain⟨hp,e⟩:=inn_at h
 rw[List.map_set]
 apply List.ext_getElem?
 intro j
 rw[List.getElem?_set]
 split
 ·rename_i e2
  subst e2
  simp[hp,e]
 ·rfl
theorem rise_map {im:Ims}:Rise im↔(im.map (·.1)).Pairwise (·<·):=by unfold Rise;rw[List.pairwise_map]
theorem putI_rise {im:Ims} (hr:Rise im) (id:Nat) (t:ByteArray):Rise (putI im id t):=by
 unfold putI
 cases h:inn im id with
 | true=>rw[if_pos rfl];rw[rise_map,putI_set t h];exact rise_map.1 hr
 | false =>
  rw[if_neg (by simp)]
  have h1:=rise_take (im:=im) (id:=id)
  have h2:=rise_drop hr h
  have hr':Rise (im.take (pos im id)++im.drop (pos im id)):=by rw[List.take_append_drop];exact hr
  obtain⟨a1,a2,a3⟩:=List.pairwise_append.1 hr'
  unfold Rise
  rw[List.append_assoc,List.pairwise_append]
  refine⟨a1,?_,?_⟩
  ·rw[List.singleton_append,List.pairwise_cons]
   exact⟨fun q hq=>h2 q hq,a2⟩
  ·intro a ha b hb
   rw[List.singleton_append,List.mem_cons] at hb
   rcases hb with rfl |hb
   ·exact h1 a ha
   ·exact a3 a ha b hb
theorem putI_mem {im:Ims} (hr:Rise im) {id:Nat} {t:ByteArray} {q:Nat × ByteArray}:q∈putI im id t↔(q=(id,t)∨(q.1≠id/\q∈im)):=by
 unfold putI
 cases h:inn im id with
 | true =>
  rw[if_pos rfl]
  obtain⟨hp,e⟩:=inn_at h
  constructor
  ·intro hq
   obtain⟨i,hi,e1⟩:=List.getElem_of_mem hq
   rw[List.length_set] at hi
   rw[List.getElem_set] at e1
   split at e1
   ·exact Or.inl e1.symm
   ·rename_i hne
    refine Or.inr ⟨fun e2=>hne ?_,by rw[← e1];exact List.getElem_mem _⟩
    exact pos_of hr hi (by rw[e1,e2])
  ·rintro(rfl |⟨h1,h2⟩)
   ·exact List.mem_set hp _
   ·obtain⟨i,hi,e1⟩:=List.getElem_of_mem h2
    have hne:pos im id≠i:=fun e2=>h1 (by rw[← e1,← e];simp only[e2])
    have:(im.set (pos im id) (id,t))[i]'(by simpa using hi)=q:=by rw[List.getElem_set_ne hne,e1]
    rw[← this]
    exact List.getElem_mem _
 | false =>
  rw[if_neg (by simp)]
  have h1:=rise_take (im:=im) (id:=id)
  have h2:=rise_drop hr h
  have h3:q∈im↔q∈im.take (pos im id)∨q∈im.drop (pos im id):=by
   rw[← List.mem_append,List.take_append_drop]
  simp only[List.mem_append,List.mem_singleton]
  rw[h3]
  constructor
  ·rintro((e |e) |e)
   ·exact Or.inr ⟨by have:=h1 q e;omega,Or.inl e⟩
   ·exact Or.inl e
   ·exact Or.inr ⟨by have:=h2 q e;omega,Or.inr e⟩
  ·rintro(e |⟨_,e |e⟩)
   ·exact Or.inl (Or.inr e)
   ·exact Or.inl (Or.inl e)
   ·exact Or.inr e
theorem bv_put {C:Cf} {st:Nat->Option Nat} {im:Ims} (hr:Rise im) (id:Nat) (t:ByteArray) (j:Nat):bv C st (putI im id t) j=if j=id then t else bv C st im j:=by
 split
 ·rename_i e
  subst e
  exact bv_mem (putI_rise hr _ _) ((putI_mem hr).2 (Or.inl rfl))
 ·rename_i hne
  by_cases h:∃ s,(j,s)∈im
  ·obtain⟨s,hs⟩:=h
   rw[bv_mem hr hs]
   exact bv_mem (putI_rise hr _ _) ((putI_mem hr).2 (Or.inr ⟨hne,hs⟩))
  ·rw[bv_not (fun s hs=>h ⟨s,hs⟩)]
   refine bv_not (fun s hs=>?_)
   rcases (putI_mem hr).1 hs with e |e
   ·injection e with e1 e2;exact hne e1
   ·exact h ⟨s,e.2⟩
theorem rise_len:∀ (m:Nat) (l:List Nat),l.Pairwise (·<·)->(∀ x∈l,x<m)->l.length<=m:=by
 intro m l h1 h2
 have h3:l.Nodup:=h1.imp (fun h=>Nat.ne_of_lt h)
 have h4:l ⊆ List.range m:=fun x hx=>List.mem_range.2 (h2 x hx)
 have:=h3.length_le_of_subset h4
 simpa using this
theorem ins2_prs (xs:List P2) (i:Nat) (p t:Value):ins2 (prs xs) i p t=prs (xs.take i++[(p,t)]++xs.drop i):=by
 have h:prs xs=prs (xs.take i)++prs (xs.drop i):=by rw[← prs_append,List.take_append_drop]
 by_cases hi:i<=xs.length
 ·have hl:(prs (xs.take i)).length=i*2:=by rw[prs_length,List.length_take];omega
  unfold ins2
  rw[h,take_cat hl,drop_cat hl,prs_append,prs_append]
  rfl
 ·unfold ins2
  rw[List.take_of_length_le (by rw[prs_length];omega),List.drop_of_length_le (by rw[prs_length];omega),List.take_of_length_le (by omega),List.drop_of_length_le (by omega),prs_append,prs_append]
  rfl
theorem set_prs:∀ (xs:List P2) (i:Nat) (p:Value) (t:Value),(∀ q,xs[i]?=some q->q.1=p)->(prs xs).set (i*2+1) t=prs (xs.set i (p,t))
 | [],i,p,t,_=>by simp[prs]
 | x :: xs,0,p,t,h=>by
  have:=h x rfl
  subst this
  simp[prs]
 | x :: xs,i+1,p,t,h=>by
  have ih:=set_prs xs i p t (fun q hq=>h q (by simpa using hq))
  rw[show(i+1)*2+1=(i*2+1)+1+1 by omega]
  simp[prs,ih]
theorem encI_ins (im:Ims) (i id:Nat) (t:ByteArray):encI (imI (im.take i++[(id,t)]++im.drop i))=(encI (imI im)).take i++[(.int .i64 (id:Int),.string t)]++(encI (imI im)).drop i:=by
 simp[encI,imI]
theorem encI_set (im:Ims) (i id:Nat) (t:ByteArray):encI (imI (im.set i (id,t)))=(encI (imI im)).set i (.int .i64 (id:Int),.string t):=by
 simp[encI,imI]
end Go.Proofs.YtpcnjncgilmehabGreat.Tr
