import Derived.Test.YtjlhohljkedbbaaGreatMam
import Derived.Test.YtjlhohljkedbbaaGreatMag
set_option linter.unusedVariables false
set_option linter.unusedSimpArgs false
set_option maxRecDepth 100000
namespace Go.Proofs.YtjlhohljkedbbaaGreat
open Go.RowKit Go.Maps Go.ChangeMaps
theorem append_int {B:Nat} {w:World} {v:Value} {ps:List Int} (h:OwnI B w v ps) {g:Nat} {p:Int} (hg:w.cell? ⟨g,0,none⟩=some (.int .i64 p)) (hB:B<=w.heap.size) (hl:ps.length<=100000) (ty:TypeId) :
  ∃ v' w',(Builtin.append_ #[45,45] ty #[v,.slice (some ⟨g,0,none⟩) 1 1]).run Tryz.prog w=.ok v' w'/\OwnI B w' v' (ps++[p])/\w.grownBy w' v.ownBlock/\(v'.ownBlock=v.ownBlock∨v'.ownBlock=some w.heap.size):=by
 obtain⟨i,hi,hz0,hz1,hz2⟩:=info_int
 have hnews:∀ j u,[Value.int .i64 p][j]?=some u->w.cell? ((⟨g,0,none⟩:Addr).add j)=some u:=by
  intro j u hu
  have:j=0:=by
   have:=(List.getElem?_eq_some_iff.1 hu).1
   simpa using this
  subst this
  simp at hu
  subst hu
  have hadd:(⟨g,0,none⟩:Addr).add 0=⟨g,0,none⟩:=by unfold Addr.add;split <;> simp_all
  rw[hadd]
  exact hg
 have h1:∀ u∈[Value.int .i64 p],u.oneCell'=true:=by
  intro u hu
  simp at hu
  subst hu
  rfl
 obtain⟨v',w',hr,ho,hgr,_⟩:=run_append_own (P:=Tryz.prog) w B 45 ty 3 i (.int .i64 0) 1 8 Tryz.underlying45 hi hz0 hz1 hz2 rfl (by omega) v ps.length (iv ps) h.row ⟨g,0,none⟩ 1 1 [.int .i64 p] rfl hnews h1 (by unfold maxLen;omega) (by omega) hB
 refine⟨v',w',hr,⟨?_⟩,hgr,?_⟩
 ·have e1:(ps++[p]).length=ps.length+1:=by simp
  have e2:iv (ps++[p])=iv ps++[.int .i64 p]:=by simp[iv]
  rw[e1,e2]
  exact ho
 ·have hl1:[Value.int .i64 p].length=1*i.size:=by rw[hz1];rfl
  rcases h.row.2 with⟨rfl,hn⟩ |⟨b,cap,cur,rfl,hbg,hgg,hnc,hcm,hcs,htake⟩
  ·have hr2:=run_append_nil (P:=Tryz.prog) w 45 ty 3 i (.int .i64 0) Tryz.underlying45 hi hz0 ⟨g,0,none⟩ 1 1 [.int .i64 p] hl1 hnews (by omega) (by omega) (by rw[hz2];omega)
   rw[hr2] at hr
   injection hr with e1 e2
   subst e1
   exact Or.inr rfl
  ·by_cases hroom:ps.length+1<=cap
   ·have hr2:=run_append_room (P:=Tryz.prog) w 45 ty 3 i Tryz.underlying45 hi b ps.length cap cur hgg ⟨g,0,none⟩ 1 1 [.int .i64 p] hl1 hnews h1 hroom (by rw[hz1,hcs];simp;omega)
    rw[hr2] at hr
    injection hr with e1 e2
    subst e1
    exact Or.inl rfl
   ·have holds:∀ j u,(iv ps)[j]?=some u->w.cell? ((⟨b,0,none⟩:Addr).add j)=some u:=by
     intro j u hu
     have hadd:(⟨b,0,none⟩:Addr).add j=⟨b,j,none⟩:=by unfold Addr.add;split <;> simp_all
     rw[hadd,cell_of_row w b j cur 3 (0,0) hgg]
     rw[← htake,List.getElem?_take] at hu
     split at hu
     ·simpa using hu
     ·cases hu
    have hr2:=run_append_grow (P:=Tryz.prog) w 45 ty 3 i (.int .i64 0) Tryz.underlying45 hi hz0 ⟨b,0,none⟩ ps.length cap (iv ps) (by rw[hz1,h.row.1]) holds ⟨g,0,none⟩ 1 1 [.int .i64 p] hl1 hnews (by omega) (by omega) (by rw[hz2];exact growslice_fits (by omega) (by omega))
    rw[hr2] at hr
    injection hr with e1 e2
    subst e1
    exact Or.inr rfl
theorem wpList_append_int2 {B:Nat} {w:World} {ops:Array Oper} {rest:List Oper} {o:Oper} {act:Act} {Q:Exit->Act->World->Prop} (hgd:o.guard=none) (s x:Operand)
  (ho:o.op=.call {callee:=.builtin .append,args:=#[s,x],argTypes:=#[45,45]}) {v:Value} {ps:List Int} (hs:act.eval s=v) (h:OwnI B w v ps)
  {g:Nat} {p:Int} (hx:act.eval x=.slice (some ⟨g,0,none⟩) 1 1) (hg:w.cell? ⟨g,0,none⟩=some (.int .i64 p)) (hB:B<=w.heap.size) (hl:ps.length<=100000)
  (K:∀ v' w',OwnI B w' v' (ps++[p])->w.grownBy w' v.ownBlock->(v'.ownBlock=v.ownBlock∨v'.ownBlock=some w.heap.size)->wpList Tryz.prog ops Q rest (act.put o.dst v') w'):wpList Tryz.prog ops Q (o ::rest) act w:=by
 refine wpList_plain hgd fun K' hK=>?_
 obtain⟨v',w',hr,h2,h3,h4⟩:=append_int h hg hB hl o.type
 unfold Oper.wp execOp
 simp only[ho,resolve,invoke,builtin,Sem.run_bind,Sem.run_pure,Result.andThen_ok,List.map_toArray,List.map_cons,List.map_nil,hs,hx,hr]
 exact hK _ _ (K v' w' h2 h3 h4)
structure LrE [Inhabited PrSet] (B:Nat) (w:World) (l:Nat) (R:Lr) (pv:Value):Prop where
 ex:∃ p v,w.heap[l]?=some (.cells (R.A l p v pv) 80 (0,0))/\(p=.pointer none∨p=.pointer (some ⟨l,5,none⟩))/\w.ownsRowF B 5 1 v R.T.size (Lib.strCells R.T)/\npv v
 pl:OwnI B w pv R.ps
 ge:Ow B l
 le:B<=w.heap.size
 lp:Ltp w
 pn:npv pv
section
variable [Inhabited PrSet]{B l k:Nat}{w w':World}{R:Lr}{pv:Value}
theorem LrE.is (h:LrE B w l R pv):LrIs B w l R:=by
 obtain⟨p,v,h1,h2,h3,n3⟩:=h.ex
 exact⟨⟨p,v,pv,h1,h2,h3,h.pl,n3,h.pn⟩,h.ge,h.le,h.lp⟩
theorem LrIs.e (h:LrIs B w l R):∃ pv,LrE B w l R pv:=by
 obtain⟨p,v,pv,h1,h2,h3,h4,n3,n4⟩:=h.ex
 exact⟨pv,⟨⟨p,v,h1,h2,h3,n3⟩,h4,h.ge,h.le,h.lp,n4⟩⟩
theorem LrE.below (h:LrE B w l R pv) (hb:Below w.heap.size w w'):LrE B w' l R pv:=by
 obtain⟨p,v,h1,h2,h3,n3⟩:=h.ex
 exact⟨⟨p,v,(hb.block l (lt_of_some h1)).trans h1,h2,ownF_below h3 hb,n3⟩,h.pl.below hb,h.ge,Nat.le_trans h.le hb.size,h.lp.below hb,h.pn⟩
theorem LrE.cell (h:LrE B w l R pv):w.cell? ⟨l,7,none⟩=some pv:=by
 obtain⟨p,v,h1,h2,h3,n3⟩:=h.ex
 rw[Lib.cell_of_heap h1];rfl
theorem LrE.grown (h:LrE B w l R pv) {w2:World} (hg:w.grownBy w2 pv.ownBlock):w2.cell? ⟨l,7,none⟩=some pv/\w2.frozen? ⟨l,7,none⟩=false:=by
 obtain⟨p,v,h1,h2,h3,n3⟩:=h.ex
 have hl:some l≠pv.ownBlock:=fun e=>by
  rcases h.pl.row.2 with⟨rfl,_⟩ |⟨b,cap,cur,rfl,hbg,hgg,_⟩
  ·simp[Value.ownBlock] at e
  ·simp[Value.ownBlock] at e
   subst e
   rw[h1] at hgg;cases hgg
 have b2:w2.heap[l]?=some (.cells (R.A l p v pv) 80 (0,0)):=(hg.block l (lt_of_some h1) hl).trans h1
 exact⟨by rw[Lib.cell_of_heap b2];rfl,Lib.frozen_of_heap b2 7⟩
theorem LrE.put (h:LrE B w l R pv) {w2:World} {v':Value} {ps':List Int} (ho:OwnI B w2 v' ps') (hg:w.grownBy w2 pv.ownBlock) (hob:v'.ownBlock=pv.ownBlock∨v'.ownBlock=some w.heap.size):LrE B (w2.setCell ⟨l,7,none⟩ v') l {R with ps:=ps'} v'/\Kp isL B w (w2.setCell ⟨l,7,none⟩ v')/\∀ (j:Nat) (o:Obj),w.heap[j]?=some o->some j≠pv.ownBlock->j≠l->(w2.setCell ⟨l,7,none⟩ v').heap[j]?=some o:=by
 obtain⟨p,v,h1,h2,h3,n3⟩:=h.ex
 have hrow:∀ g,pv.ownBlock=some g->B<=g/\∃ cur,w.heap[g]?=some (.cells cur 3 (0,0)):=by
  intro g e
  rcases h.pl.row.2 with⟨rfl,_⟩ |⟨b,cap,cur,rfl,hbg,hgg,_⟩
  ·simp[Value.ownBlock] at e
  ·simp[Value.ownBlock] at e
   subst e
   exact⟨hbg,cur,hgg⟩
 have hl:some l≠pv.ownBlock:=fun e=>by
  obtain⟨_,cur,e2⟩:=hrow l e.symm
  rw[h1] at e2;cases e2
 have b2:w2.heap[l]?=some (.cells (R.A l p v pv) 80 (0,0)):=(hg.block l (lt_of_some h1) hl).trans h1
 have hkeep:∀ (j:Nat) (o:Obj),w.heap[j]?=some o->some j≠pv.ownBlock->j≠l->(w2.setCell ⟨l,7,none⟩ v').heap[j]?=some o:=fun j o e n1 n2=>by
  rw[Below.heap_setCell _ _ _ _ n2]
  exact(hg.block j (lt_of_some e) n1).trans e
 have hz:(w2.setCell ⟨l,7,none⟩ v').heap.size=w2.heap.size:=by simp[World.setCell]
 have hpr:∀ (j:Nat) (o:Obj),w.heap[j]?=some o->isP j->(w2.setCell ⟨l,7,none⟩ v').heap[j]?=some o:=fun j o e hn=>hkeep j o e (fun e2=>h.pn j e2.symm hn) (fun e2=>by subst e2;exact h.ge.np hn)
 have hnv:npv v':=h.pn.of h.lp (hob.elim Or.inl (fun e=>Or.inr (Or.inl e)))
 refine⟨⟨⟨p,v,Joins.block_setCell b2 _,h2,?_,n3⟩,?_,h.ge,by have:=hg.size;have:=h.le;omega,fun j o e=>hpr j o (h.lp j o e) (isP_of e),hnv⟩,⟨?_,?_,hpr⟩,hkeep⟩
 ·refine ownF_of h3 (fun j cur fz e=>hkeep j _ e (fun e2=>?_) (fun e2=>?_))
  ·obtain⟨_,cur',e3⟩:=hrow j e2.symm
   rw[e] at e3;cases e3
  ·subst e2;rw[h1] at e;cases e
 ·refine ho.of_block (fun j cur fz e=>?_)
  have hj:j≠l:=fun e2=>by subst e2;rw[b2] at e;cases e
  rw[Below.heap_setCell _ _ _ _ hj];exact e
 ·exact((Below.refl B w).grown hg h.le (fun g e=>(hrow g e).1)).setCell (p:=⟨l,7,none⟩) h.ge.ge _
 ·intro j o e hn
  by_cases hj:j=l
  ·subst hj;rw[h1] at e;cases e;exact absurd (Or.inr (Or.inr rfl)) hn
  ·refine hkeep j o e (fun e2=>?_) hj
   obtain⟨_,cur,e3⟩:=hrow j e2.symm
   rw[e] at e3;cases e3;exact hn (Or.inl rfl)
theorem WriteString_log (h:LrIs B w l R) (s:ByteArray) (hs:R.T.size+s.size<=1000000):Calls Tryz.prog 60 #[.pointer (some ⟨l,5,none⟩),.string s] w fun e w'=>e=.returned (.tuple #[.int .i64 s.size,.nilIface])/\LrIs B w' l {R with T:=R.T++s}/\Kp isL B w w':=by
 obtain⟨p,v,pv,h1,h2,h3,h4,n3,n4⟩:=h.ex
 refine(Bf_WriteString h1 h2 h3 s (by omega) h.ge h.le n3 h.lp).mono ?_
 rintro e w' ⟨⟨v',b1,o1,nv⟩,rfl,k1⟩
 refine⟨rfl,⟨⟨_,v',pv,b1,Or.inr rfl,?_,h4.of_block (fun k cur fz e=>k1.block k _ e (by simp[isT])),nv,n4⟩,h.ge,Nat.le_trans h.le k1.size,h.lp.kp k1⟩,isT_L k1⟩
 have e1:(R.T++s).size=R.T.size+s.size:=bsz _ _
 have e2:Lib.strCells (R.T++s)=Lib.strCells R.T++Lib.strCells s:=by
  rw[Lib.strCells_eq,Lib.strCells_eq,Lib.strCells_eq,← Lib.byteCells_append,ByteArray.data_append,Array.toList_append]
 show w'.ownsRowF B 5 1 v' (R.T++s).size (Lib.strCells (R.T++s))
 rw[e1,e2]
 exact o1
def moved (e:Int) (st:List Int):List Int:=st.map (fun x=>e+x)
set_option maxHeartbeats 2000000 in
theorem gather_some (h:LrE B w l R pv) (s:ByteArray) (hs:R.T.size+s.size<=1000000) (gs c:Nat) (cs:Array Value) (st:List Int) (hgs:w.heap[gs]?=some (.cells cs 3 (0,0))) (hst:∀ i,(hi:i<st.length)->cs[i]?=some (.int .i64 st[i])) (hne:pv.ownBlock≠some gs) (hb:∀ x∈st,0<=x/\x<=1000000) (hlen:R.ps.length+st.length<=100000) :
  Calls Tryz.prog 31 #[.pointer (some ⟨l,0,none⟩),.string s,.slice (some ⟨gs,0,none⟩) st.length c] w fun e w'=>e=.returned (.tuple #[])/\LrIs B w' l {R with T:=R.T++s,ps:=R.ps++moved ((R.T.size:Int)+1) st}/\Kp isL B w w':=by
 have CE:Hid (Calls Tryz.prog 32 #[.pointer (some ⟨l,0,none⟩)] w fun e w'=>e=.returned (.int .i64 ((R.T.size:Int)+1))/\w'=w):=End_any h.is (by omega)
 have CW:Hid (∀ wx ps,LrIs B wx l {R with ps:=ps}->Calls Tryz.prog 60 #[.pointer (some ⟨l,5,none⟩),.string s] wx fun e w'=>e=.returned (.tuple #[.int .i64 s.size,.nilIface])/\LrIs B w' l {R with T:=R.T++s,ps:=ps}/\Kp isL B wx w'):=fun wx ps h=>WriteString_log h s hs
 have hE0:(0:Int)<=(R.T.size:Int)+1:=by omega
 have hE1:(R.T.size:Int)+1<=1000001:=by omega
 have H:Hid (LrE B w l R pv):=h
 have HG:Hid (w.heap[gs]?=some (.cells cs 3 (0,0))):=hgs
 have HB:Hid (∀ x∈st,0<=x/\x<=1000000):=hb
 have HS:Hid (∀ i,(hi:i<st.length)->cs[i]?=some (.int .i64 st[i])):=hst
 have HL:Hid (R.ps.length+st.length<=100000):=hlen
 clear h hgs hb hst hlen hs
 generalize (R.T.size:Int)+1=E at *
 go_enter Tryz.func31,Tryz.ntmps31
 go_wp2_with (go_at_call 32;refine CE.out.mono ?_;rintro e w0 ⟨rfl,rfl⟩)
 go_loopw [13] (fun ix wr=>∃ (j:Nat) (pj:Value),j<=st.length/\ix=.int .i64 (j:Int)/\LrE B wr l {R with ps:=R.ps++moved E (st.take j)} pj/\wr.heap[gs]?=some (.cells cs 3 (0,0))/\pj.ownBlock≠some gs/\Kp isL B w0 wr) (fun ix _=>st.length-(intOf ix).toNat)
 case atStart=>exact⟨0,pv,Nat.zero_le _,rfl,by simpa[moved] using H.out,HG.out,hne,Kp.refl _ _ _⟩
 case round =>
  obtain⟨j,pj,hj,rfl,hE,hg,hn,hK⟩:=hrel
  by_cases hlt:j<st.length
  ·obtain⟨a',c',rfl⟩:=hE.pl.ex
   have c7:=hE.cell
   have cg:wr.cell? ⟨gs,j,none⟩=some (.int .i64 st[j]):=by rw[Lib.cell_of_heap hg];exact HS.out j hlt
   have hx:=HB.out st[j] (List.getElem_mem _)
   have hm:Hid (moved E (st.take (j+1))=moved E (st.take j)++[E+st[j]]):=(by unfold moved;rw[List.take_succ_eq_append_getElem hlt,List.map_append];rfl:moved E (st.take (j+1))=moved E (st.take j)++[E+st[j]])
   have hlen:(R.ps++moved E (st.take j)).length<=100000:=by have:=HL.out;simp[moved];omega
   have bA:Below wr.heap.size wr (wr.alloc (.cells #[.int .i64 (E+st[j])] 3)):=(Below.refl _ _).alloc (Nat.le_refl _) _
   have EA:Hid (LrE B (wr.alloc (.cells #[.int .i64 (E+st[j])] 3)) l {R with ps:=R.ps++moved E (st.take j)} (.slice a' (R.ps++moved E (st.take j)).length c')):=hE.below bA
   have OA:Hid (OwnI B (wr.alloc (.cells #[.int .i64 (E+st[j])] 3)) (.slice a' (R.ps++moved E (st.take j)).length c') (R.ps++moved E (st.take j))):=hE.pl.below bA
   have cA:(wr.alloc (.cells #[.int .i64 (E+st[j])] 3)).cell? ⟨wr.heap.size,0,none⟩=some (.int .i64 (E+st[j])):=by simp
   have gA:Hid ((wr.alloc (.cells #[.int .i64 (E+st[j])] 3)).heap[gs]?=some (.cells cs 3 (0,0))):=(bA.block gs (lt_of_some hg)).trans hg
   have KA:Hid (Kp isL B w0 (wr.alloc (.cells #[.int .i64 (E+st[j])] 3))):=hK.below bA H.out.le
   have hgl:Hid (gs≠l):=by
    intro e
    obtain⟨p,v,h1,_⟩:=hE.ex
    rw[← e,hg] at h1
    cases h1
   have hgz:gs<wr.heap.size+1:=by have:=lt_of_some hg;omega
   have HN:Hid _:=hn
   have hi2:(j:Int)<(st.length:Int):=by omega
   have f7:=hE.is.f 7
   clear hE hg hK hn bA
   obtain⟨hx0,hx1⟩:=hx
   have hj1:j+1<=st.length:=hlt
   have hj2:(j:Int)<=100000:=by have:=HL.out;omega
   have hP:Hid (R.ps++moved E (st.take (j+1))=(R.ps++moved E (st.take j))++[E+st[j]]):=(by rw[hm.out,List.append_assoc]:R.ps++moved E (st.take (j+1))=(R.ps++moved E (st.take j))++[E+st[j]])
   clear hm
   generalize st[j]=X at *
   obtain⟨P1,hP1⟩:∃ P1,P1=R.ps++moved E (st.take (j+1)):=⟨_,rfl⟩
   rw[← hP1] at hP
   have HP1:Hid _:=hP1
   clear hP1
   generalize R.ps++moved E (st.take j)=P at *
   have hw1:IntKind.i64.wrap (E+X)=E+X:=by rw[IntKind.wrap_i64];omega
   go_wp2_with (at_builtin;refine wpList_append_int2 (B:=B) rfl (.tmp 21) (.tmp 25) rfl rfl OA.out rfl cA EA.out.le hlen ?_;intro v' w2 ho2 hg2 hown2;obtain⟨d7,e7⟩:=EA.out.grown hg2;rw[← hP.out] at ho2;obtain⟨a2,c2,rfl⟩:=ho2.ex)
   go_roundw
   case rel =>
    obtain⟨q1,q2,q3⟩:=EA.out.put ho2 hg2 hown2
    refine⟨j+1,.slice a2 P1.length c2,hj1,by go_num,?_,q3 gs _ gA.out (fun e=>HN.out e.symm) hgl.out,fun e=>?_,KA.out.trans q2⟩
    ·rw[← HP1.out];exact q1
    ·rcases hown2 with e2 |e2
     ·exact HN.out (e2.symm.trans e)
     ·rw[e2] at e
      simp at e
      omega
   case measure=>simp[intOf];omega
  ·obtain rfl:j=st.length:=by omega
   have hi2:¬ (st.length:Int)<(st.length:Int):=by omega
   rw[List.take_length] at hE
   have hE':Hid _:=hE.is
   have HK:Hid _:=hK
   clear hE hg hn hK
   go_wp2_with (go_at_call 60;refine(CW.out _ _ hE'.out).mono ?_;rintro e w3 ⟨rfl,h3,k3⟩)
   go_end0
   exact⟨rfl,h3,HK.out.trans k3⟩
set_option maxHeartbeats 1000000 in
theorem gather_nil (h:LrIs B w l R) (s:ByteArray) (hs:R.T.size+s.size<=1000000) :
  Calls Tryz.prog 31 #[.pointer (some ⟨l,0,none⟩),.string s,.slice none 0 0] w fun e w'=>e=.returned (.tuple #[])/\LrIs B w' l {R with T:=R.T++s}/\Kp isL B w w':=by
 have CE:Hid (Calls Tryz.prog 32 #[.pointer (some ⟨l,0,none⟩)] w fun e w'=>e=.returned (.int .i64 ((R.T.size:Int)+1))/\w'=w):=End_any h (by omega)
 have CW:Hid (∀ wx,LrIs B wx l R->Calls Tryz.prog 60 #[.pointer (some ⟨l,5,none⟩),.string s] wx fun e w'=>e=.returned (.tuple #[.int .i64 s.size,.nilIface])/\LrIs B w' l {R with T:=R.T++s}/\Kp isL B wx w'):=fun wx h=>WriteString_log h s hs
 have H:Hid (LrIs B w l R):=h
 clear h hs
 generalize (R.T.size:Int)+1=E at *
 go_enter Tryz.func31,Tryz.ntmps31
 go_wp2_with (go_at_call 32;refine CE.out.mono ?_;rintro e w0 ⟨rfl,rfl⟩)
 go_loopw [13] (fun ix wr=>ix=.int .i64 0/\wr=w0) (fun _ _=>0)
 case atStart=>exact⟨rfl,rfl⟩
 case round =>
  obtain⟨rfl,rfl⟩:=hrel
  go_wp2_with (go_at_call 60;refine(CW.out _ H.out).mono ?_;rintro e w3 ⟨rfl,h3,k3⟩)
  go_end0
  exact⟨rfl,h3,k3⟩
theorem gather_any {w0:World} {v:Value} {st:List Int} (h:LrIs B w0 l R) (hb:Below w0.heap.size w0 w) (ho:OwnI w0.heap.size w v st) (s:ByteArray) (hs:R.T.size+s.size<=1000000) (hx:∀ x∈st,0<=x/\x<=1000000) (hlen:R.ps.length+st.length<=100000) :
  Calls Tryz.prog 31 #[.pointer (some ⟨l,0,none⟩),.string s,v] w fun e w'=>e=.returned (.tuple #[])/\LrIs B w' l {R with T:=R.T++s,ps:=R.ps++moved ((R.T.size:Int)+1) st}/\Kp isL B w w':=by
 obtain⟨pv,hE⟩:=h.e
 rcases ho.row.2 with⟨rfl,hn⟩ |⟨g,cap,cur,rfl,hbg,hgg,hnc,hcm,hcs,htake⟩
 ·have:st=[]:=List.eq_nil_of_length_eq_zero hn
  subst this
  refine(gather_nil (h.below hb) s hs).mono ?_
  rintro e w' ⟨he,h1,h2⟩
  refine⟨he,?_,h2⟩
  simpa[moved] using h1
 ·refine gather_some (hE.below hb) s hs g cap cur st hgg (fun i hi=>?_) (fun e=>?_) hx hlen
  ·have:(iv st)[i]?=some (.int .i64 st[i]):=by simp[iv,hi]
   rw[← htake,List.getElem?_take,if_pos (by omega)] at this
   simpa using this
  ·rcases hE.pl.row.2 with⟨rfl,_⟩ |⟨b,cap',cur',rfl,_,hgg',_⟩
   ·simp[Value.ownBlock] at e
   ·simp[Value.ownBlock] at e
    have:=lt_of_some hgg'
    omega
end
theorem cat_len {fs:List ByteArray} (h:∀ f∈fs,Frm f):fs.length*7<=(cat fs).size:=by
 induction fs with
 | nil=>exact Nat.le_refl _
 | cons f l ih =>
  have:=(h f (List.mem_cons_self ..)).pos
  have:=ih (fun g hg=>h g (List.mem_cons_of_mem _ hg))
  rw[cat,bsz,List.length_cons];omega
theorem plc0_snoc (l:List ByteArray) (f:ByteArray):plc 0 (l++[f])=plc 0 l++[((cat l).size:Int)]:=by
 rw[plc_snoc,Nat.zero_add]
set_option maxHeartbeats 2000000 in
theorem frames_any {w:World} (s:ByteArray) (hs:s.size<=500000):Calls Tryz.prog 30 #[.string s] w fun e w'=>∃ v fs,e=.returned (.tuple #[v,.int .i64 ((cat fs).size:Int)])/\OwnI w.heap.size w' v (plc 0 fs)/\Spl s fs/\Below w.heap.size w w':=by
 have hz:(s.size:Int)<=500000:=by omega
 go_enter Tryz.func30,Tryz.ntmps30
 go_wp2
 go_loopw [4,5] (fun sv at_ wr=>∃ fs:List ByteArray,(∀ f∈fs,Frm f)/\(∃ x,s=cat fs++x)/\at_=.int .i64 ((cat fs).size:Int)/\OwnI w.heap.size wr sv (plc 0 fs)/\Below w.heap.size w wr) (fun _ at_ _=>s.size-(intOf at_).toNat)
 case atStart=>exact⟨[],(fun f hf=>by cases hf),⟨s,(nil_app s).symm⟩,rfl,OwnI.nil _ _,Below.refl _ _⟩
 case round =>
  obtain⟨fs,hF,⟨x,hx⟩,rfl,hO,hb⟩:=hrel
  have hle:(cat fs).size<=s.size:=by rw[hx,bsz];omega
  have CO:Hid (∀ wx,Calls Tryz.prog 63 #[.string s,.int .i64 ((cat fs).size:Int)] wx fun e w'=>(∃ v,e=.returned (.tuple #[v,.int .i64 (openM s (cat fs).size).2.1,.int .i64 (openM s (cat fs).size).2.2])/\RecF w' v (openM s (cat fs).size).1 wx.heap.size)/\Below wx.heap.size wx w'):=fun wx=>Open_any s _ (by omega)
  have hcl:=cat_len hF
  have hpl:=plc_length 0 fs
  by_cases he:(openM s (cat fs).size).2.2=0
  ·obtain⟨f,hf,hk,hr,hfl,hfe⟩:=open_frm (s:=s) (a:=(cat fs).size) (r:=(openM s (cat fs).size).1) (k:=(openM s (cat fs).size).2.1) hle (by rw[← he])
   have HF:Hid (∀ g∈fs++[f],Frm g):=(fun g hg=>by
    rcases List.mem_append.1 hg with h |h
    ·exact hF g h
    ·rw[List.mem_singleton] at h;subst h;exact hf:∀ g∈fs++[f],Frm g)
   have hfx:f++s.extract ((cat fs).size+f.size) s.size=x:=by
    have e1:s.extract (cat fs).size s.size=x:=by rw[hx];exact ext_right _ _
    rw[← e1,← ext_join s (a:=(cat fs).size) (b:=(cat fs).size+f.size) (c:=s.size) (by omega) hfl,hfe]
   have HX:Hid (∃ y,s=cat (fs++[f])++y):=(⟨s.extract ((cat fs).size+f.size) s.size,by rw[cat_snoc,ByteArray.append_assoc,hfx];exact hx⟩:∃ y,s=cat (fs++[f])++y)
   have hfp:=hf.pos
   have hcs:Hid ((cat (fs++[f])).size=(cat fs).size+f.size):=(by rw[cat_snoc,bsz]:(cat (fs++[f])).size=(cat fs).size+f.size)
   rw[he,hk] at CO
   have HP:Hid (plc 0 (fs++[f])=plc 0 fs++[((cat fs).size:Int)]):=plc0_snoc fs f
   have hl2:(plc 0 fs).length<=100000:=by omega
   have HB:Hid (Below w.heap.size w wr):=hb
   have hc0:(0:Int)<=((cat fs).size:Int):=by omega
   have hc1:((cat fs).size:Int)+(f.size:Int)<=500000:=by omega
   have hf0:(0:Int)<=(f.size:Int):=by omega
   have HM:Hid (s.size-((cat fs).size+f.size)<s.size-(cat fs).size):=(by omega:s.size-((cat fs).size+f.size)<s.size-(cat fs).size)
   obtain⟨ao,co,rfl⟩:=hO.ex
   have HO:Hid _:=hO
   clear hF hx hle hk hr hfl hfe hfx hb hcl hpl hf he hO hfp
   generalize (openM s (cat fs).size).1=M at *
   obtain⟨s9,l9,g9⟩:=M
   generalize plc 0 fs=P at *
   generalize hC:((cat fs).size:Int)=C at *
   have HC:Hid _:=hC
   clear hC
   generalize hFf:(f.size:Int)=Z at *
   have HZ:Hid _:=hFf
   clear hFf
   have hw1:IntKind.i64.wrap (C+Z)=C+Z:=by rw[IntKind.wrap_i64];omega
   go_wp2_with (first
    | (go_at_call 63;refine(CO.out _).mono ?_;rintro e w1 ⟨⟨v,rfl,hv⟩,b1⟩;obtain⟨I,T,rfl,hI,hT⟩:=hv.ex;dsimp only at hI hT)
    | (refine wpList_new_rc _ rfl rfl ?_;intro w2 b6 N2)
    | (refine wpList_put_rc (s':=s9) (I':=I) (T':=T) _ rfl (.tmp 6) (.tmp 13) rfl rfl rfl N2.rc hI.slI.one hT.slT.one ?_;intro w3 P3;have b3:Below w1.heap.size w1 w3:=N2.below.trans (P3.below (by have:=N2.eq;omega) N2.below.size);have HO3:=(HO.out.below b1).below b3;have HB3:Hid (Below w.heap.size w w3):=(thn (thn HB.out b1) b3);clear N2 P3 b3 hI hT hv b1 HO;have bA:Below w3.heap.size w3 (w3.alloc (.cells #[.int .i64 C] 3)):=(Below.refl _ _).alloc (Nat.le_refl _) _;have HOA:Hid _:=HO3.below bA;have HBA:Hid _:=thn HB3.out bA;have cA:(w3.alloc (.cells #[.int .i64 C] 3)).cell? ⟨w3.heap.size,0,none⟩=some (.int .i64 C):=cell_new1 w3 _ 3;clear bA HO3)
    | (at_builtin;refine wpList_append_int (B:=w.heap.size) rfl (.tmp 20) (.tmp 22) rfl rfl HOA.out rfl cA HBA.out.size hl2 ?_;intro v' w4 hO4 hb4))
   go_roundw
   case rel =>
    refine⟨fs++[f],HF.out,HX.out,?_,?_,HBA.out.trans hb4⟩
    ·rw[hcs.out]
     have:=HC.out
     have:=HZ.out
     congr 1
     omega
    ·rw[HP.out];exact hO4
   case measure =>
    have:=HC.out
    have:=HZ.out
    have:=HM.out
    simp[intOf]
    omega
  ·have he':((openM s (cat fs).size).2.2 !=0)=true:=by simpa using he
   have HS:Hid (Spl s fs):=⟨hF,⟨x,hx⟩,he⟩
   obtain⟨ao,co,rfl⟩:=hO.ex
   have HO:Hid (OwnI w.heap.size wr (.slice ao (plc 0 fs).length co) (plc 0 fs)):=hO
   have HB:Hid (Below w.heap.size w wr):=hb
   clear hF hx hle hO hb hcl hpl he
   generalize (openM s (cat fs).size).1=M at *
   generalize (openM s (cat fs).size).2.1=K1 at *
   generalize (openM s (cat fs).size).2.2=K2 at *
   obtain⟨s9,l9,g9⟩:=M
   generalize hC:((cat fs).size:Int)=C at *
   have HC:Hid _:=hC
   clear hC
   generalize hP:(plc 0 fs).length=PL at *
   clear hP
   go_wp2_with (first
    | (go_at_call 63;refine(CO.out _).mono ?_;rintro e w1 ⟨⟨v,rfl,hv⟩,b1⟩;obtain⟨I,T,rfl,hI,hT⟩:=hv.ex;dsimp only at hI hT)
    | (refine wpList_new_rc _ rfl rfl ?_;intro w2 b6 N2)
    | (refine wpList_put_rc (s':=s9) (I':=I) (T':=T) _ rfl (.tmp 6) (.tmp 13) rfl rfl rfl N2.rc hI.slI.one hT.slT.one ?_;intro w3 P3;have b3:Below w1.heap.size w1 w3:=N2.below.trans (P3.below (by have:=N2.eq;omega) N2.below.size);have HO3:=(HO.out.below b1).below b3;have HB3:Hid (Below w.heap.size w w3):=(thn (thn HB.out b1) b3)))
   go_ret2
   refine⟨_,fs,?_,HO3,HS.out,HB3.out⟩
   rw[HC.out];rfl
def encQ (q:Sec):ByteArray:=pad (secB q)
def zsN (n:Nat):ByteArray:=⟨Array.replicate n 0⟩
theorem pad_app (s:ByteArray):pad s=s++zsN (64-s.size):=by apply ByteArray.ext;simp[pad,zsN,ByteArray.data_append]
theorem encQ_eq (q:Sec):encQ q=Pk.beS q.1 4++(Pk.beS q.2.size 2++(q.2++zsN (64-(secB q).size))):=by
 unfold encQ
 rw[pad_app]
 conv=>lhs;lhs;unfold secB
 rw[ByteArray.append_assoc,ByteArray.append_assoc]
theorem encQ_size (q:Sec) (h:q.2.size<=58):(encQ q).size=64:=pad_size (by rw[secB_size];omega)
theorem enc_zero:encQ (0,⟨#[]⟩)=zs64:=by decide +kernel
def tail1 (q:Sec):ByteArray:=Pk.beS q.2.size 2++(q.2++zsN (64-(secB q).size))
def tail2 (q:Sec):ByteArray:=q.2++zsN (64-(secB q).size)
theorem enc_run {q:Sec} (h1:q.1<4294967296):nN (encQ q,0) 4=(q.1:Int)/\sN (encQ q,0) 4=(tail1 q,0):=by
 rw[encQ_eq]
 have:=sN_cat (n:=(q.1:Int)) (k:=4) (j:=4) (b:=tail1 q) rfl (by omega) (by omega) (by omega) (by have:Pk.limI 4=4294967296:=rfl;omega)
 rw[Int.toNat_natCast] at this
 exact this
theorem enc_many {q:Sec} (h2:q.2.size<=58):nN (tail1 q,0) 2=(q.2.size:Int)/\sN (tail1 q,0) 2=(tail2 q,0):=by
 have:=sN_cat (n:=(q.2.size:Int)) (k:=2) (j:=2) (b:=tail2 q) rfl (by omega) (by omega) (by omega) (by have:Pk.limI 2=65536:=rfl;omega)
 rw[Int.toNat_natCast] at this
 exact this
theorem enc_raw (q:Sec):(Pk.rdRaw (tail2 q) 0 (q.2.size:Int)).1=q.2:=by
 have:=Pk.rdRaw_app q.2 (zsN (64-(secB q).size))
 unfold tail2
 rw[this]
theorem np_none (k:Nat):@np ⟨⟨fun _=>none⟩⟩ k:=fun e=>e rfl
theorem npv_none (v:Value):@npv ⟨⟨fun _=>none⟩⟩ v:=fun _ _ e=>e rfl
theorem Ltp_none (w:World):@Ltp ⟨⟨fun _=>none⟩⟩ w:=fun _ _ e=>nomatch e
theorem Ow_none {B k:Nat} (h:B<=k):@Ow ⟨⟨fun _=>none⟩⟩ B k:=@Ow.mk ⟨⟨fun _=>none⟩⟩ B k h (np_none k)
structure Sn (w0 wx:World) (b4:Nat) (acc:ByteArray):Prop where
 bel:Below w0.heap.size w0 wx
 bd:∃ pp v,wx.heap[b4]?=some (.cells #[pp,v] 78 (0,0))/\(pp=.pointer none∨pp=.pointer (some ⟨b4,0,none⟩))/\wx.ownsRowF w0.heap.size 5 1 v acc.size (Lib.strCells acc)
 ge:w0.heap.size<=b4
section
variable {w0 wx wy:World}{b4:Nat}{acc:ByteArray}
theorem Sn.below (h:Sn w0 wx b4 acc) (hb:Below wx.heap.size wx wy):Sn w0 wy b4 acc:=by
 obtain⟨pp,v,h1,h2,h3⟩:=h.bd
 exact⟨thn h.bel hb,⟨pp,v,(hb.block b4 (lt_of_some h1)).trans h1,h2,ownF_below h3 hb⟩,h.ge⟩
end
section
variable {w0 wx:World}{b4:Nat}{acc:ByteArray}
theorem Sn.drew (h:Sn w0 wx b4 acc):Sn w0 wx.drew b4 acc:=h.below ((Below.refl _ _).drew)
end
section
variable {w0 wx wy:World}{b4:Nat}{acc:ByteArray}
theorem Sn.off {br:Nat} {s:ByteArray} {e:Int} (h:Sn w0 wx b4 acc) (hr:Pk.isRd wx br s e) (o:Pk.Off br wx wy) (hC:w0.heap.size<=br):Sn w0 wy b4 acc:=by
 obtain⟨pp,v,h1,h2,h3⟩:=h.bd
 have hrd:wx.heap[br]?=some (.cells #[.string s,.int .i64 e] 148):=hr
 refine⟨h.bel.trans (o.below hC h.bel.size),⟨pp,v,(o.block b4 (lt_of_some h1) (fun e=>?_)).trans h1,h2,ownF_of h3 (fun j cur fz e=>(o.block j (lt_of_some e) (fun e2=>?_)).trans e)⟩,h.ge⟩
 ·subst e;rw[hrd] at h1;cases h1
 ·subst e2;rw[hrd] at e;cases e
end
section
variable {w0 wx:World}{b4:Nat}{acc:ByteArray}
theorem Sn.write (h:Sn w0 wx b4 acc) (s:ByteArray) (hs:acc.size+s.size<=1000000):Calls Tryz.prog 60 #[.pointer (some ⟨b4,0,none⟩),.string s] wx fun e w'=>e=.returned (.tuple #[.int .i64 s.size,.nilIface])/\Sn w0 w' b4 (acc++s):=by
 obtain⟨pp,v,h1,h2,h3⟩:=h.bd
 letI:Inhabited PrSet:=⟨⟨fun _=>none⟩⟩
 refine(Bo_WriteString h1 h2 h3 s (by omega) (Ow_none h.ge) h.bel.size (npv_none _) (Ltp_none _)).mono ?_
 rintro e w' ⟨⟨v',q1,q2,_⟩,rfl,k1⟩
 refine⟨rfl,h.bel.trans k1.bel,⟨_,v',q1,Or.inr rfl,?_⟩,h.ge⟩
 have e2:Lib.strCells (acc++s)=Lib.strCells acc++Lib.strCells s:=by
  rw[Lib.strCells_eq,Lib.strCells_eq,Lib.strCells_eq,← Lib.byteCells_append,ByteArray.data_append,Array.toList_append]
 rw[bsz,e2]
 exact q2
end
section
variable {w0 wx:World}{b4:Nat}{acc:ByteArray}
theorem Sn.string (h:Sn w0 wx b4 acc):Calls Tryz.prog 62 #[.pointer (some ⟨b4,0,none⟩)] wx fun e w'=>e=.returned (.string acc)/\Below w0.heap.size w0 w':=by
 obtain⟨pp,v,h1,h2,h3⟩:=h.bd
 letI:Inhabited PrSet:=⟨⟨fun _=>none⟩⟩
 refine(Bo_String acc h1 h3 h.bel.size (npv_none _)).mono ?_
 rintro e w' ⟨rfl,_,_,k1,_⟩
 exact⟨rfl,h.bel.trans k1.bel⟩
end
section
variable {l:Nat}
theorem stK_size (Q:Nat->Sec) (run:Nat):∀ n i least,(∀ j,i<=j->j<i+n->(Q j).2.size<=58)->(stK Q run n i least).size<=58*n:=by
 intro n
 induction n with
 | zero=>intro i l _;rw[stK,nilz];omega
 | succ n ih =>
  intro i l h
  have h0:=h i (Nat.le_refl _) (by omega)
  have:=ih (i+1) (Q i).1 (fun j a b=>h j (by omega) (by omega))
  rw[stK]
  repeat' split
  ·rw[nilz];omega
  ·omega
  ·rw[bsz];omega
end
section
variable [Inhabited PrSet]{B l k:Nat}{w wx:World}{b4:Nat}{acc:ByteArray}{S:Dk}{R:Lr}
set_option maxHeartbeats 4000000 in
theorem standing_any (h:Lx B w l k S R) {bs sc:Nat} (hbs:R.base=(bs:Int)) (hsc:R.secs=(sc:Int)) (run:Nat) (hrun:R.run=(run:Int)) (hsc2:sc<=8000) (hfit:bs+sc<=S.n) (hu:S.up=true)
  (Q:Nat->Sec) (hQ:∀ i,i<sc->S.now (bs+i)=encQ (Q i)/\(Q i).1<4294967296/\(Q i).2.size<=58) :
  Calls Tryz.prog 29 #[.pointer (some ⟨l,0,none⟩)] w fun e w'=>e=.returned (.tuple #[.string (stand Q run sc),.int .i64 0])/\Below w.heap.size w w':=by
 have hn2:=h.d.q.ok.n2
 have HL:Hid (∀ wx,Below w.heap.size w wx->Lx B wx l k S R):=fun wx hb=>h.below hb
 have CR:Hid (∀ wx (i:Nat),i<sc->Below w.heap.size w wx->Calls Tryz.prog 57 #[.pointer (some ⟨R.db,0,none⟩),.int .i64 ((bs:Int)+(i:Int))] wx fun e w'=>e=.returned (.tuple #[.string (encQ (Q i)),.int .i64 0])/\Below wx.heap.size wx w'):=fun wx i hi hb=>by
  have:=(h.below hb).d.read hu (bs+i) (by omega)
  rw[(hQ i hi).1,show((bs+i:Nat):Int)=(bs:Int)+(i:Int) by omega] at this
  exact this
 have HZ:Hid (∀ i,i<sc->(encQ (Q i)).size<=140737488351232/\nN (encQ (Q i),0) 4=((Q i).1:Int)/\sN (encQ (Q i),0) 4=(tail1 (Q i),0)/\nN (tail1 (Q i),0) 2=((Q i).2.size:Int)/\sN (tail1 (Q i),0) 2=(tail2 (Q i),0)/\(Pk.rdRaw (tail2 (Q i)) 0 ((Q i).2.size:Int)).1=(Q i).2/\(Q i).2.size<=58/\(Q i).1<4294967296):=fun i hi=>by
  obtain⟨_,h1,h2⟩:=hQ i hi
  exact⟨by rw[encQ_size _ h2];omega,(enc_run h1).1,(enc_run h1).2,(enc_many h2).1,(enc_many h2).2,enc_raw _,h2,h1⟩
 have HN:Hid (Sn w (w.alloc (.cells #[.pointer none,.slice none 0 0] 78)) w.heap.size ⟨#[]⟩):=⟨(Below.refl _ _).alloc (Nat.le_refl _) _,⟨_,_,(MapKept.heap_alloc w _).1,Or.inl rfl,World.ownsRowF_nil _ _ _ _⟩,Nat.le_refl _⟩
 have HT:Hid (∀ i least,i<=sc->(stK Q run (sc-i) i least).size<=58*(sc-i)):=fun i least hi=>stK_size Q run (sc-i) i least (fun j h1 h2=>(hQ j (by omega)).2.2)
 have HS0:Hid (stand Q run sc=⟨#[]⟩++stK Q run (sc-0) 0 1):=(by rw[nil_app];rfl:stand Q run sc=⟨#[]⟩++stK Q run (sc-0) 0 1)
 have hZ0:(stand Q run sc).size<=500000:=by
  have:=stK_size Q run sc 0 1 (fun j h1 h2=>(hQ j (by omega)).2.2)
  have e:stand Q run sc=stK Q run sc 0 1:=rfl
  rw[e];omega
 have c3:=(h.below ((Below.refl _ _).alloc (Nat.le_refl _) (.cells #[.pointer none,.slice none 0 0] 78))).g.c3
 rw[hsc] at c3
 have hb5:(0:Int)<=(bs:Int):=by omega
 have hb6:(bs:Int)+(sc:Int)<=8192:=by omega
 have Hrun:Hid _:=hrun
 have Hbs:Hid _:=hbs
 have Hs2:sc<=8000:=hsc2
 clear h hQ hsc hfit hn2 hu hbs hrun
 generalize hST:stand Q run sc=ST at *
 clear hST
 go_enter Tryz.func29,Tryz.ntmps29
 go_wp2
 go_loopw [5,16] (fun lv ix wr=>∃ (i:Nat) (acc:ByteArray) (least:Nat),i<=sc/\lv=.int .i64 (least:Int)/\ix=.int .i64 (i:Int)/\Sn w wr w.heap.size acc/\least<4294967296/\ST=acc++stK Q run (sc-i) i least) (fun _ ix _=>sc-(intOf ix).toNat)
 case atStart=>exact⟨0,⟨#[]⟩,1,Nat.zero_le _,rfl,rfl,HN.out,by omega,HS0.out⟩
 case round =>
  obtain⟨i,acc,least,hi,rfl,rfl,hS0,hle,hE⟩:=hrel
  by_cases hlt:i<sc
  ·have hS:=hS0.drew
   clear hS0
   obtain⟨n1,hn1⟩:∃ n1,sc-i=n1+1:=⟨sc-i-1,by omega⟩
   have hEq:ST=acc++(if(Q i).1<least∨run<(Q i).1 then⟨#[]⟩ else if(Q i).2.size<58 then(Q i).2 else(Q i).2++stK Q run n1 (i+1) (Q i).1):=by rw[hE,hn1,stK]
   have HE:Hid (ST=acc++(if(Q i).1<least∨run<(Q i).1 then⟨#[]⟩ else if(Q i).2.size<58 then(Q i).2 else(Q i).2++stK Q run n1 (i+1) (Q i).1)):=hEq
   have Hn1:Hid (sc-(i+1)=n1):=(by omega:sc-(i+1)=n1)
   clear hEq hn1
   have hacc:acc.size<=500000:=by rw[hE,bsz] at hZ0;omega
   obtain⟨hcz,z1,z2,z3,z4,z5,z6,z7⟩:=HZ.out i hlt
   have C0:Hid (∀ wx,Below w.heap.size w wx->Calls Tryz.prog 57 #[.pointer (some ⟨R.db,0,none⟩),.int .i64 ((bs:Int)+(i:Int))] wx fun e w'=>e=.returned (.tuple #[.string (encQ (Q i)),.int .i64 0])/\Below wx.heap.size wx w'):=fun wx hb=>CR.out wx i hlt hb
   have C1:Hid (∀ wx b,RdS wx b (encQ (Q i),0)->Calls Tryz.prog 59 #[.pointer (some ⟨b,0,none⟩),.int .i64 4] wx fun r w'=>r=.returned (.int .i64 ((Q i).1:Int))/\RdS w' b (tail1 (Q i),0)/\Pk.Off b wx w'):=fun wx b h=>by
    have:=h.num 4
    rw[z1,z2] at this
    exact this
   have C2:Hid (∀ wx b,RdS wx b (tail1 (Q i),0)->Calls Tryz.prog 59 #[.pointer (some ⟨b,0,none⟩),.int .i64 2] wx fun r w'=>r=.returned (.int .i64 ((Q i).2.size:Int))/\RdS w' b (tail2 (Q i),0)/\Pk.Off b wx w'):=fun wx b h=>by
    have:=h.num 2
    rw[z3,z4] at this
    exact this
   have C3:Hid (∀ wx b,RdS wx b (tail2 (Q i),0)->Calls Tryz.prog 61 #[.pointer (some ⟨b,0,none⟩),.int .i64 ((Q i).2.size:Int)] wx fun r w'=>r=.returned (.string (Q i).2)/\Pk.isRd w' b (Pk.rdRaw (tail2 (Q i)) 0 ((Q i).2.size:Int)).2.1 (Pk.rdRaw (tail2 (Q i)) 0 ((Q i).2.size:Int)).2.2/\Pk.Off b wx w'):=fun wx b h=>by
    have:=h.raw ((Q i).2.size:Int)
    dsimp only at this
    rw[z5] at this
    exact this
   clear z1 z2 z3 z4 z5 hE CR HZ HN HS0 HT hZ0
   generalize encQ (Q i)=c at *
   generalize tail1 (Q i)=c1 at *
   generalize tail2 (Q i)=c2 at *
   generalize hr:(Q i).1=r at *
   generalize hp:(Q i).2=p at *
   clear hr hp
   have hap:acc.size+p.size<=1000000:=by omega
   have hi2:(i:Int)<(sc:Int):=by omega
   have hw2:IntKind.i64.wrap ((bs:Int)+(i:Int))=(bs:Int)+(i:Int):=by rw[IntKind.wrap_i64];omega
   have d1:=(HL.out _ hS.bel).g.c1
   have d2:=(HL.out _ hS.bel).g.c2
   rw[Hbs.out] at d2
   obtain⟨ri,HR⟩:∃ ri:Int,Hid ((r:Int)=ri):=⟨_,rfl⟩
   obtain⟨mi,HM⟩:∃ mi:Int,Hid ((p.size:Int)=mi):=⟨_,rfl⟩
   obtain⟨li,HI⟩:∃ li:Int,Hid ((least:Int)=li):=⟨_,rfl⟩
   rw[HR.out] at C1
   rw[HM.out] at C2 C3
   rw[HI.out]
   go_wp2
   go_region_held3 (fun W=>W.cell? ⟨l,1,none⟩=some (.pointer (some ⟨R.db,0,none⟩))/\W.cell? ⟨l,2,none⟩=some (.int .i64 (bs:Int))) (first |exact⟨keep1,keep2⟩ |exact⟨d1,d2⟩ |go_keep)
    ((go_at_call 57;refine(C0.out _ ?_).mono ?_;exact hS.bel;rintro e wA ⟨rfl,bA⟩;have hn:=hS.below bA;clear hS;have hS:=hn;clear hn;have keep1:=(HL.out _ hS.bel).g.c1;have keep2:=(HL.out _ hS.bel).g.c2;rw[Hbs.out] at keep2))
   have hge:w.heap.size<=wA.heap.size:=hS.bel.size
   clear keep1 keep2 d1 d2
   by_cases h1:ri<li
   ·have t1:ri<li:=h1
    go_wp2_with (first
     | (go_at_call 58;refine(Sm.Read_any _ _).mono ?_;rintro e w1 ⟨rfl,r1,b1⟩;have H1:=hS.below b1;clear hS;have R1:RdS w1 wA.heap.size (c,0):=⟨r1,hcz⟩;have k4:=(HL.out _ H1.bel).g.c4;clear r1)
     | (go_at_call 59;refine(C1.out _ _ R1).mono ?_;rintro e w2 ⟨rfl,R2,o2⟩;have H2:=H1.off R1.rd o2 hge;clear H1 R1;have k4:=(HL.out _ H2.bel).g.c4)
     | (go_at_call 59;refine(C2.out _ _ R2).mono ?_;rintro e w3 ⟨rfl,R3,o3⟩;have H3:=H2.off R2.rd o3 hge;clear H2 R2;have k4:=(HL.out _ H3.bel).g.c4)
     | (go_at_call 62;refine(H3.string).mono ?_;rintro e w4 ⟨rfl,b4⟩))
    go_ret2
    have q1:=HR.out
    have q2:=HM.out
    have q3:=HI.out
    have q4:=Hrun.out
    have:=HE.out
    rw[if_pos (Or.inl (by omega)),app_nil] at this
    rw[this]
    exact⟨rfl,b4⟩
   by_cases h2:R.run<ri
   ·have t1:¬ ri<li:=h1
    have t2:R.run<ri:=h2
    go_wp2_with (first
     | (go_at_call 58;refine(Sm.Read_any _ _).mono ?_;rintro e w1 ⟨rfl,r1,b1⟩;have H1:=hS.below b1;clear hS;have R1:RdS w1 wA.heap.size (c,0):=⟨r1,hcz⟩;have k4:=(HL.out _ H1.bel).g.c4;clear r1)
     | (go_at_call 59;refine(C1.out _ _ R1).mono ?_;rintro e w2 ⟨rfl,R2,o2⟩;have H2:=H1.off R1.rd o2 hge;clear H1 R1;have k4:=(HL.out _ H2.bel).g.c4)
     | (go_at_call 59;refine(C2.out _ _ R2).mono ?_;rintro e w3 ⟨rfl,R3,o3⟩;have H3:=H2.off R2.rd o3 hge;clear H2 R2;have k4:=(HL.out _ H3.bel).g.c4)
     | (go_at_call 62;refine(H3.string).mono ?_;rintro e w4 ⟨rfl,b4⟩))
    go_ret2
    have q1:=HR.out
    have q2:=HM.out
    have q3:=HI.out
    have q4:=Hrun.out
    have:=HE.out
    rw[if_pos (Or.inr (by omega)),app_nil] at this
    rw[this]
    exact⟨rfl,b4⟩
   by_cases h3:mi<58
   ·have t1:¬ ri<li:=h1
    have t2:¬ R.run<ri:=h2
    have t3:¬ (58:Int)<mi:=by have:=HM.out;omega
    have t4:mi<58:=h3
    go_wp2_with (first
     | (go_at_call 58;refine(Sm.Read_any _ _).mono ?_;rintro e w1 ⟨rfl,r1,b1⟩;have H1:=hS.below b1;clear hS;have R1:RdS w1 wA.heap.size (c,0):=⟨r1,hcz⟩;have k4:=(HL.out _ H1.bel).g.c4;clear r1)
     | (go_at_call 59;refine(C1.out _ _ R1).mono ?_;rintro e w2 ⟨rfl,R2,o2⟩;have H2:=H1.off R1.rd o2 hge;clear H1 R1;have k4:=(HL.out _ H2.bel).g.c4)
     | (go_at_call 59;refine(C2.out _ _ R2).mono ?_;rintro e w3 ⟨rfl,R3,o3⟩;have H3:=H2.off R2.rd o3 hge;clear H2 R2;have k4:=(HL.out _ H3.bel).g.c4)
     | (go_at_call 61;refine(C3.out _ _ R3).mono ?_;rintro e w4 ⟨rfl,R4,o4⟩;have H4:=H3.off R3.rd o4 hge;clear H3 R3)
     | (go_at_call 60;refine(H4.write p hap).mono ?_;rintro e w5 ⟨rfl,H5⟩;clear H4)
     | (go_at_call 62;refine(H5.string).mono ?_;rintro e w4 ⟨rfl,b4⟩))
    go_ret2
    have q1:=HR.out
    have q2:=HM.out
    have q3:=HI.out
    have q4:=Hrun.out
    have:=HE.out
    rw[if_neg (by omega),if_pos (by omega)] at this
    rw[this]
    exact⟨rfl,b4⟩
   have t1:¬ ri<li:=h1
   have t2:¬ R.run<ri:=h2
   have t3:¬ (58:Int)<mi:=by have:=HM.out;omega
   have t4:¬ mi<58:=h3
   go_wp2_with (first
    | (go_at_call 58;refine(Sm.Read_any _ _).mono ?_;rintro e w1 ⟨rfl,r1,b1⟩;have H1:=hS.below b1;clear hS;have R1:RdS w1 wA.heap.size (c,0):=⟨r1,hcz⟩;have k4:=(HL.out _ H1.bel).g.c4;clear r1)
    | (go_at_call 59;refine(C1.out _ _ R1).mono ?_;rintro e w2 ⟨rfl,R2,o2⟩;have H2:=H1.off R1.rd o2 hge;clear H1 R1;have k4:=(HL.out _ H2.bel).g.c4)
    | (go_at_call 59;refine(C2.out _ _ R2).mono ?_;rintro e w3 ⟨rfl,R3,o3⟩;have H3:=H2.off R2.rd o3 hge;clear H2 R2;have k4:=(HL.out _ H3.bel).g.c4)
    | (go_at_call 61;refine(C3.out _ _ R3).mono ?_;rintro e w4 ⟨rfl,R4,o4⟩;have H4:=H3.off R3.rd o4 hge;clear H3 R3)
    | (go_at_call 60;refine(H4.write p hap).mono ?_;rintro e w5 ⟨rfl,H5⟩;clear H4)
    | (go_at_call 62;refine(H5.string).mono ?_;rintro e w4 ⟨rfl,b4⟩))
   go_roundw
   case rel =>
    have q1:=HR.out
    have q2:=HM.out
    have q3:=HI.out
    have q4:=Hrun.out
    have:=HE.out
    rw[if_neg (by omega),if_neg (by omega),← ByteArray.append_assoc] at this
    refine⟨i+1,acc++p,r,hlt,?_,?_,H5,?_,?_⟩
    ·rw[HR.out]
    ·go_num
    ·omega
    ·rw[this,Hn1.out]
   case measure=>simp[intOf];omega
  ·obtain rfl:i=sc:=by omega
   have hi2:¬ (i:Int)<(i:Int):=by omega
   have HE:Hid (ST=acc):=(by rw[hE,Nat.sub_self,stK,app_nil]:ST=acc)
   clear hE
   go_wp2_with (go_at_call 62;refine(hS0.string).mono ?_;rintro e w4 ⟨rfl,b4⟩)
   go_ret2
   rw[HE.out]
   exact⟨rfl,b4⟩
end
section
variable [Inhabited PrSet]
def opR (db bs sc run:Nat) (fs:List ByteArray):Lr:=⟨db,(bs:Int),(sc:Int),(run:Int),cat fs,plc 1 fs,((cat fs).size:Int)+1,false⟩
end
section
variable {l:Nat}
theorem moved_plc (fs:List ByteArray):∀ a:Nat,moved 1 (plc a fs)=plc (a+1) fs:=by
 induction fs with
 | nil=>intro a;rfl
 | cons f l ih =>
  intro a
  have:=ih (a+f.size)
  simp only[moved,plc,List.map_cons] at this ⊢
  rw[this,show a+f.size+1=a+1+f.size by omega,show(1:Int)+(a:Int)=((a+1:Nat):Int) by omega]
end
section
variable {l:Nat}
theorem plc_bd (fs:List ByteArray) (a n:Nat) (h:a+(cat fs).size<=n):∀ x∈plc a fs,0<=x/\x<=(n:Int):=by
 induction fs generalizing a with
 | nil=>intro x hx;cases hx
 | cons f l ih =>
  rw[cat,bsz] at h
  intro x hx
  simp only[plc,List.mem_cons] at hx
  rcases hx with rfl |hx
  ·omega
  ·exact ih (a+f.size) (by omega) x hx
end
section
variable [Inhabited PrSet]{B l k:Nat}{w w':World}{S S':Dk}{R':Lr}
def Opn (S S':Dk) (bs sc run:Nat) (t:ByteArray):Prop:=(sc<=t.size / 58/\S'=S)∨(t.size / 58<sc/\Laid S S' (nw bs t run (t.size / 58) (min (t.size / 58+1) sc)) 0)
set_option maxHeartbeats 4000000 in
theorem Open_calm {db:Nat} (h:Ds B w db k S) (hk:k<=300000000000) (bs sc run:Nat) (hs1:1<=sc) (hsc2:sc<=8000) (hr1:1<=run) (hr2:run<=4294967295) (hfit:bs+sc<=S.n) (hu:S.up=true) (hc:S.set=false)
  (Q:Nat->Sec) (hQ:∀ i,i<sc->S.now (bs+i)=encQ (Q i)/\(Q i).1<4294967296/\(Q i).2.size<=58) :
  Calls Tryz.prog 8 #[.pointer (some ⟨db,0,none⟩),.int .i64 (bs:Int),.int .i64 (sc:Int),.int .i64 (run:Int)] w fun e w' =>
   ∃ fs S' l,e=.returned (.tuple #[.pointer (some ⟨l,0,none⟩),.int .i64 0])/\Spl (stand Q run sc) fs/\Opn S S' bs sc run (cat fs)/\Lx B w' l (k+sc+1) S' (opR db bs sc run fs)/\Kp isA B w w':=by
 have hn2:=h.q.ok.n2
 obtain⟨R1,hR1⟩:∃ R1:Lr,R1=⟨db,(bs:Int),(sc:Int),(run:Int),⟨#[]⟩,[],0,false⟩:=⟨_,rfl⟩
 have HSZ:Hid ((stand Q run sc).size<=58*sc):=stK_size Q run sc 0 1 (fun j h1 h2=>(hQ j (by omega)).2.2)
 have CZ:Hid (Calls Tryz.prog 28 #[.pointer (some ⟨db,0,none⟩)] w fun e w'=>e=.returned (.int .i64 (S.n:Int))/\w'=w):=h.size
 have CS:Hid (∀ wx,Lx B wx w.heap.size k S R1->Calls Tryz.prog 29 #[.pointer (some ⟨w.heap.size,0,none⟩)] wx fun e w'=>e=.returned (.tuple #[.string (stand Q run sc),.int .i64 0])/\Below wx.heap.size wx w'):=fun wx hx=>standing_any hx (by rw[hR1]) (by rw[hR1]) run (by rw[hR1]) hsc2 hfit hu Q hQ
 have CF:Hid (∀ wx,Calls Tryz.prog 30 #[.string (stand Q run sc)] wx fun e w'=>∃ v fs,e=.returned (.tuple #[v,.int .i64 ((cat fs).size:Int)])/\OwnI wx.heap.size w' v (plc 0 fs)/\Spl (stand Q run sc) fs/\Below wx.heap.size wx w'):=fun wx=>frames_any _ (by have:=HSZ.out;omega)
 have HC:Hid (∀ fs,Spl (stand Q run sc) fs->(cat fs).size<=464000/\fs.length<=100000):=fun fs hf=>by
  obtain⟨x,hx⟩:=hf.pre
  have h1:=HSZ.out
  rw[hx,bsz] at h1
  have:=cat_len hf.frm
  omega
 have HSL:Hid (∀ fs,Spl (stand Q run sc) fs->∀ W,(Instr.slice 9 (.string (stand Q run sc)) none (some (.int .i64 ((cat fs).size:Int))) none).run Tryz.prog W=.ok (.string (cat fs)) W):=fun fs hf W=>by
  obtain⟨x,hx⟩:=hf.pre
  have hl:(cat fs).size<=(stand Q run sc).size:=by rw[hx,bsz];omega
  rw[run_slice_string_to_if W 9 _ .i64 _ Tryz.underlying9,if_pos (by omega),Int.toNat_natCast,hx,ext_left]
 have CG:Hid (∀ w0 wx v fs,Spl (stand Q run sc) fs->Lx B w0 w.heap.size k S R1->Below w0.heap.size w0 wx->OwnI w0.heap.size wx v (plc 0 fs)->Calls Tryz.prog 31 #[.pointer (some ⟨w.heap.size,0,none⟩),.string (cat fs),v] wx fun e w'=>e=.returned (.tuple #[])/\Lx B w' w.heap.size k S {R1 with T:=cat fs,ps:=plc 1 fs}/\Kp isL B wx w'):=fun w0 wx v fs hf hx hb ho=>by
  have hz:=HC.out fs hf
  have:=gather_any hx.g hb ho (cat fs) (by rw[hR1];dsimp only;rw[nilz];omega) (plc_bd fs 0 1000000 (by omega)) (by rw[hR1,plc_length];dsimp only;simp;omega)
  refine this.mono ?_
  rintro e w' ⟨he,hL,hK⟩
  refine⟨he,⟨?_,?_⟩,hK⟩
  ·exact(hx.below hb).d.kept hK
  ·have e1:R1.T++cat fs=cat fs:=by rw[hR1];exact nil_app _
   have e2:R1.ps++moved ((R1.T.size:Int)+1) (plc 0 fs)=plc 1 fs:=by rw[hR1];exact moved_plc fs 0
   rw[e1,e2] at hL
   exact hL
 have CE:Hid (∀ wx fs,Spl (stand Q run sc) fs->Lx B wx w.heap.size k S {R1 with T:=cat fs,ps:=plc 1 fs}->Calls Tryz.prog 32 #[.pointer (some ⟨w.heap.size,0,none⟩)] wx fun e w'=>e=.returned (.int .i64 (((cat fs).size:Int)+1))/\w'=wx):=fun wx fs hf hx=>End_any hx.g (by have:=HC.out fs hf;dsimp only;omega)
 have HD:Hid (∀ wx fs,Lx B wx w.heap.size k S {R1 with T:=cat fs,ps:=plc 1 fs}->Lx B (wx.setCell ⟨w.heap.size,8,none⟩ (.int .i64 (((cat fs).size:Int)+1))) w.heap.size k S (opR db bs sc run fs)/\Kp isL B wx (wx.setCell ⟨w.heap.size,8,none⟩ (.int .i64 (((cat fs).size:Int)+1)))):=fun wx fs hx=>hx.set (by rw[hR1];rfl) rfl rfl (fun p v pv=>by rw[hR1];rfl)
 have CT:Hid (∀ wx fs,Spl (stand Q run sc) fs->Lx B wx w.heap.size k S (opR db bs sc run fs)->Calls Tryz.prog 33 #[.pointer (some ⟨w.heap.size,0,none⟩),.int .i64 (((cat fs).size:Int)+1),.int .i64 (run:Int)] wx fun v w' =>
   ∃ S',v=.returned (.int .i64 0)/\Opn S S' bs sc run (cat fs)/\Lx B w' w.heap.size (k+sc+1) S' (opR db bs sc run fs)/\Kp isA B wx w'):=fun wx fs hf hx=>by
  have hz:=HC.out fs hf
  have:=settle_any hx (by omega) (bs:=bs) (sc:=sc) (d:=(cat fs).size) rfl rfl rfl (by show(cat fs).size<=500000;omega) (by omega) (by omega) (((cat fs).size:Int)+1) (cat fs).size rfl (Nat.le_refl _) run (by omega) hfit hu
  refine this.mono ?_
  rintro v w' ⟨S',x,R',hv,hl,hK,hz2⟩
  have e1:(opR db bs sc run fs).T.extract 0 (cat fs).size=cat fs:=ext_whole (cat fs)
  rw[e1,Nat.min_self] at hz2
  rcases hz2 with⟨h1,rfl,rfl,rfl⟩ |⟨h1,rfl,h2⟩
  ·exact⟨_,hv,Or.inl ⟨by omega,rfl⟩,hl,hK⟩
  ·obtain⟨rfl,_⟩:=h2.calm hc
   exact⟨S',hv,Or.inr ⟨by omega,h2⟩,hl,hK⟩
 have H0:Hid (∀ o:Obj,Ds B (w.alloc o) db k S):=fun o=>h.below ((Below.refl _ _).alloc (Nat.le_refl _) _)
 have hle:=h.lt
 have hlp:=h.lp
 have HN:Hid (Lx B (w.alloc (.cells #[.pointer (some ⟨w.heap.size,0,none⟩),.pointer (some ⟨db,0,none⟩),.int .i64 (bs:Int),.int .i64 (sc:Int),.int .i64 (run:Int),.pointer none,.slice none 0 0,.slice none 0 0,.int .i64 0,.bool false] 80)) w.heap.size k S R1):=by
  subst hR1
  exact⟨H0.out _,⟨⟨_,_,_,(MapKept.heap_alloc w _).1,Or.inl rfl,World.ownsRowF_nil _ _ _ _,OwnI.nil _ _,npv.nil,npv.nil⟩,hlp.ow hle (Nat.le_refl _),by simp;omega,hlp.below ((Below.refl _ _).alloc (Nat.le_refl _) _)⟩⟩
 have t1:¬ (bs:Int)<0:=by omega
 have t2:¬ (sc:Int)<1:=by omega
 have t3:¬ (run:Int)<1:=by omega
 have t4:¬ (4294967295:Int)<(run:Int):=by omega
 have t5:¬ (S.n:Int)-(bs:Int)<(sc:Int):=by omega
 have hw1:IntKind.i64.wrap ((S.n:Int)-(bs:Int))=(S.n:Int)-(bs:Int):=by rw[IntKind.wrap_i64];omega
 clear h hQ hu hc hfit hR1 HSZ hsc2 hr1 hr2 hs1 hn2 hk
 generalize stand Q run sc=ST at *
 generalize (S.n:Int)=sn at *
 go_enter Tryz.func8,Tryz.ntmps8
 go_wp2_with (first
  | (go_at_call 28;refine CZ.out.mono ?_;rintro e w0 ⟨rfl,rfl⟩)
  | (go_at_call 29;refine(CS.out _ HN.out).mono ?_;rintro e w1 ⟨rfl,b1⟩;have H1:=HN.out.below b1;have bb1:Below w0.heap.size w0 w1:=thn ((Below.refl _ _).alloc (Nat.le_refl _) _) b1;clear HN b1)
  | (go_at_call 30;refine(CF.out _).mono ?_;rintro e w2 ⟨v,fs,rfl,ho,hsp,b2⟩;have hsl:=HSL.out fs hsp;obtain⟨av,cv,rfl⟩:=ho.ex)
  | (go_at_call 31;refine(CG.out w1 _ _ fs hsp H1 b2 ho).mono ?_;rintro e w3 ⟨rfl,H3,k3⟩;have c8:=H3.g.c8;have f8:=H3.g.f 8)
  | (go_at_call 32;refine(CE.out _ fs hsp H3).mono ?_;rintro e w4 ⟨rfl,rfl⟩)
  | (go_at_call 33;refine(CT.out _ fs hsp (HD.out _ fs H3).1).mono ?_;rintro e w5 ⟨S',rfl,hop,H5,k5⟩))
 go_ret2
 have k4:=(HD.out _ fs H3).2
 exact⟨fs,S',_,rfl,hsp,hop,H5,(((Kp.of_below (thn bb1 b2) hle).trans k3.l).trans k4.l).trans k5⟩
end
def lgR (db bs sc run:Nat) (fs:List ByteArray) (dur:Nat) (dead:Bool):Lr:=⟨db,(bs:Int),(sc:Int),(run:Int),cat fs,plc 1 fs,(dur:Int)+1,dead⟩
structure Fit (sc:Nat) (fs:List ByteArray):Prop where
 frm:∀ f∈fs,Frm f
 sz:(cat fs).size<=58*sc
 s0:1<=sc
 s1:sc<=8000
section
variable [Inhabited PrSet]{B l k db:Nat}{w w':World}{S:Dk}
theorem Lx.kept {R R':Lr} (h:Lx B w l k S R) (hd:R'.db=R.db) (g:LrIs B w' l R') (hk:Kp isL B w w'):Lx B w' l k S R':=⟨by rw[hd];exact h.d.kept hk,g⟩
end
section
variable {l:Nat}{fs gs:List ByteArray}
theorem cat_moved (fs gs:List ByteArray):plc 1 fs++moved (((cat fs).size:Int)+1) (plc 0 gs)=plc 1 (fs++gs):=by
 rw[plc_append]
 congr 1
 have:∀ (gs:List ByteArray) (a n:Nat),moved ((n:Int)+1) (plc a gs)=plc (1+n+a) gs:=by
  intro gs
  induction gs with
  | nil=>intro a n;rfl
  | cons f l ih =>
   intro a n
   have:=ih (a+f.size) n
   simp only[moved,plc,List.map_cons] at this ⊢
   rw[this,show 1+n+(a+f.size)=1+n+a+f.size by omega,show(n:Int)+1+(a:Int)=((1+n+a:Nat):Int) by omega]
 have e:=this gs 0 (cat fs).size
 rw[Nat.add_zero] at e
 exact e
end
section
variable [Inhabited PrSet]{B l k db bs sc run dur:Nat}{w w' w0:World}{S:Dk}{fs gs:List ByteArray}{dead:Bool}
set_option maxHeartbeats 1000000 in
theorem add_full (h:Lx B w l k S (lgR db bs sc run fs dur dead)) (hf:Fit sc fs) (s:ByteArray) (hs:s.size<=1000000) (v:Value) (hn:¬ (cat fs).size+s.size<=58*sc):Calls Tryz.prog 51 #[.pointer (some ⟨l,0,none⟩),.string s,v] w fun e w'=>e=.returned (.tuple #[.int .i64 0,.int .i64 7])/\Below w.heap.size w w':=by
 have h1:=hf.sz
 have h2:=hf.s1
 have CL:Hid (Calls Tryz.prog 82 #[.pointer (some ⟨l,0,none⟩)] w fun e w'=>e=.returned (.int .i64 ((sc:Int)*58-((cat fs).size:Int)))/\Below w.heap.size w w'):=Left_any h.g (by show(cat fs).size<=1000000;omega) (by show(0:Int)<=(sc:Int);omega) (by show(sc:Int)<=10000;omega)
 have t1:(sc:Int)*58-((cat fs).size:Int)<(s.size:Int):=by omega
 clear h hf hn h1 h2
 generalize (sc:Int)*58-((cat fs).size:Int)=L at *
 have hs':(s.size:Int)<=1000000:=by omega
 go_enter Tryz.func51,Tryz.ntmps51
 go_wp2_with (go_at_call 82;refine CL.out.mono ?_;rintro e w1 ⟨rfl,b1⟩)
 go_ret2
 exact⟨rfl,b1⟩
set_option maxHeartbeats 1000000 in
theorem add_ok {v:Value} (h:Lx B w0 l k S (lgR db bs sc run fs dur false)) (hb:Below w0.heap.size w0 w) (hf:Fit sc fs) (hg:∀ g∈gs,Frm g) (ho:OwnI w0.heap.size w v (plc 0 gs)) (hn:(cat fs).size+(cat gs).size<=58*sc) :
  Calls Tryz.prog 51 #[.pointer (some ⟨l,0,none⟩),.string (cat gs),v] w fun e w'=>e=.returned (.tuple #[.int .i64 (((cat fs).size:Int)+1),.int .i64 0])/\Lx B w' l k S (lgR db bs sc run (fs++gs) dur false)/\Kp isL B w w':=by
 have h1:=hf.sz
 have h2:=hf.s1
 have CL:Hid (Calls Tryz.prog 82 #[.pointer (some ⟨l,0,none⟩)] w fun e w'=>e=.returned (.int .i64 ((sc:Int)*58-((cat fs).size:Int)))/\Below w.heap.size w w'):=Left_any (h.below hb).g (by show(cat fs).size<=1000000;omega) (by show(0:Int)<=(sc:Int);omega) (by show(sc:Int)<=10000;omega)
 have CE:Hid (∀ wx,Below w0.heap.size w0 wx->Calls Tryz.prog 32 #[.pointer (some ⟨l,0,none⟩)] wx fun e w'=>e=.returned (.int .i64 (((cat fs).size:Int)+1))/\w'=wx):=fun wx hx=>End_any (h.below hx).g (by show(cat fs).size<=1000000;omega)
 have CG:Hid (∀ wx,Below w0.heap.size w0 wx->OwnI w0.heap.size wx v (plc 0 gs)->Calls Tryz.prog 31 #[.pointer (some ⟨l,0,none⟩),.string (cat gs),v] wx fun e w'=>e=.returned (.tuple #[])/\Lx B w' l k S (lgR db bs sc run (fs++gs) dur false)/\Kp isL B wx w'):=fun wx hx hox=>by
  have l1:=cat_len hf.frm
  have l2:=cat_len hg
  have:=gather_any h.g hx hox (cat gs) (by show(cat fs).size+(cat gs).size<=1000000;omega) (plc_bd gs 0 1000000 (by omega)) (by show(plc 1 fs).length+(plc 0 gs).length<=100000;rw[plc_length,plc_length];omega)
  refine this.mono ?_
  rintro e w' ⟨he,hL,hK⟩
  refine⟨he,(h.below hx).kept rfl ?_ hK,hK⟩
  have e1:cat fs++cat gs=cat (fs++gs):=(cat_append fs gs).symm
  have e2:=cat_moved fs gs
  show LrIs B w' l ⟨db,(bs:Int),(sc:Int),(run:Int),cat (fs++gs),plc 1 (fs++gs),(dur:Int)+1,false⟩
  rw[← e1,← e2]
  exact hL
 have HO:Hid (OwnI w0.heap.size w v (plc 0 gs)):=ho
 have HB:Hid (Below w0.heap.size w0 w):=hb
 have H9:Hid (∀ wx,Below w0.heap.size w0 wx->wx.cell? ⟨l,9,none⟩=some (.bool false)):=fun wx hx=>(h.below hx).g.c9
 have hle:=h.le
 have t1:¬ (sc:Int)*58-((cat fs).size:Int)<((cat gs).size:Int):=by omega
 have hs':((cat gs).size:Int)<=1000000:=by omega
 clear h hf hn h1 h2 ho hb hg
 generalize (sc:Int)*58-((cat fs).size:Int)=L at *
 generalize ((cat fs).size:Int)+1=E at *
 generalize cat gs=s at *
 go_enter Tryz.func51,Tryz.ntmps51
 go_wp2_with (first
  | (go_at_call 82;refine CL.out.mono ?_;rintro e w1 ⟨rfl,b1⟩;have bb:Below w0.heap.size w0 w1:=thn HB.out b1;have c9:=H9.out _ bb)
  | (go_at_call 32;refine(CE.out _ bb).mono ?_;rintro e w2 ⟨rfl,rfl⟩)
  | (go_at_call 31;refine(CG.out _ bb (HO.out.below b1)).mono ?_;rintro e w3 ⟨rfl,H3,k3⟩))
 go_ret2
 exact⟨rfl,H3,(Kp.of_below b1 (Nat.le_trans hle HB.out.size)).trans k3⟩
set_option maxHeartbeats 1000000 in
theorem append_err {v:Value} {m:Rm} (h:Lx B w l k S (lgR db bs sc run fs dur false)) (hf:Fit sc fs) (hv:RecV w v m) (hm:Small m) (he:(frameM m).2≠0) :
  Calls Tryz.prog 23 #[.pointer (some ⟨l,0,none⟩),v] w fun e w'=>e=.returned (.tuple #[.int .i64 0,.int .i64 (frameM m).2])/\Below w.heap.size w w':=by
 have CI:Hid (∀ wx,Below w.heap.size w wx->Calls Tryz.prog 41 #[.pointer (some ⟨l,0,none⟩)] wx fun e w'=>e=.returned (.bool true)/\w'=wx):=fun wx hx=>isOpen_any (h.below hx).g
 have CF:Hid (∀ wx,Below w.heap.size w wx->Calls Tryz.prog 50 #[v] wx fun r w'=>r=.returned (.tuple #[.string (frameM m).1,.int .i64 (frameM m).2])/\Below wx.heap.size wx w'):=fun wx hx=>Frame_any (hv.below hx) hm
 have he':((frameM m).2 !=0)=true:=by simpa using he
 clear he
 generalize (frameM m).1=F at *
 generalize (frameM m).2=E at *
 obtain⟨sm,im,tb⟩:=m
 obtain⟨I,T,rfl,hI,hT⟩:=hv.ex
 dsimp only at *
 clear hf hv hI hT
 have H:Hid (Lx B w l k S (lgR db bs sc run fs dur false)):=h
 have hle:=h.le
 clear h
 go_enter Tryz.func23,Tryz.ntmps23
 go_wp2_with (first
  | (refine wpList_box_rc (s:=sm) (I:=_) (T:=_) _ rfl _ rfl rfl ?_;intro w1 b1 N1)
  | (go_at_call 41;refine(CI.out _ N1.below).mono ?_;rintro e w2 ⟨rfl,rfl⟩)
  | (refine wpList_load_rc _ rfl (.tmp 3) rfl rfl N1.rc ?_)
  | (go_at_call 50;refine(CF.out _ N1.below).mono ?_;rintro e w3 ⟨rfl,b3⟩;have bb:=thn N1.below b3;clear N1 b3))
 go_ret2
 exact⟨rfl,bb⟩
set_option maxHeartbeats 1000000 in
theorem append_full {v:Value} {m:Rm} (h:Lx B w l k S (lgR db bs sc run fs dur false)) (hf:Fit sc fs) (hv:RecV w v m) (hm:Small m) (he:(frameM m).2=0) (hn:¬ (cat fs).size+(frameM m).1.size<=58*sc) :
  Calls Tryz.prog 23 #[.pointer (some ⟨l,0,none⟩),v] w fun e w'=>e=.returned (.tuple #[.int .i64 0,.int .i64 7])/\Below w.heap.size w w':=by
 have CI:Hid (∀ wx,Below w.heap.size w wx->Calls Tryz.prog 41 #[.pointer (some ⟨l,0,none⟩)] wx fun e w'=>e=.returned (.bool true)/\w'=wx):=fun wx hx=>isOpen_any (h.below hx).g
 have CF:Hid (∀ wx,Below w.heap.size w wx->Calls Tryz.prog 50 #[v] wx fun r w'=>r=.returned (.tuple #[.string (frameM m).1,.int .i64 (frameM m).2])/\Below wx.heap.size wx w'):=fun wx hx=>Frame_any (hv.below hx) hm
 have hz:=(frm_good he).le
 have CA:Hid (∀ wx v',Below w.heap.size w wx->Calls Tryz.prog 51 #[.pointer (some ⟨l,0,none⟩),.string (frameM m).1,v'] wx fun e w'=>e=.returned (.tuple #[.int .i64 0,.int .i64 7])/\Below wx.heap.size wx w'):=fun wx v' hx=>add_full (h.below hx) hf _ (by omega) v' hn
 rw[he] at CF
 clear he hn hz
 generalize (frameM m).1=F at *
 obtain⟨sm,im,tb⟩:=m
 obtain⟨I,T,rfl,hI,hT⟩:=hv.ex
 dsimp only at *
 clear hf hv hI hT
 have H:Hid (Lx B w l k S (lgR db bs sc run fs dur false)):=h
 have hle:=h.le
 clear h
 go_enter Tryz.func23,Tryz.ntmps23
 go_wp2_with (first
  | (refine wpList_box_rc (s:=sm) (I:=_) (T:=_) _ rfl _ rfl rfl ?_;intro w1 b1 N1)
  | (go_at_call 41;refine(CI.out _ N1.below).mono ?_;rintro e w2 ⟨rfl,rfl⟩)
  | (refine wpList_load_rc _ rfl (.tmp 3) rfl rfl N1.rc ?_)
  | (go_at_call 50;refine(CF.out _ N1.below).mono ?_;rintro e w3 ⟨rfl,b3⟩;have bb:=thn N1.below b3;clear N1 b3)
  | (go_at_call 51;refine(CA.out _ _ ?_).mono ?_;exact thn bb ((Below.refl _ _).alloc (Nat.le_refl _) _);rintro e w5 ⟨rfl,b5⟩))
 go_ret2
 exact⟨rfl,thn (thn bb ((Below.refl _ _).alloc (Nat.le_refl _) _)) b5⟩
set_option maxHeartbeats 1000000 in
theorem append_ok {v:Value} {m:Rm} (h:Lx B w l k S (lgR db bs sc run fs dur false)) (hf:Fit sc fs) (hv:RecV w v m) (hm:Small m) (he:(frameM m).2=0) (hn:(cat fs).size+(frameM m).1.size<=58*sc) :
  Calls Tryz.prog 23 #[.pointer (some ⟨l,0,none⟩),v] w fun e w'=>e=.returned (.tuple #[.int .i64 (((cat fs).size:Int)+1),.int .i64 0])/\Lx B w' l k S (lgR db bs sc run (fs++[(frameM m).1]) dur false)/\Kp isL B w w':=by
 have CI:Hid (∀ wx,Below w.heap.size w wx->Calls Tryz.prog 41 #[.pointer (some ⟨l,0,none⟩)] wx fun e w'=>e=.returned (.bool true)/\w'=wx):=fun wx hx=>isOpen_any (h.below hx).g
 have CF:Hid (∀ wx,Below w.heap.size w wx->Calls Tryz.prog 50 #[v] wx fun r w'=>r=.returned (.tuple #[.string (frameM m).1,.int .i64 (frameM m).2])/\Below wx.heap.size wx w'):=fun wx hx=>Frame_any (hv.below hx) hm
 have hfr:=frm_good he
 have hcat:cat [(frameM m).1]=(frameM m).1:=by rw[cat,cat,app_nil]
 have CA:Hid (∀ w0 wx v',Below w.heap.size w w0->Below w0.heap.size w0 wx->OwnI w0.heap.size wx v' [0]->Calls Tryz.prog 51 #[.pointer (some ⟨l,0,none⟩),.string (frameM m).1,v'] wx fun e w'=>e=.returned (.tuple #[.int .i64 (((cat fs).size:Int)+1),.int .i64 0])/\Lx B w' l k S (lgR db bs sc run (fs++[(frameM m).1]) dur false)/\Kp isL B wx w'):=fun w0 wx v' h0 hx ho=>by
  have:=add_ok (gs:=[(frameM m).1]) (h.below h0) hx hf (fun g hg=>by rw[List.mem_singleton] at hg;subst hg;exact hfr) ho (by rw[hcat];exact hn)
  rw[hcat] at this
  exact this
 rw[he] at CF
 clear he hn hfr hcat
 generalize (frameM m).1=F at *
 generalize ((cat fs).size:Int)+1=E at *
 obtain⟨sm,im,tb⟩:=m
 obtain⟨I,T,rfl,hI,hT⟩:=hv.ex
 dsimp only at *
 clear hf hv hI hT
 have H:Hid (Lx B w l k S (lgR db bs sc run fs dur false)):=h
 have hle:=h.le
 clear h
 go_enter Tryz.func23,Tryz.ntmps23
 go_wp2_with (first
  | (refine wpList_box_rc (s:=sm) (I:=_) (T:=_) _ rfl _ rfl rfl ?_;intro w1 b1 N1)
  | (go_at_call 41;refine(CI.out _ N1.below).mono ?_;rintro e w2 ⟨rfl,rfl⟩)
  | (refine wpList_load_rc _ rfl (.tmp 3) rfl rfl N1.rc ?_)
  | (go_at_call 50;refine(CF.out _ N1.below).mono ?_;rintro e w3 ⟨rfl,b3⟩;have bb:=thn N1.below b3;clear N1 b3)
  | (go_at_call 51;refine(CA.out w3 _ _ bb ?_ ?_).mono ?_;exact(Below.refl _ _).alloc (Nat.le_refl _) _;exact OwnI.one 0 (Nat.le_refl _);rintro e w5 ⟨rfl,H5,k5⟩))
 go_ret2
 exact⟨rfl,H5,(Kp.of_below (thn bb ((Below.refl _ _).alloc (Nat.le_refl _) _)) hle).trans k5⟩
end
end Go.Proofs.YtjlhohljkedbbaaGreat
