import Derived.Test.YtkcpclmkbmeigaaGreatMaa
import Derived.Laws.IdiomRangeMap
import Derived.Laws.StructEq
import Derived.BigRegion
import Derived.BigQuiet
import Derived.Deep.LoopGhost
import Derived.Shelf.SlGeneric
import Derived.Shelf.SlIter.Nil
import Derived.Shelf.SlIterI.Nil
import Derived.Shelf.SortM.Plain
import Derived.Shelf.SortM.SortNone
import Derived.Ground.GgzProg
import Derived.Ground.SlgmProg
import Derived.Test.YtkcpclmkbmeigaaGreatProg
set_option linter.unusedVariables false
set_option linter.unusedSimpArgs false
set_option maxRecDepth 100000
namespace Go.Proofs.YtkcpclmkbmeigaaGreat.Fd
open Go.RowKit Gm Go.Maps
theorem flat_take:∀ (K:List CL) (i:Nat),(K.map encC).flatten.take (i*2)=((K.take i).map encC).flatten
 | [],i=>by simp
 | c :: K,0=>by simp
 | c :: K,i+1=>by
  have:=flat_take K i
  simp only[List.map_cons,List.flatten_cons,List.take_succ_cons]
  rw[show(i+1)*2=2+i*2 by omega,List.take_append,show(encC c).length=2 from rfl,show 2+i*2-2=i*2 by omega,this,List.take_of_length_le (by show 2<=2+i*2;omega)]
theorem flat_drop:∀ (K:List CL) (i:Nat),(K.map encC).flatten.drop (i*2)=((K.drop i).map encC).flatten
 | [],i=>by simp
 | c :: K,0=>by simp
 | c :: K,i+1=>by
  have:=flat_drop K i
  simp only[List.map_cons,List.flatten_cons,List.drop_succ_cons]
  rw[show(i+1)*2=2+i*2 by omega,List.drop_append,show(encC c).length=2 from rfl,show 2+i*2-2=i*2 by omega,this,List.drop_of_length_le (by show 2<=2+i*2;omega)]
  rfl
theorem flat_one (K:List CL):∀ u∈(K.map encC).flatten,u.oneCell'=true:=by
 intro u hu
 obtain⟨l,hl,hu⟩:=List.mem_flatten.1 hu
 obtain⟨c,_,rfl⟩:=List.mem_map.1 hl
 simp only[encC,List.mem_cons,List.not_mem_nil,or_false] at hu
 rcases hu with rfl |rfl <;> rfl
theorem enc_len (K:List CL):∀ c∈K.map encC,c.length=2:=by
 intro c hc
 obtain⟨x,_,rfl⟩:=List.mem_map.1 hc
 rfl
theorem flat_ln (K:List CL):(K.map encC).flatten.length=K.length*2:=by rw[flat_len (enc_len K),List.length_map]
structure RwO (w w':World) (v v':Value) (K:List CL):Prop where
 row:Row w' 73 2 v' (K.map encC)
 gr:w.grownBy w' v.ownBlock
 own:v'.ownBlock=v.ownBlock∨∃ g,v'.ownBlock=some g/\w.heap.size<=g
section
variable {w w':World}{v:Value}{K:List CL}
theorem Delete_row {a:Option Addr} {c i:Nat} (h:Row w 73 2 (.slice a K.length c) (K.map encC)) (hi:i<K.length) (hn:K.length<=1000) :
  Calls Tryz.prog 97 #[.slice a K.length c,.int .i64 (i:Int),.int .i64 ((i:Int)+1)] w fun e w'=>e=.returned (.slice a (K.length-1) c)/\RwO w w' (.slice a K.length c) (.slice a (K.length-1) c) (K.take i++K.drop (i+1)):=by
 rcases h.row.2 with⟨_,h0⟩ |⟨g,cap,cur,e,hB,hg,h3,h4,h5,h6⟩
 ·rw[List.length_map] at h0;omega
 ·rw[List.length_map] at h3 h6 e
  injection e with e1 e2 e3
  subst e1 e3
  refine(Delete_any (i:=i) hg h4 h5 h6 (flat_ln K) (flat_one K) hi h3 hn).mono ?_
  rintro e w' ⟨rfl,r1,r2⟩
  refine⟨rfl,⟨enc_len _,?_⟩,r2,Or.inl rfl⟩
  have e9:del2 (K.map encC).flatten i=((K.take i++K.drop (i+1)).map encC).flatten:=by
   unfold del2
   rw[flat_take,flat_drop,List.map_append,List.flatten_append]
  rw[e9] at r1
  rw[List.length_map,List.length_append,List.length_take,List.length_drop,show min i K.length+(K.length-(i+1))=K.length-1 by omega]
  exact r1
theorem Insert_row {i vb:Nat} {p t:ByteArray} (h:Row w 73 2 v (K.map encC)) (hi:i<=K.length) (hn:K.length<=1000) (hb:At w vb 73 #[.string p,.string t]) (hne:v.ownBlock≠some vb) :
  Calls Tryz.prog 98 #[v,.int .i64 (i:Int),.slice (some ⟨vb,0,none⟩) 1 1] w fun e w'=>∃ v',e=.returned v'/\RwO w w' v v' (K.take i++[(p,t)]++K.drop i):=by
 have hr:=h.row
 rw[List.length_map] at hr
 refine(Insert_any hr (flat_one K) hi hn vb p t hb.blk hne).mono ?_
 rintro e w' ⟨v',rfl,r1,r2,r3⟩
 refine⟨v',rfl,⟨enc_len _,?_⟩,r2,r3⟩
 have e9:ins2 (K.map encC).flatten i (.string p) (.string t)=((K.take i++[(p,t)]++K.drop i).map encC).flatten:=by
  unfold ins2
  rw[flat_take,flat_drop,List.map_append,List.map_append,List.flatten_append,List.flatten_append]
  rfl
 rw[e9] at r1
 rw[List.length_map,List.length_append,List.length_append,List.length_take,List.length_drop,List.length_singleton,show min i K.length+1+(K.length-i)=K.length+1 by omega]
 exact r1
end
def mt (o:Option Hs) (q:CL) (K:List CL):Prop:=match o with
 | some h=>h.is=true/\q.2=h.v
 | none=>q∈K
def dnK (ks:List (ByteArray × Hs)) (left:Lit->Bool) (k:ByteArray):Option Hs:=cond (left (.string k.data.toList)) none ((lkK ks k.data.toList).map (·.2))
structure CmP (K K':List CL) (ks:List (ByteArray × Hs)) (left:Lit->Bool) (cnt B:Nat):Prop where
 up:Ris K'
 mem:∀ q,q∈K'↔mt (dnK ks left q.1) q K
 le:K'.length+cnt<=B
def cmsK (K:List CL) (ks:List (ByteArray × Hs)):List CL:=ks.foldl (fun K p=>comK K p.1 p.2) K
theorem cmsK_ris {ks:List (ByteArray × Hs)}:∀ {K:List CL},Ris K->Ris (cmsK K ks):=by
 induction ks with
 | nil=>intro K h;exact h
 | cons p ks ih=>intro K h;exact ih (comK_ris h p.1 p.2)
theorem cmsK_mem {ks:List (ByteArray × Hs)}:∀ {K:List CL},Ris K->(ks.Pairwise fun a b=>a.1.data.toList≠b.1.data.toList)->∀ q,q∈cmsK K ks↔mt ((lkK ks q.1.data.toList).map (·.2)) q K:=by
 induction ks with
 | nil=>intro K h _ q;rfl
 | cons p ks ih =>
  intro K h hp q
  rw[List.pairwise_cons] at hp
  show q∈cmsK (comK K p.1 p.2) ks↔_
  rw[ih (comK_ris h p.1 p.2) hp.2 q]
  by_cases e:p.1.data.toList=q.1.data.toList
  ·have h0:lkK ks q.1.data.toList=none:=lkK_none.2 fun x hx e2=>hp.1 x hx (e.trans e2.symm)
   have h1:lkK (p ::ks) q.1.data.toList=some p:=by simp only[lkK,List.find?_cons,e,beq_self_eq_true]
   rw[h0,h1]
   show q∈comK K p.1 p.2↔_
   rw[comK_mem h,if_pos (ba_eq e).symm]
   rfl
  ·have h1:lkK (p ::ks) q.1.data.toList=lkK ks q.1.data.toList:=by
    have:(p.1.data.toList==q.1.data.toList)=false:=by simpa using e
    simp only[lkK,List.find?_cons,this]
   rw[h1]
   cases lkK ks q.1.data.toList with
   | some x=>rfl
   | none =>
    show q∈comK K p.1 p.2↔q∈K
    rw[comK_mem h,if_neg (fun e2=>e (by rw[e2]))]
section
variable {K K':List CL}{ks:List (ByteArray × Hs)}{left:Lit->Bool}{cnt B:Nat}
theorem CmP.start (h:Ris K) (hB:K.length+cnt<=B):CmP K K ks (fun l=>(fK ks l).isSome) cnt B:=by
 refine⟨h,fun q=>?_,hB⟩
 have:dnK ks (fun l=>(fK ks l).isSome) q.1=none:=by
  unfold dnK
  dsimp only
  rw[fK_at,Option.isSome_map]
  cases lkK ks q.1.data.toList <;> rfl
 rw[this]
 rfl
theorem CmP.step {p:ByteArray × Hs} {cnt2:Nat} (h:CmP K K' ks left cnt B) (hp:lkK ks p.1.data.toList=some p) (hc:cnt2<cnt):CmP K (comK K' p.1 p.2) ks (fun z=>left z&&!z.sameKey (.string p.1.data.toList)) cnt2 B:=by
 refine⟨comK_ris h.up _ _,fun q=>?_,by have:=comK_len K' p.1 p.2;have:=h.le;omega⟩
 rw[comK_mem h.up]
 by_cases e:q.1=p.1
 ·rw[if_pos e]
  have e3:(Lit.string p.1.data.toList).sameKey (.string p.1.data.toList)=true:=WideAt.sameKey_self (kS _)
  have:dnK ks (fun z=>left z&&!z.sameKey (.string p.1.data.toList)) q.1=some p.2:=by
   unfold dnK
   dsimp only
   rw[e,e3,hp]
   simp
  rw[this]
  rfl
 ·rw[if_neg e]
  have e3:(Lit.string q.1.data.toList).sameKey (.string p.1.data.toList)=false:=sameKey_ne (fun e2=>e (ba_eq (by injection e2)))
  have:dnK ks (fun z=>left z&&!z.sameKey (.string p.1.data.toList)) q.1=dnK ks left q.1:=by
   unfold dnK
   dsimp only
   rw[e3]
   simp
  rw[this]
  exact h.mem q
theorem CmP.done (h:CmP K K' ks left cnt B) (hl:∀ l,left l=false) (hk:ks.Pairwise fun a b=>a.1.data.toList≠b.1.data.toList) (hr:Ris K):K'=cmsK K ks:=by
 refine ris_uniq h.up (cmsK_ris hr) fun q=>?_
 rw[h.mem q,cmsK_mem hr hk q]
 have:dnK ks left q.1=(lkK ks q.1.data.toList).map (·.2):=by
  unfold dnK
  rw[hl]
  simp
 rw[this]
end
structure CmM (w0 wr:World) (fb bw db rb m:Nat) (v v1:Value) (K1:List CL) (f:Lit->Option Value) (left:Lit->Bool) (cnt:Nat) (n:Int):Prop where
 is:At wr fb 81 #[v1,.map (some bw),.int .i64 n]
 row:Row wr 73 2 v1 (K1.map encC)
 r:Mr wr 9 db rb m f left cnt
 fr:Fr (fun j=>j=fb∨v.ownBlock=some j) (fun j=>j=fb∨v1.ownBlock=some j∨j=rb) w0 wr
section
variable {w0 wr w2 w3 w':World}{fb bw db rb m cnt cnt2:Nat}{v v1 v2:Value}{K1 K2:List CL}{f:Lit->Option Value}{left l2:Lit->Bool}{n:Int}
theorem Mr.blkR (h:Mr wr 9 db rb m f left cnt):∃ x y z u,wr.heap[rb]?=some (.mapIter x y z u):=by
 obtain⟨D,⟨es,cl,si,se,c0,h1,h2,h3,h4,h5,h6⟩,hv⟩:=h.ex
 exact⟨_,_,_,_,h5⟩
theorem CmM.rf (h:CmM w0 wr fb bw db rb m v v1 K1 f left cnt n):rb≠fb/\v1.ownBlock≠some rb/\db≠fb/\v1.ownBlock≠some db/\v1.ownBlock≠some fb/\rb≠db:=by
 obtain⟨x,y,z,u,hb⟩:=Mr.blkR h.r
 refine⟨fun e=>?_,fun e=>?_,h.r.mp.ne h.is,row_neMp h.row h.r.mp,h.row.ne (g:=0) h.is (by decide),h.r.ne⟩
 ·rw[e,h.is.blk] at hb;cases hb
 ·obtain⟨cur,hc⟩:=h.row.blkAt e
  rw[hc] at hb;cases hb
theorem CmM.below (h:CmM w0 wr fb bw db rb m v v1 K1 f left cnt n) (hb:Below wr.heap.size wr w'):CmM w0 w' fb bw db rb m v v1 K1 f left cnt n :=
 ⟨h.is.bel hb,h.row.bel hb,h.r.bel hb,h.fr.below hb⟩
theorem CmM.next (h:CmM w0 wr fb bw db rb m v v1 K1 f left cnt n) (hr:Mr w2 9 db rb m f l2 cnt2) (ho:∀ j,j≠rb->w2.heap[j]?=wr.heap[j]?) (hf:Fr (·=rb) (·=rb) wr w2):CmM w0 w2 fb bw db rb m v v1 K1 f l2 cnt2 n:=by
 obtain⟨n1,n2,_⟩:=h.rf
 refine⟨h.is.keep (ho fb n1.symm),h.row.keep (fun g e=>ho g (fun e2=>n2 (by rw[← e2];exact e))),hr,h.fr.trans ((hf.wide (V:=fun j=>j=fb∨v1.ownBlock=some j∨j=rb) (fun j hj=>Or.inr (Or.inr hj))).more (fun j hj=>Or.inl hj))⟩
theorem CmM.kept (h:CmM w0 wr fb bw db rb m v v1 K1 f left cnt n) (o:RwO wr w2 v1 v2 K2) (e3:w3=w2.setCell ⟨fb,0,none⟩ v2):CmM w0 w3 fb bw db rb m v v2 K2 f left cnt n:=by
 obtain⟨n1,n2,n3,n4,n5,n6⟩:=h.rf
 have k:∀ j,j<wr.heap.size->v1.ownBlock≠some j->w2.heap[j]?=wr.heap[j]?:=fun j hj hn=>o.gr.block j hj (fun e=>hn e.symm)
 have hsz:wr.heap.size<=w2.heap.size:=o.gr.size
 have off:∀ j,j≠fb->w3.heap[j]?=w2.heap[j]?:=fun j hj=>by rw[e3];exact Below.heap_setCell w2 _ v2 j hj
 have o2:v2.ownBlock≠some fb:=fun e=>by
  rcases o.own with h1 |⟨g,h1,h2⟩
  ·exact n5 (h1.symm.trans e)
  ·rw[h1] at e;cases e;have:=h.is.lt;omega
 have f2:At w2 fb 81 #[v1,.map (some bw),.int .i64 n]:=h.is.keep (k fb h.is.lt n5)
 refine⟨?_,o.row.keep (fun g e=>off g (fun e2=>o2 (by rw[← e2];exact e))),(h.r.keep (k db h.r.mp.lt n4) (k rb h.r.lt n2)).keep (off db n3) (off rb n1),h.fr.trans ?_⟩
 ·rw[e3]
  have:=f2.set 0 v2
  simpa using this
 ·have h1:Fr (fun j=>j=fb∨v1.ownBlock=some j∨j=rb) (fun j=>j=fb∨v1.ownBlock=some j∨j=rb) wr w2:=Fr.grown o.gr (fun g e=>Or.inr (Or.inl e))
  rw[e3]
  refine(h1.set (Or.inl rfl) 0 v2).more fun j hj=>?_
  rcases hj with e |e |e
  ·exact Or.inl (Or.inl e)
  ·rcases o.own with h5 |⟨g,h5,h6⟩
   ·exact Or.inl (Or.inr (Or.inl (h5.symm.trans e)))
   ·rw[h5] at e;cases e;exact Or.inr h6
  ·exact Or.inl (Or.inr (Or.inr e))
end
theorem bC1 (p t:ByteArray) (w:World):(Instr.buildSlice 58 1 #[(0,.agg #[.string p,.string t])]).run Tryz.prog w=.ok (.slice (some ⟨w.heap.size,0,none⟩) 1 1) (w.alloc (.cells #[.string p,.string t] 73)):=by kernel_rfl
theorem fK_inv {ks:List (ByteArray × Hs)} {x:List UInt8} {v:Value} (h:fK ks (.string x)=some v):∃ p,lkK ks p.1.data.toList=some p/\x=p.1.data.toList/\v=.agg p.2.A:=by
 rw[fK_at] at h
 cases hk:lkK ks x with
 | none=>rw[hk] at h;cases h
 | some p =>
  rw[hk] at h;cases h
  have:=(lkK_mem hk).2
  subst this
  exact⟨p,hk,rfl,rfl⟩
theorem encS (k:ByteArray):encStr k.data.toList=.string k:=by
 unfold encStr
 congr 1
theorem putK_no {K:List CL} {c:CL} (h:isK K c.1=false):K.take (plc K c.1)++[c]++K.drop (plc K c.1)=putK K c:=by
 unfold putK
 rw[h]
 simp
theorem putK_yes {K:List CL} {c:CL} (h:isK K c.1=true):(K.take (plc K c.1)++K.drop (plc K c.1+1)).take (plc K c.1)++[c]++(K.take (plc K c.1)++K.drop (plc K c.1+1)).drop (plc K c.1)=putK K c:=by
 have hl:(K.take (plc K c.1)).length=plc K c.1:=by rw[List.length_take];have:=plc_le K c.1;omega
 unfold putK
 rw[h,if_pos rfl,List.take_left' hl,List.drop_left' hl]
section
variable {W:Nat->Prop}{w w':World}{fb bw:Nat}{v:Value}{K:List CL}{L:List Dv}{n t:Int}
structure CoO (w w':World) (fb bw:Nat) (v:Value) (K:List CL) (n:Int):Prop where
 ex:∃ v',At w' fb 81 #[v',.map (some bw),.int .i64 n]/\Row w' 73 2 v' (K.map encC)/\Fr (fun j=>j=fb∨v.ownBlock=some j) (fun j=>j=fb∨v'.ownBlock=some j) w w'
set_option maxHeartbeats 2000000 in
theorem commit_on {d:Dv} (h:FoI W w fb v bw K L n) (hlt:∀ j,W j->j<w.heap.size) (hw:wfT t) (hd:lkD L t=some d) (hn:K.length+d.g.ks.length<=1000) (hc:0<=n/\n<1000000) :
  Calls Tryz.prog 66 #[.pointer (some ⟨fb,0,none⟩),.int .i64 t] w fun e w'=>e=.returned (.tuple #[])/\CoO w w' fb bw v (cmsK K d.g.ks) (n+1):=by
 have H:Hid (FoI W w fb v bw K L n):=h
 have HL:Hid (∀ j,W j->j<w.heap.size):=hlt
 have HK:Hid (keyOf Tryz.prog 3 (.int .i64 t)=some (.int .i64 t)):=keyI hw
 have HD:Hid (lkD L t=some d):=hd
 have HDm:Hid (d∈L):=(lkD_mem hd).1
 have HN:Hid (K.length+d.g.ks.length<=1000):=hn
 have d1:w.cell? ⟨fb,1,none⟩=some (.map (some bw)):=h.is.c 1
 have d2:w.cell? ⟨fb,2,none⟩=some (.int .i64 n):=h.is.c 2
 have hwn:IntKind.i64.wrap (n+1)=n+1:=by rw[IntKind.wrap_i64];omega
 have h2:=stH
 have f2:w.frozen? ⟨fb,2,none⟩=false:=h.is.f 2
 obtain⟨w1,hw1⟩:∃ w1,w1=w.setCell ⟨fb,2,none⟩ (.int .i64 (n+1)):=⟨_,rfl⟩
 have I1:Hid (At w1 fb 81 #[v,.map (some bw),.int .i64 (n+1)]):=(by rw[hw1];have:=H.out.is.set 2 (.int .i64 (n+1));simp at this;exact this)
 have O1:Hid (∀ j,j≠fb->w1.heap[j]?=w.heap[j]?):=(fun j hj=>by rw[hw1];exact Below.heap_setCell w _ _ j hj)
 have F1:Hid (Fr (fun j=>j=fb∨v.ownBlock=some j) (fun j=>j=fb∨v.ownBlock=some j) w w1):=(by rw[hw1];exact(Fr.refl _ w).set (Or.inl rfl) 2 _)
 have hl6:(Instr.lookup 79 (.map (some bw)) (.int .i64 t) false).run Tryz.prog w1=.ok (.map (some d.b)) w1:=(by have:=(H.out.wa.keep (w':=w1) (O1.out bw (H.out.wa.ne H.out.is))).look1 KI uW (zWv _) HK.out;rw[fW_at,HD.out] at this;exact this)
 have M1:Hid (Mp w1 9 d.b d.g.ks.length (fK d.g.ks)):=(H.out.ks d HDm.out).keep (O1.out d.b ((H.out.ks d HDm.out).ne H.out.is))
 clear h hlt hw hd hn
 go_enter Tryz.func66,Tryz.ntmps66
 go_wp2_with fail
 rw[← hw1]
 rw[hl6]
 simp only[Result.andThen]
 rw[Oper.upon_value]
 go_wp2_with (at_range;refine wpList_range_mp _ rfl _ rfl KS uK rfl M1.out ?_;intro w4 rb hr R4 B4)
 have M4:Hid (CmM w w4 fb bw d.b rb d.g.ks.length v v K (fK d.g.ks) (fun l=>(fK d.g.ks l).isSome) d.g.ks.length (n+1)):=(by
  have hrow:=(H.out.row.keep (w':=w1) (fun g e=>O1.out g (fun e2=>H.out.row.ne (g:=g) H.out.is (by decide) (by rw[← e2];exact e))))
  refine⟨I1.out.bel B4,hrow.bel B4,R4,(F1.out.below B4).more (fun j hj=>?_)⟩
  rcases hj with e |e |e
  ·exact Or.inl (Or.inl e)
  ·exact Or.inl (Or.inr e)
  ·exact Or.inr (by rw[e,hr];exact F1.out.size))
 have P4:Hid (CmP K K d.g.ks (fun l=>(fK d.g.ks l).isSome) d.g.ks.length (K.length+d.g.ks.length)):=CmP.start H.out.up (Nat.le_refl _)
 clear R4 B4 hr hl6 d1 d2 f2 I1 O1 F1 M1 hwn hw1
 go_frame
 go_loopw [6,7] (fun _ _ wr=>∃ (left:Lit->Bool) (cnt:Nat) (v1:Value) (K1:List CL),CmM w wr fb bw d.b rb d.g.ks.length v v1 K1 (fK d.g.ks) left cnt (n+1)/\CmP K K1 d.g.ks left cnt (K.length+d.g.ks.length)) (fun _ _ wr=>wr.rangeLeft d.b rb)
 case atStart=>exact⟨_,_,_,_,M4.out,P4.out⟩
 case round =>
  obtain⟨left,cnt,v1,K1,hM,hP⟩:=hrel
  rename World=>wo
  have HM:Hid (CmM w wo fb bw d.b rb d.g.ks.length v v1 K1 (fK d.g.ks) left cnt (n+1)):=hM
  have HP:Hid (CmP K K1 d.g.ks left cnt (K.length+d.g.ks.length)):=hP
  clear hM hP M4 P4
  go_wp2_with (first
   | (at_next;refine wpList_next_mp encStr Lit.string _ rfl _ rfl KS (fun key l=>invS) rfl HM.out.r ?_ ?_)
   | go_in)
  ·intro hc0 hl0
   go_wp2
   go_end0
   have e9:=HP.out.done hl0 (H.out.kn d HDm.out) H.out.up
   have n2:=HM.out.rf.1
   refine⟨rfl,v1,HM.out.is,by rw[← e9];exact HM.out.row,HM.out.fr.more fun j hj=>?_⟩
   rcases hj with e |e
   ·exact Or.inl (Or.inl e)
   ·rcases HM.out.fr.sub j (Or.inr (Or.inl e)) with h1 |h1
    ·exact Or.inl h1
    ·exact Or.inr h1
  ·intro x vx w5 cnt2 hk hl hv hr5 hlt ho hf hen
   obtain⟨p,hp,rfl,rfl⟩:=fK_inv hv
   obtain⟨kb,xv,xi⟩:=p
   dsimp only at hp hk hl hv hr5 hlt hen ⊢
   rw[encS] at hen ⊢
   obtain⟨a,c,ea,_⟩:=HM.out.row.sl
   rw[List.length_map] at ea
   subst ea
   have M5:Hid (CmM w w5 fb bw d.b rb d.g.ks.length v (.slice a K1.length c) K1 (fK d.g.ks) (fun z=>left z&&!z.sameKey (.string kb.data.toList)) cnt2 (n+1)):=HM.out.next hr5 ho hf
   have P5:Hid (CmP K (comK K1 kb ⟨xv,xi⟩) d.g.ks (fun z=>left z&&!z.sameKey (.string kb.data.toList)) cnt2 (K.length+d.g.ks.length)):=HP.out.step (p:=(kb,⟨xv,xi⟩)) hp hlt
   have HC:Hid (cnt2<cnt/\wo.rangeLeft d.b rb=cnt):=⟨hlt,HM.out.r.left_eq⟩
   have HU:Hid (Ris K1/\K1.length<=1000):=⟨HP.out.up,by have:=HP.out.le;have:=HN.out;omega⟩
   clear hr5 ho hf hv hl hlt hk hp
   cases hB:isK K1 kb with
   | true =>
    cases xi with
    | true =>
     have HE:Hid (comK K1 kb ⟨xv,true⟩=((K1.take (plc K1 kb)++K1.drop (plc K1 kb+1)).take (plc K1 kb)++[(kb,xv)]++(K1.take (plc K1 kb)++K1.drop (plc K1 kb+1)).drop (plc K1 kb))):=(by unfold comK;rw[if_pos rfl]:comK K1 kb ⟨xv,true⟩=putK K1 (kb,xv)).trans (putK_yes (c:=(kb,xv)) hB).symm
     have CF:Hid (∀ wx,CmM w wx fb bw d.b rb d.g.ks.length v (.slice a K1.length c) K1 (fK d.g.ks) (fun z=>left z&&!z.sameKey (.string kb.data.toList)) cnt2 (n+1)->Calls Tryz.prog 68 #[.pointer (some ⟨fb,0,none⟩),.string kb] wx fun e w'=>e=.returned (.tuple #[.int .i64 (plc K1 kb:Nat),.bool true])/\Below wx.heap.size wx w'):=fun wx hx=>by have:=find_any HU.out.1 HU.out.2 hx.is hx.row kb;rw[hB] at this;exact this
     have HPl:Hid (plc K1 kb<=K1.length):=plc_le K1 kb
     have HPt:Hid (plc K1 kb<K1.length):=(isK_at hB).1
     have CD:Hid (∀ wx,Row wx 73 2 (.slice a K1.length c) (K1.map encC)->Calls Tryz.prog 97 #[.slice a K1.length c,.int .i64 (plc K1 kb:Int),.int .i64 ((plc K1 kb:Int)+1)] wx fun e w'=>e=.returned (.slice a (K1.length-1) c)/\RwO wx w' (.slice a K1.length c) (.slice a (K1.length-1) c) (K1.take (plc K1 kb)++K1.drop (plc K1 kb+1))):=fun wx hx=>Delete_row hx HPt.out HU.out.2
     have HLd:Hid ((K1.take (plc K1 kb)++K1.drop (plc K1 kb+1)).length=K1.length-1):=(by rw[List.length_append,List.length_take,List.length_drop];have:=HPt.out;omega:(K1.take (plc K1 kb)++K1.drop (plc K1 kb+1)).length=K1.length-1)
     have hwp:IntKind.i64.wrap ((plc K1 kb:Int)+1)=(plc K1 kb:Int)+1:=by rw[IntKind.wrap_i64];have:=HPt.out;have:=HU.out.2;omega
     obtain⟨Kd,hKd⟩:∃ Kd,Kd=K1.take (plc K1 kb)++K1.drop (plc K1 kb+1):=⟨_,rfl⟩
     rw[← hKd] at CD HLd HE
     have CI:Hid (∀ wx vb,Row wx 73 2 (.slice a (K1.length-1) c) (Kd.map encC)->At wx vb 73 #[.string kb,.string xv]->(Value.ownBlock (.slice a (K1.length-1) c))≠some vb->Calls Tryz.prog 98 #[.slice a (K1.length-1) c,.int .i64 (plc K1 kb:Int),.slice (some ⟨vb,0,none⟩) 1 1] wx fun e w'=>∃ v',e=.returned v'/\RwO wx w' (.slice a (K1.length-1) c) v' (Kd.take (plc K1 kb)++[(kb,xv)]++Kd.drop (plc K1 kb))):=fun wx vb hx hb hne=>Insert_row hx (by rw[HLd.out];have:=HPt.out;omega) (by rw[HLd.out];have:=HU.out.2;omega) hb hne
     obtain⟨Kn,hKn⟩:∃ Kn,Kn=Kd.take (plc K1 kb)++[(kb,xv)]++Kd.drop (plc K1 kb):=⟨_,rfl⟩
     rw[← hKn] at CI HE
     clear hB hKd hKn
     generalize plc K1 kb=pl at *
     go_wp2_with first
      | (refine wpList_new_at (A:=zH.A) _ zKv rfl rfl ?_;intro w6 b6 N6)
      | (refine wpList_put_at (A:=zH.A) (A':=Hs.A ⟨xv,true⟩) h2 _ rfl _ _ rfl rfl rfl N6.is rfl rfl (oneH _) ?_;intro w7 P7;have M7:Hid (CmM w w7 fb bw d.b rb d.g.ks.length v (.slice a K1.length c) K1 (fK d.g.ks) (fun z=>left z&&!z.sameKey (.string kb.data.toList)) cnt2 (n+1)):=M5.out.below (np_bel N6 P7))
      | (go_at_call 68;refine(CF.out _ M7.out).mono ?_;rintro e w8 ⟨rfl,b2⟩;have M8:Hid (CmM w w8 fb bw d.b rb d.g.ks.length v (.slice a K1.length c) K1 (fK d.g.ks) (fun z=>left z&&!z.sameKey (.string kb.data.toList)) cnt2 (n+1)):=M7.out.below b2;have A8:Hid (At w8 b6 143 (Hs.A ⟨xv,true⟩)):=P7.is.bel b2;have k8:w8.cell? ⟨fb,0,none⟩=some (.slice a K1.length c):=M8.out.is.c 0;have f8:w8.frozen? ⟨fb,0,none⟩=false:=M8.out.is.f 0;have x0:w8.cell? ⟨b6,0,none⟩=some (.string xv):=A8.out.c 0;have x1:w8.cell? ⟨b6,1,none⟩=some (.bool true):=A8.out.c 1)
      | (go_at_call 97;refine(CD.out _ M8.out.row).mono ?_;rintro e w9 ⟨rfl,o9⟩;have M10:Hid (CmM w (w9.setCell ⟨fb,0,none⟩ (.slice a (K1.length-1) c)) fb bw d.b rb d.g.ks.length v (.slice a (K1.length-1) c) Kd (fK d.g.ks) (fun z=>left z&&!z.sameKey (.string kb.data.toList)) cnt2 (n+1)):=M8.out.kept o9 rfl;have I9:=M8.out.is.keep (w':=w9) (o9.gr.block fb M8.out.is.lt (fun e=>M8.out.rf.2.2.2.2.1 e.symm));have A9:=A8.out.keep (w':=w9) (o9.gr.block b6 A8.out.lt (fun e=>M8.out.row.ne (g:=b6) A8.out (by decide) e.symm));have k9:w9.cell? ⟨fb,0,none⟩=some (.slice a K1.length c):=I9.c 0;have f9:w9.frozen? ⟨fb,0,none⟩=false:=I9.f 0;have A10:Hid (At (w9.setCell ⟨fb,0,none⟩ (.slice a (K1.length-1) c)) b6 143 (Hs.A ⟨xv,true⟩)):=A9.keep (Below.heap_setCell w9 _ _ b6 (fun e=>absurd (I9.tag (e ▸ A9.blk)) (by decide)));have y0:(w9.setCell ⟨fb,0,none⟩ (.slice a (K1.length-1) c)).cell? ⟨b6,0,none⟩=some (.string xv):=A10.out.c 0;have y1:(w9.setCell ⟨fb,0,none⟩ (.slice a (K1.length-1) c)).cell? ⟨b6,1,none⟩=some (.bool true):=A10.out.c 1;have k10:(w9.setCell ⟨fb,0,none⟩ (.slice a (K1.length-1) c)).cell? ⟨fb,0,none⟩=some (.slice a (K1.length-1) c):=M10.out.is.c 0;have f10:(w9.setCell ⟨fb,0,none⟩ (.slice a (K1.length-1) c)).frozen? ⟨fb,0,none⟩=false:=M10.out.is.f 0;clear k8 f8 x0 x1 I9 o9 A9)
     have MB0:=M10
     generalize (w9.setCell ⟨fb,0,none⟩ (.slice a (K1.length-1) c))=wB at *
     have MB:Hid (CmM w wB fb bw d.b rb d.g.ks.length v (.slice a (K1.length-1) c) Kd (fK d.g.ks) (fun z=>left z&&!z.sameKey (.string kb.data.toList)) cnt2 (n+1)):=MB0
     have AB:Hid (At wB b6 143 (Hs.A ⟨xv,true⟩)):=A10
     have BD:Hid (Below wB.heap.size wB (wB.alloc (.cells #[.string kb,.string xv] 73)).drew):=bdr (bl1 _) 1
     have kD:wB.drew.cell? ⟨fb,0,none⟩=some (.slice a (K1.length-1) c):=MB.out.is.c 0
     have xD:wB.drew.cell? ⟨b6,0,none⟩=some (.string xv):=AB.out.c 0
     have kA:(wB.alloc (.cells #[.string kb,.string xv] 73)).drew.cell? ⟨fb,0,none⟩=some (.slice a (K1.length-1) c):=(MB.out.is.bel BD.out).c 0
     have xA:(wB.alloc (.cells #[.string kb,.string xv] 73)).drew.cell? ⟨b6,0,none⟩=some (.string xv):=(AB.out.bel BD.out).c 0
     clear MB0 M7 A8 M8 A10 M10 k9 f9 y0 y1 k10 f10
     have CI2:=CI.out _ wB.heap.size (MB.out.row.bel BD.out) ((At.new wB #[.string kb,.string xv] 73).keep rfl) (fun e=>by have:=MB.out.row.lt e;omega)
     go_region_with (go_at_call 98;refine CI2.mono ?_;rintro e w12 ⟨v2,rfl,o12⟩;have M11:Hid (CmM w (wB.alloc (.cells #[.string kb,.string xv] 73)).drew fb bw d.b rb d.g.ks.length v (.slice a (K1.length-1) c) Kd (fK d.g.ks) (fun z=>left z&&!z.sameKey (.string kb.data.toList)) cnt2 (n+1)):=MB.out.below BD.out;have I12:=M11.out.is.keep (w':=w12) (o12.gr.block fb M11.out.is.lt (fun e=>M11.out.rf.2.2.2.2.1 e.symm));have k12:w12.cell? ⟨fb,0,none⟩=some (.slice a (K1.length-1) c):=I12.c 0;have f12:w12.frozen? ⟨fb,0,none⟩=false:=I12.f 0;obtain⟨a2,c2,e2,_⟩:=o12.row.sl;rw[List.length_map] at e2;subst e2;have M13:Hid (CmM w (w12.setCell ⟨fb,0,none⟩ (.slice a2 Kn.length c2)) fb bw d.b rb d.g.ks.length v (.slice a2 Kn.length c2) Kn (fK d.g.ks) (fun z=>left z&&!z.sameKey (.string kb.data.toList)) cnt2 (n+1)):=M11.out.kept o12 rfl)
     all_goals
      go_wp2
      go_roundw
      case rel=>exact⟨_,cnt2,_,Kn,M13.out,by rw[← HE.out];exact P5.out⟩
      case measure=>rw[M13.out.r.left_eq,HC.out.2];exact HC.out.1
    | false =>
     have HE:Hid (comK K1 kb ⟨xv,false⟩=(K1.take (plc K1 kb)++K1.drop (plc K1 kb+1))):=(by unfold comK delK;rw[if_neg (by simp),if_pos hB]:comK K1 kb ⟨xv,false⟩=K1.take (plc K1 kb)++K1.drop (plc K1 kb+1))
     have CF:Hid (∀ wx,CmM w wx fb bw d.b rb d.g.ks.length v (.slice a K1.length c) K1 (fK d.g.ks) (fun z=>left z&&!z.sameKey (.string kb.data.toList)) cnt2 (n+1)->Calls Tryz.prog 68 #[.pointer (some ⟨fb,0,none⟩),.string kb] wx fun e w'=>e=.returned (.tuple #[.int .i64 (plc K1 kb:Nat),.bool true])/\Below wx.heap.size wx w'):=fun wx hx=>by have:=find_any HU.out.1 HU.out.2 hx.is hx.row kb;rw[hB] at this;exact this
     have HPl:Hid (plc K1 kb<=K1.length):=plc_le K1 kb
     have HPt:Hid (plc K1 kb<K1.length):=(isK_at hB).1
     have CD:Hid (∀ wx,Row wx 73 2 (.slice a K1.length c) (K1.map encC)->Calls Tryz.prog 97 #[.slice a K1.length c,.int .i64 (plc K1 kb:Int),.int .i64 ((plc K1 kb:Int)+1)] wx fun e w'=>e=.returned (.slice a (K1.length-1) c)/\RwO wx w' (.slice a K1.length c) (.slice a (K1.length-1) c) (K1.take (plc K1 kb)++K1.drop (plc K1 kb+1))):=fun wx hx=>Delete_row hx HPt.out HU.out.2
     have HLd:Hid ((K1.take (plc K1 kb)++K1.drop (plc K1 kb+1)).length=K1.length-1):=(by rw[List.length_append,List.length_take,List.length_drop];have:=HPt.out;omega:(K1.take (plc K1 kb)++K1.drop (plc K1 kb+1)).length=K1.length-1)
     have hwp:IntKind.i64.wrap ((plc K1 kb:Int)+1)=(plc K1 kb:Int)+1:=by rw[IntKind.wrap_i64];have:=HPt.out;have:=HU.out.2;omega
     obtain⟨Kd,hKd⟩:∃ Kd,Kd=K1.take (plc K1 kb)++K1.drop (plc K1 kb+1):=⟨_,rfl⟩
     rw[← hKd] at CD HLd HE
     clear hB hKd
     generalize plc K1 kb=pl at *
     go_wp2_with first
      | (refine wpList_new_at (A:=zH.A) _ zKv rfl rfl ?_;intro w6 b6 N6)
      | (refine wpList_put_at (A:=zH.A) (A':=Hs.A ⟨xv,false⟩) h2 _ rfl _ _ rfl rfl rfl N6.is rfl rfl (oneH _) ?_;intro w7 P7;have M7:Hid (CmM w w7 fb bw d.b rb d.g.ks.length v (.slice a K1.length c) K1 (fK d.g.ks) (fun z=>left z&&!z.sameKey (.string kb.data.toList)) cnt2 (n+1)):=M5.out.below (np_bel N6 P7))
      | (go_at_call 68;refine(CF.out _ M7.out).mono ?_;rintro e w8 ⟨rfl,b2⟩;have M8:Hid (CmM w w8 fb bw d.b rb d.g.ks.length v (.slice a K1.length c) K1 (fK d.g.ks) (fun z=>left z&&!z.sameKey (.string kb.data.toList)) cnt2 (n+1)):=M7.out.below b2;have A8:Hid (At w8 b6 143 (Hs.A ⟨xv,false⟩)):=P7.is.bel b2;have k8:w8.cell? ⟨fb,0,none⟩=some (.slice a K1.length c):=M8.out.is.c 0;have f8:w8.frozen? ⟨fb,0,none⟩=false:=M8.out.is.f 0;have x0:w8.cell? ⟨b6,0,none⟩=some (.string xv):=A8.out.c 0;have x1:w8.cell? ⟨b6,1,none⟩=some (.bool false):=A8.out.c 1)
      | (go_at_call 97;refine(CD.out _ M8.out.row).mono ?_;rintro e w9 ⟨rfl,o9⟩;have M10:Hid (CmM w (w9.setCell ⟨fb,0,none⟩ (.slice a (K1.length-1) c)) fb bw d.b rb d.g.ks.length v (.slice a (K1.length-1) c) Kd (fK d.g.ks) (fun z=>left z&&!z.sameKey (.string kb.data.toList)) cnt2 (n+1)):=M8.out.kept o9 rfl;have I9:=M8.out.is.keep (w':=w9) (o9.gr.block fb M8.out.is.lt (fun e=>M8.out.rf.2.2.2.2.1 e.symm));have A9:=A8.out.keep (w':=w9) (o9.gr.block b6 A8.out.lt (fun e=>M8.out.row.ne (g:=b6) A8.out (by decide) e.symm));have k9:w9.cell? ⟨fb,0,none⟩=some (.slice a K1.length c):=I9.c 0;have f9:w9.frozen? ⟨fb,0,none⟩=false:=I9.f 0;have A10:Hid (At (w9.setCell ⟨fb,0,none⟩ (.slice a (K1.length-1) c)) b6 143 (Hs.A ⟨xv,false⟩)):=A9.keep (Below.heap_setCell w9 _ _ b6 (fun e=>absurd (I9.tag (e ▸ A9.blk)) (by decide)));have y0:(w9.setCell ⟨fb,0,none⟩ (.slice a (K1.length-1) c)).cell? ⟨b6,0,none⟩=some (.string xv):=A10.out.c 0;have y1:(w9.setCell ⟨fb,0,none⟩ (.slice a (K1.length-1) c)).cell? ⟨b6,1,none⟩=some (.bool false):=A10.out.c 1;have k10:(w9.setCell ⟨fb,0,none⟩ (.slice a (K1.length-1) c)).cell? ⟨fb,0,none⟩=some (.slice a (K1.length-1) c):=M10.out.is.c 0;have f10:(w9.setCell ⟨fb,0,none⟩ (.slice a (K1.length-1) c)).frozen? ⟨fb,0,none⟩=false:=M10.out.is.f 0;clear k8 f8 x0 x1 I9 o9 A9)
     go_roundw
     case rel=>exact⟨_,cnt2,_,Kd,M10.out,by rw[← HE.out];exact P5.out⟩
     case measure=>rw[M10.out.r.left_eq,HC.out.2];exact HC.out.1
   | false =>
    cases xi with
    | true =>
     have HE:Hid (comK K1 kb ⟨xv,true⟩=(K1.take (plc K1 kb)++[(kb,xv)]++K1.drop (plc K1 kb))):=(by unfold comK;rw[if_pos rfl]:comK K1 kb ⟨xv,true⟩=putK K1 (kb,xv)).trans (putK_no (c:=(kb,xv)) hB).symm
     have CF:Hid (∀ wx,CmM w wx fb bw d.b rb d.g.ks.length v (.slice a K1.length c) K1 (fK d.g.ks) (fun z=>left z&&!z.sameKey (.string kb.data.toList)) cnt2 (n+1)->Calls Tryz.prog 68 #[.pointer (some ⟨fb,0,none⟩),.string kb] wx fun e w'=>e=.returned (.tuple #[.int .i64 (plc K1 kb:Nat),.bool false])/\Below wx.heap.size wx w'):=fun wx hx=>by have:=find_any HU.out.1 HU.out.2 hx.is hx.row kb;rw[hB] at this;exact this
     have HPl:Hid (plc K1 kb<=K1.length):=plc_le K1 kb
     have CI:Hid (∀ wx vb,Row wx 73 2 (.slice a K1.length c) (K1.map encC)->At wx vb 73 #[.string kb,.string xv]->(Value.ownBlock (.slice a K1.length c))≠some vb->Calls Tryz.prog 98 #[.slice a K1.length c,.int .i64 (plc K1 kb:Int),.slice (some ⟨vb,0,none⟩) 1 1] wx fun e w'=>∃ v',e=.returned v'/\RwO wx w' (.slice a K1.length c) v' (K1.take (plc K1 kb)++[(kb,xv)]++K1.drop (plc K1 kb))):=fun wx vb hx hb hne=>Insert_row hx HPl.out HU.out.2 hb hne
     obtain⟨Kn,hKn⟩:∃ Kn,Kn=K1.take (plc K1 kb)++[(kb,xv)]++K1.drop (plc K1 kb):=⟨_,rfl⟩
     rw[← hKn] at CI HE
     clear hB hKn
     generalize plc K1 kb=pl at *
     go_wp2_with first
      | (refine wpList_new_at (A:=zH.A) _ zKv rfl rfl ?_;intro w6 b6 N6)
      | (refine wpList_put_at (A:=zH.A) (A':=Hs.A ⟨xv,true⟩) h2 _ rfl _ _ rfl rfl rfl N6.is rfl rfl (oneH _) ?_;intro w7 P7;have M7:Hid (CmM w w7 fb bw d.b rb d.g.ks.length v (.slice a K1.length c) K1 (fK d.g.ks) (fun z=>left z&&!z.sameKey (.string kb.data.toList)) cnt2 (n+1)):=M5.out.below (np_bel N6 P7))
      | (go_at_call 68;refine(CF.out _ M7.out).mono ?_;rintro e w8 ⟨rfl,b2⟩;have M8:Hid (CmM w w8 fb bw d.b rb d.g.ks.length v (.slice a K1.length c) K1 (fK d.g.ks) (fun z=>left z&&!z.sameKey (.string kb.data.toList)) cnt2 (n+1)):=M7.out.below b2;have A8:Hid (At w8 b6 143 (Hs.A ⟨xv,true⟩)):=P7.is.bel b2;have k8:w8.cell? ⟨fb,0,none⟩=some (.slice a K1.length c):=M8.out.is.c 0;have f8:w8.frozen? ⟨fb,0,none⟩=false:=M8.out.is.f 0;have x0:w8.cell? ⟨b6,0,none⟩=some (.string xv):=A8.out.c 0;have x1:w8.cell? ⟨b6,1,none⟩=some (.bool true):=A8.out.c 1)
     have MB0:=M8
     generalize w8=wB at *
     have MB:Hid (CmM w wB fb bw d.b rb d.g.ks.length v (.slice a K1.length c) K1 (fK d.g.ks) (fun z=>left z&&!z.sameKey (.string kb.data.toList)) cnt2 (n+1)):=MB0
     have AB:Hid (At wB b6 143 (Hs.A ⟨xv,true⟩)):=A8
     have BD:Hid (Below wB.heap.size wB (wB.alloc (.cells #[.string kb,.string xv] 73)).drew):=bdr (bl1 _) 1
     have kD:wB.drew.cell? ⟨fb,0,none⟩=some (.slice a K1.length c):=MB.out.is.c 0
     have xD:wB.drew.cell? ⟨b6,0,none⟩=some (.string xv):=AB.out.c 0
     have kA:(wB.alloc (.cells #[.string kb,.string xv] 73)).drew.cell? ⟨fb,0,none⟩=some (.slice a K1.length c):=(MB.out.is.bel BD.out).c 0
     have xA:(wB.alloc (.cells #[.string kb,.string xv] 73)).drew.cell? ⟨b6,0,none⟩=some (.string xv):=(AB.out.bel BD.out).c 0
     clear MB0 M7 A8 M8 k8 f8 x0 x1
     have CI2:=CI.out _ wB.heap.size (MB.out.row.bel BD.out) ((At.new wB #[.string kb,.string xv] 73).keep rfl) (fun e=>by have:=MB.out.row.lt e;omega)
     go_region_with (go_at_call 98;refine CI2.mono ?_;rintro e w12 ⟨v2,rfl,o12⟩;have M11:Hid (CmM w (wB.alloc (.cells #[.string kb,.string xv] 73)).drew fb bw d.b rb d.g.ks.length v (.slice a K1.length c) K1 (fK d.g.ks) (fun z=>left z&&!z.sameKey (.string kb.data.toList)) cnt2 (n+1)):=MB.out.below BD.out;have I12:=M11.out.is.keep (w':=w12) (o12.gr.block fb M11.out.is.lt (fun e=>M11.out.rf.2.2.2.2.1 e.symm));have k12:w12.cell? ⟨fb,0,none⟩=some (.slice a K1.length c):=I12.c 0;have f12:w12.frozen? ⟨fb,0,none⟩=false:=I12.f 0;obtain⟨a2,c2,e2,_⟩:=o12.row.sl;rw[List.length_map] at e2;subst e2;have M13:Hid (CmM w (w12.setCell ⟨fb,0,none⟩ (.slice a2 Kn.length c2)) fb bw d.b rb d.g.ks.length v (.slice a2 Kn.length c2) Kn (fK d.g.ks) (fun z=>left z&&!z.sameKey (.string kb.data.toList)) cnt2 (n+1)):=M11.out.kept o12 rfl)
     all_goals
      go_wp2
      go_roundw
      case rel=>exact⟨_,cnt2,_,Kn,M13.out,by rw[← HE.out];exact P5.out⟩
      case measure=>rw[M13.out.r.left_eq,HC.out.2];exact HC.out.1
    | false =>
     have HE:Hid (comK K1 kb ⟨xv,false⟩=K1):=(by unfold comK delK;rw[if_neg (by simp),if_neg (by rw[hB];simp)]:comK K1 kb ⟨xv,false⟩=K1)
     have CF:Hid (∀ wx,CmM w wx fb bw d.b rb d.g.ks.length v (.slice a K1.length c) K1 (fK d.g.ks) (fun z=>left z&&!z.sameKey (.string kb.data.toList)) cnt2 (n+1)->Calls Tryz.prog 68 #[.pointer (some ⟨fb,0,none⟩),.string kb] wx fun e w'=>e=.returned (.tuple #[.int .i64 (plc K1 kb:Nat),.bool false])/\Below wx.heap.size wx w'):=fun wx hx=>by have:=find_any HU.out.1 HU.out.2 hx.is hx.row kb;rw[hB] at this;exact this
     have HPl:Hid (plc K1 kb<=K1.length):=plc_le K1 kb
     clear hB
     generalize plc K1 kb=pl at *
     go_wp2_with first
      | (refine wpList_new_at (A:=zH.A) _ zKv rfl rfl ?_;intro w6 b6 N6)
      | (refine wpList_put_at (A:=zH.A) (A':=Hs.A ⟨xv,false⟩) h2 _ rfl _ _ rfl rfl rfl N6.is rfl rfl (oneH _) ?_;intro w7 P7;have M7:Hid (CmM w w7 fb bw d.b rb d.g.ks.length v (.slice a K1.length c) K1 (fK d.g.ks) (fun z=>left z&&!z.sameKey (.string kb.data.toList)) cnt2 (n+1)):=M5.out.below (np_bel N6 P7))
      | (go_at_call 68;refine(CF.out _ M7.out).mono ?_;rintro e w8 ⟨rfl,b2⟩;have M8:Hid (CmM w w8 fb bw d.b rb d.g.ks.length v (.slice a K1.length c) K1 (fK d.g.ks) (fun z=>left z&&!z.sameKey (.string kb.data.toList)) cnt2 (n+1)):=M7.out.below b2;have A8:Hid (At w8 b6 143 (Hs.A ⟨xv,false⟩)):=P7.is.bel b2;have k8:w8.cell? ⟨fb,0,none⟩=some (.slice a K1.length c):=M8.out.is.c 0;have f8:w8.frozen? ⟨fb,0,none⟩=false:=M8.out.is.f 0;have x0:w8.cell? ⟨b6,0,none⟩=some (.string xv):=A8.out.c 0;have x1:w8.cell? ⟨b6,1,none⟩=some (.bool false):=A8.out.c 1)
     go_roundw
     case rel=>exact⟨_,cnt2,_,K1,M8.out,by rw[← HE.out];exact P5.out⟩
     case measure=>rw[M8.out.r.left_eq,HC.out.2];exact HC.out.1
end
def ksG (G:List Gt) (t:Int):List (ByteArray × Hs):=((lkG G t).map (·.ks)).getD []
section
variable {W:Nat->Prop}{w w':World}{fb bw:Nat}{v:Value}{K:List CL}{L:List Dv}{G:List Gt}{n t:Int}{r:Rc}{I T:Value}
theorem commit_none (h:FoI W w fb v bw K L n) (hw:wfT t) (hd:lkD L t=none) (hc:0<=n/\n<1000000) :
  Calls Tryz.prog 66 #[.pointer (some ⟨fb,0,none⟩),.int .i64 t] w fun e w'=>e=.returned (.tuple #[])/\CoO w w' fb bw v K (n+1):=by
 have H:Hid (FoI W w fb v bw K L n):=h
 have HK:Hid (keyOf Tryz.prog 3 (.int .i64 t)=some (.int .i64 t)):=keyI hw
 have HD:Hid (lkD L t=none):=hd
 have d1:w.cell? ⟨fb,1,none⟩=some (.map (some bw)):=h.is.c 1
 have d2:w.cell? ⟨fb,2,none⟩=some (.int .i64 n):=h.is.c 2
 have hwn:IntKind.i64.wrap (n+1)=n+1:=by rw[IntKind.wrap_i64];omega
 have f2:w.frozen? ⟨fb,2,none⟩=false:=h.is.f 2
 obtain⟨w1,hw1⟩:∃ w1,w1=w.setCell ⟨fb,2,none⟩ (.int .i64 (n+1)):=⟨_,rfl⟩
 have I1:Hid (At w1 fb 81 #[v,.map (some bw),.int .i64 (n+1)]):=(by rw[hw1];have:=H.out.is.set 2 (.int .i64 (n+1));simp at this;exact this)
 have O1:Hid (∀ j,j≠fb->w1.heap[j]?=w.heap[j]?):=(fun j hj=>by rw[hw1];exact Below.heap_setCell w _ _ j hj)
 have F1:Hid (Fr (fun j=>j=fb∨v.ownBlock=some j) (fun j=>j=fb∨v.ownBlock=some j) w w1):=(by rw[hw1];exact(Fr.refl _ w).set (Or.inl rfl) 2 _)
 have hl6:(Instr.lookup 79 (.map (some bw)) (.int .i64 t) false).run Tryz.prog w1=.ok (.map none) w1:=(by have:=(H.out.wa.keep (w':=w1) (O1.out bw (H.out.wa.ne H.out.is))).look1 KI uW (zWv _) HK.out;rw[fW_at,HD.out] at this;exact this)
 have hrg:=run_range_nilMap (P:=Tryz.prog) w1 145 9 143 uK
 have hnx:∀ ty,(Instr.next (.pointer (some ⟨w1.heap.size,0,none⟩)) false ty).run Tryz.prog (w1.alloc (.mapIter none 0 #[] 0))=_:=fun ty=>run_next_nilMap w1 ty 0 0 #[]
 clear h hw hd
 go_enter Tryz.func66,Tryz.ntmps66
 go_wp2_with fail
 rw[← hw1]
 clear hw1 d1 d2 f2
 rw[hl6]
 (try simp only[Result.andThen])
 rw[Oper.upon_value]
 go_wp2
 refine wp_loop_rounds 1 ?_
 rw[rounds_succ]
 go_wp2
 go_end0
 have hrow:=(H.out.row.keep (w':=w1) (fun g e=>O1.out g (fun e2=>H.out.row.ne (g:=g) H.out.is (by decide) (by rw[← e2];exact e))))
 exact⟨rfl,v,I1.out.bel (bl1 _),hrow.bel (bl1 _),F1.out.below (bl1 _)⟩
theorem CoO.fo {K2:List CL} (c:CoO w w' fb bw v K2 (n+1)) (h:FoI W w fb v bw K L n) (hlt:∀ j,W j->j<w.heap.size) (hr:Ris K2):FoO W w w' fb K2 (L.map (·.g)) (n+1):=by
 obtain⟨v',c1,c2,c3⟩:=c.ex
 have hsub:∀ j,(j=fb∨v.ownBlock=some j)->W j:=fun j hj=>hj.elim (fun e=>by rw[e];exact h.w1.1) (fun e=>h.wv j e)
 have FF:Fr W (fun j=>W j∨v'.ownBlock=some j) w w':=(c3.wide hsub).more fun j hj=>hj.elim Or.inl (fun e=>(c3.sub j (Or.inr e)).elim (fun e2=>Or.inl (hsub j e2)) Or.inr)
 have off:∀ j,j<w.heap.size->j≠fb->v.ownBlock≠some j->w'.heap[j]?=w.heap[j]?:=fun j hj h1 h2=>c3.blk j hj (fun e=>e.elim h1 h2)
 refine⟨fun j=>W j∨v'.ownBlock=some j,⟨⟨v',bw,L,⟨c1,c2,h.wa.keep (off bw h.wa.lt (h.wa.ne h.is) (row_neMp h.row h.wa)),fun d hd=>(h.ks d hd).keep (off d.b (h.ks d hd).lt ((h.ks d hd).ne h.is) (row_neMp h.row (h.ks d hd))),h.nd,h.kn,h.ne,⟨Or.inl h.w1.1,Or.inl h.w1.2⟩,fun g e=>Or.inr e,fun d hd=>Or.inl (h.w2 d hd),hr⟩,rfl⟩,fun j hj=>hj.elim (fun hj=>Nat.lt_of_lt_of_le (hlt j hj) FF.size) (fun e=>c2.lt e)⟩,FF⟩
theorem commit_any (h:Fo W w fb K G n) (hw:wfT t) (hn:K.length+(ksG G t).length<=1000) (hc:0<=n/\n<1000000) :
  Calls Tryz.prog 66 #[.pointer (some ⟨fb,0,none⟩),.int .i64 t] w fun e w'=>e=.returned (.tuple #[])/\FoO W w w' fb (cmsK K (ksG G t)) G (n+1):=by
 obtain⟨v,bw,L,hI,rfl⟩:=h.ex
 cases hd:lkD L t with
 | none =>
  have e:ksG (L.map (·.g)) t=[]:=by unfold ksG;rw[lkG_map,hd];rfl
  rw[e]
  refine(commit_none hI hw hd hc).mono ?_
  rintro e w' ⟨he,hco⟩
  exact⟨he,hco.fo hI h.lt hI.up⟩
 | some d =>
  have e:ksG (L.map (·.g)) t=d.g.ks:=by unfold ksG;rw[lkG_map,hd];rfl
  rw[e] at hn ⊢
  refine(commit_on hI h.lt hw hd hn hc).mono ?_
  rintro e w' ⟨he,hco⟩
  exact⟨he,hco.fo hI h.lt (cmsK_ris hI.up)⟩
structure Fs where
 K:List CL
 G:List Gt
 n:Int
def noteF (s:Fs) (r:Rc):Fs :=
 if r.kd=7 then⟨cmsK s.K (ksG s.G r.tx),dropG s.G r.tx,s.n+1⟩
 else if r.kd=8 then⟨s.K,dropG s.G r.tx,s.n⟩
 else⟨s.K,(match bhd r with |some x=>putG s.G r.tx r.ky x |none=>s.G),s.n⟩
theorem FoO.dropped {w1 w2:World} (h:FoI W w1 fb v bw K L n) (hlt:∀ j,W j->j<w1.heap.size) (t:Int) (Tn:w1.mapTurned w2 bw) (M:Mp w2 3 bw (if(fW L (.int .i64 t)).isSome then L.length-1 else L.length) (updL (fW L) (.int .i64 t) none)):FoO W w1 w2 fb K (dropG (L.map (·.g)) t) n:=by
 have F:Fr W W w1 w2:=turned_fr Tn h.w1.2
 have e:dropG (L.map (·.g)) t=(L.filter fun d=>d.g.txn !=t).map (·.g):=by unfold dropG;rw[List.filter_map];rfl
 rw[e]
 exact⟨W,⟨⟨v,bw,_,h.gone t (turned_off Tn) (row_neMp h.row h.wa) M,rfl⟩,fun j hj=>Nat.lt_of_lt_of_le (hlt j hj) F.size⟩,F⟩
theorem FoO.trans {w1 w2:World} {K2:List CL} {G2:List Gt} {n2:Int} {W1:Nat->Prop} (f:Fr W W1 w w1) (h:FoO W1 w1 w2 fb K2 G2 n2):FoO W w w2 fb K2 G2 n2:=by
 obtain⟨W2,h1,h2⟩:=h.ex
 exact⟨W2,h1,f.trans h2⟩
set_option maxHeartbeats 1000000 in
theorem Note_any (h:Fo W w fb K G n) (hw:wfT r.tx) (hs:r.ky.size<=9223372036854775807) (hn:K.length+(ksG G r.tx).length<=1000) (hc:0<=n/\n<1000000) (hn2:∀ g∈G,g.ks.length<100000) (hl:G.length<100000) :
  Calls Tryz.prog 33 #[.pointer (some ⟨fb,0,none⟩),.agg (r.A I T)] w fun e w'=>e=.returned (.tuple #[])/\FoO W w w' fb (noteF ⟨K,G,n⟩ r).K (noteF ⟨K,G,n⟩ r).G (noteF ⟨K,G,n⟩ r).n:=by
 have HF:Hid (Fo W w fb K G n):=h
 have HM:Hid (∀ wx,Below w.heap.size w wx->Calls Tryz.prog 65 #[.pointer (some ⟨fb,0,none⟩)] wx fun e w'=>e=.returned (.bool true)/\w'=wx):=fun wx hb=>by
  obtain⟨v,bw,L,hI,_⟩:=(h.bel hb).ex
  exact isMade_ok hI.is
 by_cases h7:r.kd=7
 ·have CC:Hid (∀ wx,Below w.heap.size w wx->Calls Tryz.prog 66 #[.pointer (some ⟨fb,0,none⟩),.int .i64 r.tx] wx fun e w'=>e=.returned (.tuple #[])/\FoO W wx w' fb (cmsK K (ksG G r.tx)) G (n+1)):=fun wx hb=>commit_any (h.bel hb) hw hn hc
  have HK:Hid (keyOf Tryz.prog 3 (.int .i64 r.tx)=some (.int .i64 r.tx)):=keyI hw
  have e9:noteF ⟨K,G,n⟩ r=⟨cmsK K (ksG G r.tx),dropG G r.tx,n+1⟩:=by unfold noteF;rw[if_pos h7]
  rw[e9]
  clear h hw hs hn hn2 hl hc e9
  obtain⟨kd,tx,pv,pg,ac,ky,ol,nw,nx,ep,nd⟩:=r
  dsimp only at CC HK h7 ⊢
  subst h7
  generalize cmsK K (ksG G tx)=K2 at *
  go_enter Tryz.func33,Tryz.ntmps33
  go_wp2_with first
   | (refine wpList_box_at (A:=Rc.A ⟨7,tx,pv,pg,ac,ky,ol,nw,nx,ep,nd⟩ I T) _ rfl _ rfl rfl ?_;intro w1 b1 N1;have c1:w1.cell? ⟨b1,1,none⟩=some (.int .i64 tx):=N1.is.c 1;have c0:w1.cell? ⟨b1,0,none⟩=some (.int .i64 7):=N1.is.c 0)
   | (go_at_call 65;refine(HM.out _ N1.bel).mono ?_;rintro e w2 ⟨rfl,rfl⟩)
   | (go_at_call 66;refine(CC.out _ N1.bel).mono ?_;rintro e w3 ⟨rfl,W3,hF3,hf3⟩)
  obtain⟨v3,bw,L3,hI3,rfl⟩:=hF3.ex
  have I3:Hid (FoI W3 w3 fb v3 bw K2 L3 (n+1)):=hI3
  have R3:Hid (At w3 b1 54 (Rc.A ⟨7,tx,pv,pg,ac,ky,ol,nw,nx,ep,nd⟩ I T)):=N1.is.fr hf3 (fun e=>by have:=HF.out.lt _ e;have:=N1.eq;omega)
  have p1:w3.cell? ⟨fb,1,none⟩=some (.map (some bw)):=I3.out.is.c 1
  have q1:w3.cell? ⟨b1,1,none⟩=some (.int .i64 tx):=R3.out.c 1
  go_region_held_law (fun wx=>wx.cell? ⟨fb,1,none⟩=some (.map (some bw))/\wx.cell? ⟨b1,1,none⟩=some (.int .i64 tx)) (first |exact⟨p1,q1⟩ |exact⟨j0,j1⟩) ((refine step_drop_mp rfl _ _ rfl KI uW (by simp[Act.eval,Act.put]) (I3.out.wa.keep (by rfl)) (by simp[Act.eval,Act.put]) HK.out ?_;intro w5 M5 T5;have j0:w5.cell? ⟨fb,1,none⟩=some (.map (some bw)):=(World.cell?_of_block (turned_off T5 fb (I3.out.wa.ne I3.out.is).symm)).trans p1;have j1:w5.cell? ⟨b1,1,none⟩=some (.int .i64 tx):=(World.cell?_of_block (turned_off T5 b1 (I3.out.wa.ne R3.out).symm)).trans q1))
  go_wp2
  go_end0
  refine⟨rfl,FoO.trans ((Fr.of_below N1.bel W).trans (hf3.below (bdr (Below.refl _ _) 1))) ?_⟩
  exact FoO.dropped (w1:=w3.drew) (I3.out.keep (fun j hj=>rfl)) (fun j hj=>hF3.lt j hj) tx T5 M5
 ·by_cases h8:r.kd=8
  ·have HK:Hid (keyOf Tryz.prog 3 (.int .i64 r.tx)=some (.int .i64 r.tx)):=keyI hw
   have e9:noteF ⟨K,G,n⟩ r=⟨K,dropG G r.tx,n⟩:=by unfold noteF;rw[if_neg h7,if_pos h8]
   rw[e9]
   clear h hw hs hn hn2 hl hc e9 h7
   obtain⟨kd,tx,pv,pg,ac,ky,ol,nw,nx,ep,nd⟩:=r
   dsimp only at HK h8 ⊢
   subst h8
   obtain⟨v3,bw,L3,hI3,rfl⟩:=HF.out.ex
   have I0:Hid (FoI W w fb v3 bw K L3 n):=hI3
   clear hI3
   go_enter Tryz.func33,Tryz.ntmps33
   go_wp2_with first
    | (refine wpList_box_at (A:=Rc.A ⟨8,tx,pv,pg,ac,ky,ol,nw,nx,ep,nd⟩ I T) _ rfl _ rfl rfl ?_;intro w3 b1 N1;have q1:w3.cell? ⟨b1,1,none⟩=some (.int .i64 tx):=N1.is.c 1;have c0:w3.cell? ⟨b1,0,none⟩=some (.int .i64 8):=N1.is.c 0;have I3:Hid (FoI W w3 fb v3 bw K L3 n):=I0.out.keep (fun j hj=>N1.bel.block j (HF.out.lt j hj));have p1:w3.cell? ⟨fb,1,none⟩=some (.map (some bw)):=I3.out.is.c 1)
    | (go_at_call 65;refine(HM.out _ N1.bel).mono ?_;rintro e w2 ⟨rfl,rfl⟩)
   go_region_held_law (fun wx=>wx.cell? ⟨fb,1,none⟩=some (.map (some bw))/\wx.cell? ⟨b1,1,none⟩=some (.int .i64 tx)) (first |exact⟨p1,q1⟩ |exact⟨j0,j1⟩) ((refine step_drop_mp rfl _ _ rfl KI uW (by simp[Act.eval,Act.put]) (I3.out.wa.keep (by rfl)) (by simp[Act.eval,Act.put]) HK.out ?_;intro w5 M5 T5;have j0:w5.cell? ⟨fb,1,none⟩=some (.map (some bw)):=(World.cell?_of_block (turned_off T5 fb (I3.out.wa.ne I3.out.is).symm)).trans p1;have j1:w5.cell? ⟨b1,1,none⟩=some (.int .i64 tx):=(World.cell?_of_block (turned_off T5 b1 (I3.out.wa.ne N1.is).symm)).trans q1))
   go_wp2
   go_end0
   refine⟨rfl,FoO.trans (Fr.of_below (bdr N1.bel 1) W) ?_⟩
   exact FoO.dropped (w1:=w2.drew) (I3.out.keep (fun j hj=>rfl)) (fun j hj=>Nat.lt_of_lt_of_le (HF.out.lt j hj) N1.bel.size) tx T5 M5
  ·have CT:Hid (∀ wx,Below w.heap.size w wx->Calls Tryz.prog 67 #[.pointer (some ⟨fb,0,none⟩),.agg (r.A I T)] wx fun e w'=>e=.returned (.tuple #[])/\FoO W wx w' fb K (match bhd r with |some x=>putG G r.tx r.ky x |none=>G) n):=fun wx hb=>turn_any (h.bel hb) hw hs hn2 hl
   have e9:noteF ⟨K,G,n⟩ r=⟨K,(match bhd r with |some x=>putG G r.tx r.ky x |none=>G),n⟩:=by unfold noteF;rw[if_neg h7,if_neg h8]
   rw[e9]
   dsimp only
   clear h hw hs hn hn2 hl hc e9
   generalize (match bhd r with |some x=>putG G r.tx r.ky x |none=>G)=G2 at *
   obtain⟨kd,tx,pv,pg,ac,ky,ol,nw,nx,ep,nd⟩:=r
   have hb7:(kd==7)=false:=by simpa using h7
   have hb8:(kd==8)=false:=by simpa using h8
   go_enter Tryz.func33,Tryz.ntmps33
   go_wp2_with first
    | (refine wpList_box_at (A:=Rc.A ⟨kd,tx,pv,pg,ac,ky,ol,nw,nx,ep,nd⟩ I T) _ rfl _ rfl rfl ?_;intro w1 b1 N1;have c0:w1.cell? ⟨b1,0,none⟩=some (.int .i64 kd):=N1.is.c 0)
    | (go_at_call 65;refine(HM.out _ N1.bel).mono ?_;rintro e w2 ⟨rfl,rfl⟩)
    | (refine wpList_load_at stRc (A:=Rc.A ⟨kd,tx,pv,pg,ac,ky,ol,nw,nx,ep,nd⟩ I T) _ rfl _ rfl rfl N1.is rfl ?_)
    | (go_at_call 67;refine(CT.out _ N1.bel).mono ?_;rintro e w3 ⟨rfl,hO⟩)
   go_end0
   exact⟨rfl,FoO.trans (Fr.of_below N1.bel W) hO⟩
end
end Go.Proofs.YtkcpclmkbmeigaaGreat.Fd
namespace Go.Proofs.YtkcpclmkbmeigaaGreat.Gm
open Go.RowKit
theorem eq_field (w : World) (d : Nat) {A B : Array Value} {a b : Value} {f : Field} {fs : List Field} {r0 r : Bool} (hn : f.name ≠ "_") (hi : (isAgg f.type).run Tryz.prog w = .ok false w) (h1 : A[f.offset]? = some a) (h2 : B[f.offset]? = some b)
  (he:(Op.equalIn (d+1) f.type a b).run Tryz.prog w=.ok r0 w) (h:(Op.eqFields (d+1) A B fs).run Tryz.prog w=.ok r w):(Op.eqFields (d+1) A B (f ::fs)).run Tryz.prog w=.ok (r0&&r) w:=by
 have hp:∀ (C:Array Value) (v:Value),C[f.offset]?=some v->(Go.part f.type C f.offset).run Tryz.prog w=.ok v w:=fun C v hv=>by
  simp[Go.part,Sem.run_bind,hi,Result.andThen,hv]
 rw[Op.eqFields,if_pos hn]
 simp only[Sem.run_bind,hp A a h1,hp B b h2,Result.andThen_ok,he]
 cases r0
 ·simp
 ·simpa using h
theorem eq_none (w:World) (d:Nat) (A B:Array Value):(Op.eqFields d A B []).run Tryz.prog w=.ok true w:=by simp[Op.eqFields]
theorem eql_of {w:World} {t:TypeId} {A B:Array Value} {r:Bool} (hu:Tryz.prog.underlying t=some (.struct (Tryz.prog.fieldsOf t))) (hp:Tryz.prog.stoodInHeld t=false) {fs:List Field} (hf:(Tryz.prog.fieldsOf t).toList=fs) (h:(Op.eqFields 9999 A B fs).run Tryz.prog w=.ok r w) :
  (binOp .eql t (.agg A) (.agg B)).run Tryz.prog w=.ok (.bool r) w/\(binOp .neq t (.agg A) (.agg B)).run Tryz.prog w=.ok (.bool (!r)) w:=by
 have:=run_equalIn_struct (P:=Tryz.prog) w 9999 t A B hu hp
 rw[hf,h] at this
 constructor
 ·rw[run_eql_struct,this];rfl
 ·rw[run_neq_struct,this];rfl
end Go.Proofs.YtkcpclmkbmeigaaGreat.Gm
namespace Go.Proofs.YtkcpclmkbmeigaaGreat.Fd
open Go.RowKit Gm Go.Maps
def sumG (G:List Gt):Nat:=(G.map fun g=>g.ks.length).sum
structure Bd (s:Fs) (i:Nat):Prop where
 wt:s.K.length+sumG s.G<=i
 gl:s.G.length<=i
 n0:0<=s.n
 n1:s.n<=i
theorem Bd.zero:Bd ⟨[],[],0⟩ 0:=⟨by decide,by decide,by decide,by decide⟩
theorem Bd.up {s:Fs} {i:Nat} (h:Bd s i):Bd s (i+1):=⟨by have:=h.wt;omega,by have:=h.gl;omega,h.n0,by have:=h.n1;omega⟩
theorem putH_le (ks:List (ByteArray × Hs)) (k:ByteArray) (x:Hs):(putH ks k x).length<=ks.length+1:=by
 unfold putH
 rw[List.length_append,List.length_singleton]
 have:=List.length_filter_le (fun p:ByteArray × Hs=>p.1.data.toList !=k.data.toList) ks
 omega
theorem sumG_drop (G:List Gt) (t:Int):sumG (dropG G t)+(ksG G t).length<=sumG G:=by
 unfold sumG dropG ksG lkG
 induction G with
 | nil=>simp
 | cons g G ih =>
  rw[List.filter_cons,List.find?_cons]
  by_cases h:g.txn=t
  ·have h1:(g.txn !=t)=false:=by simpa using h
   have h2:(g.txn==t)=true:=by simpa using h
   rw[h1,h2]
   simp only[List.map_cons,List.sum_cons,Option.map_some,Option.getD_some,Bool.false_eq_true,if_false]
   have:(List.map (fun g=>g.ks.length) (List.filter (fun g=>g.txn !=t) G)).sum<=(List.map (fun g:Gt=>g.ks.length) G).sum:=by omega
   omega
  ·have h1:(g.txn !=t)=true:=by simpa using h
   have h2:(g.txn==t)=false:=by simpa using h
   rw[h1,h2]
   simp only[List.map_cons,List.sum_cons,if_true]
   omega
theorem cmsK_len (ks:List (ByteArray × Hs)):∀ K,(cmsK K ks).length<=K.length+ks.length:=by
 induction ks with
 | nil=>intro K;simp[cmsK]
 | cons p ks ih =>
  intro K
  have h1:=ih (comK K p.1 p.2)
  have h2:=comK_len K p.1 p.2
  show(cmsK (comK K p.1 p.2) ks).length<=_
  rw[List.length_cons]
  omega
theorem sumG_turn (t:Int) (k:ByteArray) (x:Hs):∀ G:List Gt,(G.Pairwise fun a b=>a.txn≠b.txn)->sumG (G.map (tnG t k x))<=sumG G+1
 | [],_=>by simp[sumG]
 | g :: G,hp=>by
  rw[List.pairwise_cons] at hp
  have ih:=sumG_turn t k x G hp.2
  unfold sumG at ih ⊢
  simp only[List.map_cons,List.sum_cons]
  by_cases h:g.txn=t
  ·have e:G.map (tnG t k x)=G:=by
    conv=>rhs;rw[← List.map_id G]
    refine List.map_congr_left fun y hy=>?_
    unfold tnG
    rw[if_neg (fun e2=>hp.1 y hy (h.trans e2.symm))]
    rfl
   rw[e]
   have h1:=putH_le g.ks k x
   unfold tnG
   rw[if_pos h]
   dsimp only
   omega
  ·have h1:tnG t k x g=g:=by unfold tnG;rw[if_neg h]
   rw[h1]
   omega
theorem sumG_put (G:List Gt) (t:Int) (k:ByteArray) (x:Hs) (hp:G.Pairwise fun a b=>a.txn≠b.txn):sumG (putG G t k x)<=sumG G+1/\(putG G t k x).length<=G.length+1:=by
 unfold putG
 split
 ·exact⟨sumG_turn t k x G hp,by rw[List.length_map];omega⟩
 ·unfold sumG
  rw[List.map_append,List.sum_append,List.length_append]
  simp
theorem Bd.note {s:Fs} {i:Nat} (h:Bd s i) (hp:s.G.Pairwise fun a b=>a.txn≠b.txn) (r:Rc):Bd (noteF s r) (i+1):=by
 have h1:=h.wt
 have h2:=h.gl
 have h3:=h.n0
 have h4:=h.n1
 have hd:=List.length_filter_le (fun g:Gt=>g.txn !=r.tx) s.G
 unfold noteF
 split
 ·have a1:=cmsK_len (ksG s.G r.tx) s.K
  have a2:=sumG_drop s.G r.tx
  exact⟨by dsimp only;omega,by dsimp only;unfold dropG;omega,by dsimp only;omega,by dsimp only;omega⟩
 ·split
  ·have a2:=sumG_drop s.G r.tx
   exact⟨by dsimp only;omega,by dsimp only;unfold dropG;omega,by dsimp only;omega,by dsimp only;omega⟩
  ·cases bhd r with
   | none=>exact⟨by dsimp only;omega,by dsimp only;omega,by dsimp only;omega,by dsimp only;omega⟩
   | some x =>
    obtain⟨a1,a2⟩:=sumG_put s.G r.tx r.ky x hp
    exact⟨by dsimp only;omega,by dsimp only;omega,by dsimp only;omega,by dsimp only;omega⟩
theorem sum_mem {G:List Gt} {g:Gt} (h:g∈G):g.ks.length<=sumG G:=by
 unfold sumG
 induction G with
 | nil=>cases h
 | cons a G ih =>
  rw[List.map_cons,List.sum_cons]
  rcases List.mem_cons.1 h with rfl |h1
  ·omega
  ·have:=ih h1;omega
theorem ksG_le (G:List Gt) (t:Int):(ksG G t).length<=sumG G:=by have:=sumG_drop G t;omega
section
variable {W:Nat->Prop}{w w':World}{fb i:Nat}{s:Fs}{r:Rc}{I T:Value}
theorem Note_bd (h:Fo W w fb s.K s.G s.n) (hb:Bd s i) (hi:i<=500) (hw:wfT r.tx) (hs:r.ky.size<=9223372036854775807):Calls Tryz.prog 33 #[.pointer (some ⟨fb,0,none⟩),.agg (r.A I T)] w fun e w'=>e=.returned (.tuple #[])/\FoO W w w' fb (noteF s r).K (noteF s r).G (noteF s r).n:=by
 have h1:=hb.wt
 have h2:=ksG_le s.G r.tx
 exact Note_any h hw hs (by omega) ⟨hb.n0,by have:=hb.n1;omega⟩ (fun g hg=>by have:=sum_mem hg;omega) (by have:=hb.gl;omega)
end
structure Rv (w:World) (v:Value) (C:List CL):Prop where
 ex:∃ a c,v=.slice a C.length c/\∀ i (hi:i<C.length),∃ g o,a=some ⟨g,o,none⟩/\g<w.heap.size/\w.cell? ⟨g,o+i*2,none⟩=some (.string C[i].1)/\w.cell? ⟨g,o+i*2+1,none⟩=some (.string C[i].2)
theorem Rv.bel {w w':World} {v:Value} {C:List CL} (h:Rv w v C) (hb:Below w.heap.size w w'):Rv w' v C:=by
 obtain⟨a,c,e,h⟩:=h.ex
 refine⟨a,c,e,fun i hi=>?_⟩
 obtain⟨g,o,ea,hg,h1,h2⟩:=h i hi
 exact⟨g,o,ea,Nat.lt_of_lt_of_le hg hb.size,by rw[World.cell?_of_block (hb.block g hg)];exact h1,by rw[World.cell?_of_block (hb.block g hg)];exact h2⟩
theorem Rv.at_ {w:World} {a:Option Addr} {n c:Nat} {C:List CL} (h:Rv w (.slice a n c) C) {i:Nat} (hi:i<C.length):∃ g o,a=some ⟨g,o,none⟩/\g<w.heap.size/\w.cell? ⟨g,o+i*2,none⟩=some (.string C[i].1)/\w.cell? ⟨g,o+i*2+1,none⟩=some (.string C[i].2):=by
 obtain⟨a',c',e,hh⟩:=h.ex
 cases e
 exact hh i hi
theorem Rv.of_row {w:World} {v:Value} {C:List CL} (h:Row w 73 2 v (C.map encC)):Rv w v C:=by
 obtain⟨a,c,e,_⟩:=h.sl
 rw[List.length_map] at e
 refine⟨a,c,e,fun i hi=>?_⟩
 subst e
 have h2:Row w 73 2 (.slice a C.length c) (C.map encC):=h
 obtain⟨g,ea,hg,hat⟩:=h2.at_ (i:=i) (by rw[List.length_map];exact hi)
 have hra:=(hat w rfl).1
 rw[List.getElem_map] at hra
 exact⟨g,0,ea,hg,by have:=hra 0 _ rfl;simpa using this,by have:=hra 1 _ rfl;simpa using this⟩
def eqC (x y:CL):Bool:=(x.1.toList==y.1.toList)&&((x.2.toList==y.2.toList)&&true)
theorem tl_eq {a b:ByteArray}:(a.toList==b.toList)=true↔a=b:=by
 rw[beq_iff_eq,ByteArray.toList_eq,ByteArray.toList_eq]
 exact⟨ba_eq,fun h=>by rw[h]⟩
theorem eqC_iff {x y:CL}:eqC x y=true↔x=y:=by
 unfold eqC
 rw[Bool.and_true,Bool.and_eq_true,tl_eq,tl_eq]
 exact⟨fun h=>Prod.ext h.1 h.2,fun h=>by rw[h];exact⟨rfl,rfl⟩⟩
theorem eqlsC (w:World) (x y:CL):(binOp .eql 73 (.agg #[.string x.1,.string x.2]) (.agg #[.string y.1,.string y.2])).run Tryz.prog w=.ok (.bool (eqC x y)) w/\(binOp .neq 73 (.agg #[.string x.1,.string x.2]) (.agg #[.string y.1,.string y.2])).run Tryz.prog w=.ok (.bool (!eqC x y)) w:=by
 refine eql_of (by kernel_rfl) (by kernel_rfl) (fs := [⟨ "Key", 9, 0, false, "", "", 0⟩, ⟨ "Val", 9, 1, false, "", "", 16⟩]) (by kernel_rfl) ?_
 exact eq_field w 9998 (by decide) (by kernel_rfl) rfl rfl (run_equalIn_string w 9998 _ _ _ Tryz.underlying9) (eq_field w 9998 (by decide) (by kernel_rfl) rfl rfl (run_equalIn_string w 9998 _ _ _ Tryz.underlying9) (eq_none w _ _ _))
def sameK (K L:List CL):Bool:=decide (K=L)
theorem sameK_len {K L:List CL} (h:K.length≠L.length):sameK K L=false:=by
 unfold sameK
 exact decide_eq_false fun e=>h (by rw[e])
theorem sameK_at {K L:List CL} {i:Nat} (h1:i<K.length) (h2:i<L.length) (h:K[i]≠L[i]):sameK K L=false:=by
 unfold sameK
 exact decide_eq_false fun e=>h (by subst e;rfl)
theorem sameK_all {K L:List CL} (h:K.length=L.length) (h2:∀ j (h1:j<K.length) (h2:j<L.length),K[j]=L[j]):sameK K L=true:=by
 unfold sameK
 exact decide_eq_true (List.ext_getElem h h2)
section
variable {w:World}{v1 v2:Value}{K L:List CL}
set_option maxHeartbeats 2000000 in
theorem same_any (h1:Rv w v1 K) (h2:Rv w v2 L) (hn:K.length<=100000) (hn2:L.length<=100000):Calls Tryz.prog 30 #[v1,v2] w fun e w'=>e=.returned (.bool (sameK K L))/\Below w.heap.size w w':=by
 obtain⟨a0,c0,rfl,-⟩:=h1.ex
 obtain⟨a1,c1,rfl,-⟩:=h2.ex
 have H1:Hid (Rv w (.slice a0 K.length c0) K):=h1
 have H2:Hid (Rv w (.slice a1 L.length c1) L):=h2
 have mixed:Tryz.prog.follows .mixedOrders=true:=by kernel_rfl
 clear h1 h2
 by_cases hl:K.length=L.length
 ·obtain⟨m,hm⟩:∃ m,L.length=m:=⟨_,rfl⟩
  have Hm:Hid (K.length=m/\L.length=m):=⟨hl.trans hm,hm⟩
  rw[hl] at H1 hn ⊢
  rw[hm] at H1 H2 hn ⊢
  clear hm hl hn2
  go_enter Tryz.func30,Tryz.ntmps30
  go_wp2
  go_loopg [5] m (fun k vi wr=>∃ i:Nat,vi=.int .i64 (i:Int)/\m-i<=k/\i<=m/\Below w.heap.size w wr/\Hid (∀ j (h1:j<K.length) (h2:j<L.length),j<i->K[j]=L[j]))
  case atStart=>exact⟨0,rfl,by omega,by omega,Below.refl _ _,fun j _ _ hj=>by omega⟩
  case round =>
   obtain⟨i,rfl,hk,him,hB,HA⟩:=hrel
   have HB:Hid (Below w.heap.size w wr):=hB
   by_cases hlt:i<m
   ·have hltI:(i:Int)<(m:Int):=by omega
    have hi1:i<K.length:=by have:=Hm.out;omega
    have hi2:i<L.length:=by have:=Hm.out;omega
    obtain⟨g,o,rfl,_,c0',c1'⟩:=(H1.out.bel HB.out).at_ hi1
    obtain⟨g',o',rfl,_,e0',e1'⟩:=(H2.out.bel HB.out).at_ hi2
    have d0:wr.drew.cell? ⟨g,o+i*2,none⟩=some (.string K[i].1):=c0'
    have d1:wr.drew.cell? ⟨g,o+i*2+1,none⟩=some (.string K[i].2):=c1'
    have f0:wr.drew.cell? ⟨g',o'+i*2,none⟩=some (.string L[i].1):=e0'
    have f1:wr.drew.cell? ⟨g',o'+i*2+1,none⟩=some (.string L[i].2):=e1'
    have heq:∀ wx,(binOp .neq 73 (.agg #[.string K[i].1,.string K[i].2]) (.agg #[.string L[i].1,.string L[i].2])).run Tryz.prog wx=.ok (.bool (!eqC K[i] L[i])) wx:=fun wx=>(eqlsC wx K[i] L[i]).2
    have HL:Hid (eqC K[i] L[i]=true↔K[i]=L[i]):=eqC_iff
    generalize hl:eqC K[i] L[i]=bb at heq HL
    clear hl hB
    cases bb with
    | true =>
     have HT:Hid (K[i]=L[i]):=HL.out.1 rfl
     clear HL
     generalize K[i].1=ka at c0' d0 heq
     generalize K[i].2=kb at c1' d1 heq
     generalize L[i].1=kc at e0' f0 heq
     generalize L[i].2=kd at e1' f1 heq
     go_wp2_with fail
     go_big_region
     all_goals go_wp2
     go_roundg (m-(i+1))
     case measure=>omega
     case rel=>exact⟨i+1,by first |rfl |go_num,Nat.le_refl _,by omega,bdr HB.out 1,fun j h1 h2 hj=>by
      rcases Nat.lt_or_ge j i with h3 |h3
      ·exact HA.out j h1 h2 h3
      ·obtain rfl:j=i:=by omega
       exact HT.out⟩
    | false =>
     have HT:Hid (sameK K L=false):=sameK_at hi1 hi2 (fun h=>by have:=HL.out.2 h;cases this)
     clear HL
     generalize K[i].1=ka at c0' d0 heq
     generalize K[i].2=kb at c1' d1 heq
     generalize L[i].1=kc at e0' f0 heq
     generalize L[i].2=kd at e1' f1 heq
     go_wp2_with fail
     go_big_region
     all_goals go_wp2
     go_ret
     exact⟨by rw[HT.out];rfl,bdr HB.out 1⟩
   ·have hltI:¬ (i:Int)<(m:Int):=by omega
    have HT:Hid (sameK K L=true):=sameK_all (Hm.out.1.trans Hm.out.2.symm) (fun j h1 h2=>HA.out j h1 h2 (by have:=Hm.out;omega))
    go_wp2
    go_ret
    exact⟨by rw[HT.out];rfl,HB.out⟩
 ·have HT:Hid (sameK K L=false):=sameK_len hl
  have hlI:¬ ((K.length:Int)=(L.length:Int)):=by omega
  clear H1 H2
  generalize K.length=m1 at *
  generalize L.length=m2 at *
  go_enter Tryz.func30,Tryz.ntmps30
  go_wp2
  go_ret
  exact⟨by rw[HT.out];rfl,Below.refl _ _⟩
end
structure Bk where
 act:Int
 tx:Int
 ky:ByteArray
 nw:ByteArray
 deriving Inhabited
def hsB (x:Bk):Hs:=if x.act=4 then zH else⟨x.nw,true⟩
def ofT (B:List Bk) (t:Int):List Bk:=B.filter fun x=>decide (x.tx=t)
def offT (B:List Bk) (t:Int):List Bk:=B.filter fun x=>!decide (x.tx=t)
def comB (K:List CL) (x:Bk):List CL:=comK K x.ky (hsB x)
def foldC (K:List CL) (es:List Bk):List CL:=es.foldl comB K
def lastE (es:List Bk) (k:ByteArray):Option Hs:=es.foldl (fun o x=>if x.ky=k then some (hsB x) else o) none
structure Ps where
 K:List CL
 B:List Bk
 n:Int
def bkO (r:Rc):Bk:=⟨if r.kd=6 then r.ac else r.kd,r.tx,r.ky,r.nw⟩
def noteP (s:Ps) (r:Rc):Ps :=
 if 3<=r.kd/\r.kd<=6 then⟨s.K,s.B++[bkO r],s.n⟩
 else if r.kd=7 then⟨foldC s.K (ofT s.B r.tx),offT s.B r.tx,s.n+1⟩
 else if r.kd=8 then⟨s.K,offT s.B r.tx,s.n⟩
 else s
theorem foldC_snoc (K:List CL) (es:List Bk) (x:Bk):foldC K (es++[x])=comB (foldC K es) x:=by unfold foldC;rw[List.foldl_append];rfl
theorem lastE_snoc (es:List Bk) (x:Bk) (k:ByteArray):lastE (es++[x]) k=if x.ky=k then some (hsB x) else lastE es k:=by unfold lastE;rw[List.foldl_append];rfl
theorem ofT_snoc (B:List Bk) (x:Bk) (t:Int):ofT (B++[x]) t=if x.tx=t then ofT B t++[x] else ofT B t:=by
 unfold ofT
 rw[List.filter_append]
 by_cases h:x.tx=t <;> simp[h]
theorem ofT_off (B:List Bk) (t u:Int):ofT (offT B t) u=if u=t then [] else ofT B u:=by
 unfold ofT offT
 rw[List.filter_filter]
 split
 ·rename_i h
  subst h
  refine List.filter_eq_nil_iff.2 fun x _=>?_
  simp
 ·rename_i h
  refine List.filter_congr fun x _=>?_
  by_cases e:x.tx=u
  ·subst e;simp[h]
  ·simp[e]
theorem snocB {P:List Bk->Prop} (h0:P []) (h1:∀ A c,P A->P (A++[c])):∀ A,P A:=by
 intro A
 rw[← List.reverse_reverse A]
 generalize A.reverse=B
 induction B with
 | nil=>exact h0
 | cons b B ih=>rw[List.reverse_cons];exact h1 _ _ ih
theorem foldC_ris {K:List CL} (hr:Ris K):∀ es,Ris (foldC K es):=snocB hr fun A c ih=>by rw[foldC_snoc];exact comK_ris ih _ _
theorem foldC_mem {K:List CL} (hr:Ris K) (q:CL):∀ es,q∈foldC K es↔mt (lastE es q.1) q K:=snocB Iff.rfl fun A c ih=>by
 rw[foldC_snoc,lastE_snoc]
 unfold comB
 rw[comK_mem (foldC_ris hr A)]
 by_cases e:q.1=c.ky
 ·rw[if_pos e,if_pos e.symm]
  rfl
 ·rw[if_neg e,if_neg (fun h=>e h.symm)]
  exact ih
theorem ksG_put (G:List Gt) (t:Int) (k:ByteArray) (x:Hs) (u:Int):ksG (putG G t k x) u=if u=t then putH (ksG G t) k x else ksG G u:=by
 unfold ksG putG
 cases h:lkG G t with
 | some g =>
  have hg:g.txn=t:=by simpa using List.find?_some h
  rw[if_pos (show(some g).isSome=true from rfl)]
  have e:lkG (G.map (tnG t k x)) u=(lkG G u).map (tnG t k x):=by
   unfold lkG
   rw[List.find?_map]
   congr 1
   congr 1
   funext d
   simp only[Function.comp,tnG_txn]
  rw[e]
  by_cases hu:u=t
  ·subst hu
   rw[if_pos rfl,h]
   simp only[Option.map_some,Option.getD_some]
   unfold tnG
   rw[if_pos hg]
  ·rw[if_neg hu]
   cases h2:lkG G u with
   | none=>rfl
   | some g2 =>
    have hg2:g2.txn=u:=by simpa using List.find?_some h2
    simp only[Option.map_some,Option.getD_some]
    unfold tnG
    rw[if_neg (fun e=>hu (hg2.symm.trans e))]
 | none =>
  rw[if_neg (by simp)]
  have e:lkG (G++[⟨t,[(k,x)]⟩]) u=(lkG G u).or (if t=u then some ⟨t,[(k,x)]⟩ else none):=by
   unfold lkG
   rw[List.find?_append,List.find?_singleton]
   congr 1
   by_cases hu:t=u <;> simp[hu]
  rw[e]
  by_cases hu:u=t
  ·subst hu
   rw[if_pos rfl,h]
   simp[putH]
  ·rw[if_neg hu,if_neg (fun e=>hu e.symm)]
   cases lkG G u <;> rfl
theorem ksG_drop (G:List Gt) (t u:Int):ksG (dropG G t) u=if u=t then [] else ksG G u:=by
 unfold ksG
 have e:lkG (dropG G t) u=if u=t then none else lkG G u:=by
  unfold lkG dropG
  rw[List.find?_filter]
  split
  ·rename_i h
   subst h
   refine List.find?_eq_none.2 fun x _=>?_
   simp
  ·rename_i h
   congr 1
   funext x
   by_cases e:x.txn=u
   ·subst e;simp[h]
   ·simp[e]
 rw[e]
 split <;> rfl
structure Rel (s:Fs) (p:Ps):Prop where
 k:s.K=p.K
 n:s.n=p.n
 up:Ris s.K
 his:∀ t (k:ByteArray),(lkK (ksG s.G t) k.data.toList).map (·.2)=lastE (ofT p.B t) k
 tx:∀ t,(∃ g∈s.G,g.txn=t)↔∃ x∈p.B,x.tx=t
 kn:∀ t,(ksG s.G t).Pairwise fun a b=>a.1.data.toList≠b.1.data.toList
theorem Rel.start:Rel ⟨[],[],0⟩ ⟨[],[],0⟩:=⟨rfl,rfl,List.Pairwise.nil,fun t k=>rfl,fun t=>⟨fun⟨g,h,_⟩=>(by cases h),fun⟨g,h,_⟩=>(by cases h)⟩,fun t=>List.Pairwise.nil⟩
theorem putG_tx (G:List Gt) (t:Int) (k:ByteArray) (x:Hs) (u:Int):(∃ g∈putG G t k x,g.txn=u)↔((∃ g∈G,g.txn=u)∨u=t):=by
 unfold putG
 cases h:lkG G t with
 | some g =>
  rw[if_pos (show(some g).isSome=true from rfl)]
  constructor
  ·rintro⟨g1,h1,h2⟩
   obtain⟨g2,h3,rfl⟩:=List.mem_map.1 h1
   exact Or.inl ⟨g2,h3,by rw[← h2,tnG_txn]⟩
  ·rintro(⟨g1,h1,h2⟩ |rfl)
   ·exact⟨_,List.mem_map_of_mem h1,by rw[tnG_txn];exact h2⟩
   ·exact⟨_,List.mem_map_of_mem (List.mem_of_find?_eq_some h),by rw[tnG_txn];simpa using List.find?_some h⟩
 | none =>
  rw[if_neg (by simp)]
  constructor
  ·rintro⟨g1,h1,h2⟩
   rcases List.mem_append.1 h1 with h3 |h3
   ·exact Or.inl ⟨g1,h3,h2⟩
   ·rw[List.mem_singleton] at h3
    subst h3
    exact Or.inr h2.symm
  ·rintro(⟨g1,h1,h2⟩ |rfl)
   ·exact⟨g1,List.mem_append_left _ h1,h2⟩
   ·exact⟨_,List.mem_append_right _ (List.mem_singleton_self _),rfl⟩
theorem dropG_tx (G:List Gt) (t u:Int):(∃ g∈dropG G t,g.txn=u)↔((∃ g∈G,g.txn=u)/\u≠t):=by
 unfold dropG
 constructor
 ·rintro⟨g,h1,h2⟩
  obtain⟨h3,h4⟩:=List.mem_filter.1 h1
  subst h2
  exact⟨⟨g,h3,rfl⟩,by simpa using h4⟩
 ·rintro⟨⟨g,h1,rfl⟩,h3⟩
  exact⟨g,List.mem_filter.2 ⟨h1,by simpa using h3⟩,rfl⟩
theorem offT_tx (B:List Bk) (t u:Int):(∃ x∈offT B t,x.tx=u)↔((∃ x∈B,x.tx=u)/\u≠t):=by
 unfold offT
 constructor
 ·rintro⟨g,h1,h2⟩
  obtain⟨h3,h4⟩:=List.mem_filter.1 h1
  subst h2
  exact⟨⟨g,h3,rfl⟩,by simpa using h4⟩
 ·rintro⟨⟨g,h1,rfl⟩,h3⟩
  exact⟨g,List.mem_filter.2 ⟨h1,by simpa using h3⟩,rfl⟩
theorem Rel.com {s:Fs} {p:Ps} (h:Rel s p) (t:Int):cmsK s.K (ksG s.G t)=foldC p.K (ofT p.B t):=by
 rw[← h.k]
 refine ris_uniq (cmsK_ris h.up) (foldC_ris h.up _) fun q=>?_
 rw[cmsK_mem h.up (h.kn t),foldC_mem h.up,h.his]
theorem Rel.drop {s:Fs} {p:Ps} (h:Rel s p) (t:Int) {K:List CL} {n:Int} (hK:Ris K):Rel ⟨K,dropG s.G t,n⟩ ⟨K,offT p.B t,n⟩:=by
 refine⟨rfl,rfl,hK,fun u k=>?_,fun u=>?_,fun u=>?_⟩
 ·dsimp only
  rw[ksG_drop,ofT_off]
  split
  ·rfl
  ·exact h.his u k
 ·dsimp only
  rw[dropG_tx,offT_tx,h.tx]
 ·dsimp only
  rw[ksG_drop]
  split
  ·exact List.Pairwise.nil
  ·exact h.kn u
theorem Rel.turn {s:Fs} {p:Ps} (h:Rel s p) (b:Bk):Rel ⟨s.K,putG s.G b.tx b.ky (hsB b),s.n⟩ ⟨p.K,p.B++[b],p.n⟩:=by
 refine⟨h.k,h.n,h.up,fun u k=>?_,fun u=>?_,fun u=>?_⟩
 ·dsimp only
  rw[ksG_put,ofT_snoc]
  by_cases hu:u=b.tx
  ·subst hu
   rw[if_pos rfl,if_pos rfl,lkK_put,lastE_snoc]
   by_cases hk:k=b.ky
   ·subst hk
    rw[if_pos rfl,if_pos rfl]
    rfl
   ·rw[if_neg (fun e=>hk (ba_eq e)),if_neg (fun e=>hk e.symm)]
    exact h.his _ k
  ·rw[if_neg hu,if_neg (fun e=>hu e.symm)]
   exact h.his u k
 ·dsimp only
  rw[putG_tx,h.tx]
  constructor
  ·rintro(⟨x,h1,h2⟩ |rfl)
   ·exact⟨x,List.mem_append_left _ h1,h2⟩
   ·exact⟨b,List.mem_append_right _ (List.mem_singleton_self _),rfl⟩
  ·rintro⟨x,h1,h2⟩
   rcases List.mem_append.1 h1 with h3 |h3
   ·exact Or.inl ⟨x,h3,h2⟩
   ·rw[List.mem_singleton] at h3
    subst h3
    exact Or.inr h2.symm
 ·dsimp only
  rw[ksG_put]
  split
  ·exact putH_kn (h.kn _) _ _
  ·exact h.kn u
def wfR (r:Rc):Prop:=r.kd=6->r.ac=3∨r.ac=4∨r.ac=5
theorem bhd_bk {r:Rc} (hw:wfR r) (h1:3<=r.kd) (h2:r.kd<=6):bhd r=some (hsB (bkO r)):=by
 have hc:r.kd=3∨r.kd=4∨r.kd=5∨r.kd=6:=by omega
 unfold bhd actK hsB bkO
 dsimp only
 rcases hc with e |e |e |e
 ·rw[e];rfl
 ·rw[e];rfl
 ·rw[e];rfl
 ·rw[if_pos e]
  rcases hw e with e2 |e2 |e2 <;> (rw[e2];rfl)
theorem Rel.note {s:Fs} {p:Ps} (h:Rel s p) {r:Rc} (hw:wfR r):Rel (noteF s r) (noteP p r):=by
 unfold noteF noteP
 by_cases h7:r.kd=7
 ·rw[if_pos h7,if_neg (by omega),if_pos h7,h.com,h.n]
  exact h.drop _ (by rw[← h.com];exact cmsK_ris h.up)
 ·rw[if_neg h7]
  by_cases h8:r.kd=8
  ·rw[if_pos h8,if_neg (by omega),if_neg h7,if_pos h8,← h.k,← h.n]
   exact h.drop _ h.up
  ·rw[if_neg h8]
   by_cases hk:3<=r.kd/\r.kd<=6
   ·rw[if_pos hk,bhd_bk hw hk.1 hk.2]
    exact h.turn (bkO r)
   ·rw[if_neg hk,if_neg h7,if_neg h8]
    have e:bhd r=none:=by
     unfold bhd actK
     rw[if_neg (show ¬ r.kd=6 by omega),if_neg (by omega),if_neg (by omega)]
    rw[e]
    exact h
end Go.Proofs.YtkcpclmkbmeigaaGreat.Fd
namespace Go.Proofs
open Go.Shelf
def Tryz.keysI_ren:Go.Shelf.Ren:=⟨fun |7=>58 |10=>93 |n=>n,fun |23=>105 |26=>3 |3=>3 |28=>131 |0=>0 |27=>130 |33=>169 |4=>4 |n=>n,fun |n=>n⟩
def Tryz.sortedI_ren:Go.Shelf.Ren:=⟨fun |6=>57 |8=>91 |9=>92 |11=>125 |13=>127 |12=>126 |23=>156 |24=>157 |14=>148 |15=>149 |16=>150 |17=>151 |18=>152 |19=>153 |20=>143 |21=>154 |22=>155 |25=>187 |26=>188 |27=>189 |28=>190 |29=>191 |30=>177 |31=>203 |n=>n,fun |26=>3 |28=>131 |24=>45 |0=>0 |3=>3 |37=>193 |48=>235 |50=>88 |4=>4 |40=>229 |39=>228 |45=>150 |5=>5 |9=>9 |51=>265 |55=>239 |57=>283 |58=>134 |33=>169 |n=>n,fun |n=>n⟩
theorem Tryz.sortedI:Go.Proofs.SlLaysZI.n6 Tryz.prog Tryz.sortedI_ren:={
 mixed:=by kernel_rfl
 f6:=⟨Tryz.f57.name,by decide,Tryz.func57.trans (congrArg some (by kernel_rfl))⟩
 f8:=⟨Tryz.f91.name,by decide,Tryz.func91.trans (congrArg some (by kernel_rfl))⟩
 f11:=⟨Tryz.f125.name,by decide,Tryz.func125.trans (congrArg some (by kernel_rfl))⟩
 t0:=Tryz.underlying0
 a0:=Tryz.isAgg0
 z0:=Tryz.sizeOf0
 v0:=Tryz.zeroValue0
 t24:=Tryz.underlying45
 a24:=Tryz.isAgg45
 z24:=Tryz.sizeOf45
 v24:=Tryz.zeroValue45
 t26:=Tryz.underlying3
 a26:=Tryz.isAgg3
 z26:=Tryz.sizeOf3
 v26:=Tryz.zeroValue3
 t28:=Tryz.underlying131
 a28:=Tryz.isAgg131
 z28:=Tryz.sizeOf131
 v28:=Tryz.zeroValue131
 i26:=by kernel_rfl}
def Tryz.sortI_ren:Go.Shelf.Ren:=⟨fun |5=>92 |8=>127 |7=>126 |19=>156 |20=>157 |10=>148 |11=>149 |12=>150 |13=>151 |14=>152 |15=>153 |16=>143 |17=>154 |18=>155 |30=>187 |31=>188 |32=>189 |33=>190 |34=>191 |35=>177 |40=>203 |n=>n,fun |23=>45 |25=>3 |3=>3 |32=>193 |22=>45 |0=>0 |44=>235 |46=>88 |4=>4 |36=>229 |35=>228 |41=>150 |5=>5 |9=>9 |53=>265 |57=>239 |63=>283 |64=>134 |n=>n,fun |n=>n⟩
theorem Tryz.sortI:Go.Proofs.SlLaysM.n5 Tryz.prog Tryz.sortI_ren:={
 mixed:=by kernel_rfl
 f5:=⟨Tryz.f92.name,by decide,Tryz.func92.trans (congrArg some (by kernel_rfl))⟩
 f7:=⟨Tryz.f126.name,by decide,Tryz.func126.trans (congrArg some (by kernel_rfl))⟩
 f8:=Tryz.func127.trans (congrArg some (by kernel_rfl))
 f10:=⟨Tryz.f148.name,by decide,Tryz.func148.trans (congrArg some (by kernel_rfl))⟩
 f11:=⟨Tryz.f149.name,by decide,Tryz.func149.trans (congrArg some (by kernel_rfl))⟩
 f12:=⟨Tryz.f150.name,by decide,Tryz.func150.trans (congrArg some (by kernel_rfl))⟩
 f13:=⟨Tryz.f151.name,by decide,Tryz.func151.trans (congrArg some (by kernel_rfl))⟩
 f14:=⟨Tryz.f152.name,by decide,Tryz.func152.trans (congrArg some (by kernel_rfl))⟩
 f15:=⟨Tryz.f153.name,by decide,Tryz.func153.trans (congrArg some (by kernel_rfl))⟩
 f16:=⟨Tryz.f143.name,by decide,Tryz.func143.trans (congrArg some (by kernel_rfl))⟩
 f17:=⟨Tryz.f154.name,by decide,Tryz.func154.trans (congrArg some (by kernel_rfl))⟩
 f18:=⟨Tryz.f155.name,by decide,Tryz.func155.trans (congrArg some (by kernel_rfl))⟩
 f19:=Tryz.func156.trans (congrArg some (by kernel_rfl))
 f20:=Tryz.func157.trans (congrArg some (by kernel_rfl))
 f30:=⟨Tryz.f187.name,by decide,Tryz.func187.trans (congrArg some (by kernel_rfl))⟩
 f31:=Tryz.func188.trans (congrArg some (by kernel_rfl))
 f32:=Tryz.func189.trans (congrArg some (by kernel_rfl))
 f33:=⟨Tryz.f190.name,by decide,Tryz.func190.trans (congrArg some (by kernel_rfl))⟩
 f34:=⟨Tryz.f191.name,by decide,Tryz.func191.trans (congrArg some (by kernel_rfl))⟩
 f35:=⟨Tryz.f177.name,by decide,Tryz.func177.trans (congrArg some (by kernel_rfl))⟩
 f40:=⟨Tryz.f203.name,by decide,Tryz.func203.trans (congrArg some (by kernel_rfl))⟩
 t0:=Tryz.underlying0
 a0:=Tryz.isAgg0
 z0:=Tryz.sizeOf0
 v0:=Tryz.zeroValue0
 t3:=Tryz.underlying3
 a3:=Tryz.isAgg3
 z3:=Tryz.sizeOf3
 v3:=Tryz.zeroValue3
 t4:=Tryz.underlying4
 a4:=Tryz.isAgg4
 z4:=Tryz.sizeOf4
 v4:=Tryz.zeroValue4
 t5:=Tryz.underlying5
 a5:=Tryz.isAgg5
 z5:=Tryz.sizeOf5
 v5:=Tryz.zeroValue5
 t9:=Tryz.underlying9
 a9:=Tryz.isAgg9
 z9:=Tryz.sizeOf9
 v9:=Tryz.zeroValue9
 t22:=Tryz.underlying45
 a22:=Tryz.isAgg45
 z22:=Tryz.sizeOf45
 v22:=Tryz.zeroValue45
 t23:=Tryz.underlying45
 a23:=Tryz.isAgg45
 z23:=Tryz.sizeOf45
 v23:=Tryz.zeroValue45
 t25:=Tryz.underlying3
 a25:=Tryz.isAgg3
 z25:=Tryz.sizeOf3
 v25:=Tryz.zeroValue3
 t32:=Tryz.underlying193
 a32:=Tryz.isAgg193
 z32:=Tryz.sizeOf193
 v32:=Tryz.zeroValue193
 t35:=Tryz.underlying228
 a35:=Tryz.isAgg228
 z35:=Tryz.sizeOf228
 v35:=Tryz.zeroValue228
 t36:=Tryz.underlying229
 a36:=Tryz.isAgg229
 z36:=Tryz.sizeOf229
 v36:=Tryz.zeroValue229
 t41:=Tryz.underlying150
 a41:=Tryz.isAgg150
 z41:=Tryz.sizeOf150
 v41:=Tryz.zeroValue150
 t44:=Tryz.underlying235
 a44:=Tryz.isAgg235
 z44:=Tryz.sizeOf235
 v44:=Tryz.zeroValue235
 t46:=Tryz.underlying88
 a46:=Tryz.isAgg88
 z46:=Tryz.sizeOf88
 v46:=Tryz.zeroValue88
 t53:=Tryz.underlying265
 a53:=Tryz.isAgg265
 z53:=Tryz.sizeOf265
 v53:=Tryz.zeroValue265
 t57:=Tryz.underlying239
 a57:=Tryz.isAgg239
 z57:=Tryz.sizeOf239
 v57:=Tryz.zeroValue239
 t63:=Tryz.underlying283
 a63:=Tryz.isAgg283
 z63:=Tryz.sizeOf283
 v63:=Tryz.zeroValue283
 t64:=Tryz.underlying134
 a64:=Tryz.isAgg134
 z64:=Tryz.sizeOf134
 v64:=Tryz.zeroValue134}
def Tryz.keysF_ren:Go.Shelf.Ren:=⟨fun |7=>70 |10=>103 |n=>n,fun |23=>79 |26=>3 |3=>145 |28=>131 |0=>0 |27=>130 |33=>169 |4=>4 |n=>n,fun |n=>n⟩
theorem Tryz.keysF:Go.Proofs.SlLaysZI.n7 Tryz.prog Tryz.keysF_ren:={
 mixed:=by kernel_rfl
 f7:=⟨Tryz.f70.name,by decide,Tryz.func70.trans (congrArg some (by kernel_rfl))⟩
 f10:=⟨Tryz.f103.name,by decide,Tryz.func103.trans (congrArg some (by kernel_rfl))⟩
 t0:=Tryz.underlying0
 a0:=Tryz.isAgg0
 z0:=Tryz.sizeOf0
 v0:=Tryz.zeroValue0
 t4:=Tryz.underlying4
 a4:=Tryz.isAgg4
 z4:=Tryz.sizeOf4
 v4:=Tryz.zeroValue4
 t23:=Tryz.underlying79
 a23:=Tryz.isAgg79
 z23:=Tryz.sizeOf79
 v23:=Tryz.zeroValue79
 t26:=Tryz.underlying3
 a26:=Tryz.isAgg3
 z26:=Tryz.sizeOf3
 v26:=Tryz.zeroValue3
 t27:=Tryz.underlying130
 a27:=Tryz.isAgg130
 z27:=Tryz.sizeOf130
 v27:=Tryz.zeroValue130
 t28:=Tryz.underlying131
 a28:=Tryz.isAgg131
 z28:=Tryz.sizeOf131
 v28:=Tryz.zeroValue131
 t33:=Tryz.underlying169
 a33:=Tryz.isAgg169
 z33:=Tryz.sizeOf169
 v33:=Tryz.zeroValue169}
end Go.Proofs
namespace Go.Proofs.YtkcpclmkbmeigaaGreat.Fd
open Go.RowKit Gm Go.Maps Go.Sort Go.Shelf
def getK (K:List CL) (k:ByteArray):ByteArray × Bool:=match isK K k,K[plc K k]? with
 | true,some c=>(c.2,true)
 | _,_=>(⟨#[]⟩,false)
theorem getK_yes {K:List CL} (hr:Ris K) {c:CL} (h:c∈K):getK K c.1=(c.2,true):=by
 obtain⟨h1,h2⟩:=isK_of hr h
 unfold getK
 rw[h1,h2]
theorem getK_no {K:List CL} (hr:Ris K) {k:ByteArray} (h:∀ c∈K,c.1≠k):getK K k=(⟨#[]⟩,false):=by
 have:isK K k=false:=by
  cases e:isK K k with
  | false=>rfl
  | true=>obtain⟨c,hc,e2⟩:=(isK_iff hr).1 e;exact absurd e2 (h c hc)
 unfold getK
 rw[this]
section
variable {W:Nat->Prop}{w w':World}{fb bw:Nat}{v:Value}{K:List CL}{L:List Dv}{G:List Gt}{n:Int}
theorem Get_any (h:Fo W w fb K G n) (key:ByteArray) (hn:K.length<=1000):Calls Tryz.prog 34 #[.pointer (some ⟨fb,0,none⟩),.string key] w fun e w'=>e=.returned (.tuple #[.string (getK K key).1,.bool (getK K key).2])/\Below w.heap.size w w':=by
 obtain⟨v,bw,L,hI,rfl⟩:=h.ex
 obtain⟨a,c,ea,_⟩:=hI.row.sl
 rw[List.length_map] at ea
 subst ea
 have CM:=isMade_ok hI.is
 have CF:Hid (Calls Tryz.prog 68 #[.pointer (some ⟨fb,0,none⟩),.string key] w fun e w'=>e=.returned (.tuple #[.int .i64 (plc K key:Nat),.bool (isK K key)])/\Below w.heap.size w w'):=find_any hI.up hn hI.is hI.row key
 have HI:Hid (∀ wx,Below w.heap.size w wx->wx.cell? ⟨fb,0,none⟩=some (.slice a K.length c)):=fun wx hb=>(hI.is.bel hb).c 0
 cases hk:isK K key with
 | false =>
  have e9:getK K key=(⟨#[]⟩,false):=by unfold getK;rw[hk]
  rw[e9]
  rw[hk] at CF
  clear h hI e9 hk
  generalize plc K key=pl at *
  go_enter Tryz.func34,Tryz.ntmps34
  go_wp2_with first
   | (go_at_call 65;refine CM.mono ?_;rintro e w2 ⟨rfl,rfl⟩)
   | (go_at_call 68;refine CF.out.mono ?_;rintro e w3 ⟨rfl,b3⟩)
  go_ret2
  exact⟨rfl,b3⟩
 | true =>
  obtain⟨hp,hq⟩:=isK_at hk
  have e9:getK K key=(K[plc K key].2,true):=by unfold getK;rw[hk,List.getElem?_eq_getElem hp]
  rw[e9]
  rw[hk] at CF
  obtain⟨g,rfl,hg,hcell⟩:=row_at hI.row hp
  have HC:Hid (∀ wx,Below w.heap.size w wx->wx.cell? ⟨g,plc K key*2+1,none⟩=some (.string K[plc K key].2)):=fun wx hb=>(hcell wx hb).2
  clear h hI e9 hk hcell hq
  generalize K[plc K key].2=val at *
  have hpI:((plc K key:Nat):Int)<(K.length:Int):=by omega
  generalize plc K key=pl at *
  go_enter Tryz.func34,Tryz.ntmps34
  go_wp2_with first
   | (go_at_call 65;refine CM.mono ?_;rintro e w2 ⟨rfl,rfl⟩)
   | (go_at_call 68;refine CF.out.mono ?_;rintro e w3 ⟨rfl,b3⟩;have k0:=HI.out _ b3;have k1:=HC.out _ b3;have k0':w3.drew.cell? ⟨fb,0,none⟩=some (.slice (some ⟨g,0,none⟩) K.length c):=k0;have k1':w3.drew.cell? ⟨g,pl*2+1,none⟩=some (.string val):=k1)
  all_goals go_ret2
  exact⟨rfl,b3⟩
theorem Count_any (h:Fo W w fb K G n):Calls Tryz.prog 36 #[.pointer (some ⟨fb,0,none⟩)] w fun e w'=>e=.returned (.int .i64 n)/\w'=w:=by
 obtain⟨v,bw,L,hI,rfl⟩:=h.ex
 have C:=isMade_ok hI.is
 have c2:w.cell? ⟨fb,2,none⟩=some (.int .i64 n):=hI.is.c 2
 clear h hI
 go_enter Tryz.func36,Tryz.ntmps36
 go_wp2_with (go_at_call 65;refine C.mono ?_;rintro e w2 ⟨rfl,rfl⟩)
 go_ret
 exact⟨rfl,rfl⟩
structure ClE (w:World) (e:Ending) (w':World) (K:List CL):Prop where
 ex:∃ v,e=.returned v/\Row w' 73 2 v (K.map encC)/\∀ g,v.ownBlock=some g->w.heap.size<=g
 bel:Below w.heap.size w w'
theorem bC0 (w:World):(Instr.buildSlice 58 0 #[]).run Tryz.prog w=.ok (.slice (some ⟨w.heap.size,0,none⟩) 0 0) (w.alloc (.cells #[] 73)):=by kernel_rfl
theorem Clone_nil (w:World):Calls Tryz.prog 69 #[.slice none 0 0] w fun e w'=>e=.returned (.slice none 0 0)/\w'=w:=by
 have he:∀ w,(binOp .eql 58 (.slice none 0 0) (.slice none 0 0)).run Tryz.prog w=.ok (.bool true) w:=fun w=>by
  have:=Lib.run_eql_slice_nil (P:=Tryz.prog) w 58 _ none 0 0 0 0 Tryz.underlying58
  simpa using this
 go_enter Tryz.func69,Tryz.ntmps69
 go_wp2
 go_ret
 exact⟨rfl,rfl⟩
theorem Clone_row (h:Row w 73 2 v (K.map encC)) (hn:K.length<=90000):Calls Tryz.prog 69 #[v] w fun e w'=>ClE w e w' K:=by
 rcases h.row.2 with⟨rfl,h0⟩ |⟨g,cap,cur,rfl,hB,hg,h3,h4,h5,h6⟩
 ·have hK:K=[]:=List.eq_nil_of_length_eq_zero (by rw[List.length_map] at h0;exact h0)
  subst hK
  refine(Clone_nil w).mono ?_
  rintro e w' ⟨rfl,rfl⟩
  exact⟨⟨_,rfl,Row.nil _ _ _,fun g e=>by cases e⟩,Below.refl _ _⟩
 ·have HC:Hid (∀ wx,Below w.heap.size w wx->∀ j u,(K.map encC).flatten[j]?=some u->wx.cell? ⟨g,0+j,none⟩=some u):=fun wx hb j u hu=>by
   have:=(h.bel hb).seg (A:=[]) (M:=K.map encC) (R:=[]) (by simp) j u hu
   simpa using this
  have he:∀ w a n c,(binOp .eql 58 (.slice (some a) n c) (.slice none 0 0)).run Tryz.prog w=.ok (.bool false) w:=fun w a n c=>by
   have:=Lib.run_eql_slice_nil (P:=Tryz.prog) w 58 _ (some a) n c 0 0 Tryz.underlying58
   simpa using this
  have HN:Hid (K.length<=90000):=hn
  have Hm:Hid ((K.map encC).length=K.length):=List.length_map ..
  rw[Hm.out]
  clear h hB hg h3 h4 h5 h6 hn
  generalize K.length=m at *
  go_enter Tryz.func69,Tryz.ntmps69
  go_wp2_with first
   | (refine wpList_build0 _ rfl rfl bC0 ?_;intro w1 b1 N1)
   | (refine wpList_append elC (L:=[]) (M:=K.map encC) rfl _ _ rfl rfl (Row.empty N1.is) rfl Hm.out (enc_len K) (HC.out _ N1.bel) (flat_one K) (by have:=HN.out;have:=Hm.out;simp only[List.length_nil];omega) ?_;intro a2 c2 w2 A2)
  go_ret
  have A3:App w1 w2 73 2 (.slice (some ⟨b1,0,none⟩) 0 0) (.slice a2 m c2) (K.map encC):=by
   rw[show([]:List (List Value)).length+m=m from Nat.zero_add m] at A2
   exact A2
  clear A2
  refine⟨⟨.slice a2 m c2,rfl,A3.row,fun g e=>?_⟩,N1.bel.trans (A3.bel (fun g e=>by cases e;rw[N1.eq];exact Nat.le_refl _) N1.bel.size)⟩
  rcases A3.own with h |h
  ·rw[h] at e;cases e;rw[N1.eq];exact Nat.le_refl _
  ·rw[h] at e;cases e;exact N1.bel.size
theorem Cells_any (h:Fo W w fb K G n) (hn:K.length<=90000):Calls Tryz.prog 35 #[.pointer (some ⟨fb,0,none⟩)] w fun e w'=>ClE w e w' K:=by
 obtain⟨v,bw,L,hI,rfl⟩:=h.ex
 have C:=isMade_ok hI.is
 obtain⟨a,c,ea,_⟩:=hI.row.sl
 rw[List.length_map] at ea
 subst ea
 have CC:=Clone_row hI.row hn
 have c0:w.cell? ⟨fb,0,none⟩=some (.slice a K.length c):=hI.is.c 0
 clear h hI
 generalize K.length=m at *
 go_enter Tryz.func35,Tryz.ntmps35
 go_wp2_with first
  | (go_at_call 65;refine C.mono ?_;rintro e w2 ⟨rfl,rfl⟩)
  | (go_at_call 69;refine CC.mono ?_;rintro e w3 ⟨⟨v3,rfl,q1,q2⟩,q3⟩;obtain⟨a3,c3,e3,_⟩:=q1.sl;rw[List.length_map] at e3;subst e3)
 go_ret
 exact⟨⟨_,rfl,q1,q2⟩,q3⟩
end
end Go.Proofs.YtkcpclmkbmeigaaGreat.Fd
