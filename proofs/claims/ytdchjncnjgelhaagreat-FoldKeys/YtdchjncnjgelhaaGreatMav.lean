import Derived.Test.YtdchjncnjgelhaaGreatMau
import Derived.BigRegion
import Derived.Test.YtdchjncnjgelhaaGreatMaa
import Derived.Test.YtdchjncnjgelhaaGreatMad
import Derived.WalkSpells
import Derived.SizedLaws
import Derived.Deep.Slices
import Derived.OpenShut
import Derived.BigQuiet
set_option linter.unusedVariables false
set_option linter.unusedSimpArgs false
set_option maxRecDepth 100000
namespace Go.Proofs.YtdchjncnjgelhaaGreat.Lg
open Go.RowKit Go.Maps Go.ChangeMaps
open Gm (thn bl1 bdr)
def rcd (fs:List ByteArray) (i:Nat):Sc:=(recF (fs.getD i ⟨#[]⟩)).s
theorem rcd_at {fs:List ByteArray} {i:Nat} (h:i<fs.length):(recF fs[i]).s=rcd fs i:=by
 unfold rcd
 rw[List.getD_eq_getElem?_getD,List.getElem?_eq_getElem h]
 rfl
section
theorem i1:(Tryz.prog.info? 3).map (·.size)=some 1:=by kernel_rfl
end
open Go.RowKit Gm Go.Maps Go.Sort Go.Shelf
def wfI (t:Int):Prop:=(Lit.int .i64 t).wf=true
theorem wfI_of {t:Int} (h0:0<=t) (h1:t<281474976710656):wfI t:=by
 have h2:IntKind.i64.min=-9223372036854775808:=by decide
 have h3:IntKind.i64.max=9223372036854775807:=by decide
 show(decide (IntKind.i64.min<=t)&&decide (t<=IntKind.i64.max))=true
 rw[h2,h3,Bool.and_eq_true,decide_eq_true_eq,decide_eq_true_eq]
 omega
theorem rdM_tx (t:ByteArray):0<=(rdM t).1.s.tx/\(rdM t).1.s.tx<281474976710656:=by
 unfold rdM rdK rdChg
 dsimp only
 repeat' split
 all_goals first |exact⟨nN_nonneg _ _,nN_lt _ _⟩ |exact⟨show(0:Int)<=0 by decide,show(0:Int)<281474976710656 by decide⟩
theorem zM_tx:wfI zM.s.tx:=wfI_of (show(0:Int)<=0 by decide) (show(0:Int)<281474976710656 by decide)
theorem ofM_tx (t:ByteArray):wfI (ofM t).1.s.tx:=by
 obtain⟨h1,h2⟩:=rdM_tx t
 unfold ofM
 split
 ·exact zM_tx
 ·split
  ·exact wfI_of h1 h2
  ·exact zM_tx
theorem openM_tx (s:ByteArray) (a:Int):wfI (openM s a).1.s.tx:=by
 unfold openM
 generalize frM (s.extract a.toNat s.size)=p
 split
 ·exact zM_tx
 ·split
  ·exact zM_tx
  ·split
   ·exact zM_tx
   ·exact ofM_tx p.1
theorem recF_tx (f:ByteArray):wfI (recF f).s.tx:=openM_tx f 0
theorem rcd_tx (fs:List ByteArray) (i:Nat):wfI (rcd fs i).tx:=recF_tx _
end Go.Proofs.YtdchjncnjgelhaaGreat.Lg
namespace Go.Proofs.YtdchjncnjgelhaaGreat.Fd
open Go.RowKit Gm Go.Maps
def toR (s:Sc):Rc:=⟨s.kd,s.tx,s.pv,s.pg,s.ac,s.ky,s.ol,s.nw,s.nx,s.ep,s.nd⟩
theorem toR_A (s:Sc) (I T:Value):(toR s).A I T=s.A I T:=rfl
def rcO (fs:List ByteArray) (i:Nat):Rc:=toR (Lg.rcd fs i)
def fsF (fs:List ByteArray):Nat->Fs
 | 0=>⟨[],[],0⟩
 | i+1=>noteF (fsF fs i) (rcO fs i)
def fsP (fs:List ByteArray):Nat->Ps
 | 0=>⟨[],[],0⟩
 | i+1=>noteP (fsP fs i) (rcO fs i)
theorem frm_ref {f:ByteArray} (h:Frm f):refM (recF f)=0:=by
 obtain⟨m,Z,hb,rfl⟩:=h.ex
 have h0:=open_frame hb ⟨#[]⟩ ⟨#[]⟩
 rw[nil_app,app_nil] at h0
 have h1:openM (frameB Z) 0=(cleanM m,6+(Z.size:Int),0):=h0
 have e:recF (frameB Z)=cleanM m:=by unfold recF;rw[h1]
 rw[e]
 refine Classical.byContradiction fun hne=>?_
 rw[bodyM_ref hne] at hb
 exact hne (Prod.mk.inj hb).2
structure RcW (r:Rc):Prop where
 w:wfR r
 t:wfT r.tx
 k:r.ky.size<=9223372036854775807
theorem rcO_w {fs:List ByteArray} (hf:∀ f∈fs,Frm f) {i:Nat} (hi:i<fs.length):RcW (rcO fs i):=by
 have h:=frm_ref (hf _ (List.getElem_mem hi))
 have e:Lg.rcd fs i=(recF fs[i]).s:=(Lg.rcd_at hi).symm
 unfold refM at h
 split at h
 ·exact absurd h (by decide)
 ·split at h
  ·exact absurd h (by decide)
  ·split at h
   ·exact absurd h (by decide)
   ·rename_i h1 h2 h3
    refine⟨fun h6=>?_,Lg.rcd_tx fs i,?_⟩
    ·have h6:(recF fs[i]).s.kd=6:=by rw[← e];exact h6
     unfold formed at h2
     rw[if_neg (by omega),if_neg (by omega),if_pos h6] at h2
     show(Lg.rcd fs i).ac=3∨(Lg.rcd fs i).ac=4∨(Lg.rcd fs i).ac=5
     rw[e]
     simp at h2
     omega
    ·show(Lg.rcd fs i).ky.size<=_
     rw[e]
     omega
theorem rel_fs {fs:List ByteArray} (hf:∀ f∈fs,Frm f):∀ i,i<=fs.length->Rel (fsF fs i) (fsP fs i)
 | 0,_=>Rel.start
 | i+1,h=>(rel_fs hf i (by omega)).note (rcO_w hf (i:=i) (by omega)).w
end Go.Proofs.YtdchjncnjgelhaaGreat.Fd
namespace Go.Proofs.YtdchjncnjgelhaaGreat.Lg
open Go.RowKit Go.Maps Go.ChangeMaps
section
variable {H:Type}{enc:TypeId × Value->H}{w:World}
theorem open_imgsL {fuel:Nat} {cs:List Value} {x:DataW H × List MemPlace} (h:DataW.trod enc Tryz.prog w 0 (fun _=>true) true fuel 52 cs=some x) :
  ∃ v l,cs=[v]/\SlI w v l/\l.length<=9223372036854775807/\∀ p∈l,p.2.size<=9223372036854775807:=by
 rcases Go.Deep.open_slice Tryz.underlying52 h with⟨hcs,_⟩ |⟨ad,len,cap,m,n,D,Pl,hcs,_,hl,hm,hmm,_,hall⟩
 ·exact⟨_,[],hcs,SlI.nil w,Nat.zero_le _,fun p hp=>by cases hp⟩
 ·rw[if_pos rfl] at hmm
  subst hmm
  have h2:Tryz.prog.cellsOf 266=2:=by kernel_rfl
  have h3:Tryz.prog.cellsOf 3=1:=by kernel_rfl
  have h9:Tryz.prog.cellsOf 9=1:=by kernel_rfl
  have each:∀ i,i<m->∃ q:Im,(w.cell? (ad.add (i*2))=some (.int .i64 q.1)/\w.cell? (ad.add (i*2+1))=some (.string q.2))/\q.2.size<=9223372036854775807:=by
   intro i hi
   obtain⟨cs',g1,g2⟩:=hall i hi
   rw[h2] at g1
   obtain⟨_,hlen,hcell⟩:=World.cells?_some g1
   obtain⟨xs,k,hk,_,_,hxl,hf⟩:=DataW.trod_struct Tryz.underlying266 g2
   match xs,hxl,cs',hlen with
   | [y0,y1],_,[v0,v1],_ =>
    have e0:=hcell 0 (by omega)
    have e1:=hcell 1 (by omega)
    rw[Go.Deep.add_add] at e0 e1
    have f0:=hf 0 _ rfl
    have f1:=hf 1 _ rfl
    simp[h3,h9] at f0 f1
    obtain⟨n0,i0,_,_⟩:=DataW.trod_int Tryz.underlying3 f0
    obtain⟨s1,i1,_,z1⟩:=DataW.trod_string Tryz.underlying9 f1
    simp at i0 i1
    subst i0 i1
    exact⟨(n0,s1),⟨by simpa using e0,by simpa using e1⟩,z1⟩
  haveI:Inhabited Im:=⟨(0,⟨#[]⟩)⟩
  obtain⟨q,hq⟩:=Go.Deep.choose_lt each
  have hlm:len<=m:=hl
  have hz:((List.range len).map q).length=len:=by simp
  obtain⟨b,off,spot⟩:=ad
  have hsp:0<m->spot=none:=fun hi=>by
   have g0:=(hq 0 hi).1.1
   simpa[Addr.add] using World.cell?_spot g0
  refine⟨_,(List.range len).map q,hcs,⟨some ⟨b,off,spot⟩,m,by rw[hz],?_,(fun e=>by cases e),by rw[hz];exact hl,?_⟩,by rw[hz];exact Nat.le_trans hl hm,?_⟩
  ·refine⟨fun i hi=>?_⟩
   rw[encI_length,hz] at hi
   have:=hsp (by omega)
   subst this
   obtain⟨⟨g1,g2⟩,_⟩:=hq i (by omega)
   have hadd:∀ k,(⟨b,off,none⟩:Addr).add k=⟨b,off+k,none⟩:=fun k=>by unfold Addr.add;split <;> simp_all
   rw[hadd] at g1 g2
   refine⟨b,off,rfl,?_,?_,?_⟩
   ·rcases Nat.lt_or_ge b w.heap.size with h' |h'
    ·exact h'
    ·simp[World.cell?,Array.getElem?_eq_none h'] at g1
   ·simpa[encI] using g1
   ·simpa[encI,Nat.add_assoc] using g2
  ·intro hne ad' e
   cases e
   have:0<len:=by
    rcases Nat.eq_zero_or_pos len with h0 |h0
    ·subst h0;exact absurd rfl hne
    ·exact h0
   exact hsp (by omega)
  ·intro p hp
   obtain⟨i,hi,rfl⟩:=List.mem_map.1 hp
   exact(hq i (by have:=List.mem_range.1 hi;omega)).2
theorem open_tabsL {fuel:Nat} {cs:List Value} {x:DataW H × List MemPlace} (h:DataW.trod enc Tryz.prog w 0 (fun _=>true) true fuel 35 cs=some x) :
  ∃ v l,cs=[v]/\SlT w v l/\l.length<=9223372036854775807:=by
 rcases Go.Deep.open_slice Tryz.underlying35 h with⟨hcs,_⟩ |⟨ad,len,cap,m,n,D,Pl,hcs,_,hl,hm,hmm,_,hall⟩
 ·exact⟨_,[],hcs,SlT.nil w,Nat.zero_le _⟩
 ·rw[if_pos rfl] at hmm
  subst hmm
  have h2:Tryz.prog.cellsOf 40=2:=by kernel_rfl
  have h3:Tryz.prog.cellsOf 3=1:=by kernel_rfl
  have each:∀ i,i<m->∃ q:Tb,w.cell? (ad.add (i*2))=some (.int .i64 q.1)/\w.cell? (ad.add (i*2+1))=some (.int .i64 q.2):=by
   intro i hi
   obtain⟨cs',g1,g2⟩:=hall i hi
   rw[h2] at g1
   obtain⟨_,hlen,hcell⟩:=World.cells?_some g1
   obtain⟨xs,k,hk,_,_,hxl,hf⟩:=DataW.trod_struct Tryz.underlying40 g2
   match xs,hxl,cs',hlen with
   | [y0,y1],_,[v0,v1],_ =>
    have e0:=hcell 0 (by omega)
    have e1:=hcell 1 (by omega)
    rw[Go.Deep.add_add] at e0 e1
    have f0:=hf 0 _ rfl
    have f1:=hf 1 _ rfl
    simp[h3] at f0 f1
    obtain⟨n0,i0,_,_⟩:=DataW.trod_int Tryz.underlying3 f0
    obtain⟨n1,i1,_,_⟩:=DataW.trod_int Tryz.underlying3 f1
    simp at i0 i1
    subst i0 i1
    exact⟨(n0,n1),by simpa using e0,by simpa using e1⟩
  haveI:Inhabited Tb:=⟨(0,0)⟩
  obtain⟨q,hq⟩:=Go.Deep.choose_lt each
  have hlm:len<=m:=hl
  have hz:((List.range len).map q).length=len:=by simp
  obtain⟨b,off,spot⟩:=ad
  have hsp:0<m->spot=none:=fun hi=>by
   have g0:=(hq 0 hi).1
   simpa[Addr.add] using World.cell?_spot g0
  refine⟨_,(List.range len).map q,hcs,⟨some ⟨b,off,spot⟩,m,by rw[hz],?_,(fun e=>by cases e),by rw[hz];exact hl,?_⟩,by rw[hz];exact Nat.le_trans hl hm⟩
  ·refine⟨fun i hi=>?_⟩
   rw[encT_length,hz] at hi
   have:=hsp (by omega)
   subst this
   obtain⟨g1,g2⟩:=hq i (by omega)
   have hadd:∀ k,(⟨b,off,none⟩:Addr).add k=⟨b,off+k,none⟩:=fun k=>by unfold Addr.add;split <;> simp_all
   rw[hadd] at g1 g2
   refine⟨b,off,rfl,?_,?_,?_⟩
   ·rcases Nat.lt_or_ge b w.heap.size with h' |h'
    ·exact h'
    ·simp[World.cell?,Array.getElem?_eq_none h'] at g1
   ·simpa[encT] using g1
   ·simpa[encT,Nat.add_assoc] using g2
  ·intro hne ad' e
   cases e
   have:0<len:=by
    rcases Nat.eq_zero_or_pos len with h0 |h0
    ·subst h0;exact absurd rfl hne
    ·exact h0
   exact hsp (by omega)
theorem open_recL {fuel:Nat} {cs:Array Value} {x:DataW H × List MemPlace} (hcs:cs.size=Tryz.prog.cellsOf 54)
  (h:DataW.trod enc Tryz.prog w 0 (fun _=>true) true fuel 54 cs.toList=some x):∃ m:Rm,RecV w (.agg cs) m/\Held m:=by
 have h13:Tryz.prog.cellsOf 54=13:=by kernel_rfl
 have h3:Tryz.prog.cellsOf 3=1:=by kernel_rfl
 have h9:Tryz.prog.cellsOf 9=1:=by kernel_rfl
 have hi:Tryz.prog.cellsOf 52=1:=by kernel_rfl
 have ht:Tryz.prog.cellsOf 35=1:=by kernel_rfl
 rw[h13] at hcs
 obtain⟨xs,k,hk,hx,_,hxl,hf⟩:=DataW.trod_struct Tryz.underlying54 h
 obtain⟨l⟩:=cs
 match xs,hxl,l,hcs with
 | [y0,y1,y2,y3,y4,y5,y6,y7,y8,y9,y10,y11,y12],_,[v0,v1,v2,v3,v4,v5,v6,v7,v8,v9,v10,v11,v12],_ =>
  have f0:=hf 0 _ rfl
  have f1:=hf 1 _ rfl
  have f2:=hf 2 _ rfl
  have f3:=hf 3 _ rfl
  have f4:=hf 4 _ rfl
  have f5:=hf 5 _ rfl
  have f6:=hf 6 _ rfl
  have f7:=hf 7 _ rfl
  have f8:=hf 8 _ rfl
  have f9:=hf 9 _ rfl
  have f10:=hf 10 _ rfl
  have f11:=hf 11 _ rfl
  have f12:=hf 12 _ rfl
  simp[h3,h9,hi,ht] at f0 f1 f2 f3 f4 f5 f6 f7 f8 f9 f10 f11 f12
  obtain⟨n0,i0,_,_⟩:=DataW.trod_int Tryz.underlying3 f0
  obtain⟨n1,i1,_,_⟩:=DataW.trod_int Tryz.underlying3 f1
  obtain⟨n2,i2,_,_⟩:=DataW.trod_int Tryz.underlying3 f2
  obtain⟨n3,i3,_,_⟩:=DataW.trod_int Tryz.underlying3 f3
  obtain⟨n4,i4,_,_⟩:=DataW.trod_int Tryz.underlying3 f4
  obtain⟨s5,i5,_,z5⟩:=DataW.trod_string Tryz.underlying9 f5
  obtain⟨s6,i6,_,z6⟩:=DataW.trod_string Tryz.underlying9 f6
  obtain⟨s7,i7,_,z7⟩:=DataW.trod_string Tryz.underlying9 f7
  obtain⟨n8,i8,_,_⟩:=DataW.trod_int Tryz.underlying3 f8
  obtain⟨w9,l9,i9,hI,zI,tI⟩:=open_imgsL f9
  obtain⟨w10,l10,i10,hT,zT⟩:=open_tabsL f10
  obtain⟨n11,i11,_,_⟩:=DataW.trod_int Tryz.underlying3 f11
  obtain⟨n12,i12,_,_⟩:=DataW.trod_int Tryz.underlying3 f12
  simp at i0 i1 i2 i3 i4 i5 i6 i7 i8 i9 i10 i11 i12
  subst i0 i1 i2 i3 i4 i5 i6 i7 i8 i9 i10 i11 i12
  exact⟨⟨⟨n0,n1,n2,n3,n4,s5,s6,s7,n8,n11,n12⟩,l9,l10⟩,⟨_,_,rfl,hI,hT⟩,⟨zI,zT,tI,z5,z6,z7⟩⟩
theorem mem_all {t:TypeId}:∀ {L:List (DataW H)} {d:DataW H},d∈L->∀ n∈d.weights Tryz.prog t,n∈DataW.weightsAll Tryz.prog t L
 | a :: L,d,h,n,hn=>by
  simp only[DataW.weightsAll,List.mem_append]
  rcases List.mem_cons.1 h with rfl |h
  ·exact Or.inl hn
  ·exact Or.inr (mem_all h n hn)
 | [],_,h,_,_=>by cases h
theorem im_fit {fuel:Nat} {v:Value} {l:List Im} {x:DataW H × List MemPlace} (h:DataW.trod enc Tryz.prog w 0 (fun _=>true) true fuel 52 [v]=some x) (hv:SlI w v l)
  (hw:∀ n∈x.1.weights Tryz.prog 52,n<=reachBytes):l.length*24<=140737488351232:=by
 obtain⟨a,c,e,-⟩:=hv.ex
 rcases Go.Deep.open_slice Tryz.underlying52 h with⟨hcs,_⟩ |⟨ad,len,cap,m,n,D,Pl,hcs,_,hl,hm,hmm,rfl,hall⟩
 ·rw[e] at hcs
  simp at hcs
  rw[hcs.2.1]
  exact Nat.zero_le _
 ·rw[e] at hcs
  simp at hcs
  obtain⟨_,e2,_⟩:=hcs
  have hb:Tryz.prog.bytesOf 266=24:=by kernel_rfl
  have:=hw ((((List.range len).map D).length+((List.range (m-len)).map fun j=>D (len+j)).length)*Tryz.prog.bytesOf 266) (by simp[DataW.weights,Tryz.underlying52])
  rw[hb,List.length_map,List.length_map,List.length_range,List.length_range] at this
  have h1:(len+(m-len))*24<=140737488351232:=this
  have hh:l.length<=len+(m-len):=by omega
  exact Nat.le_trans (Nat.mul_le_mul_right 24 hh) h1
theorem tb_fit {fuel:Nat} {v:Value} {l:List Tb} {x:DataW H × List MemPlace} (h:DataW.trod enc Tryz.prog w 0 (fun _=>true) true fuel 35 [v]=some x) (hv:SlT w v l)
  (hw:∀ n∈x.1.weights Tryz.prog 35,n<=reachBytes):l.length*16<=140737488351232:=by
 obtain⟨a,c,e,-⟩:=hv.ex
 rcases Go.Deep.open_slice Tryz.underlying35 h with⟨hcs,_⟩ |⟨ad,len,cap,m,n,D,Pl,hcs,_,hl,hm,hmm,rfl,hall⟩
 ·rw[e] at hcs
  simp at hcs
  rw[hcs.2.1]
  exact Nat.zero_le _
 ·rw[e] at hcs
  simp at hcs
  obtain⟨_,e2,_⟩:=hcs
  have hb:Tryz.prog.bytesOf 40=16:=by kernel_rfl
  have:=hw ((((List.range len).map D).length+((List.range (m-len)).map fun j=>D (len+j)).length)*Tryz.prog.bytesOf 40) (by simp[DataW.weights,Tryz.underlying35])
  rw[hb,List.length_map,List.length_map,List.length_range,List.length_range] at this
  have h1:(len+(m-len))*16<=140737488351232:=this
  have hh:l.length<=len+(m-len):=by omega
  exact Nat.le_trans (Nat.mul_le_mul_right 16 hh) h1
theorem rec_fit {fuel:Nat} {cs:Array Value} {m:Rm} {x:DataW H × List MemPlace} (hcs:cs.size=Tryz.prog.cellsOf 54)
  (h:DataW.trod enc Tryz.prog w 0 (fun _=>true) true fuel 54 cs.toList=some x) (hv:RecV w (.agg cs) m) (hh:Held m) (hw:∀ n∈x.1.weights Tryz.prog 54,n<=reachBytes):Small m:=by
 have h13:Tryz.prog.cellsOf 54=13:=by kernel_rfl
 have hi:Tryz.prog.cellsOf 52=1:=by kernel_rfl
 have ht:Tryz.prog.cellsOf 35=1:=by kernel_rfl
 obtain⟨I,T,e,hI,hT⟩:=hv.ex
 injection e with e
 subst e
 obtain⟨xs,k,hk,hx,_,hxl,hf⟩:=DataW.trod_struct Tryz.underlying54 h
 match xs,hxl with
 | [y0,y1,y2,y3,y4,y5,y6,y7,y8,y9,y10,y11,y12],_ =>
  have f9:=hf 9 _ rfl
  have f10:=hf 10 _ rfl
  simp[hi,ht,Sc.A] at f9 f10
  subst hx
  refine⟨im_fit f9 hI fun n hn=>hw n ?_,tb_fit f10 hT fun n hn=>hw n ?_,hh.t,hh.ky,hh.ol,hh.nw⟩
  ·simp only[DataW.weights,Tryz.underlying54]
   exact DataW.weights_mem_each (j:=9) rfl rfl n hn
  ·simp only[DataW.weights,Tryz.underlying54]
   exact DataW.weights_mem_each (j:=10) rfl rfl n hn
theorem open_recS {fuel:Nat} {a0:Option Addr} {n0 c0:Nat} {x:DataW H × List MemPlace} (h:DataW.trod enc Tryz.prog w 0 (fun _=>true) true fuel 43 [.slice a0 n0 c0]=some x)
  (hw:∀ n∈x.1.weights Tryz.prog 43,n<=reachBytes):∃ ms,RsV w a0 n0 ms/\n0<=9223372036854775807/\∀ m∈ms,Small m:=by
 rcases Go.Deep.open_slice Tryz.underlying43 h with⟨hcs,_⟩ |⟨ad,len,cap,m,n,D,Pl,hcs,_,hl,hm,hmm,rfl,hall⟩
 ·simp at hcs
  obtain⟨rfl,rfl,rfl⟩:=hcs
  exact⟨[],⟨rfl,fun i hi=>absurd hi (Nat.not_lt_zero _)⟩,by omega,fun m hm=>by cases hm⟩
 ·simp at hcs
  obtain⟨rfl,rfl,rfl⟩:=hcs
  rw[if_pos rfl] at hmm
  subst hmm
  have h13:Tryz.prog.cellsOf 54=13:=by kernel_rfl
  have each:∀ i,i<m->∃ q:Rm,(∃ I T,(∀ j u,((q.s.A I T).toList)[j]?=some u->w.cell? ((ad.add (i*13)).add j)=some u)/\RecV w (.agg (q.s.A I T)) q)/\Held q/\(i<n0->Small q):=by
   intro i hi
   obtain⟨cs',g1,g2⟩:=hall i hi
   rw[h13] at g1
   obtain⟨_,hlen,hcell⟩:=World.cells?_some g1
   have g0:cs'.toArray.size=Tryz.prog.cellsOf 54:=by rw[h13];simpa using hlen
   have g3:DataW.trod enc Tryz.prog w 0 (fun _=>true) true n 54 cs'.toArray.toList=some (D i,Pl i):=by simpa using g2
   obtain⟨q,hv,hh⟩:=open_recL g0 g3
   have hsm:i<n0->Small q:=fun hi0=>rec_fit g0 g3 hv hh (fun k hk=>hw k (by
    simp only[DataW.weights,Tryz.underlying43]
    refine List.mem_cons_of_mem _ (List.mem_append_left _ (mem_all (d:=D i) (List.mem_map.2 ⟨i,List.mem_range.2 hi0,rfl⟩) k hk))))
   obtain⟨I,T,e,hI,hT⟩:=hv.ex
   refine⟨q,⟨I,T,fun j u hu=>?_,by rw[← e];exact hv⟩,hh,hsm⟩
   injection e with e
   rw[← e] at hu
   have hj:j<cs'.length:=by simpa using (List.getElem?_eq_some_iff.1 hu).1
   have:=hcell j (by omega)
   rw[this]
   simpa using hu
  haveI:Inhabited Rm:=⟨zM⟩
  obtain⟨q,hq⟩:=Go.Deep.choose_lt each
  obtain⟨b,off,spot⟩:=ad
  have hlm:n0<=m:=hl
  refine⟨(List.range n0).map q,⟨by simp,fun i hi=>?_⟩,by have:=hm;unfold maxLen at this;omega,fun m' hm'=>by
   obtain⟨i,hi,rfl⟩:=List.mem_map.1 hm'
   have hi:=List.mem_range.1 hi
   exact(hq i (by omega)).2.2 hi⟩
  have hi':i<n0:=by simpa using hi
  obtain⟨⟨I,T,hc,hv⟩,hh,_⟩:=hq i (by omega)
  have hsp:spot=none:=by
   obtain⟨⟨I0,T0,hc0,_⟩,_⟩:=hq 0 (by omega)
   have:=hc0 0 (.int .i64 (q 0).s.kd) rfl
   simpa[Addr.add] using World.cell?_spot this
  subst hsp
  have hadd:∀ k,(⟨b,off,none⟩:Addr).add k=⟨b,off+k,none⟩:=fun k=>by unfold Addr.add;split <;> simp_all
  have hadd2:∀ k j,(⟨b,k,none⟩:Addr).add j=⟨b,k+j,none⟩:=fun k j=>by unfold Addr.add;split <;> simp_all
  have hget:((List.range n0).map q)[i]=q i:=by simp
  rw[hget]
  refine⟨b,off,I,T,rfl,?_,fun j u hu=>?_,hv,hh⟩
  ·have:=hc 0 (.int .i64 (q i).s.kd) rfl
   rw[hadd,hadd2] at this
   rcases Nat.lt_or_ge b w.heap.size with h' |h'
   ·exact h'
   ·simp[World.cell?,Array.getElem?_eq_none h'] at this
  ·have:=hc j u hu
   rw[hadd,hadd2] at this
   exact this
end
open Gm (thn bl1 bdr)
section
variable {w w0 w':World}{W W':Nat->Prop}
theorem ge_sub (h2:∀ j,W j->w.heap.size<=j) (hs:w.heap.size<=w0.heap.size) (hf:Gm.Fr W W' w0 w'):∀ j,W' j->w.heap.size<=j:=fun j hj=>(hf.sub j hj).elim (h2 j) (fun e=>Nat.le_trans hs e)
end
end Go.Proofs.YtdchjncnjgelhaaGreat.Lg
