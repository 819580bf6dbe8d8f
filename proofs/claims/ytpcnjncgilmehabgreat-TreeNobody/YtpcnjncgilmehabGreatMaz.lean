import Derived.Test.YtpcnjncgilmehabGreatMay
import Derived.Deep.RegionHeldLaw
import Derived.Deep.DeepMust
set_option linter.unusedVariables false
set_option linter.unusedSimpArgs false
set_option maxRecDepth 100000
namespace Go.Proofs.YtpcnjncgilmehabGreat.Tr
open Go.RowKit Go.Maps Go.ChangeMaps
structure Pe (W:Nat->Prop) (w:World) (X:Ad) (k:Nat) (C:Cf) (st:Nat->Option Nat) (pn:Nat->Nat):Prop where
 ex:∃ B P,Sw B w X P W/\P.k<=k/\P.C=C/\P.st=st/\P.pn=pn/\P.S.set=false
def Vw (C:Cf) (st:Nat->Option Nat) (id:Nat):ByteArray:=txO C id (st id)
def addF (C:Cf) (f:ByteArray) (U:Nat->ByteArray) (st:Nat->Option Nat):Cf :=
 {C with fs:=C.fs++[f],T:=fun id l=>if l<=(cat C.fs).size then C.T id l else U id,pv:=fun id l=>if l<=(cat C.fs).size then C.pv id l else st id}
def nxt (C:Cf):Nat:=(cat C.fs).size+1
section
variable {W W':Nat->Prop}{w w':World}{X:Ad}{k k':Nat}{C:Cf}{st:Nat->Option Nat}{pn:Nat->Nat}
theorem Pe.lt (h:Pe W w X k C st pn) {j:Nat} (hj:W j):j<w.heap.size:=by obtain⟨B,P,h1,_⟩:=h.ex;exact h1.lt j hj
theorem Pe.below (h:Pe W w X k C st pn) (hb:Below w.heap.size w w'):Pe W w' X k C st pn:=by obtain⟨B,P,h1,h2⟩:=h.ex;exact⟨B,P,h1.below hb,h2⟩
theorem Pe.turn (h:Pe W w X k C st pn) (hO:∀ j,W j->w'.heap[j]?=w.heap[j]?) (hs:w.heap.size<=w'.heap.size):Pe W w' X k C st pn:=by obtain⟨B,P,h1,h2⟩:=h.ex;exact⟨B,P,h1.turn hO hs,h2⟩
theorem Pe.mono (h:Pe W w X k C st pn) (hk:k<=k'):Pe W w X k' C st pn:=by obtain⟨B,P,h1,h2,h3⟩:=h.ex;exact⟨B,P,h1,Nat.le_trans h2 hk,h3⟩
theorem Pe.any_ (h:Pe W w X k C st pn):∃ (I:Inhabited PrSet) (B:Nat) (P:Px),@Pv I B w X P.k P.S P.C P.sure P.G P.st P.pn P.pg/\P.C=C/\P.st=st/\P.pn=pn:=by
 obtain⟨B,P,h1,h2,h3,h4,h5,h6⟩:=h.ex
 exact⟨⟨⟨fun _=>none⟩⟩,B,P,h1.go ⟨⟨fun _=>none⟩⟩ w (fun _ _=>rfl) (Nat.le_refl _) (fun j _ e=>e rfl) (fun j o e=>by cases e),h3,h4,h5⟩
theorem Pe.fit (h:Pe W w X k C st pn):Fit C.sc C.fs:=by obtain⟨I,B,P,hv,rfl,rfl,rfl⟩:=h.any_;exact hv.q.lv.fit
theorem Pe.sl (h:Pe W w X k C st pn) {id r:Nat} (hid:id<C.ps) (hr:st id=some r):1<=r/\r<=(cat C.fs).size/\C.lo id<=r:=by obtain⟨I,B,P,hv,rfl,rfl,rfl⟩:=h.any_;exact hv.v.sl id hid r hr
theorem Pe.op {fn:Nat} {args:Array Value} {A:Obj->Prop} {R:Ending->Cf->(Nat->Option Nat)->(Nat->Nat)->Prop} (h:Pe W w X k C st pn) (d:Nat)
  (hop:∀ (I:Inhabited PrSet) (B k0:Nat) (S:Dk) (sure:Nat) (G:Gp) (pg:Nat->Option Nat),@Pv I B w X k0 S C sure G st pn pg->S.set=false->k0<=k->Calls Tryz.prog fn args w fun e w'=>∃ k1 S1 C1 s1 G1 st1 pn1 pg1,R e C1 st1 pn1/\@Pv I B w' X k1 S1 C1 s1 G1 st1 pn1 pg1/\@Kp I A B w w'/\S1.set=false/\k1<=k+d) :
  Calls Tryz.prog fn args w fun e w'=>∃ C1 st1 pn1,R e C1 st1 pn1/\∃ W',Pe W' w' X (k+d) C1 st1 pn1/\Fr W W' w w':=by
 obtain⟨B,P,h1,h2,rfl,rfl,rfl,h6⟩:=h.ex
 refine(Sw.op (A:=A) (R:=fun e P'=>R e P'.C P'.st P'.pn/\P'.S.set=false/\P'.k<=k+d) (L:=fun _ _=>False) h1 (fun I hv=>(hop I B P.k P.S P.sure P.G P.pg hv h6 h2).mono ?_)).mono ?_
 ·rintro e w' ⟨k1,S1,C1,s1,G1,st1,pn1,pg1,r1,r2,r3,r4,r5⟩
  exact Or.inl ⟨⟨k1,S1,C1,s1,G1,st1,pn1,pg1⟩,⟨r1,r4,r5⟩,r2,r3⟩
 ·rintro e w' (⟨P',⟨r1,r4,r5⟩,W',hW,hF⟩ |hf)
  ·exact⟨_,_,_,r1,W',⟨B,P',hW,r5,rfl,rfl,rfl,r4⟩,hF⟩
  ·exact absurd hf id
theorem Pe.get (h:Pe W w X k C st pn) (hk:k<=290000000000) (hp:∀ d,pn d=0) (id:Nat) (hid:id<C.ps):Calls Tryz.prog 100 #[.pointer (some ⟨X.pb,0,none⟩),.int .i64 (id:Int)] w fun e w'=>e=.returned (.tuple #[.string (Vw C st id),.int .i64 (lnO (st id)),.int .i64 0])/\∃ W',Pe W' w' X (k+8006) C st pn/\Fr W W' w w':=by
 refine(Pe.op (A:=isQ) (R:=fun e C1 st1 pn1=>e=.returned (.tuple #[.string (Vw C st id),.int .i64 (lnO (st id)),.int .i64 0])/\C1=C/\st1=st/\pn1=pn) h 8006 (fun I B k0 S sure G pg hv hs hk0=>(Get_v hv (by omega) hp id hid).mono ?_)).mono ?_
 ·rintro e w' ⟨t,l,y,he,hG⟩
  by_cases hy:y=0
  ·obtain⟨e1,e2,S',s',G',pg',hv',hc,hK⟩:=hG.ok hy
   exact⟨_,_,_,_,_,_,_,_,⟨by rw[he,e1,e2,hy];rfl,rfl,rfl,rfl⟩,hv',hK,hc hs,by omega⟩
  ·obtain⟨_,_,_,hl⟩:=hG.bad hy
   rw[hl.set] at hs;cases hs
 ·rintro e w' ⟨C1,st1,pn1,⟨he,rfl,rfl,rfl⟩,hW⟩
  exact⟨he,hW⟩
theorem Pe.set (h:Pe W w X k C st pn) (hk:k<=290000000000) (id:Nat) (hid:id<C.ps) (hp:(∀ d,pn d=0)∨pn id≠0) (r:Nat) (hr:1<=r/\r<=(cat C.fs).size/\C.lo id<=r) (hpv:C.pv id r=st id) (hst:∀ r0,st id=some r0->r0<=r):Calls Tryz.prog 43 #[.pointer (some ⟨X.pb,0,none⟩),.int .i64 (id:Int),.string (C.T id r),.int .i64 (r:Int)] w fun e w'=>e=.returned (.int .i64 0)/\∃ W',Pe W' w' X (k+8006) C (upd st id (some r)) pn/\Fr W W' w w':=by
 refine(Pe.op (A:=isQ) (R:=fun e C1 st1 pn1=>e=.returned (.int .i64 0)/\C1=C/\st1=upd st id (some r)/\pn1=pn) h 8006 (fun I B k0 S sure G pg hv hs hk0=>(Set_any hv (by omega) (id:Int) (C.T id r) (hv.q.ok.tz id r) (r:Int) (by omega)).mono ?_)).mono ?_
 ·rintro e w' ⟨y,he,hG⟩
  by_cases hy:y=0
  ·obtain⟨w1,j,S1,s1,G1,pg1,T,Q,K⟩:=hG.ok hy
   exact⟨_,_,_,_,_,_,_,_,⟨by rw[he,hy],rfl,rfl,rfl⟩,⟨Q,T.v.p,T.v.v.setp T.hj T.has hr hpv hst⟩,K,T.cm hs,by omega⟩
  ·exfalso
   rcases (hG.bad hy).or with⟨_,h2,_⟩ |⟨_,_,h3,h4,_⟩ |⟨_,_,h3⟩
   ·omega
   ·rcases hp with hp |hp
    ·have hn:=hv.q.po.n1
     exact h4 0 (by omega) (hv.free hp (by omega))
    ·obtain⟨j,hj,hh⟩:=hv.v.np id hid hp
     exact h3 j hj hh
   ·rw[h3.set] at hs;cases hs
 ·rintro e w' ⟨C1,st1,pn1,⟨he,rfl,rfl,rfl⟩,hW⟩
  exact⟨he,hW⟩
theorem Pe.pin (h:Pe W w X k C st pn) (hk:k<=290000000000) (hp:∀ d,pn d<=1000) (id:Nat) (hid:id<C.ps):Calls Tryz.prog 102 #[.pointer (some ⟨X.pb,0,none⟩),.int .i64 (id:Int)] w fun e w'=>∃ y,e=.returned (.int .i64 y)/\((y=0/\∃ W',Pe W' w' X (k+8006) C st (upd pn id (pn id+1))/\Fr W W' w w')∨(y=7/\∃ W',Pe W' w' X (k+8006) C st pn/\Fr W W' w w')):=by
 refine(Pe.op (A:=isQ) (R:=fun e C1 st1 pn1=>C1=C/\st1=st/\((e=.returned (.int .i64 0)/\pn1=upd pn id (pn id+1))∨(e=.returned (.int .i64 7)/\pn1=pn))) h 8006 (fun I B k0 S sure G pg hv hs hk0=>(Pin_any hv (by omega) (id:Int) hp).mono ?_)).mono ?_
 ·rintro e w' ⟨y,he,hG⟩
  by_cases hy:y=0
  ·obtain⟨w1,d,j,S1,s1,G1,pg1,e1,e2,T,hv',K⟩:=hG.ok hy
   obtain rfl:d=id:=by omega
   exact⟨_,_,_,_,_,_,_,_,⟨rfl,rfl,Or.inl ⟨by rw[he,hy],rfl⟩⟩,hv',K,T.cm hs,by omega⟩
  ·rcases (hG.bad hy).or with⟨_,h2,_⟩ |⟨h1,_,h3,h4,hb⟩ |⟨_,_,h3⟩
   ·omega
   ·exact⟨_,_,_,_,_,_,_,_,⟨rfl,rfl,Or.inr ⟨by rw[he,h1],rfl⟩⟩,hv.below hb,Kp.of_below hb hv.q.le,hs,by omega⟩
   ·rw[h3.set] at hs;cases hs
 ·rintro e w' ⟨C1,st1,pn1,⟨rfl,rfl,(⟨he,rfl⟩ |⟨he,rfl⟩)⟩,hW⟩
  ·exact⟨0,he,Or.inl ⟨rfl,hW⟩⟩
  ·exact⟨7,he,Or.inr ⟨rfl,hW⟩⟩
theorem Pe.unpin (h:Pe W w X k C st pn) (id:Nat) (hid:id<C.ps) (hz:pn id≠0) (hb:pn id<=1000):Calls Tryz.prog 104 #[.pointer (some ⟨X.pb,0,none⟩),.int .i64 (id:Int)] w fun e w'=>e=.returned (.int .i64 0)/\∃ W',Pe W' w' X k C st (upd pn id (pn id-1))/\Fr W W' w w':=by
 refine(Pe.op (A:=isQ) (R:=fun e C1 st1 pn1=>e=.returned (.int .i64 0)/\C1=C/\st1=st/\pn1=upd pn id (pn id-1)) h 0 (fun I B k0 S sure G pg hv hs hk0=>(Unpin_ok hv id hid hz hb).mono ?_)).mono ?_
 ·rintro e w' ⟨he,j,hj,hh,hv',K⟩
  exact⟨_,_,_,_,_,_,_,_,⟨he,rfl,rfl,rfl⟩,hv',K,hs,by omega⟩
 ·rintro e w' ⟨C1,st1,pn1,⟨he,rfl,rfl,rfl⟩,hW⟩
  exact⟨he,hW⟩
theorem Pe.pages (h:Pe W w X k C st pn):Calls Tryz.prog 30 #[.pointer (some ⟨X.pb,0,none⟩)] w fun e w'=>e=.returned (.int .i64 (C.ps:Int))/\w'=w:=by
 obtain⟨I,B,P,hv,rfl,rfl,rfl⟩:=h.any_
 exact Pages_po hv.q.po hv.q.st
theorem addF_ext (C:Cf) (f:ByteArray) (U:Nat->ByteArray) (st:Nat->Option Nat):C.Ext (addF C f U st):=⟨rfl,rfl,rfl,rfl,rfl,rfl,rfl,⟨[f],rfl⟩,fun id l _ hl=>if_pos hl,fun id l _ hl=>if_pos hl,fun _ _=>rfl⟩
theorem Pe.append (h:Pe W w X k C st pn) {v:Value} {m:Rm} (hv:RecV w v m) (hm:Small m) (U:Nat->ByteArray) (hU:∀ id,(U id).size=224):Calls Tryz.prog 67 #[.pointer (some ⟨X.l,0,none⟩),v] w fun e w'=>∃ x y:Int,e=.returned (.tuple #[.int .i64 x,.int .i64 y]) /\
    ((y=0/\x=(nxt C:Nat)/\(frameM m).2=0/\(cat C.fs).size+(frameM m).1.size<=58*C.sc/\∃ W',Pe W' w' X k (addF C (frameM m).1 U st) st pn/\Fr W W' w w') ∨
     (y≠0/\x=0/\(((frameM m).2≠0/\y=(frameM m).2)∨((frameM m).2=0/\y=7/\¬ (cat C.fs).size+(frameM m).1.size<=58*C.sc))/\∃ W',Pe W' w' X k C st pn/\Fr W W' w w')):=by
  by_cases he:(frameM m).2=0
  · by_cases hn:(cat C.fs).size+(frameM m).1.size<=58*C.sc
    · refine(Pe.op (A:=isA) (R:=fun e C1 st1 pn1=>e=.returned (.tuple #[.int .i64 (((cat C.fs).size:Int)+1),.int .i64 0])/\C1=addF C (frameM m).1 U st/\st1=st/\pn1=pn) h 0 (fun I B k0 S sure G pg hP hs hk0=>(append_ok hP.q.lv.lx hP.q.lv.fit hv hm he hn).mono ?_)).mono ?_
      · rintro e w' ⟨he',hL,hK⟩
        have hcat:cat [(frameM m).1]=(frameM m).1:=by rw[cat,cat,app_nil]
        refine⟨_,_,_,_,_,_,_,_,⟨he',rfl,rfl,rfl⟩,hP.ext (addF_ext C (frameM m).1 U st) ?_ hK.l ?_,hK.l,hs,by omega⟩
        · exact hP.q.lv.grown (gs:=[(frameM m).1]) (fun g hg=>by rw[List.mem_singleton] at hg;subst hg;exact frm_good he) (by rw[hcat];exact hn) hL
        · intro id l
          show(if l<=(cat C.fs).size then C.T id l else U id).size=224
          split
          · exact hP.q.ok.tz id l
          · exact hU id
      · rintro e w' ⟨C1,st1,pn1,⟨he',rfl,rfl,rfl⟩,hW⟩
        exact⟨_,_,he',Or.inl ⟨rfl,rfl,he,hn,hW⟩⟩
    · refine(Pe.op (A:=isA) (R:=fun e C1 st1 pn1=>e=.returned (.tuple #[.int .i64 0,.int .i64 7])/\C1=C/\st1=st/\pn1=pn) h 0 (fun I B k0 S sure G pg hP hs hk0=>(append_full hP.q.lv.lx hP.q.lv.fit hv hm he hn).mono ?_)).mono ?_
      · rintro e w' ⟨he',hb⟩
        exact⟨_,_,_,_,_,_,_,_,⟨he',rfl,rfl,rfl⟩,hP.below hb,Kp.of_below hb hP.q.le,hs,by omega⟩
      · rintro e w' ⟨C1,st1,pn1,⟨he',rfl,rfl,rfl⟩,hW⟩
        exact⟨_,_,he',Or.inr ⟨by omega,rfl,Or.inr ⟨he,rfl,hn⟩,hW⟩⟩
  · refine(Pe.op (A:=isA) (R:=fun e C1 st1 pn1=>e=.returned (.tuple #[.int .i64 0,.int .i64 (frameM m).2])/\C1=C/\st1=st/\pn1=pn) h 0 (fun I B k0 S sure G pg hP hs hk0=>(append_err hP.q.lv.lx hP.q.lv.fit hv hm he).mono ?_)).mono ?_
    · rintro e w' ⟨he',hb⟩
      exact⟨_,_,_,_,_,_,_,_,⟨he',rfl,rfl,rfl⟩,hP.below hb,Kp.of_below hb hP.q.le,hs,by omega⟩
    · rintro e w' ⟨C1,st1,pn1,⟨he',rfl,rfl,rfl⟩,hW⟩
      exact⟨_,_,he',Or.inr ⟨he,rfl,Or.inl ⟨he,rfl⟩,hW⟩⟩
end
open Go.RowKit
def hdL (r:Int) (us:List UInt8):List Value:=.int .i64 r ::Lib.byteCells us
def hdA (r:Int) (us:List UInt8):Array Value:=(hdL r us).toArray
def hdV (r:Int) (us:List UInt8):Value:=.agg (hdA r us)
def zus:List UInt8:=List.replicate 222 0
theorem zus_length:zus.length=222:=by simp[zus]
theorem hdL_length (r:Int) (us:List UInt8):(hdL r us).length=us.length+1:=by simp[hdL,Lib.byteCells_length]
theorem hdA_size (r:Int) (us:List UInt8):(hdA r us).size=us.length+1:=by rw[hdA,List.size_toArray,hdL_length]
theorem hdL_one (r:Int) (us:List UInt8):∀ v∈hdL r us,v.oneCell'=true:=by
 intro v hv
 rcases List.mem_cons.1 hv with rfl |hv
 ·rfl
 ·exact Lib.byteCells_one _ v hv
theorem hdL_get (r:Int) (us:List UInt8) (j:Nat) (hj:j<us.length):(hdL r us)[j+1]?=some (.int .u8 (Pg.g us j)):=by
 simp[hdL,Lib.byteCells,Pg.g,List.getElem?_eq_getElem hj]
theorem zero_head (w:World):(zeroValue 76).run Tryz.prog w=.ok (hdV 0 zus) w:=by kernel_rfl
theorem info_head:(Tryz.prog.info? 76).map (·.size)=some 223:=by kernel_rfl
theorem info_hd {r:Int} {us:List UInt8} (h:us.length=222):(Tryz.prog.info? 76).map (·.size)=some (hdA r us).size:=by rw[hdA_size,h];exact info_head
theorem build_head (n:Int) (w:World):(Instr.build 76 #[(0,.int .i64 n)]).run Tryz.prog w=.ok (hdV n zus) w:=by kernel_rfl
theorem zero_set (n:Int):Value.agg (Tryz.zeroCells76.setIfInBounds 0 (.int .i64 n))=hdV n zus:=by kernel_rfl
structure Hd (w:World) (b:Nat) (r:Int) (us:List UInt8):Prop where
 blk:w.heap[b]?=some (.cells (hdA r us) 76)
 len:us.length=222
section
variable {w w':World}{b:Nat}{r:Int}{us:List UInt8}
theorem Hd.lt (h:Hd w b r us):b<w.heap.size:=(Array.getElem?_eq_some_iff.1 h.blk).1
theorem Hd.cell (h:Hd w b r us) {j:Nat} (hj:j<222):w.cell? ⟨b,1+j,none⟩=some (.int .u8 (Pg.g us j)):=by
 rw[cell_of_row w b _ _ 76 (0,0) h.blk,Nat.add_comm]
 have:=hdL_get r us j (by rw[h.len];exact hj)
 simpa[hdA] using this
theorem Hd.f (h:Hd w b r us) (i:Nat):w.frozen? ⟨b,i,none⟩=false:=Joins.unfrozen_of_block h.blk i
theorem Hd.there (h:Hd w b r us):w.there b 0 223:=fun j hj=>⟨by
 rw[cell_of_row w b _ _ 76 (0,0) h.blk]
 have:0+j<(hdA r us).size:=by rw[hdA_size,h.len];omega
 simpa using this,h.f _⟩
theorem Hd.of_block (h:Hd w b r us) (hb:w'.heap[b]?=w.heap[b]?):Hd w' b r us:=⟨hb.trans h.blk,h.len⟩
theorem Hd.below (h:Hd w b r us) (hb:Below w.heap.size w w'):Hd w' b r us:=h.of_block (hb.block b h.lt)
theorem Hd.setRow (h:Hd w b r us) {r':Int} {us':List UInt8} (h2:us'.length=222):Hd (w.setRow b (hdA r' us')) b r' us':=⟨setRow_heap w b _ _ 76 _ h.blk,h2⟩
theorem Hd.range (h:Hd w b r us):w.rangeAt b 0 (hdL r us):=fun j v hv=>by
 rw[cell_of_row w b _ (hdA r us) 76 (0,0) h.blk];simpa[hdA] using hv
end
structure NewH (w w':World) (b:Nat) (r:Int) (us:List UInt8):Prop where
 hd:Hd w' b r us
 below:Below w.heap.size w w'
 le:w.heap.size<=b
structure PutH (w w':World) (b:Nat) (r:Int) (us:List UInt8):Prop where
 hd:Hd w' b r us
 off:Pk.Off b w w'
section
variable {ops:Array Oper}{rest:List Oper}{o:Oper}{a:Act}{Q:Exit->Act->World->Prop}
theorem wpList_at {w:World} (p:Op) (h:o.op=p) (hw:wpList Tryz.prog ops Q (o ::rest) a w):wpList Tryz.prog ops Q (o ::rest) a w:=hw
theorem wpList_new_hd (w:World) (hg:o.guard=none) (hop:o.op=Op.alloc 76)
  (h:∀ w' b,NewH w w' b 0 zus->wpList Tryz.prog ops Q rest (a.put o.dst (.pointer (some ⟨b,0,none⟩))) w'):wpList Tryz.prog ops Q (o ::rest) a w:=by
 refine wpList_plain hg fun K' hK'=>?_
 unfold Oper.wp
 simp[execOp,hop,Instr.alloc,zero_head,Result.andThen,hdV,Value.cells]
 exact hK' _ _ (h _ _ ⟨⟨(MapKept.heap_alloc w _).1,zus_length⟩,(Below.refl _ _).alloc (Nat.le_refl _) _,Nat.le_refl _⟩)
theorem wpList_build_hd {n:Int} (w:World) (hg:o.guard=none) (x:Operand) (hop:o.op=Op.build 76 #[(0,x)]) (hx:a.eval x=.int .i64 n)
  (h:wpList Tryz.prog ops Q rest (a.put o.dst (hdV n zus)) w):wpList Tryz.prog ops Q (o ::rest) a w:=by
 refine wpList_plain hg fun K' hK'=>?_
 have hr:=build_head n w
 unfold Oper.wp
 simp[execOp,hop,hx,hr,Result.andThen]
 exact hK' _ _ h
theorem wpList_load_hd {b:Nat} {r:Int} {us:List UInt8} (w:World) (hg:o.guard=none) (x:Operand) (hop:o.op=Op.load 76 x) (hx:a.eval x=.pointer (some ⟨b,0,none⟩)) (hs:Hd w b r us)
  (h:wpList Tryz.prog ops Q rest (a.put o.dst (hdV r us)) w):wpList Tryz.prog ops Q (o ::rest) a w :=
 wpList_load_mid hg 76 x hop b 0 hx (hdL r us) _ hs.range Tryz.underlying76 rfl (by rw[hdL_length,hs.len];exact info_head) h
theorem setCells_hd {w:World} {b:Nat} {r r':Int} {us us':List UInt8} (h:Hd w b r us) (h2:us'.length=222):w.setCells b 0 (hdL r' us')=w.setRow b (hdA r' us'):=by
 have h1:=run_storeCells_at Tryz.prog b 0 76 (hdL r' us') 0 (hdA r us) w h.blk (by rw[hdL_length,h2,hdA_size,h.len];omega) (hdL_one _ _)
 have h3:=run_storeCells_cells (P:=Tryz.prog) b 0 (hdL r' us') 0 w (fun j hj=>by have:=(h.there j (by rw[hdL_length] at hj;omega)).1;simpa using this) (fun j hj=>by have:=h.f (0+0+j);simpa using this) (hdL_one _ _)
 have e:(List.take (0+0) (hdA r us).toList++hdL r' us'++List.drop (0+0+(hdL r' us').length) (hdA r us).toList).toArray=hdA r' us':=by
  rw[List.drop_of_length_le (by rw[hdL_length,h2,Array.length_toList,hdA_size,h.len];omega)]
  simp[hdA]
 rw[e,h3] at h1
 simpa using h1
theorem wpList_put_hd {b:Nat} {r r':Int} {us us':List UInt8} (w:World) (hg:o.guard=none) (x y:Operand) (hop:o.op=Op.store 76 x y)
  (hx:a.eval x=.pointer (some ⟨b,0,none⟩)) {u:Value} (hy:a.eval y=u) (hu:u=hdV r' us') (hs:Hd w b r us) (h2:us'.length=222)
  (h:∀ w',PutH w w' b r' us'->wpList Tryz.prog ops Q rest (a.put o.dst undef) w'):wpList Tryz.prog ops Q (o ::rest) a w:=by
 refine wpList_store_mid hg 76 x y hop b 0 (hdA r' us') hx (hy.trans hu) (by rw[hdA_size,h2];exact hs.there) (info_hd h2) (all_oneCell_toArray (hdL_one _ _)) ?_
 rw[show(hdA r' us').toList=hdL r' us' by simp[hdA],setCells_hd hs h2]
 exact h _ ⟨hs.setRow h2,⟨rfl,rfl,rfl,by simp,fun k _ hk=>setRow_other w b k _ hk⟩⟩
theorem run_copy_hd {w:World} {b:Nat} {r:Int} {us:List UInt8} (p:ByteArray) (h:Hd w b r us) (hp:p.size=222) (ty:TypeId):(Builtin.copy_ #[80,9] ty #[.slice (some ⟨b,1,none⟩) 222 222,.string p]).run Tryz.prog w=.ok (.int .i64 222) (w.setRow b (hdA r (Pg.bts p))):=by
 have:=Lib.run_copy_row_string (P:=Tryz.prog) w 80 9 ty 5 b 1 222 222 p (hdA r us) 76 Tryz.underlying80 (by kernel_rfl) h.blk (by omega) (by rw[hdA_size,h.len];omega)
 rw[this]
 have e:(List.take 1 (hdA r us).toList++Lib.byteCells p.data.toList++List.drop (1+p.size) (hdA r us).toList).toArray=hdA r (Pg.bts p):=by
  rw[List.drop_of_length_le (by rw[Array.length_toList,hdA_size,h.len];omega)]
  simp[hdA,hdL,Pg.bts]
 rw[e,hp]
 rfl
end
def hdT (r:Nat) (us:List UInt8):ByteArray:=Pk.beS r 2++Pg.tx us
theorem hdT_size (r:Nat) {us:List UInt8} (h:us.length=222):(hdT r us).size=224:=by
 unfold hdT;rw[ByteArray.size_append,Pk.beS_size,Pg.tx_size,h]
set_option maxHeartbeats 1000000 in
theorem headOf_any (w:World) (r:Nat) (us:List UInt8) (hr:r<65536) (hl:us.length=222):Calls Tryz.prog 60 #[.string (hdT r us)] w fun e w'=>e=.returned (hdV (r:Int) us)/\Below w.heap.size w w':=by
  have CR:Hid (∀ wx,Calls Tryz.prog 94 #[.string (hdT r us)] wx fun e w'=>∃ b,e=.returned (.pointer (some ⟨b,0,none⟩))/\Pk.isRd w' b (hdT r us) 0/\wx.heap.size<=b/\Below wx.heap.size wx w'):=fun wx=>Read_new _ wx
  have e1 : Pk.rdNum (hdT r us) 0 2 = (r, Pg.tx us, 0) := Pk.rdNum_app r 2 (Pg.tx us) (by omega) (by omega) (by have : 256 ^ 2 = 65536 := by decide
                                                                                                                omega)
  have CN:Hid (∀ wx b,Pk.isRd wx b (hdT r us) 0->Calls Tryz.prog 95 #[.pointer (some ⟨b,0,none⟩),.int .i64 2] wx fun x w'=>x=.returned (.int .i64 (r:Int))/\Pk.isRd w' b (Pg.tx us) 0/\Pk.Off b wx w'):=fun wx b h=>by
    have:=Pk.Num_any b (hdT r us) 0 2 wx (by rw[hdT_size r hl];omega) h
    rw[e1] at this
    exact this
  have hz:(Pg.tx us).size=222:=by rw[Pg.tx_size,hl]
  have e2:Pk.rdRaw (Pg.tx us) 0 222=(Pg.tx us,eb,0):=by
    have:=Pk.rdRaw_app (Pg.tx us) eb
    rw[Pk.append_nil,hz] at this
    exact this
  have CW:Hid (∀ wx b,Pk.isRd wx b (Pg.tx us) 0->Calls Tryz.prog 97 #[.pointer (some ⟨b,0,none⟩),.int .i64 222] wx fun x w'=>x=.returned (.string (Pg.tx us))/\Pk.isRd w' b eb 0/\Pk.Off b wx w'):=fun wx b h=>by
    have:=Pk.Raw_any b (Pg.tx us) 0 222 wx (by omega) h
    rw[e2] at this
    exact this
  have hbt:Pg.bts (Pg.tx us)=us:=Pg.bts_tx us
  have HBT:Hid (Pg.bts (Pg.tx us)=us):=hbt
  clear hbt e1 e2
  generalize hdT r us=t at *
  generalize Pg.tx us=t2 at *
  go_enter Tryz.func60,Tryz.ntmps60
  go_wp2_with (first
    | (have:=o2;refine wpList_new_hd _ rfl rfl ?_;intro w3 b3 N3)
    | (refine wpList_new_hd _ rfl rfl ?_;intro w0 b0 N0)
    | (go_at_call 94;refine(CR.out _).mono ?_;rintro e w1 ⟨rb,rfl,r1,g1,b1⟩)
    | (go_at_call 95;refine(CN.out _ _ r1).mono ?_;clear r1;rintro e w2 ⟨rfl,r2,o2⟩)
    | (refine wpList_at (Op.store 76 (.tmp 4) (.tmp 9)) rfl ?_;go_must (refine wpList_put_hd _ rfl (.tmp 4) (.tmp 9) rfl rfl rfl (zero_set _) N3.hd zus_length ?_;intro w4 P4)))
  have z0:=N0.below.size
  have z1:=b1.size
  have z2:=o2.size
  have z3:=N3.below.size
  have z4:=P4.off.size
  have l3:=N3.le
  have l0:=N0.le
  have lr2:=r2.lt
  have hb2:Below w.heap.size w w2:=(thn N0.below b1).trans (o2.below (by omega) (by omega))
  have hb4:Below w.heap.size w w4:=(hb2.trans (N3.below.mono (by omega))).trans (P4.off.below (by omega) (by omega))
  have hr4:Pk.isRd w4 rb t2 0:=(r2.below N3.below).off P4.off (by omega)
  have hd0:Hd w2 b0 0 zus:=(N0.hd.below b1).of_block (o2.block _ (by have:=N0.hd.lt;omega) (by have:=N0.hd.lt;omega))
  have hd4:Hd w4 b0 0 zus:=(hd0.below N3.below).of_block (P4.off.block _ (by have:=hd0.lt;omega) (by have:=hd0.lt;omega))
  have HD4:Hid (Hd w4 b0 0 zus):=hd4
  have HB4:Hid (Below w.heap.size w w4):=hb4
  have HP4:Hid (Hd w4 b3 (r:Int) zus):=P4.hd
  have hne:b3≠rb:=by omega
  have hne2:b0≠rb:=by have:=N0.hd.lt;omega
  have hne3:b0≠b3:=by have:=N0.hd.lt;omega
  have hw3:w.heap.size<=b3:=by omega
  have hwr:w.heap.size<=rb:=by omega
  clear hd0 hd4 hb2 hb4 N0 N3 P4 o2 b1 g1 CR CN r2 l3 lr2 z0 z1 z2 z3 z4
  go_region_held_law (fun _=>True) (trivial) (first
    | (go_at_call 97;refine(CW.out _ _ ?_).mono ?_;exact hr4;rintro e w5 ⟨rfl,r5,o5⟩;have hcp:=run_copy_hd t2 (HP4.out.of_block (o5.block _ HP4.out.lt hne)) hz 3))
  have z5:w4.heap.size<=w5.heap.size:=o5.size
  have h3:Hd w5 b3 (r:Int) zus:=HP4.out.of_block (o5.block _ HP4.out.lt hne)
  have h0:Hd w5 b0 0 zus:=HD4.out.of_block (o5.block _ HD4.out.lt hne2)
  have q3:Hd (w5.setRow b3 (hdA (r:Int) (Pg.bts t2))) b3 (r:Int) (Pg.bts t2):=h3.setRow (by rw[Pg.bts_length];exact hz)
  have q0:Hd (w5.setRow b3 (hdA (r:Int) (Pg.bts t2))) b0 0 zus:=h0.of_block (setRow_other _ _ _ _ hne3)
  have hbl:Below w.heap.size w (w5.setRow b3 (hdA (r:Int) (Pg.bts t2))):=Pg.below_setRow (HB4.out.trans ((Pk.Off.below (b:=rb) (w:=w4) (w':=w5) ⟨o5.os,o5.tape,o5.output,o5.size,o5.block⟩ hwr HB4.out.size))) hw3 _
  clear hcp h3 h0
  generalize w5.setRow b3 (hdA (r:Int) (Pg.bts t2))=w6 at *
  rw[HBT.out] at q3
  go_wp2_with (first
    | (refine wpList_load_hd _ rfl (.tmp 4) rfl rfl q3 ?_)
    | (refine wpList_put_hd _ rfl (.tmp 2) (.tmp 15) rfl rfl rfl rfl q0 hl ?_;intro w7 P7))
  refine bodyPost_ret (results_cell_row rfl _ _ b0 76 _ (0,0) _ rfl P7.hd.blk Tryz.underlying76 rfl (info_hd hl)) rfl ?_
  exact⟨rfl,hbl.trans (P7.off.below l0 hbl.size)⟩
theorem conv_us {w:World} {b off:Nat} {us:List UInt8} (hl:us.length=222) (hc:∀ j,j<222->w.cell? ⟨b,off+1+j,none⟩=some (.int .u8 (Pg.g us j))):(convert 80 9 (.slice (some ⟨b,off+1,none⟩) 222 222)).run Tryz.prog w=.ok (.string (Pg.tx us)) w:=by
 have:=Lib.run_convert_whole (P:=Tryz.prog) w 80 5 9 Tryz.underlying80 Tryz.underlying5 Tryz.underlying9 b (off+1) (Pg.tx us) (fun i hi=>by
  rw[Pg.tx_size,hl] at hi
  rw[hc i hi]
  have h2:us[i]?=some ((Pg.tx us).data[i]'(by simpa[Pg.tx,hl] using hi)):=by simp[Pg.tx,hl,hi]
  simp only[Pg.g,h2]
  rfl) 222
 rw[Pg.tx_size,hl] at this
 exact this
theorem text_any (w:World) (b off r:Nat) (us:List UInt8) (hr:r<65536) (hl:us.length=222) (c0:w.cell? ⟨b,off,none⟩=some (.int .i64 (r:Int))) (hc:∀ j,j<222->w.cell? ⟨b,off+1+j,none⟩=some (.int .u8 (Pg.g us j))) (hbl:b<w.heap.size):Calls Tryz.prog 73 #[.pointer (some ⟨b,off,none⟩)] w fun e w'=>e=.returned (.string (hdT r us))/\Below w.heap.size w w':=by
 have CP:Hid (∀ wx,Calls Tryz.prog 116 #[.string eb,.int .i64 (r:Int),.int .i64 2] wx fun e w'=>e=.returned (.tuple #[.string (Pk.beS r 2),.int .i64 0])/\Below wx.heap.size wx w'):=fun wx=>by
  have:=Pk.Put_any eb (r:Int) 2 wx (Nat.zero_le _)
  rw[Pk.putV_fits (by omega) (by rw[Pk.limI_2];omega)] at this
  dsimp only at this
  rw[Sm.nil_append] at this
  exact this
 unfold hdT
 have hz1:(Pk.beS r 2).size=2:=Pk.beS_size _ _
 have hz2:(Pg.tx us).size=222:=by rw[Pg.tx_size,hl]
 have HC:Hid (∀ wx,Below w.heap.size w wx->(convert 80 9 (.slice (some ⟨b,off+1,none⟩) 222 222)).run Tryz.prog wx=.ok (.string (Pg.tx us)) wx):=fun wx hx=>conv_us hl (fun j hj=>(hx.cell hbl).trans (hc j hj))
 clear hc
 generalize Pk.beS r 2=t at *
 generalize Pg.tx us=t2 at *
 have hsum:¬ 9223372036854775807<t.size+t2.size:=by omega
 go_enter Tryz.func73,Tryz.ntmps73
 go_wp2_with (go_at_call 116;refine(CP.out _).mono ?_;rintro e w1 ⟨rfl,b1⟩;have hcv:=HC.out _ b1)
 go_ret
 exact⟨rfl,b1⟩
def intR:Value->Option (DataW Unit × List MemPlace)
 | .int q a=>some (.lit (.int q a),[])
 | _=>none
theorem intR_int (n:Int):intR (.int .i64 n)=some (.lit (.int .i64 n),[]):=rfl
theorem intR_inv {v:Value} {n:Int} {ps:List MemPlace} (h:intR v=some (.lit (.int .i64 n),ps)):v=.int .i64 n:=by
 cases v <;> simp[intR] at h
 rename_i q a
 obtain⟨⟨rfl,rfl⟩,_⟩:=h
 rfl
structure MiV (D:DataW Unit) (f:Nat->Option Nat):Prop where
 has:∀ i:Nat,Maps.has D (.int .i64 (i:Int))=(f i).isSome
 at_:∀ (i:Nat) c,f i=some c->∀ z,D.atKey (.int .i64 (i:Int)) z=.lit (.int .i64 (c:Int))
theorem MiV.empty:MiV (.map []) (fun _=>none):=⟨fun i=>rfl,fun i c h=>(by cases h)⟩
theorem MiV.put {D:DataW Unit} {f:Nat->Option Nat} (h:MiV D f) (hD:IsMap D) (i c:Nat):MiV (D.put (.int .i64 (i:Int)) (.lit (.int .i64 (c:Int)))) (upd f i (some c)):=by
 refine⟨fun j=>?_,fun j c' hj z=>?_⟩
 ·by_cases e:j=i
  ·subst e;rw[upd_same,has_put_same hD (show WideAt.IsKeyLit (.int .i64 (j:Int)) from trivial)];rfl
  ·rw[upd_other _ _ e,has_put_other (key_ne e),h.has]
 ·by_cases e:j=i
  ·subst e;rw[upd_same] at hj;cases hj;rw[atKey_put_same hD (show WideAt.IsKeyLit (.int .i64 (j:Int)) from trivial)]
  ·rw[upd_other _ _ e] at hj;rw[atKey_put_other (key_ne e)];exact h.at_ j c' hj z
theorem underI:Tryz.prog.underlying 51=some (.map 3 3):=Tryz.underlying51
theorem zeroI (w:World):(zeroValue 3).run Tryz.prog w=.ok (.int .i64 0) w:=by kernel_rfl
def MiIs (w:World) (b m:Nat) (f:Nat->Option Nat):Prop:=∃ D,w.ownsMap Tryz.prog 3 intR b m D/\MiV D f
theorem MiIs.lt {w:World} {b m:Nat} {f:Nat->Option Nat} (h:MiIs w b m f):b<w.heap.size:=by obtain⟨D,h,_⟩:=h;exact h.lt
theorem MiIs.of_block {w w':World} {b m:Nat} {f:Nat->Option Nat} (h:MiIs w b m f) (hb:w'.heap[b]?=w.heap[b]?):MiIs w' b m f:=by
 obtain⟨D,⟨es,cl,h1,h2,h3,h4⟩,hv⟩:=h
 exact⟨D,⟨es,cl,hb.trans h1,h2,h3,h4⟩,hv⟩
theorem MiIs.made (w:World):MiIs (w.alloc (.map #[] 0)) w.heap.size 0 (fun _=>none):=⟨_,World.ownsMap_made _ _ _ _,MiV.empty⟩
theorem MiIs.look {w:World} {b m:Nat} {f:Nat->Option Nat} (h:MiIs w b m f) {i:Nat} (hi:i<8192) :
  (Instr.lookup 51 (.map (some b)) (.int .i64 (i:Int)) true).run Tryz.prog w=.ok (.tuple #[.int .i64 ((f i).getD 0:Nat),.bool (f i).isSome]) w:=by
 obtain⟨D,h,hv⟩:=h
 obtain⟨v,ps,hrun,hR⟩:=h.look_ok law3 underI (zeroI w) (intR_int 0) (keyOf_int_mk Tryz.underlying3 (wfI hi))
 rw[hrun,hv.has]
 cases hf:f i with
 | none =>
  rw[atKey_of_not_has (by rw[hv.has,hf];rfl)] at hR
  rw[intR_inv hR];rfl
 | some c =>
  rw[hv.at_ i c hf] at hR
  rw[intR_inv hR];rfl
theorem MiIs.look1 {w:World} {b m:Nat} {f:Nat->Option Nat} (h:MiIs w b m f) {i:Nat} (hi:i<8192) {c:Nat} (hc:f i=some c) :
  (Instr.lookup 51 (.map (some b)) (.int .i64 (i:Int)) false).run Tryz.prog w=.ok (.int .i64 (c:Int)) w:=by
 obtain⟨D,h,hv⟩:=h
 obtain⟨v,ps,hrun,hR⟩:=h.lookup law3 underI (zeroI w) (intR_int 0) (keyOf_int_mk Tryz.underlying3 (wfI hi))
 rw[hv.at_ i c hc] at hR
 rw[hrun,intR_inv hR]
theorem MiIs.store {w:World} {b m:Nat} {f:Nat->Option Nat} (h:MiIs w b m f) {i:Nat} (hi:i<8192) (hm:m<10000000000000) (c:Nat) :
  ∃ w',(Instr.mapUpdate 51 (.map (some b)) (.int .i64 (i:Int)) (.int .i64 (c:Int))).run Tryz.prog w=.ok () w'/\MiIs w' b (m+1) (upd f i (some c))/\w.mapTurned w' b:=by
 obtain⟨D,h,hv⟩:=h
 obtain⟨w',h1,h2,h3⟩:=h.store law3 underI (by unfold maxLen;omega) (keyOf_int_mk Tryz.underlying3 (wfI hi)) (intR_int (c:Int))
 exact⟨w',h1,⟨_,h2,hv.put h.isMap i c⟩,h3⟩
def ttA (X:Ad) (mk:Int) (mb:Nat) (lt:Value):Array Value:=#[.pointer (some ⟨X.pb,0,none⟩),.pointer (some ⟨X.l,0,none⟩),.int .i64 mk,.map (some mb),lt]
structure T0 (W0:Nat->Prop) (mb m:Nat) (lt:Value) (w:World) (tb:Nat) (X:Ad) (k:Nat) (C:Cf) (st:Nat->Option Nat) (pn:Nat->Nat) (mk:Int) (wh:Nat->Option Nat):Prop where
 pe:Pe W0 w X k C st pn
 blk:w.heap[tb]?=some (.cells (ttA X mk mb lt) 53)
 map:MiIs w mb m wh
 nt:¬ W0 tb
 nm:¬ W0 mb
 ne:tb≠mb
 m1:m<=k
 p1:C.ps<=200
structure Tt (W:Nat->Prop) (w:World) (tb:Nat) (X:Ad) (k:Nat) (C:Cf) (st:Nat->Option Nat) (mk:Int) (wh:Nat->Option Nat):Prop where
 ex:∃ W0 mb m,T0 W0 mb m (.slice none 0 0) w tb X k C st (fun _=>0) mk wh/\∀ j,W j↔(W0 j∨j=tb∨j=mb)
section
variable {W W' W0 W0':Nat->Prop}{w w':World}{tb mb m:Nat}{la:Value}{X:Ad}{k k':Nat}{C C':Cf}{st st':Nat->Option Nat}{pn pn':Nat->Nat}{mk:Int}{wh:Nat->Option Nat}
theorem T0.c0 (h:T0 W0 mb m la w tb X k C st pn mk wh):w.cell? ⟨tb,0,none⟩=some (.pointer (some ⟨X.pb,0,none⟩)):=Joins.cell_of_block h.blk 0
theorem T0.c1 (h:T0 W0 mb m la w tb X k C st pn mk wh):w.cell? ⟨tb,1,none⟩=some (.pointer (some ⟨X.l,0,none⟩)):=Joins.cell_of_block h.blk 1
theorem T0.c2 (h:T0 W0 mb m la w tb X k C st pn mk wh):w.cell? ⟨tb,2,none⟩=some (.int .i64 mk):=Joins.cell_of_block h.blk 2
theorem T0.c3 (h:T0 W0 mb m la w tb X k C st pn mk wh):w.cell? ⟨tb,3,none⟩=some (.map (some mb)):=Joins.cell_of_block h.blk 3
theorem T0.c4 (h:T0 W0 mb m la w tb X k C st pn mk wh):w.cell? ⟨tb,4,none⟩=some la:=Joins.cell_of_block h.blk 4
theorem T0.z (h:T0 W0 mb m la w tb X k C st pn mk wh) (i:Nat):w.frozen? ⟨tb,i,none⟩=false:=Joins.unfrozen_of_block h.blk i
theorem T0.lt_ (h:T0 W0 mb m la w tb X k C st pn mk wh):tb<w.heap.size:=lt_of_some h.blk
theorem T0.below (h:T0 W0 mb m la w tb X k C st pn mk wh) (hb:Below w.heap.size w w'):T0 W0 mb m la w' tb X k C st pn mk wh:=⟨h.pe.below hb,(hb.block _ h.lt_).trans h.blk,h.map.of_block (hb.block _ h.map.lt),h.nt,h.nm,h.ne,h.m1,h.p1⟩
theorem T0.mono (h:T0 W0 mb m la w tb X k C st pn mk wh) (hk:k<=k'):T0 W0 mb m la w tb X k' C st pn mk wh:=⟨h.pe.mono hk,h.blk,h.map,h.nt,h.nm,h.ne,Nat.le_trans h.m1 hk,h.p1⟩
theorem T0.fr (h:T0 W0 mb m la w tb X k C st pn mk wh) (hp:Pe W0' w' X k' C' st' pn') (hf:Fr W0 W0' w w') (hk:k<=k') (hc:C'.ps=C.ps):T0 W0' mb m la w' tb X k' C' st' pn' mk wh :=
 ⟨hp,hf.is h.blk h.nt,h.map.of_block (hf.blk _ h.map.lt h.nm),hf.not h.lt_ h.nt,hf.not h.map.lt h.nm,h.ne,Nat.le_trans h.m1 hk,by rw[hc];exact h.p1⟩
theorem T0.wide (h:T0 W0 mb m la w tb X k C st pn mk wh) (hW:∀ j,W j↔(W0 j∨j=tb∨j=mb)) (hf:Fr W0 W0' w w'):Fr W (fun j=>W0' j∨j=tb∨j=mb) w w' :=
 ⟨hf.os,hf.tape,hf.output,hf.size,fun j hj hn=>hf.blk j hj (fun e=>hn ((hW j).2 (Or.inl e))),fun j hj=>by
  rcases hj with e |e
  ·exact(hf.sub j e).imp (fun x=>(hW j).2 (Or.inl x)) id
  ·exact Or.inl ((hW j).2 (Or.inr e))⟩
theorem Tt.lt (h:Tt W w tb X k C st mk wh) {j:Nat} (hj:W j):j<w.heap.size:=by
 obtain⟨W0,mb,m,h0,hW⟩:=h.ex
 rcases (hW j).1 hj with e |rfl |rfl
 ·exact h0.pe.lt e
 ·exact h0.lt_
 ·exact h0.map.lt
theorem Tt.below (h:Tt W w tb X k C st mk wh) (hb:Below w.heap.size w w'):Tt W w' tb X k C st mk wh:=by
 obtain⟨W0,mb,m,h0,hW⟩:=h.ex;exact⟨W0,mb,m,h0.below hb,hW⟩
theorem Tt.mono (h:Tt W w tb X k C st mk wh) (hk:k<=k'):Tt W w tb X k' C st mk wh:=by
 obtain⟨W0,mb,m,h0,hW⟩:=h.ex;exact⟨W0,mb,m,h0.mono hk,hW⟩
theorem Tt.p1 (h:Tt W w tb X k C st mk wh):C.ps<=200:=by obtain⟨W0,mb,m,h0,hW⟩:=h.ex;exact h0.p1
theorem Tt.turn (h:Tt W w tb X k C st mk wh) (hO:∀ j,W j->w'.heap[j]?=w.heap[j]?) (hs:w.heap.size<=w'.heap.size):Tt W w' tb X k C st mk wh:=by
 obtain⟨W0,mb,m,h0,hW⟩:=h.ex
 exact⟨W0,mb,m,⟨h0.pe.turn (fun j hj=>hO j ((hW j).2 (Or.inl hj))) hs,(hO _ ((hW tb).2 (Or.inr (Or.inl rfl)))).trans h0.blk,h0.map.of_block (hO _ ((hW mb).2 (Or.inr (Or.inr rfl)))),h0.nt,h0.nm,h0.ne,h0.m1,h0.p1⟩,hW⟩
theorem isMade_tt (h:T0 W0 mb m la w tb X k C st pn mk wh):Calls Tryz.prog 28 #[.pointer (some ⟨tb,0,none⟩)] w fun e w'=>e=.returned (.bool true)/\w'=w:=by
 have c0:=h.c0
 clear h
 go_enter Tryz.func28,Tryz.ntmps28
 go_wp2
 go_ret
 exact⟨rfl,rfl⟩
theorem Tt.page (h:Tt W w tb X k C st mk wh) (hk:k<=280000000000) (id:Nat) (hid:id<C.ps):Calls Tryz.prog 59 #[.pointer (some ⟨tb,0,none⟩),.int .i64 (id:Int)] w fun e w'=>e=.returned (.tuple #[.string (Vw C st id),.int .i64 0])/\∃ W',Tt W' w' tb X (k+8006) C st mk wh/\Fr W W' w w':=by
 obtain⟨W0,mb,m,h0,hW⟩:=h.ex
 have CG:Hid (Calls Tryz.prog 100 #[.pointer (some ⟨X.pb,0,none⟩),.int .i64 (id:Int)] w fun e w'=>e=.returned (.tuple #[.string (Vw C st id),.int .i64 (lnO (st id)),.int .i64 0])/\∃ W',Pe W' w' X (k+8006) C st (fun _=>0)/\Fr W0 W' w w'):=h0.pe.get (by omega) (fun _=>rfl) id hid
 have c0:=h0.c0
 have c4:=h0.c4
 have H0:Hid (T0 W0 mb m (.slice none 0 0) w tb X k C st (fun _=>0) mk wh):=h0
 have HW:Hid (∀ j,W j↔(W0 j∨j=tb∨j=mb)):=hW
 clear h0 hW h
 go_enter Tryz.func59,Tryz.ntmps59
 go_wp2
 go_loopw [16] (fun kv wr=>kv=.int .i64 0/\wr=w) (fun _ _=>0)
 case atStart=>exact⟨rfl,rfl⟩
 case round =>
  obtain⟨rfl,rfl⟩:=hrel
  go_wp2_with (go_at_call 100;refine CG.out.mono ?_;rintro e w1 ⟨rfl,W1,p1,f1⟩)
  go_ret2
  exact⟨rfl,_,⟨W1,mb,m,H0.out.fr p1 f1 (by omega) rfl,fun j=>Iff.rfl⟩,H0.out.wide HW.out f1⟩
end
end Go.Proofs.YtpcnjncgilmehabGreat.Tr
