import Derived.Test.YtdchjncnjgelhaaGreatMaw
set_option linter.unusedVariables false
set_option linter.unusedSimpArgs false
set_option maxRecDepth 100000
namespace Go.Proofs.YtdchjncnjgelhaaGreat.Fd
open Go.RowKit Gm Go.Maps
section
variable {S W W':Nat->Prop}{w wR wr w':World}{l:Nat}{r:Rc}{I T v u:Value}{vs:List Value}{Ks:List (List CL)}{K:List CL}{i:Nat}{fs:List ByteArray}
set_option maxHeartbeats 1000000 in
theorem rec_st {Wl:Nat->Prop} {w1:World} (h:Lg.Lo Wl w1 l fs) (hw:w.heap.size<=w1.heap.size) (hl:∀ j,Wl j->j<w.heap.size) (hb:Below w.heap.size w w1) {W:Nat->Prop} {fb:Nat} {s:Fs} (ho:Fo W w1 fb s.K s.G s.n) (hW:∀ j,W j->w.heap.size<=j) (hst:Stp w1 v vs Ks) (hs1:∀ j,stB v vs j->w.heap.size<=j) (hs2:∀ j,stB v vs j->¬ W j):Calls Tryz.prog 17 #[.pointer (some ⟨l,0,none⟩)] w1 fun e w2=>∃ a c a' c' S Wl',e=.returned (.tuple #[.slice a fs.length c,.slice a' fs.length c'])/\RwS S w2 fs a a'/\StS Wl Wl' S w w2 w2 fb s v vs Ks/\Lg.Lo Wl' w2 l fs/\(∀ j,Wl' j->S j):=by
 refine h.records.mono ?_
 rintro e w2 ⟨v,v2,Wl',he,hr,hi,hlo,hf,n1,n2⟩
 obtain⟨a,c,e1⟩:=hr.slice
 obtain⟨a',c',e2⟩:=hi.ex
 rw[List.length_map] at e1
 rw[plc_length] at e2
 subst e1 e2
 have hlt:∀ j,Wl j->j<w1.heap.size:=fun j hj=>Nat.lt_of_lt_of_le (hl j hj) hw
 have hWl:∀ j,W j->¬ Wl j:=fun j h1 h2=>by have:=hW j h1;have:=hl j h2;omega
 have gr:∀ g,(Value.slice a fs.length c).ownBlock=some g->w1.heap.size<=g/\g<w2.heap.size:=fun g eg=>by
  obtain⟨es,h1,⟨h2,h3⟩,h4⟩:=hr.ex
  rcases h3 with⟨e,_⟩ |⟨g9,cap,cur,e,hB,hg,_⟩
  ·rw[e] at eg;cases eg
  ·rw[e] at eg;cases eg;exact⟨hB,lt_of hg⟩
 have gi:∀ g,(Value.slice a' fs.length c').ownBlock=some g->w1.heap.size<=g/\g<w2.heap.size:=fun g eg=>Lg.ownI_lt hi eg
 refine⟨a,c,a',c',fun j=>(Value.slice a fs.length c).ownBlock=some j∨(Value.slice a' fs.length c').ownBlock=some j∨Wl' j,Wl',he,⟨fun i hlt=>?_⟩,⟨⟨W,?_,hW,fun j hj hs=>?_,hs2⟩,fun j _=>rfl,fun j hj=>?_,?_,Nat.le_refl _,hst.keep fun j hj=>hf.blk j (hst.lt hj) (fun e=>by have:=hs1 j hj;have:=hl j e;omega),fun j hj=>⟨hs1 j hj,fun hs=>?_⟩⟩,hlo,fun j hj=>Or.inr (Or.inr hj)⟩
 ·obtain⟨g,I,T,e3,h1,hrf⟩:=hr.at_ (i:=i) (by rw[List.length_map];exact hlt)
  obtain⟨g',e4,h2⟩:=hi.at_ (i:=i) (by rw[plc_length];exact hlt)
  refine⟨g,g',I,T,e3,e4,Or.inl (by rw[e3];rfl),Or.inr (Or.inl (by rw[e4];rfl)),recF_one hrf,?_,?_⟩
  ·rw[List.getElem_map,Lg.rcd_at hlt] at h1
   unfold rcO
   rw[toR_A]
   exact h1
  ·have h3:=h2 w2 (Below.refl _ _)
   have h4:=plc_get 1 fs i hlt
   rw[List.getElem?_eq_getElem (by rw[plc_length];exact hlt)] at h4
   have h5:=Option.some.inj h4
   rw[h3,h5]
   rfl
 ·exact ho.keep (fun j hj=>hf.blk j (ho.lt j hj) (hWl j hj)) hf.size
 ·have:=ho.lt j hj
  rcases hs with e |e |e
  ·have:=(gr j e).1;omega
  ·have:=(gi j e).1;omega
  ·rcases hf.sub j e with e2 |e2
   ·exact hWl j hj e2
   ·omega
 ·rcases hj with e |e |e
  ·exact(gr j e).2
  ·exact(gi j e).2
  ·exact hlo.lt e
 ·refine⟨hf.os.trans hb.os,hf.tape.trans hb.tape,hf.output.trans hb.output,Nat.le_trans hw hf.size,fun j hj hn=>(hf.blk j (Nat.lt_of_lt_of_le hj hw) hn).trans (hb.block j hj),fun j hj=>(hf.sub j hj).imp id fun e=>Nat.le_trans hw e⟩
 ·have h7:=hs1 j hj
  have h8:=hst.lt hj
  rcases hs with e |e |e
  ·have:=(gr j e).1;omega
  ·have:=(gi j e).1;omega
  ·rcases hf.sub j e with e2 |e2
   ·have:=hl j e2;omega
   ·omega
theorem StS.note2 {Wl Wl':Nat->Prop} {wx:World} {fb:Nat} {s:Fs} (h:StS Wl Wl' S w wR wr fb s v vs Ks) (hx:Below wr.heap.size wr wx) (hb:Bd s i) (hi:i<=500) (hr:RcW r):Calls Tryz.prog 54 #[.pointer (some ⟨fb,0,none⟩),.agg (r.A I T)] wx fun e w'=>e=.returned (.tuple #[])/\StS Wl Wl' S w wR w' fb (noteF s r) v vs Ks/\∀ j,wr.heap.size<=j->j<wx.heap.size->w'.heap[j]?=wx.heap[j]?:=by
 obtain⟨W,h1,h2⟩:=h.ex
 refine(Note_bd (h1.bel hx) hb hi hr.t hr.k).mono ?_
 rintro e w' ⟨rfl,W',h3,h4⟩
 exact⟨rfl,(h.below hx).step h2 h4 h3,fun j q1 q2=>h4.blk j q2 fun e=>by have:=h1.lt j e;omega⟩
theorem row_one {b:Nat} {t:TypeId} {u:Value} (h:At w b t #[u]):Gm.Row w t 1 (.slice (some ⟨b,0,none⟩) 1 1) [[u]] :=
 ⟨(fun c h=>by rw[List.mem_singleton] at h;subst h;rfl),by simp,Or.inr ⟨b,1,#[u],rfl,Nat.zero_le _,h.blk,by simp,by unfold maxLen;omega,by simp,by simp⟩⟩
theorem st_start {Wl Wf:Nat->Prop} {w2 w3:World} {fb b3 c1:Nat} {a1:Option Addr} (h:Lg.Lo Wl w l fs) (hr:Gm.Row w2 69 2 (.slice a1 0 c1) []) (ho:Fo Wf w2 fb [] [] 0) (hW:∀ j,Wf j->w.heap.size<=j) (hg:∀ g,(Value.slice a1 0 c1).ownBlock=some g->w.heap.size<=g/\¬ Wf g) (hb:Below w.heap.size w w2) (N:New w2 w3 b3 60 #[.slice a1 0 c1]) :
  Calls Tryz.prog 17 #[.pointer (some ⟨l,0,none⟩)] w3 fun e w4=>∃ a c a' c' S Wl',e=.returned (.tuple #[.slice a fs.length c,.slice a' fs.length c'])/\RwS S w4 fs a a'/\StS Wl Wl' S w w4 w4 fb ⟨[],[],0⟩ (.slice (some ⟨b3,0,none⟩) 1 1) [.slice a1 0 c1] [[]]/\Lg.Lo Wl' w4 l fs/\(∀ j,Wl' j->S j):=by
 have hb3:Below w.heap.size w w3:=thn hb N.bel
 have hB:∀ j,stB (.slice (some ⟨b3,0,none⟩) 1 1) [.slice a1 0 c1] j->w.heap.size<=j/\¬ Wf j:=fun j hj=>by
  rcases hj with e |⟨x,hx,e⟩
  ·cases e
   exact⟨by rw[N.eq];exact hb.size,fun hw=>by have h1:b3<w2.heap.size:=ho.lt b3 hw;have h2:=N.eq;omega⟩
  ·rw[List.mem_singleton] at hx
   subst hx
   exact hg j e
 refine rec_st (s:=⟨[],[],0⟩) (h.below hb3) hb3.size (fun j hj=>h.lt hj) hb3 (ho.bel N.bel) hW ⟨row_one N.is,rfl,fun i h1 h2=>?_⟩ (fun j hj=>(hB j hj).1) (fun j hj=>(hB j hj).2)
 have:i=0:=by simpa using h1
 subst this
 exact hr.bel N.bel
structure StE (Wl:Nat->Prop) (w:World) (l:Nat) (fs:List ByteArray) (e:Ending) (w':World):Prop where
 ex:∃ a c vs Wl',e=.returned (.slice a (stpF fs fs.length).length c)/\Stp w' (.slice a (stpF fs fs.length).length c) vs (stpF fs fs.length)/\Lg.Lo Wl' w' l fs/\Gm.Fr Wl Wl' w w'/\∀ j,stB (.slice a (stpF fs fs.length).length c) vs j->w.heap.size<=j/\¬ Wl' j
end
section
variable {w:World}{l:Nat}{fs:List ByteArray}{Wl:Nat->Prop}
set_option maxHeartbeats 4000000 in
theorem Steps_any (h:Lg.Lo Wl w l fs) (hn:fs.length<=400):Calls Tryz.prog 23 #[.pointer (some ⟨l,0,none⟩)] w fun e w'=>StE Wl w l fs e w':=by
 have HL:Hid (Lg.Lo Wl w l fs):=h
 have CN:Hid (∀ wx,Calls Tryz.prog 52 #[] wx fun e w'=>e=.returned (.pointer (some ⟨wx.heap.size+1,0,none⟩))/\NwF wx w' (wx.heap.size+1)):=New_ok
 have HRW:Hid (∀ i,i<fs.length->RcW (rcO fs i)):=fun i hi=>rcO_w h.fit.frm hi
 clear h
 obtain⟨m,hm⟩:∃ m,fs.length=m:=⟨_,rfl⟩
 have Hm:Hid (fs.length=m):=hm
 rw[hm] at hn HRW
 clear hm
 have CC:Hid (∀ w1 fb,NwF w w1 fb->Calls Tryz.prog 53 #[.pointer (some ⟨fb,0,none⟩)] w1 fun e w'=>∃ a c W,e=.returned (.slice a 0 c)/\Gm.Row w' 69 2 (.slice a 0 c) []/\Fo W w' fb [] [] 0/\(∀ j,W j->w.heap.size<=j)/\(∀ g,(Value.slice a 0 c).ownBlock=some g->w.heap.size<=g/\¬ W g)/\Below w.heap.size w w'):=fun w1 fb na=>by
  obtain⟨W,f1,f2⟩:=na.ex
  refine(Cells_any f1 (by decide)).mono ?_
  rintro e w' ⟨⟨u,rfl,q,o⟩,b⟩
  obtain⟨a,c,eu,_⟩:=q.sl
  have eu:u=.slice a 0 c:=eu
  subst eu
  exact⟨a,c,W,rfl,q,f1.bel b,f2,fun g e=>⟨Nat.le_trans na.bel.size (o g e),fun hw=>by have:=f1.lt g hw;have:=o g e;omega⟩,thn na.bel b⟩
 go_enter Tryz.func23,Tryz.ntmps23
 go_wp2_with first
  | (go_at_call 52;refine(CN.out _).mono ?_;rintro e w1 ⟨rfl,na⟩;obtain⟨fb,hfb⟩:∃ fb,fb=w.heap.size+1:=⟨_,rfl⟩;rw[← hfb] at na ⊢;clear hfb;have NA:Hid (NwF w w1 fb):=na;clear na)
  | (have:=NA.out;go_at_call 53;refine(CC.out _ _ NA.out).mono ?_;rintro e w2 ⟨a1,c1,Wf,rfl,r1,r2,r3,r4,r5⟩;have H2:Hid (Gm.Row w2 69 2 (.slice a1 0 c1) []/\Fo Wf w2 fb [] [] 0/\(∀ j,Wf j->w.heap.size<=j)/\(∀ g,(Value.slice a1 0 c1).ownBlock=some g->w.heap.size<=g/\¬ Wf g)/\Below w.heap.size w w2):=⟨r1,r2,r3,r4,r5⟩;clear r1 r2 r3 r4 r5)
  | (refine wpList_build1 (u:=.slice a1 0 c1) (A:=#[.slice a1 0 c1]) _ rfl _ rfl rfl (bSS a1 0 c1) ?_;intro w3 b3 N3;have HR3:Hid (Calls Tryz.prog 17 #[.pointer (some ⟨l,0,none⟩)] w3 fun e w4=>∃ a c a' c' S Wl',e=.returned (.tuple #[.slice a fs.length c,.slice a' fs.length c'])/\RwS S w4 fs a a'/\StS Wl Wl' S w w4 w4 fb ⟨[],[],0⟩ (.slice (some ⟨b3,0,none⟩) 1 1) [.slice a1 0 c1] [[]]/\Lg.Lo Wl' w4 l fs/\(∀ j,Wl' j->S j)):=(st_start HL.out H2.out.1 H2.out.2.1 H2.out.2.2.1 H2.out.2.2.2.1 H2.out.2.2.2.2 N3);clear N3)
  | (go_at_call 17;refine HR3.out.mono ?_;rintro e w4 ⟨a,c,a',c',S,Wl',rfl,r1,r2,r3,r4⟩;have HS:Hid (RwS S w4 fs a a'/\StS Wl Wl' S w w4 w4 fb ⟨[],[],0⟩ (.slice (some ⟨b3,0,none⟩) 1 1) [.slice a1 0 c1] [[]]/\Lg.Lo Wl' w4 l fs/\∀ j,Wl' j->S j):=⟨r1,r2,r3,r4⟩;clear r1 r2 r3 r4)
 rw[Hm.out]
 clear HR3 H2 NA CN CC
 go_loopg [4,20] m (fun k vw vi wr=>∃ (i:Nat) (vs:List Value),vi=.int .i64 (i:Int)/\m-i<=k/\i<=m/\StS Wl Wl' S w w4 wr fb (fsF fs i) vw vs (stpF fs i)/\Bd (fsF fs i) i)
 case atStart=>exact⟨0,_,rfl,by omega,by omega,HS.out.2.1,Bd.zero⟩
 case round =>
  obtain⟨i,vs,rfl,hk,him,hO,hBd⟩:=hrel
  have HO:Hid (StS Wl Wl' S w w4 wr fb (fsF fs i) u4 vs (stpF fs i)/\Bd (fsF fs i) i):=⟨hO,hBd⟩
  clear hO hBd
  by_cases hlt:i<m
  ·have hltI:(i:Int)<(m:Int):=by omega
   obtain⟨g,g',I,T,rfl,rfl,sg,sg',hone,hr,hp⟩:=HS.out.1.at_ i (by rw[Hm.out];exact hlt)
   have y2:wr.rangeAt g (i*13) ((rcO fs i).A I T).toList:=range_bel hr (HO.out.1.keep g sg)
   have HK0:Hid (((rcO fs i).A I T)[0]?=some (.int .i64 (rcO fs i).kd)):=rfl
   have HF:Hid (stpF fs (i+1)=if(rcO fs i).kd=7 then stpF fs i++[(noteF (fsF fs i) (rcO fs i)).K] else stpF fs i):=rfl
   have HF2:Hid (fsF fs (i+1)=noteF (fsF fs i) (rcO fs i)):=rfl
   have HBn:Hid (Bd (noteF (fsF fs i) (rcO fs i)) (i+1)):=HO.out.2.note HO.out.1.pa _
   have CT:Hid (∀ wx,Below wr.heap.size wr wx->Calls Tryz.prog 54 #[.pointer (some ⟨fb,0,none⟩),.agg ((rcO fs i).A I T)] wx fun e w'=>e=.returned (.tuple #[])/\StS Wl Wl' S w w4 w' fb (noteF (fsF fs i) (rcO fs i)) u4 vs (stpF fs i)/\∀ j,wr.heap.size<=j->j<wx.heap.size->w'.heap[j]?=wx.heap[j]?):=fun wx hx=>HO.out.1.note2 hx HO.out.2 (by omega) (HRW.out i hlt)
   have HRX:Hid (((rcO fs i).A I T).size=13/\((rcO fs i).A I T).size=zR.size/\∀ u∈((rcO fs i).A I T).toList,u.oneCell'=true):=⟨rfl,rfl,one_rc _ hone.1 hone.2⟩
   have HLs:Hid (vs.length<=500):=by have h1:=HO.out.1.st.len;have h2:=stpF_len fs i;show _<=_;omega
   have hSt:=stRc
   clear hr hp sg sg' hone
   generalize noteF (fsF fs i) (rcO fs i)=s2 at *
   generalize fsF fs i=s1 at *
   generalize stpF fs i=K1 at *
   generalize (rcO fs i).A I T=RX at *
   generalize (rcO fs i).kd=kd at *
   have HKs:Hid (s2.K.length<=90000):=by have:=HBn.out.wt;show _<=_;omega
   by_cases hx:kd=7
   ·subst hx
    have HE:Hid (stpF fs (i+1)=K1++[s2.K]):=HF.out.trans (if_pos rfl)
    clear HF
    go_wp2_with first
     | (refine wpList_load_in hSt (A:=RX) _ rfl _ rfl rfl y2 HRX.out.1 ?_)
     | (refine wpList_new_at (A:=zR) _ zRv rfl rfl ?_;intro w5 b7 N5)
     | (refine wpList_put_at (A:=zR) (A':=RX) hSt _ rfl _ _ rfl rfl rfl N5.is rfl HRX.out.1 HRX.out.2.2 ?_;intro w6 P6;have X6:Hid (Below wr.heap.size wr w6/\At w6 b7 54 RX/\wr.heap.size<=b7):=⟨np_bel N5 P6,P6.is,by rw[N5.eq];exact Nat.le_refl _⟩;have q6:w6.cell? ⟨b7,0,none⟩=some (.int .i64 7):=(P6.is.c 0).trans HK0.out)
     | (refine wpList_load_at hSt (A:=RX) _ rfl _ rfl rfl X6.out.2.1 HRX.out.1 ?_)
     | (go_at_call 54;refine(CT.out _ X6.out.1).mono ?_;rintro e w7 ⟨rfl,x7⟩;have X7:Hid (StS Wl Wl' S w w4 w7 fb s2 u4 vs K1):=x7.1;have q7:w7.cell? ⟨b7,0,none⟩=some (.int .i64 7):=(World.cell?_of_block (x7.2 b7 X6.out.2.2 (lt_of X6.out.2.1.blk))).trans q6;clear x7)
     | (go_at_call 53;refine(X7.out.cells HKs.out).mono ?_;rintro e w8 ⟨a8,c8,rfl,y8⟩;have U8:Hid (StU Wl Wl' S w w4 w8 fb s2 u4 vs K1 (.slice a8 s2.K.length c8) s2.K):=⟨y8.2.2.2,y8.2.2.1,y8.1,y8.2.1⟩;clear y8)
     | (refine wpList_build1 (u:=.slice a8 s2.K.length c8) (A:=#[.slice a8 s2.K.length c8]) _ rfl _ rfl rfl (bSS a8 _ c8) ?_;intro w9 b9 N9;have U9:Hid (StU Wl Wl' S w w4 w9 fb s2 u4 vs K1 (.slice a8 s2.K.length c8) s2.K/\At w9 b9 60 #[.slice a8 s2.K.length c8]):=⟨U8.out.below N9.bel,N9.is⟩;clear N9)
     | (refine wpList_push elSS (A:=#[.slice a8 s2.K.length c8]) rfl _ _ rfl rfl U9.out.1.ss.st.row rfl U9.out.2 rfl (fun x hx=>by simp at hx;subst hx;rfl) (by rw[List.length_map];have:=HLs.out;omega) ?_;intro a10 c10 w10 A10;have X10:Hid (StS Wl Wl' S w w4 w10 fb s2 (.slice a10 (vs.length+1) c10) (vs++[.slice a8 s2.K.length c8]) (K1++[s2.K])):=(by have:=U9.out.1.push A10;rw[List.length_map] at this;exact this);clear A10)
    go_roundg (m-(i+1))
    case measure=>omega
    case rel=>exact⟨i+1,vs++[.slice a8 s2.K.length c8],by first |rfl |go_num,Nat.le_refl _,by omega,by rw[HE.out,HF2.out];exact X10.out,by rw[HF2.out];exact HBn.out⟩
   ·have HE:Hid (stpF fs (i+1)=K1):=HF.out.trans (if_neg hx)
    clear HF
    go_wp2_with first
     | (refine wpList_load_in hSt (A:=RX) _ rfl _ rfl rfl y2 HRX.out.1 ?_)
     | (refine wpList_new_at (A:=zR) _ zRv rfl rfl ?_;intro w5 b7 N5)
     | (refine wpList_put_at (A:=zR) (A':=RX) hSt _ rfl _ _ rfl rfl rfl N5.is rfl HRX.out.1 HRX.out.2.2 ?_;intro w6 P6;have X6:Hid (Below wr.heap.size wr w6/\At w6 b7 54 RX/\wr.heap.size<=b7):=⟨np_bel N5 P6,P6.is,by rw[N5.eq];exact Nat.le_refl _⟩;have q6:w6.cell? ⟨b7,0,none⟩=some (.int .i64 kd):=(P6.is.c 0).trans HK0.out)
     | (refine wpList_load_at hSt (A:=RX) _ rfl _ rfl rfl X6.out.2.1 HRX.out.1 ?_)
     | (go_at_call 54;refine(CT.out _ X6.out.1).mono ?_;rintro e w7 ⟨rfl,x7⟩;have X7:Hid (StS Wl Wl' S w w4 w7 fb s2 u4 vs K1):=x7.1;have q7:w7.cell? ⟨b7,0,none⟩=some (.int .i64 kd):=(World.cell?_of_block (x7.2 b7 X6.out.2.2 (lt_of X6.out.2.1.blk))).trans q6;clear x7)
    go_roundg (m-(i+1))
    case measure=>omega
    case rel=>exact⟨i+1,_,by first |rfl |go_num,Nat.le_refl _,by omega,by rw[HE.out,HF2.out];exact X7.out,by rw[HF2.out];exact HBn.out⟩
  ·obtain rfl:i=m:=by omega
   have hltI:¬ (i:Int)<(i:Int):=by omega
   obtain⟨av,cv,ev,_⟩:=HO.out.1.st.row.sl
   rw[List.length_map,HO.out.1.st.len] at ev
   subst ev
   go_wp2
   go_ret
   have e9:=Hm.out
   subst e9
   refine⟨_,_,vs,Wl',rfl,HO.out.1.st,HS.out.2.2.1.turn (fun j hj=>HO.out.1.keep j (HS.out.2.2.2 j hj)) HO.out.1.sz,HO.out.1.fr,fun j hj=>⟨(HO.out.1.sb j hj).1,fun hw=>(HO.out.1.sb j hj).2 (HS.out.2.2.2 j hw)⟩⟩
end
end Go.Proofs.YtdchjncnjgelhaaGreat.Fd
