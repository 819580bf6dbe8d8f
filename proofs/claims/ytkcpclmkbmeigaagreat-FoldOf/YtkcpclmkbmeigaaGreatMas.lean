import Derived.Test.YtkcpclmkbmeigaaGreatMar
import Derived.Test.YtkcpclmkbmeigaaGreatMad
set_option linter.unusedVariables false
set_option linter.unusedSimpArgs false
set_option maxRecDepth 100000
namespace Go.Proofs.YtkcpclmkbmeigaaGreat.Fd
open Go.RowKit Gm Go.Maps
def ofF (fs:List ByteArray) (en:Int):Nat->Fs
 | 0=>⟨[],[],0⟩
 | i+1=>if Lg.pla fs i<en then noteF (ofF fs en i) (rcO fs i) else ofF fs en i
structure OfS (Wl Wl' S:Nat->Prop) (w wR wr:World) (fb:Nat) (s:Fs):Prop where
 ex:∃ W,Fo W wr fb s.K s.G s.n/\(∀ j,W j->w.heap.size<=j)/\∀ j,W j->¬ S j
 keep:∀ j,S j->wr.heap[j]?=wR.heap[j]?
 slt:∀ j,S j->j<wR.heap.size
 fr:Gm.Fr Wl Wl' w wr
 sz:wR.heap.size<=wr.heap.size
section
variable {Wl Wl' S:Nat->Prop}{w wR wr w':World}{fb l:Nat}{s:Fs}{r:Rc}{I T:Value}{i:Nat}{fs:List ByteArray}
theorem OfS.step (h:OfS Wl Wl' S w wR wr fb s) {W W':Nat->Prop} {s':Fs} (hW:(∀ j,W j->w.heap.size<=j)/\∀ j,W j->¬ S j) (hf:Gm.Fr W W' wr w') (ho:Fo W' w' fb s'.K s'.G s'.n):OfS Wl Wl' S w wR w' fb s':=by
 refine⟨⟨W',ho,fun j hj=>?_,fun j hj hs=>?_⟩,fun j hs=>?_,h.slt,⟨hf.os.trans h.fr.os,hf.tape.trans h.fr.tape,hf.output.trans h.fr.output,Nat.le_trans h.fr.size hf.size,fun j hj hn=>?_,h.fr.sub⟩,Nat.le_trans h.sz hf.size⟩
 ·exact(hf.sub j hj).elim (hW.1 j) (fun e=>Nat.le_trans h.fr.size e)
 ·rcases hf.sub j hj with e |e
  ·exact hW.2 j e hs
  ·have:=h.slt j hs;have:=h.sz;omega
 ·exact(hf.blk j (Nat.lt_of_lt_of_le (h.slt j hs) h.sz) (fun e=>hW.2 j e hs)).trans (h.keep j hs)
 ·exact(hf.blk j (Nat.lt_of_lt_of_le hj h.fr.size) (fun e=>by have:=hW.1 j e;omega)).trans (h.fr.blk j hj hn)
theorem OfS.below (h:OfS Wl Wl' S w wR wr fb s) (hb:Below wr.heap.size wr w'):OfS Wl Wl' S w wR w' fb s:=by
 obtain⟨W,h1,h2⟩:=h.ex
 exact h.step h2 (Gm.Fr.of_below hb W) (h1.bel hb)
theorem OfS.note (h:OfS Wl Wl' S w wR wr fb s) (hb:Bd s i) (hi:i<=500) (hr:RcW r):Calls Tryz.prog 33 #[.pointer (some ⟨fb,0,none⟩),.agg (r.A I T)] wr fun e w'=>e=.returned (.tuple #[])/\OfS Wl Wl' S w wR w' fb (noteF s r):=by
 obtain⟨W,h1,h2⟩:=h.ex
 refine(Note_bd h1 hb hi hr.t hr.k).mono ?_
 rintro e w' ⟨rfl,W',h3,h4⟩
 exact⟨rfl,h.step h2 h4 h3⟩
theorem OfS.pa (h:OfS Wl Wl' S w wR wr fb s):s.G.Pairwise fun a b=>a.txn≠b.txn:=by obtain⟨W,h1,_⟩:=h.ex;exact h1.nd
structure RwS (S:Nat->Prop) (wR:World) (fs:List ByteArray) (a a':Option Addr):Prop where
 at_:∀ i,i<fs.length->∃ g g' I T,a=some ⟨g,0,none⟩/\a'=some ⟨g',0,none⟩/\S g/\S g'/\(I.oneCell'=true/\T.oneCell'=true)/\wR.rangeAt g (i*13) ((rcO fs i).A I T).toList/\wR.cell? ⟨g',i,none⟩=some (.int .i64 (Lg.pla fs i))
theorem recF_one {w:World} {q:Sc} {I T:Value} {m:Rm} {B:Nat} (h:RecF w (.agg (q.A I T)) m B):I.oneCell'=true/\T.oneCell'=true:=by
 obtain⟨I',T',e,f1,f2⟩:=h.ex
 obtain⟨a1,c1,e1,_⟩:=f1.ex
 obtain⟨a2,c2,e2,_⟩:=f2.ex
 injection e with e
 have e9:=congrArg (fun a=>a[9]?) e
 have e10:=congrArg (fun a=>a[10]?) e
 simp[Sc.A] at e9 e10
 rw[e9,e10,e1,e2]
 exact⟨rfl,rfl⟩
theorem one_rc (r:Rc) {I T:Value} (hI:I.oneCell'=true) (hT:T.oneCell'=true):∀ u∈(r.A I T).toList,u.oneCell'=true:=by
 intro u hu
 simp[Rc.A] at hu
 rcases hu with rfl |rfl |rfl |rfl |rfl |rfl |rfl |rfl |rfl |rfl |rfl |rfl |rfl
 all_goals first |rfl |assumption
set_option maxHeartbeats 1000000 in
theorem rec_of {Wl:Nat->Prop} {w1:World} (h:Lg.Lo Wl w1 l fs) (hw:w.heap.size<=w1.heap.size) (hl:∀ j,Wl j->j<w.heap.size) (hb:Below w.heap.size w w1) {W:Nat->Prop} {fb:Nat} {s:Fs} (ho:Fo W w1 fb s.K s.G s.n) (hW:∀ j,W j->w.heap.size<=j):Calls Tryz.prog 19 #[.pointer (some ⟨l,0,none⟩)] w1 fun e w2=>∃ a c a' c' S Wl',e=.returned (.tuple #[.slice a fs.length c,.slice a' fs.length c'])/\RwS S w2 fs a a'/\OfS Wl Wl' S w w2 w2 fb s/\Lg.Lo Wl' w2 l fs/\(∀ j,Wl' j->S j):=by
 refine h.records.mono ?_
 rintro e w2 ⟨v,v2,Wl',he,hr,hi,hlo,hf,n1,n2⟩
 obtain⟨a,c,e1⟩:=hr.slice
 obtain⟨a',c',e2⟩:=hi.ex
 rw[List.length_map] at e1
 rw[plc_length] at e2
 subst e1 e2
 have hlt:∀ j,Wl j->j<w1.heap.size:=fun j hj=>Nat.lt_of_lt_of_le (hl j hj) hw
 have hWl:∀ j,W j->¬ Wl j:=fun j h1 h2=>by have:=hW j h1;have:=hl j h2;omega
 have gr:∀ g,(Value.slice a fs.length c).ownBlock=some g->w1.heap.size<=g/\g<w2.heap.size:=fun g eg=>by
  obtain⟨es,h1,⟨h2,h3⟩,h4⟩:=hr.ex
  rcases h3 with⟨e,_⟩ |⟨g9,cap,cur,e,hB,hg,_⟩
  ·rw[e] at eg;cases eg
  ·rw[e] at eg;cases eg;exact⟨hB,lt_of hg⟩
 have gi:∀ g,(Value.slice a' fs.length c').ownBlock=some g->w1.heap.size<=g/\g<w2.heap.size:=fun g eg=>Lg.ownI_lt hi eg
 refine⟨a,c,a',c',fun j=>(Value.slice a fs.length c).ownBlock=some j∨(Value.slice a' fs.length c').ownBlock=some j∨Wl' j,Wl',he,⟨fun i hlt=>?_⟩,⟨⟨W,?_,hW,fun j hj hs=>?_⟩,fun j _=>rfl,fun j hj=>?_,?_,Nat.le_refl _⟩,hlo,fun j hj=>Or.inr (Or.inr hj)⟩
 ·obtain⟨g,I,T,e3,h1,hrf⟩:=hr.at_ (i:=i) (by rw[List.length_map];exact hlt)
  obtain⟨g',e4,h2⟩:=hi.at_ (i:=i) (by rw[plc_length];exact hlt)
  refine⟨g,g',I,T,e3,e4,Or.inl (by rw[e3];rfl),Or.inr (Or.inl (by rw[e4];rfl)),recF_one hrf,?_,?_⟩
  ·rw[List.getElem_map,Lg.rcd_at hlt] at h1
   unfold rcO
   rw[toR_A]
   exact h1
  ·have h3:=h2 w2 (Below.refl _ _)
   have h4:=plc_get 1 fs i hlt
   rw[List.getElem?_eq_getElem (by rw[plc_length];exact hlt)] at h4
   have h5:=Option.some.inj h4
   rw[h3,h5]
   rfl
 ·exact ho.keep (fun j hj=>hf.blk j (ho.lt j hj) (hWl j hj)) hf.size
 ·have:=ho.lt j hj
  rcases hs with e |e |e
  ·have:=(gr j e).1;omega
  ·have:=(gi j e).1;omega
  ·rcases hf.sub j e with e2 |e2
   ·exact hWl j hj e2
   ·omega
 ·rcases hj with e |e |e
  ·exact(gr j e).2
  ·exact(gi j e).2
  ·exact hlo.lt e
 ·refine⟨hf.os.trans hb.os,hf.tape.trans hb.tape,hf.output.trans hb.output,Nat.le_trans hw hf.size,fun j hj hn=>(hf.blk j (Nat.lt_of_lt_of_le hj hw) hn).trans (hb.block j hj),fun j hj=>(hf.sub j hj).imp id fun e=>Nat.le_trans hw e⟩
end
section
variable {w:World}{l:Nat}{fs:List ByteArray}{Wl:Nat->Prop}
structure OfE (Wl:Nat->Prop) (w:World) (l:Nat) (fs:List ByteArray) (s:Fs) (e:Ending) (w':World):Prop where
 ex:∃ fb W Wl',e=.returned (.pointer (some ⟨fb,0,none⟩))/\Fo W w' fb s.K s.G s.n/\(∀ j,W j->w.heap.size<=j)/\(∀ j,W j->¬ Wl' j)/\Lg.Lo Wl' w' l fs/\Gm.Fr Wl Wl' w w'
set_option maxHeartbeats 4000000 in
theorem Of_any (h:Lg.Lo Wl w l fs) (hn:fs.length<=400) (en:Int):Calls Tryz.prog 27 #[.pointer (some ⟨l,0,none⟩),.int .i64 en] w fun e w'=>OfE Wl w l fs (ofF fs en fs.length) e w':=by
 have HL:Hid (Lg.Lo Wl w l fs):=h
 have CN:Hid (∀ wx,Calls Tryz.prog 63 #[] wx fun e w'=>e=.returned (.pointer (some ⟨wx.heap.size+1,0,none⟩))/\NwF wx w' (wx.heap.size+1)):=New_ok
 have HRW:Hid (∀ i,i<fs.length->RcW (rcO fs i)):=fun i hi=>rcO_w h.fit.frm hi
 clear h
 obtain⟨m,hm⟩:∃ m,fs.length=m:=⟨_,rfl⟩
 have Hm:Hid (fs.length=m):=hm
 rw[hm] at hn HRW ⊢
 clear hm
 have CR:Hid (∀ w1 fb,NwF w w1 fb->Calls Tryz.prog 19 #[.pointer (some ⟨l,0,none⟩)] w1 fun e w2=>∃ a c a' c' S Wl',e=.returned (.tuple #[.slice a m c,.slice a' m c'])/\RwS S w2 fs a a'/\OfS Wl Wl' S w w2 w2 fb ⟨[],[],0⟩/\Lg.Lo Wl' w2 l fs/\∀ j,Wl' j->S j):=fun w1 fb na=>by
  obtain⟨Wf,f1,f2⟩:=na.ex
  have h:=rec_of (w:=w) (fb:=fb) (s:=⟨[],[],0⟩) (HL.out.below na.bel) na.bel.size (fun j hj=>HL.out.lt hj) na.bel f1 f2
  rw[Hm.out] at h
  exact h
 go_enter Tryz.func27,Tryz.ntmps27
 go_wp2_with first
  | (have:=NA.out;go_at_call 19;refine(CR.out _ _ NA.out).mono ?_;rintro e w2 ⟨a,c,a',c',S,Wl',rfl,r1,r2,r3,r4⟩;have HS:Hid (RwS S w2 fs a a'/\OfS Wl Wl' S w w2 w2 fb ⟨[],[],0⟩/\Lg.Lo Wl' w2 l fs/\∀ j,Wl' j->S j):=⟨r1,r2,r3,r4⟩;clear r1 r2 r3 r4)
  | (go_at_call 63;refine(CN.out _).mono ?_;rintro e w1 ⟨rfl,na⟩;obtain⟨fb,hfb⟩:∃ fb,fb=w.heap.size+1:=⟨_,rfl⟩;rw[← hfb] at na ⊢;clear hfb;have NA:Hid (NwF w w1 fb):=na;clear na)
 clear CR NA CN
 go_loopg [18] m (fun k vi wr=>∃ i:Nat,vi=.int .i64 (i:Int)/\m-i<=k/\i<=m/\OfS Wl Wl' S w w2 wr fb (ofF fs en i)/\Bd (ofF fs en i) i)
 case atStart=>exact⟨0,rfl,by omega,by omega,HS.out.2.1,Bd.zero⟩
 case round =>
  obtain⟨i,rfl,hk,him,hO,hBd⟩:=hrel
  have HO:Hid (OfS Wl Wl' S w w2 wr fb (ofF fs en i)/\Bd (ofF fs en i) i):=⟨hO,hBd⟩
  clear hO hBd
  by_cases hlt:i<m
  ·have hltI:(i:Int)<(m:Int):=by omega
   obtain⟨g,g',I,T,rfl,rfl,sg,sg',hone,hr,hp⟩:=HS.out.1.at_ i (by rw[Hm.out];exact hlt)
   have y2:wr.rangeAt g (i*13) ((rcO fs i).A I T).toList:=range_bel hr (HO.out.1.keep g sg)
   have p2:wr.cell? ⟨g',i,none⟩=some (.int .i64 (Lg.pla fs i)):=by rw[World.cell?_of_block (HO.out.1.keep g' sg')];exact hp
   have HP:Hid (∀ wx,Below wr.heap.size wr wx->wx.cell? ⟨g',i,none⟩=some (.int .i64 (Lg.pla fs i))):=fun wx hb=>by
    have h9:g'<wr.heap.size:=Nat.lt_of_lt_of_le (HO.out.1.slt g' sg') HO.out.1.sz
    rw[World.cell?_of_block (hb.block g' h9)];exact p2
   have HF:Hid (ofF fs en (i+1)=if Lg.pla fs i<en then noteF (ofF fs en i) (rcO fs i) else ofF fs en i):=rfl
   have HBn:Hid (Bd (noteF (ofF fs en i) (rcO fs i)) (i+1)/\Bd (ofF fs en i) (i+1)):=⟨HO.out.2.note HO.out.1.pa _,HO.out.2.up⟩
   have CT:Hid (∀ wx,OfS Wl Wl' S w w2 wx fb (ofF fs en i)->Calls Tryz.prog 33 #[.pointer (some ⟨fb,0,none⟩),.agg ((rcO fs i).A I T)] wx fun e w'=>e=.returned (.tuple #[])/\OfS Wl Wl' S w w2 w' fb (noteF (ofF fs en i) (rcO fs i))):=fun wx hx=>hx.note HO.out.2 (by omega) (HRW.out i hlt)
   have HRX:Hid (((rcO fs i).A I T).size=13/\((rcO fs i).A I T).size=zR.size/\∀ u∈((rcO fs i).A I T).toList,u.oneCell'=true):=⟨rfl,rfl,one_rc _ hone.1 hone.2⟩
   have hSt:=stRc
   clear hr hp sg sg' hone p2
   generalize noteF (ofF fs en i) (rcO fs i)=s2 at *
   generalize ofF fs en i=s1 at *
   generalize (rcO fs i).A I T=RX at *
   generalize Lg.pla fs i=x at *
   by_cases hx:x<en
   ·have e9:ofF fs en (i+1)=s2:=HF.out.trans (if_pos hx)
    have HE:Hid (ofF fs en (i+1)=s2):=e9
    clear e9 HF
    go_wp2_with first
     | (refine wpList_load_in hSt (A:=RX) _ rfl _ rfl rfl y2 HRX.out.1 ?_)
     | (refine wpList_new_at (A:=zR) _ zRv rfl rfl ?_;intro w3 b7 N3)
     | (refine wpList_put_at (A:=zR) (A':=RX) hSt _ rfl _ _ rfl rfl rfl N3.is rfl HRX.out.1 HRX.out.2.2 ?_;intro w4 P4;have X4:Hid (OfS Wl Wl' S w w2 w4 fb s1/\At w4 b7 54 RX):=⟨HO.out.1.below (np_bel N3 P4),P4.is⟩;have p4:w4.cell? ⟨g',i,none⟩=some (.int .i64 x):=HP.out _ (np_bel N3 P4))
     | (refine wpList_load_at hSt (A:=RX) _ rfl _ rfl rfl X4.out.2 HRX.out.1 ?_)
     | (go_at_call 33;refine(CT.out _ X4.out.1).mono ?_;rintro e w5 ⟨rfl,x5⟩;have X5:Hid (OfS Wl Wl' S w w2 w5 fb s2):=x5;clear x5)
    go_roundg (m-(i+1))
    case measure=>omega
    case rel=>exact⟨i+1,by first |rfl |go_num,Nat.le_refl _,by omega,by rw[HE.out];exact X5.out,by rw[HE.out];exact HBn.out.1⟩
   ·have e9:ofF fs en (i+1)=s1:=HF.out.trans (if_neg hx)
    have HE:Hid (ofF fs en (i+1)=s1):=e9
    clear e9 HF
    go_wp2_with first
     | (refine wpList_load_in hSt (A:=RX) _ rfl _ rfl rfl y2 HRX.out.1 ?_)
     | (refine wpList_new_at (A:=zR) _ zRv rfl rfl ?_;intro w3 b7 N3)
     | (refine wpList_put_at (A:=zR) (A':=RX) hSt _ rfl _ _ rfl rfl rfl N3.is rfl HRX.out.1 HRX.out.2.2 ?_;intro w4 P4;have X4:Hid (OfS Wl Wl' S w w2 w4 fb s1):=HO.out.1.below (np_bel N3 P4);have p4:w4.cell? ⟨g',i,none⟩=some (.int .i64 x):=HP.out _ (np_bel N3 P4))
    go_roundg (m-(i+1))
    case measure=>omega
    case rel=>exact⟨i+1,by first |rfl |go_num,Nat.le_refl _,by omega,by rw[HE.out];exact X4.out,by rw[HE.out];exact HBn.out.2⟩
  ·obtain rfl:i=m:=by omega
   have hltI:¬ (i:Int)<(i:Int):=by omega
   go_wp2
   go_ret
   obtain⟨W,f1,f2,f3⟩:=HO.out.1.ex
   exact⟨fb,W,Wl',rfl,f1,f2,fun j hj hl=>f3 j hj (HS.out.2.2.2 j hl),HS.out.2.2.1.turn (fun j hj=>HO.out.1.keep j (HS.out.2.2.2 j hj)) HO.out.1.sz,HO.out.1.fr⟩
end
end Go.Proofs.YtkcpclmkbmeigaaGreat.Fd
