import Derived.Test.YtdchjncnjgelhaaGreatMaq
set_option linter.unusedVariables false
set_option linter.unusedSimpArgs false
set_option maxRecDepth 100000
namespace Go.Proofs.YtdchjncnjgelhaaGreat.Lg
open Go.RowKit Go.Maps Go.ChangeMaps
open Gm (thn bl1 bdr)
open Go.Sort Go.Shelf
def gT (tb:List Tb):List Rq.SpL:=tb.foldl (fun G p=>gW G p.1 p.2) []
theorem gT_succ {tb:List Tb} {k:Nat} (hk:k<tb.length):gT (tb.take (k+1))=gW (gT (tb.take k)) tb[k].1 tb[k].2:=by
 unfold gT
 rw[List.take_succ_eq_append_getElem hk,List.foldl_append]
 rfl
theorem gT_len (tb:List Tb):(gT tb).length<=tb.length:=by
 have h:∀ (tb:List Tb) (G:List Rq.SpL),(tb.foldl (fun G p=>gW G p.1 p.2) G).length<=G.length+tb.length:=by
  intro tb
  induction tb with
  | nil=>intro G;exact Nat.le_refl _
  | cons p tb ih =>
   intro G
   have h1:=ih (gW G p.1 p.2)
   have h2:=gW_len G p.1 p.2
   rw[List.foldl_cons,List.length_cons]
   omega
 have:=h tb []
 simpa[gT] using this
theorem lt_cell {w:World} {b k:Nat} {v:Value} (h:w.cell? ⟨b,k,none⟩=some v):b<w.heap.size:=by
 rcases Nat.lt_or_ge b w.heap.size with h1 |h1
 ·exact h1
 ·simp[World.cell?,Array.getElem?_eq_none h1] at h
theorem stAc:Gm.St 40 2:=⟨⟨_,Tryz.underlying40⟩,by kernel_rfl⟩
theorem zAc (w:World):(zeroValue 40).run Tryz.prog w=.ok (.agg #[.int .i64 0,.int .i64 0]) w:=by kernel_rfl
section
variable {W W2 V:Nat->Prop}{w w1 w2 w5 wr w':World}{l b bm n k:Nat}{fs:List ByteArray}{G:List Rq.SpL}{J:Nat->(Nat->Prop)->World->Prop}{tb:List Tb}{a:Option Addr}{c:Nat}{T:Value}{i:Nat}
theorem Ov.fr (ho:Ov W2 V wr l fs J n w') (hF:Gm.Fr W W2 w wr) (hV:∀ j,V j->w.heap.size<=j):∃ W' V',Lo W' w' l fs/\J n V' w'/\Gm.Fr W W' w w':=by
 obtain⟨W',V',g1,g2,g3,g4,g5⟩:=ho.ex
 have hs:=hF.size
 refine⟨W',V',g1,g2,ho.os.trans hF.os,ho.tape.trans hF.tape,ho.output.trans hF.output,Nat.le_trans hs ho.size,fun j hj hn=>?_,fun j hj=>(g4 j hj).elim (fun e=>hF.sub j e) (fun e=>Or.inr (Nat.le_trans hs e))⟩
 exact(ho.blk j (Nat.lt_of_lt_of_le hj hs) (hF.not hj hn) (fun e=>by have:=hV j e;omega)).trans (hF.blk j hj hn)
structure Ra (W:Nat->Prop) (w:World) (l:Nat) (fs:List ByteArray) (b bm:Nat) (a:Option Addr) (tb:List Tb) (w5:World):Prop where
 ex:∃ W2,Lo W2 w5 l fs/\Gm.Fr W W2 w w5/\¬ W2 b/\¬ W2 bm
 at_:Gm.At w5 b 94 #[.map (some bm)]
 mp:Gm.Mp w5 3 bm 0 (fun _=>none)
 cs:Cs w5 a (encT tb)
 ge:w.heap.size<=b/\w.heap.size<=bm
structure Rb (w5:World) (bm:Nat) (tb:List Tb) (k:Nat) (wr:World):Prop where
 fr:Gm.Fr (fun j=>j=bm) (fun j=>j=bm) w5 wr
 mg:Mg wr bm (gT (tb.take k))
theorem Ra.cell (h:Ra W w l fs b bm a tb w5) (hb:Rb w5 bm tb k wr) (hk:k<tb.length):∃ g o,a=some ⟨g,o,none⟩/\wr.cell? ⟨g,o+k*2,none⟩=some (.int .i64 tb[k].1)/\wr.cell? ⟨g,o+k*2+1,none⟩=some (.int .i64 tb[k].2)/\wr.cell? ⟨b,0,none⟩=some (.map (some bm)):=by
 obtain⟨g,o,e,hg,hc⟩:=csT_at h.cs hk
 obtain⟨h1,h2⟩:=hc w5 (Below.refl _ _)
 have hne:g≠bm:=fun e2=>by
  obtain⟨es,cl,h3⟩:=h.mp.blk
  rw[e2] at h1
  simp[World.cell?,h3] at h1
 have e1:=hb.fr.blk g hg hne
 have e2:=hb.fr.blk b h.at_.lt (Ne.symm (h.mp.ne h.at_))
 exact⟨g,o,e,(World.cell?_of_block e1).trans h1,(World.cell?_of_block e1).trans h2,(World.cell?_of_block e2).trans (h.at_.c 0)⟩
theorem Ra.below (h:Ra W w l fs b bm a tb w5) (hb:Below w5.heap.size w5 wr):Ra W w l fs b bm a tb wr:=by
 obtain⟨W2,q1,q2,q3,q4⟩:=h.ex
 exact⟨⟨W2,q1.below hb,q2.below hb,q3,q4⟩,h.at_.bel hb,h.mp.bel hb,h.cs.below hb,h.ge⟩
theorem Ra.zero (h:Ra W w l fs b bm a tb w5):Rb w5 bm tb 0 w5:=⟨Gm.Fr.refl _ _,⟨⟨0,h.mp.ext (fun l=>gF_nil l)⟩,List.nodup_nil,fun q hq=>by cases hq⟩⟩
theorem Rb.step (h:Rb w5 bm tb k wr) (hk:k<tb.length) (hw:wfI tb[k].1) (hbel:Below wr.heap.size wr w1) {n':Nat} {f':Lit->Option Value} (M:Gm.Mp w2 3 bm n' (Gm.updL (gF (gT (tb.take k))) (.int .i64 tb[k].1) (some (.int .i64 tb[k].2)))) (T:w1.mapTurned w2 bm):Rb w5 bm tb (k+1) w2:=by
 refine⟨(h.fr.below hbel).trans (Gm.turned_fr T rfl),?_⟩
 rw[gT_succ hk]
 refine⟨⟨_,M.ext (gF_put _ _ _)⟩,gW_nd h.mg.nd _ _,fun q hq=>?_⟩
 rcases List.mem_append.1 hq with h9 |h9
 ·exact h.mg.wf q (List.mem_filter.1 h9).1
 ·have:q=(tb[k].1,tb[k].2):=by simpa using h9
  rw[this];exact hw
set_option maxHeartbeats 4000000 in
theorem Table_at (h:Lo W w l fs) (hi:i<fs.length) (hk9:(recF fs[i]).s.kd=9) (htb:(recF fs[i]).tb.length<=255) (hwf:∀ p∈(recF fs[i]).tb,wfI p.1):Calls Tryz.prog 18 #[.pointer (some ⟨l,0,none⟩),.int .i64 (pla fs i)] w fun e w'=>TaO W w l fs (tbM fs (i+1) (gT (recF fs[i]).tb) fs.length) e w':=by
 have hz:∀ w,(zeroValue 94).run Tryz.prog w=.ok (.map none) w:=fun w=>by kernel_rfl
 have i1:(Tryz.prog.info? 94).map (·.size)=some 1:=by kernel_rfl
 have hG:(gT (recF fs[i]).tb).length<=255:=Nat.le_trans (gT_len _) htb
 have hlen:(tbM fs (i+1) (gT (recF fs[i]).tb) fs.length).length<=80000:=by have:=tbM_len fs (i+1) (gT (recF fs[i]).tb) fs.length;have:=fs_len h.fit;omega
 have hps:pla fs i > 0:=by unfold pla;omega
 have CR:Hid (∀ wx b bm,Below w.heap.size w wx->Gm.At wx b 94 #[.map (some bm)]->Gm.Mp wx 3 bm 0 (fun _=>none)->w.heap.size<=b->w.heap.size<=bm->Calls Tryz.prog 45 #[.pointer (some ⟨l,0,none⟩),.int .i64 (pla fs i)] wx fun e w'=>∃ I a c,e=.returned (.tuple #[.agg ((recF fs[i]).s.A I (.slice a (recF fs[i]).tb.length c)),.int .i64 (pla fs (i+1)),.int .i64 0])/\I.oneCell'=true/\Ra W w l fs b bm a (recF fs[i]).tb w'):=fun wx b bm hB hA hM hb hbm=>by
  refine(read_at (h.below hB) hi).mono ?_
  rintro e w' ⟨v,W2,he,⟨I,T,rfl,hI,hT⟩,hl,hf⟩
  obtain⟨a,c,e2,hcs,_⟩:=hT.slT.ex
  subst e2
  have n1:¬ W b:=fun e=>by have:=h.lt e;omega
  have n2:¬ W bm:=fun e=>by have:=h.lt e;omega
  exact⟨I,a,c,he,hI.slI.one,⟨W2,hl,(Gm.Fr.of_below hB W).trans hf,hf.not hA.lt n1,hf.not hM.lt n2⟩,hA.fr hf n1,hM.fr hf n2,hcs,hb,hbm⟩
 have CE:Hid (∀ w5 wr b bm a,Ra W w l fs b bm a (recF fs[i]).tb w5->Rb w5 bm (recF fs[i]).tb (recF fs[i]).tb.length wr->Calls Tryz.prog 46 #[.pointer (some ⟨l,0,none⟩),.int .i64 (pla fs (i+1)),.func (.func 47) #[] #[.pointer (some ⟨b,0,none⟩)]] wr fun e w'=>e=.returned (.tuple #[])/\∃ bm,w'.cell? ⟨b,0,none⟩=some (.map (some bm))/\Dm W w l fs b bm (tbM fs (i+1) (gT (recF fs[i]).tb) fs.length) w'):=fun w5 wr b bm a hA hB=>by
  obtain⟨W2,q1,q2,q3,q4⟩:=hA.ex
  have hmg:=hB.mg
  rw[List.take_length] at hmg
  have hL:Lo W2 wr l fs:=q1.fr hB.fr (fun j hj e=>q4 (e ▸ hj))
  have hF:Gm.Fr W W2 w wr:=by
   refine⟨hB.fr.os.trans q2.os,hB.fr.tape.trans q2.tape,hB.fr.output.trans q2.output,Nat.le_trans q2.size hB.fr.size,fun j hj hn=>?_,q2.sub⟩
   exact(hB.fr.blk j (Nat.lt_of_lt_of_le hj q2.size) (fun e=>by have:=hA.ge.2;omega)).trans (q2.blk j hj hn)
  have:=each_any (i:=i+1) (tlT (b:=b) (k:=i+1) (G:=gT (recF fs[i]).tb) h.fit (by omega)) hL (V:=fun j=>j=b∨j=bm) ⟨⟨bm,hA.at_.keep (hB.fr.blk b hA.at_.lt (Ne.symm (hA.mp.ne hA.at_))),by rw[tbM_at _ _ _ _ (Nat.le_refl _)];exact hmg,fun j=>Iff.rfl⟩,Nat.le_refl _,hi⟩ (fun j hj e=>by rcases e with e |e;exact q3 (e ▸ hj);exact q4 (e ▸ hj)) hi
  refine this.mono ?_
  rintro e w' ⟨he,ho⟩
  obtain⟨W',V',g1,⟨⟨bm',k1,k2,k3⟩,_⟩,g5⟩:=ho.fr hF (fun j hj=>by have:=hA.ge;omega)
  exact⟨he,bm',k1.c 0,⟨W',g1,g5⟩,k2,hlen⟩
 have HWf:Hid (∀ p∈(recF fs[i]).tb,wfI p.1):=hwf
 clear h hlen hwf hG
 generalize tbM fs (i+1) (gT (recF fs[i]).tb) fs.length=G at *
 generalize pla fs (i+1)=nx at *
 generalize pla fs i=x at *
 generalize recF fs[i]=r at *
 obtain⟨sr,im,tb⟩:=r
 dsimp only at *
 obtain⟨kd,tx,pv,pg,ac,ky,ol,nw,nxx,ep,nd⟩:=sr
 dsimp only at hk9
 subst hk9
 obtain⟨m0,hm0⟩:∃ m0,tb.length=m0:=⟨_,rfl⟩
 have Hm0:Hid (tb.length=m0):=hm0
 rw[hm0] at CR htb
 have Hm1:Hid (m0<=255):=htb
 clear hm0
 obtain⟨w1,bm,hmk,hE1,hM1,hB1⟩:∃ (w1:World) (bm:Nat),(Instr.makeMap 94 none).run Tryz.prog w=.ok (.map (some bm)) w1/\Hid (bm=w.heap.size)/\Hid (Gm.Mp w1 3 bm 0 (fun _=>none))/\Hid (Below w.heap.size w w1):=⟨_,_,rfl,rfl,Gm.Mp.made w 3,bl1 _⟩
 go_enter Tryz.func18,Tryz.ntmps18
 go_wp2_with first
  | (refine Gm.wpList_new1 _ hz rfl rfl rfl ?_;intro w2 b N2)
  | (refine Gm.wpList_put1 (u:=.map none) (v:=.map (some bm)) _ rfl _ _ rfl rfl rfl N2.is rfl i1 ?_;intro w3 P3)
  | (go_at_call 45;refine(CR.out _ b bm (thn hB1.out (Rq.Put.belN N2 P3)) P3.is (hM1.out.bel (Rq.Put.belN N2 P3)) (by rw[N2.eq];exact hB1.out.size) (by rw[hE1.out];exact Nat.le_refl _)).mono ?_;rintro e w4 ⟨I,aT,cT,rfl,o1,A4⟩;have HA4:Hid (Ra W w l fs b bm aT tb w4):=A4;have hO1:Hid (I.oneCell'=true):=o1;clear A4 o1)
  | (refine wpList_new_rc _ rfl rfl ?_;intro w5 b8 N8)
  | (refine wpList_put_rc (s':=⟨9,tx,pv,pg,ac,ky,ol,nw,nxx,ep,nd⟩) (I':=I) (T':=.slice aT m0 cT) _ rfl (.tmp 8) (.tmp 23) rfl rfl rfl N8.rc hO1.out rfl ?_;intro w6 P8;have c0:w6.cell? ⟨b8,0,none⟩=some (.int .i64 9):=P8.rc.c0;have c10:w6.cell? ⟨b8,10,none⟩=some (.slice aT m0 cT):=P8.rc.c10;have HA6:Hid (Ra W w l fs b bm aT tb w6):=HA4.out.below (N8.below.trans (P8.below (by have:=N8.eq;omega) N8.below.size)))
 clear HA4 CR
 go_loopw [36] (fun s36 wr=>∃ k:Nat,s36=.int .i64 (k:Int)/\k<=m0/\Rb w6 bm tb k wr) (fun s36 _=>m0-(intOf s36).toNat)
 case atStart=>exact⟨0,rfl,Nat.zero_le _,HA6.out.zero⟩
 case round =>
  obtain⟨k,rfl,hk,hB⟩:=hrel
  rename World=>wo
  have HB:Hid (Rb w6 bm tb k wo):=hB
  clear hB
  by_cases hlt:k<m0
  ·have hltI:(k:Int)<(m0:Int):=by omega
   have hkt:k<tb.length:=by have:=Hm0.out;omega
   have hm255:m0<=255:=Hm1.out
   obtain⟨g,o,rfl,d0,d1,d2⟩:=HA6.out.cell HB.out hkt
   have HW:Hid (wfI tb[k].1):=HWf.out _ (List.getElem_mem hkt)
   have HS:Hid (∀ w1 w2 n',Below wo.heap.size wo w1->Gm.Mp w2 3 bm n' (Gm.updL (gF (gT (tb.take k))) (.int .i64 tb[k].1) (some (.int .i64 tb[k].2)))->w1.mapTurned w2 bm->Rb w6 bm tb (k+1) w2):=fun w1 w2 n' q1 q2 q3=>HB.out.step (f':=fun _=>none) hkt HW.out q1 q2 q3
   have HN:Hid ((gT (tb.take k)).length<10000000000000):=by show _<_;have:=gT_len (tb.take k);rw[List.length_take] at this;omega
   generalize tb[k].1=t at *
   generalize tb[k].2=y at *
   go_wp2_with first
    | (refine Gm.wpList_new_at (A:=#[.int .i64 0,.int .i64 0]) _ zAc rfl rfl ?_;intro w7 b7 N7;have e2:w7.cell? ⟨b,0,none⟩=some (.map (some bm)):=(World.cell?_of_block (N7.bel.block b (lt_cell d2))).trans d2)
    | (refine Gm.wpList_put_at (A:=#[.int .i64 0,.int .i64 0]) (A':=#[.int .i64 t,.int .i64 y]) stAc _ rfl _ _ rfl rfl rfl N7.is rfl rfl (Rq.oneI _ _) ?_;intro w8 P7;have k0:w8.cell? ⟨b7,0,none⟩=some (.int .i64 t):=P7.is.c 0;have k1:w8.cell? ⟨b7,1,none⟩=some (.int .i64 y):=P7.is.c 1;have k2:w8.cell? ⟨b,0,none⟩=some (.map (some bm)):=(World.cell?_of_block ((Rq.Put.belN N7 P7).block b (lt_cell d2))).trans d2)
    | (refine Gm.wpList_store_mp _ rfl _ _ _ rfl KI2 uL2 HN.out rfl (HB.out.mg.mp.bel (Rq.Put.belN N7 P7)) rfl rfl (keyI2 HW.out) ?_;intro w9 M9 T9)
   have HB9:=HS.out _ _ _ (Rq.Put.belN N7 P7) M9 T9
   go_roundw
   case rel=>exact⟨k+1,by first |rfl |go_num,by omega,HB9⟩
   case measure=>simp[intOf];omega
  ·obtain rfl:k=m0:=by omega
   have hltI:¬ (k:Int)<(k:Int):=by omega
   have CE2:Hid (Calls Tryz.prog 46 #[.pointer (some ⟨l,0,none⟩),.int .i64 nx,.func (.func 47) #[] #[.pointer (some ⟨b,0,none⟩)]] wo fun e w'=>e=.returned (.tuple #[])/\∃ bm,w'.cell? ⟨b,0,none⟩=some (.map (some bm))/\Dm W w l fs b bm G w'):=CE.out _ _ _ _ _ HA6.out (by rw[Hm0.out];exact HB.out)
   clear CE HB
   go_wp2_with first
    | (go_at_call 46;refine CE2.out.mono ?_;rintro e w5 ⟨rfl,bm',kb,D⟩;have HD:Hid (Dm W w l fs b bm' G w5):=D;clear D)
    | (go_at_call 49;refine(keys_c _ _).mono ?_;rintro e w6 ⟨rfl,rfl⟩)
    | (go_at_call 48;refine(sorted_c HD.out.mg.mp HD.out.mg.nd gF_some (Nat.le_trans HD.out.n (by decide))).mono ?_;rintro e w7 ⟨⟨v0,rfl,r0,o0⟩,q2⟩;obtain⟨a0,c0,ev,hc0⟩:=r0.sl;subst ev)
   clear CE2
   have hlen:(iC2 (srt (G.map (·.1)))).length=G.length:=by simp[iC2,srt_len]
   rw[hlen]
   have HR0:Hid (Gm.Row w7 3 1 (.slice a0 G.length c0) (iC2 (srt (G.map (·.1))))):=(by rw[hlen] at r0;exact r0)
   have HT:Hid (∀ t∈srt (G.map (·.1)),wfI t):=fun t ht=>by
    obtain⟨s,hs,rfl⟩:=List.mem_map.1 (mem_srt.1 ht)
    exact HD.out.mg.wf s hs
   have HO:Hid (∀ wr v a c,Tq w5 wr (.slice a0 G.length c0) v G (srt (G.map (·.1))) (srt (G.map (·.1))).length->v=.slice a G.length c->TaO W w l fs G (.returned (.tuple #[.slice a G.length c,.int .i64 0])) wr):=fun wr v a c q1 q2=>HD.out.out q1 q2
   have HN:Hid ((srt (G.map (·.1))).length=G.length/\G.length<=80000):=⟨by rw[srt_len,List.length_map],HD.out.n⟩
   have HMg:Hid (Mg w5 bm' G):=HD.out.mg
   clear r0 o0 hc0 hlen HD
   generalize srt (G.map (·.1))=ts at *
   obtain⟨m,hm⟩:∃ m,G.length=m:=⟨_,rfl⟩
   rw[hm] at HR0 HO HN ⊢
   clear hm
   have hm8:m<=80000:=HN.out.2
   go_loopw [13,55] (fun s13 s55 wr=>∃ (i:Nat) (a:Option Addr) (c:Nat),s55=.int .i64 (i:Int)/\s13=.slice a i c/\i<=m/\Tq w5 wr (.slice a0 m c0) (.slice a i c) G ts i) (fun s13 s55 _=>m-(intOf s55).toNat)
   case atStart=>exact⟨0,none,0,rfl,rfl,Nat.zero_le _,q2,HR0.out,Gm.Row.nil _ _ _,fun g e=>by cases e⟩
   case round =>
    clear HR0 q2
    obtain⟨i,a,c,rfl,rfl,hi,hM⟩:=hrel
    rename World=>wo
    have HM:Hid (Tq w5 wo (.slice a0 m c0) (.slice a i c) G ts i):=hM
    clear hM
    by_cases hlt:i<m
    ·have hltI:(i:Int)<(m:Int):=by omega
     have hit:i<ts.length:=by have:=HN.out.1;omega
     obtain⟨g0,ea,hg0,hat⟩:=HM.out.r0.at_ (i:=i) (by simp only[iC2,List.length_map];exact hit)
     have k0:wo.cell? ⟨g0,i,none⟩=some (.int .i64 ts[i]):=(by
      have:=(hat wo rfl).1 0 (.int .i64 ts[i]) (by simp[iC2])
      simpa using this)
     clear hat
     subst ea
     have kb2:wo.cell? ⟨b,0,none⟩=some (.map (some bm')):=(World.cell?_of_block (HM.out.bel.block b (by
      rcases Nat.lt_or_ge b w5.heap.size with h1 |h1
      ·exact h1
      ·simp[World.cell?,Array.getElem?_eq_none h1] at kb))).trans kb
     have hlk:=lookM (HMg.out.keep (HM.out.bel.block bm' HMg.out.mp.lt)) (HT.out _ (List.getElem_mem hit))
     have HE:Hid ((((ts.take (i+1)).map fun t=>(t,gL G t)).map Rq.encS)=(((ts.take i).map fun t=>(t,gL G t)).map Rq.encS)++[Rq.encS (ts[i],gL G ts[i])]):=(by
      show _=_
      rw[List.take_succ_eq_append_getElem hit,List.map_append,List.map_append]
      rfl)
     have HL2:Hid ((((ts.take i).map fun t=>(t,gL G t)).map Rq.encS).length=i):=(by show _=_;rw[List.length_map,List.length_map,List.length_take];exact Nat.min_eq_left (Nat.le_of_lt hit))
     generalize ts[i]=t at *
     generalize gL G t=la at *
     go_wp2_with first
      | (refine Gm.wpList_push elAc (A:=#[.int .i64 t,.int .i64 la]) rfl _ _ rfl rfl (HM.out.rw.bel (bl1 _)) rfl (Gm.At.new _ _ _) rfl (Rq.oneI _ _) (by rw[HL2.out];omega) ?_;intro a2 c2 w8 A8;rw[HL2.out] at A8 ⊢)
     have B8:Below w5.heap.size w5 w8:=(HM.out.bel.trans ((bl1 (w:=wo) (.cells #[.int .i64 t,.int .i64 la] 40)).mono HM.out.bel.size)).trans (A8.bel (fun g e=>HM.out.own g e) (by simp;exact Nat.le_succ_of_le HM.out.bel.size))
     have R8:Gm.Row w8 3 1 (.slice (some ⟨g0,0,none⟩) m c0) (iC2 ts):=(HM.out.r0.bel (bl1 (.cells #[.int .i64 t,.int .i64 la] 40))).keep fun g e=>A8.grow.block g (by have:=HM.out.r0.lt e;simp;omega) (fun e2=>int_ac_ne HM.out.r0 HM.out.rw e e2.symm)
     go_roundw
     case rel=>exact⟨i+1,a2,c2,by first |rfl |go_num,rfl,by omega,B8,R8,by rw[HE.out];exact A8.row,fun g e=>A8.own.elim (fun h=>HM.out.own g (h.symm.trans e)) (fun h=>by rw[h] at e;cases e;simp;exact Nat.le_succ_of_le HM.out.bel.size)⟩
     case measure=>simp[intOf];omega
    ·obtain rfl:i=m:=by omega
     have hltI:¬ (i:Int)<(i:Int):=by omega
     go_wp2
     go_ret2
     exact HO.out _ _ _ _ (by rw[HN.out.1];exact HM.out) rfl
end
end Go.Proofs.YtdchjncnjgelhaaGreat.Lg
