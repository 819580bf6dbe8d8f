import Derived.Test.YtdchjncnjgelhaaGreatMap
import Derived.BigRegion
set_option linter.unusedVariables false
set_option linter.unusedSimpArgs false
set_option maxRecDepth 100000
namespace Go.Proofs.YtdchjncnjgelhaaGreat.Lg
open Go.RowKit Go.Maps Go.ChangeMaps
open Gm (thn bl1 bdr)
def stepG (s:Sc) (x:Int) (G:List Rq.SpL):List Rq.SpL:=if s.kd=3∨s.kd=4∨s.kd=5∨s.kd=6 then gW G s.tx x else if s.kd=7∨s.kd=8 then gD G s.tx else G
def tbM (fs:List ByteArray) (k:Nat) (G:List Rq.SpL):Nat->List Rq.SpL
 | 0=>G
 | i+1=>if i<k then G else stepG (rcd fs i) (pla fs i) (tbM fs k G i)
theorem tbM_at (fs:List ByteArray) (k:Nat) (G:List Rq.SpL):∀ i,i<=k->tbM fs k G i=G
 | 0,_=>rfl
 | i+1,h=>if_pos (by omega)
theorem tbM_succ (fs:List ByteArray) {k i:Nat} (G:List Rq.SpL) (h:k<=i):tbM fs k G (i+1)=stepG (rcd fs i) (pla fs i) (tbM fs k G i):=if_neg (by omega)
theorem stepG_len (s:Sc) (x:Int) (G:List Rq.SpL):(stepG s x G).length<=G.length+1:=by
 unfold stepG
 split
 ·exact gW_len G _ _
 ·split
  ·have:=gD_len G s.tx;omega
  ·omega
theorem stepG_nd {s:Sc} {x:Int} {G:List Rq.SpL} (h:(G.map (·.1)).Nodup):((stepG s x G).map (·.1)).Nodup:=by
 unfold stepG
 split
 ·exact gW_nd h _ _
 ·split
  ·exact gD_nd h _
  ·exact h
theorem tbM_len (fs:List ByteArray) (k:Nat) (G:List Rq.SpL):∀ i,(tbM fs k G i).length<=G.length+i
 | 0=>Nat.le_refl _
 | i+1=>by
  have:=tbM_len fs k G i
  unfold tbM
  split
  ·omega
  ·have:=stepG_len (rcd fs i) (pla fs i) (tbM fs k G i);omega
theorem rdM_tx (t:ByteArray):0<=(rdM t).1.s.tx/\(rdM t).1.s.tx<281474976710656:=by
 unfold rdM rdK rdChg
 dsimp only
 repeat' split
 all_goals first |exact⟨nN_nonneg _ _,nN_lt _ _⟩ |exact⟨show(0:Int)<=0 by decide,show(0:Int)<281474976710656 by decide⟩
theorem zM_tx:wfI zM.s.tx:=wfI_of (show(0:Int)<=0 by decide) (show(0:Int)<281474976710656 by decide)
theorem ofM_tx (t:ByteArray):wfI (ofM t).1.s.tx:=by
 obtain⟨h1,h2⟩:=rdM_tx t
 unfold ofM
 split
 ·exact zM_tx
 ·split
  ·exact wfI_of h1 h2
  ·exact zM_tx
theorem openM_tx (s:ByteArray) (a:Int):wfI (openM s a).1.s.tx:=by
 unfold openM
 generalize frM (s.extract a.toNat s.size)=p
 split
 ·exact zM_tx
 ·split
  ·exact zM_tx
  ·split
   ·exact zM_tx
   ·exact ofM_tx p.1
theorem recF_tx (f:ByteArray):wfI (recF f).s.tx:=openM_tx f 0
structure Mv (b:Nat) (G:List Rq.SpL) (V:Nat->Prop) (w:World):Prop where
 ex:∃ bm,Gm.At w b 94 #[.map (some bm)]/\Mg w bm G/\∀ j,V j↔(j=b∨j=bm)
section
variable {V:Nat->Prop}{w w1 w2 w':World}{b bm:Nat}{G:List Rq.SpL}{s:Sc}{x:Int}{I T:Value}
theorem Mg.keep (h:Mg w bm G) (hb:w'.heap[bm]?=w.heap[bm]?):Mg w' bm G:=by
 obtain⟨n,hn⟩:=h.ex
 exact⟨⟨n,hn.keep hb⟩,h.nd,h.wf⟩
theorem Mv.lt (h:Mv b G V w) {j:Nat} (hj:V j):j<w.heap.size:=by
 obtain⟨bm,h1,h2,h3⟩:=h.ex
 rcases (h3 j).1 hj with rfl |rfl
 ·exact h1.lt
 ·exact h2.mp.lt
theorem Mv.keep (h:Mv b G V w) (hb:∀ j,V j->w'.heap[j]?=w.heap[j]?):Mv b G V w':=by
 obtain⟨bm,h1,h2,h3⟩:=h.ex
 exact⟨bm,h1.keep (hb b ((h3 b).2 (Or.inl rfl))),h2.keep (hb bm ((h3 bm).2 (Or.inr rfl))),h3⟩
theorem mv_turn {G':List Rq.SpL} {n':Nat} {f':Lit->Option Value} (h1:Gm.At w b 94 #[.map (some bm)]) (hb:Below w.heap.size w w1) (hbm:bm<w.heap.size) (hne:bm≠b) (M:Gm.Mp w2 3 bm n' f') (he:∀ l,gF G' l=f' l) (hnd:(G'.map (·.1)).Nodup) (hwf:∀ q∈G',wfI q.1) (T:w1.mapTurned w2 bm) (h3:∀ j,V j↔(j=b∨j=bm)) :
  ∃ V',Mv b G' V' w2/\Gm.Fr V V' w w2 :=
 ⟨V,⟨bm,h1.keep ((Gm.turned_off T b (Ne.symm hne)).trans (hb.block b h1.lt)),⟨⟨_,M.ext he⟩,hnd,hwf⟩,h3⟩,(Gm.Fr.of_below hb V).trans (Gm.turned_fr T ((h3 bm).2 (Or.inr rfl)))⟩
set_option maxHeartbeats 2000000 in
theorem table1 (h:Mv b G V w) (hl:G.length<=1000000) (hs:wfI s.tx) (hI:I.oneCell'=true) (hT:T.oneCell'=true):Calls Tryz.prog 47 #[.agg (s.A I T),.int .i64 x,.pointer (some ⟨b,0,none⟩)] w fun e w'=>e=.returned (.tuple #[])/\∃ V',Mv b (stepG s x G) V' w'/\Gm.Fr V V' w w':=by
 obtain⟨bm,h1,h2,h3⟩:=h.ex
 have H1:Hid (Gm.At w b 94 #[.map (some bm)]):=h1
 have H2:Hid (Mg w bm G):=h2
 have H3:Hid (∀ j,V j↔(j=b∨j=bm)):=h3
 have HW:Hid (wfI s.tx):=hs
 have HN:Hid (bm<w.heap.size/\bm≠b/\G.length<=1000000):=⟨h2.mp.lt,h2.mp.ne h1,hl⟩
 have mixed:Tryz.prog.follows .mixedOrders=true:=by kernel_rfl
 clear h1 h2 h3 hs
 obtain⟨kd,tx,pv,pg,ac,ky,ol,nw,nx,ep,nd⟩:=s
 by_cases hk:kd=3∨kd=4∨kd=5∨kd=6
 ·have HF:Hid (stepG ⟨kd,tx,pv,pg,ac,ky,ol,nw,nx,ep,nd⟩ x G=gW G tx x):=if_pos hk
  rw[HF.out]
  clear h HF hl
  rcases hk with rfl |rfl |rfl |rfl
  all_goals
   go_enter Tryz.func47,Tryz.ntmps47
   go_wp2_with first
    | (refine wpList_box_rc (s:=⟨_,tx,pv,pg,ac,ky,ol,nw,nx,ep,nd⟩) (I:=I) (T:=T) _ rfl _ rfl rfl ?_;intro w1 b1 N1;have c0:=N1.rc.c0;dsimp only at c0;have c1:w1.cell? ⟨b1,1,none⟩=some (.int .i64 tx):=N1.rc.c1;have kb:w1.cell? ⟨b,0,none⟩=some (.map (some bm)):=(H1.out.bel N1.below).c 0)
    | (refine Gm.wpList_store_mp _ rfl _ _ _ rfl KI2 uL2 (by have:=HN.out.2.2;omega) rfl (H2.out.mp.keep (N1.below.block bm HN.out.1)) rfl rfl (keyI2 HW.out) ?_;intro w2 M2 T2)
   go_end0
   exact⟨rfl,mv_turn H1.out N1.below HN.out.1 HN.out.2.1 M2 (gF_put G tx x) (gW_nd H2.out.nd tx x) (fun q hq=>by
    rcases List.mem_append.1 hq with h9 |h9
    ·exact H2.out.wf q ((List.mem_filter.1 h9).1)
    ·have:q=(tx,x):=by simpa using h9
     rw[this];exact HW.out) T2 H3.out⟩
 ·by_cases hk7:kd=7∨kd=8
  ·have HF:Hid (stepG ⟨kd,tx,pv,pg,ac,ky,ol,nw,nx,ep,nd⟩ x G=gD G tx):=by show _=_;unfold stepG;rw[if_neg hk,if_pos hk7]
   rw[HF.out]
   clear h HF hk hl
   rcases hk7 with rfl |rfl
   all_goals
    go_enter Tryz.func47,Tryz.ntmps47
    go_wp2_with first
     | (refine wpList_box_rc (s:=⟨_,tx,pv,pg,ac,ky,ol,nw,nx,ep,nd⟩) (I:=I) (T:=T) _ rfl _ rfl rfl ?_;intro w1 b1 N1;have c0:=N1.rc.c0;dsimp only at c0;have c1:w1.cell? ⟨b1,1,none⟩=some (.int .i64 tx):=N1.rc.c1;have kb:w1.cell? ⟨b,0,none⟩=some (.map (some bm)):=(H1.out.bel N1.below).c 0)
     | (refine Gm.wpList_drop_mp _ rfl _ _ rfl KI2 uL2 rfl (H2.out.mp.keep (N1.below.block bm HN.out.1)) rfl (keyI2 HW.out) ?_;intro w2 M2 T2)
    go_end0
    exact⟨rfl,mv_turn H1.out N1.below HN.out.1 HN.out.2.1 M2 (gF_drop G tx) (gD_nd H2.out.nd tx) (fun q hq=>H2.out.wf q ((List.mem_filter.1 hq).1)) T2 H3.out⟩
  ·have HF:Hid (stepG ⟨kd,tx,pv,pg,ac,ky,ol,nw,nx,ep,nd⟩ x G=G):=by show _=_;unfold stepG;rw[if_neg hk,if_neg hk7]
   rw[HF.out]
   have H:Hid (Mv b G V w):=h
   have e3:(kd==3)=false:=by simp;omega
   have e4:(kd==4)=false:=by simp;omega
   have e5:(kd==5)=false:=by simp;omega
   have e6:(kd==6)=false:=by simp;omega
   have e7:(kd==7)=false:=by simp;omega
   have e8:(kd==8)=false:=by simp;omega
   clear h HF hl
   go_enter Tryz.func47,Tryz.ntmps47
   go_wp2_with (refine wpList_box_rc (s:=⟨kd,tx,pv,pg,ac,ky,ol,nw,nx,ep,nd⟩) (I:=I) (T:=T) _ rfl _ rfl rfl ?_;intro w1 b1 N1;have c0:w1.cell? ⟨b1,0,none⟩=some (.int .i64 kd):=N1.rc.c0)
   go_end0
   exact⟨rfl,V,H.out.keep (fun j hj=>N1.below.block j (H.out.lt hj)),Gm.Fr.of_below N1.below V⟩
end
theorem tlT {fs:List ByteArray} {b k:Nat} {G:List Rq.SpL} (hf:Fit 200 fs) (hG:G.length<=900000):Tl fs 47 #[.pointer (some ⟨b,0,none⟩)] (fun i V w=>Mv b (tbM fs k G i) V w/\k<=i/\i<=fs.length) :=
 Tel.tl1 ⟨enters_of Tryz.func47 (by kernel_rfl) rfl,fun i V w h j hj=>h.1.lt hj,fun i V w w' h hb hs=>⟨h.1.keep hb,h.2⟩,fun i hi V w I0 T0 h hI hT=>by
  have h0:wfI (recF fs[i]).s.tx:=recF_tx _
  refine(table1 (s:=(recF fs[i]).s) (x:=pla fs i) h.1 (by have:=tbM_len fs k G i;have:=fs_len hf;omega) h0 hI hT).mono ?_
  rintro e w' ⟨he,V',g1,g2⟩
  rw[rcd_at hi,← tbM_succ fs G h.2.1] at g1
  exact⟨he,V',⟨g1,by omega,hi⟩,g2⟩⟩
set_option maxRecDepth 80000
def tabL (G:List Rq.SpL):List Rq.SpL:=(srt (G.map (·.1))).map fun t=>(t,gL G t)
theorem tabL_len (G:List Rq.SpL):(tabL G).length=G.length:=by unfold tabL;rw[List.length_map,srt_len,List.length_map]
section
variable {W V:Nat->Prop}{w w1 w2 w5 wr w':World}{l b bm n:Nat}{fs:List ByteArray}{G:List Rq.SpL}{t:Int}{ts:List Int}{v0 v:Value}{i:Nat}
theorem lookM (h:Mg w bm G) (hw:wfI t):(Instr.lookup 94 (.map (some bm)) (.int .i64 t) false).run Tryz.prog w=.ok (.int .i64 (gL G t)) w:=by
 have:=h.mp.look1 KI2 uL2 (zLv2 _) (keyI2 hw)
 rw[this,gF_int]
 unfold gL
 cases G.find? fun s=>s.1==t <;> rfl
theorem gF_nil (l:Lit):gF [] l=none:=by
 cases l <;> try rfl
 rename_i q u
 cases q <;> rfl
structure Tq (w5 wr:World) (v0 v:Value) (G:List Rq.SpL) (ts:List Int) (i:Nat):Prop where
 bel:Below w5.heap.size w5 wr
 r0:Gm.Row wr 3 1 v0 (iC2 ts)
 rw:Gm.Row wr 40 2 v (((ts.take i).map fun t=>(t,gL G t)).map Rq.encS)
 own:∀ g,v.ownBlock=some g->w5.heap.size<=g
theorem int_ac_ne {L M:List (List Value)} (r1:Gm.Row wr 3 1 v0 L) (r2:Gm.Row wr 40 2 v M) {g:Nat} (e:v0.ownBlock=some g):v.ownBlock≠some g:=fun e2=>by
 obtain⟨k1,h1⟩:=r1.blkAt e
 obtain⟨k2,h2⟩:=r2.blkAt e2
 rw[h1] at h2
 simp at h2
structure TaO (W:Nat->Prop) (w:World) (l:Nat) (fs:List ByteArray) (G:List Rq.SpL) (e:Ending) (w':World):Prop where
 ex:∃ a c W',e=.returned (.tuple #[.slice a G.length c,.int .i64 0])/\Lo W' w' l fs/\Gm.Fr W W' w w'/\Gm.Row w' 40 2 (.slice a G.length c) ((tabL G).map Rq.encS)/\∀ g,(Value.slice a G.length c).ownBlock=some g->¬ W' g/\w.heap.size<=g
structure Dm (W:Nat->Prop) (w:World) (l:Nat) (fs:List ByteArray) (b bm:Nat) (G:List Rq.SpL) (w5:World):Prop where
 ex:∃ W',Lo W' w5 l fs/\Gm.Fr W W' w w5
 mg:Mg w5 bm G
 n:G.length<=80000
theorem Dm.out (h:Dm W w l fs b bm G w5) (hT:Tq w5 wr v0 v G (srt (G.map (·.1))) (srt (G.map (·.1))).length) {a:Option Addr} {c:Nat} (hv:v=.slice a G.length c):TaO W w l fs G (.returned (.tuple #[.slice a G.length c,.int .i64 0])) wr:=by
 obtain⟨W',h1,h2⟩:=h.ex
 have hr:=hT.rw
 rw[List.take_length] at hr
 subst hv
 exact⟨a,c,W',rfl,h1.below hT.bel,h2.below hT.bel,hr,fun g e=>⟨fun e2=>(by have:=h1.lt e2;have:=hT.own g e;omega),Nat.le_trans h2.size (hT.own g e)⟩⟩
set_option maxHeartbeats 4000000 in
theorem Table_zero (h:Lo W w l fs) {c:Int} (hc:¬ c > 0):Calls Tryz.prog 18 #[.pointer (some ⟨l,0,none⟩),.int .i64 c] w fun e w'=>TaO W w l fs (tbM fs 0 [] fs.length) e w':=by
 have hz:∀ w,(zeroValue 94).run Tryz.prog w=.ok (.map none) w:=fun w=>by kernel_rfl
 have i1:(Tryz.prog.info? 94).map (·.size)=some 1:=by kernel_rfl
 have hlen:(tbM fs 0 [] fs.length).length<=80000:=by have:=tbM_len fs 0 [] fs.length;have:=fs_len h.fit;simp at *;omega
 have CE:Hid (∀ wx b bm,Below w.heap.size w wx->Gm.At wx b 94 #[.map (some bm)]->Gm.Mp wx 3 bm 0 (fun _=>none)->w.heap.size<=b->w.heap.size<=bm->Calls Tryz.prog 46 #[.pointer (some ⟨l,0,none⟩),.int .i64 1,.func (.func 47) #[] #[.pointer (some ⟨b,0,none⟩)]] wx fun e w'=>e=.returned (.tuple #[])/\∃ bm,w'.cell? ⟨b,0,none⟩=some (.map (some bm))/\Dm W w l fs b bm (tbM fs 0 [] fs.length) w'):=fun wx b bm hB hA hM hb hbm=>by
  have:=each_any (i:=0) (tlT (b:=b) (k:=0) (G:=[]) h.fit (by simp)) (h.below hB) (V:=fun j=>j=b∨j=bm) ⟨⟨bm,hA,⟨⟨0,hM.ext (fun l=>gF_nil l)⟩,List.nodup_nil,fun q hq=>by cases hq⟩,fun j=>Iff.rfl⟩,Nat.le_refl 0,Nat.zero_le _⟩ (fun j hj e=>by have:=h.lt hj;omega) (Nat.zero_le _)
  rw[pla0] at this
  refine this.mono ?_
  rintro e w' ⟨he,ho⟩
  obtain⟨W',V',g1,⟨⟨bm',k1,k2,k3⟩,_⟩,g3,g4,g5⟩:=ho.done hB (fun j hj=>by omega)
  exact⟨he,bm',k1.c 0,⟨W',g1,g5⟩,k2,hlen⟩
 clear h hlen
 generalize tbM fs 0 [] fs.length=G at *
 obtain⟨w1,bm,hmk,hE1,hM1,hB1⟩:∃ (w1:World) (bm:Nat),(Instr.makeMap 94 none).run Tryz.prog w=.ok (.map (some bm)) w1/\Hid (bm=w.heap.size)/\Hid (Gm.Mp w1 3 bm 0 (fun _=>none))/\Hid (Below w.heap.size w w1):=⟨_,_,rfl,rfl,Gm.Mp.made w 3,bl1 _⟩
 go_enter Tryz.func18,Tryz.ntmps18
 go_wp2_with first
  | (refine Gm.wpList_new1 _ hz rfl rfl rfl ?_;intro w2 b N2)
  | (refine Gm.wpList_put1 (u:=.map none) (v:=.map (some bm)) _ rfl _ _ rfl rfl rfl N2.is rfl i1 ?_;intro w3 P3)
  | (go_at_call 46;refine(CE.out _ b bm (thn hB1.out (Rq.Put.belN N2 P3)) P3.is (hM1.out.bel (Rq.Put.belN N2 P3)) (by rw[N2.eq];exact hB1.out.size) (by rw[hE1.out];exact Nat.le_refl _)).mono ?_;rintro e w5 ⟨rfl,bm',kb,D⟩;have HD:Hid (Dm W w l fs b bm' G w5):=D;clear D)
  | (go_at_call 49;refine(keys_c _ _).mono ?_;rintro e w6 ⟨rfl,rfl⟩)
  | (go_at_call 48;refine(sorted_c HD.out.mg.mp HD.out.mg.nd gF_some (Nat.le_trans HD.out.n (by decide))).mono ?_;rintro e w7 ⟨⟨v0,rfl,r0,o0⟩,q2⟩;obtain⟨a0,c0,ev,hc0⟩:=r0.sl;subst ev)
 have hlen:(iC2 (srt (G.map (·.1)))).length=G.length:=by simp[iC2,srt_len]
 rw[hlen]
 have HR0:Hid (Gm.Row w7 3 1 (.slice a0 G.length c0) (iC2 (srt (G.map (·.1))))):=(by rw[hlen] at r0;exact r0)
 have HT:Hid (∀ t∈srt (G.map (·.1)),wfI t):=fun t ht=>by
  obtain⟨s,hs,rfl⟩:=List.mem_map.1 (mem_srt.1 ht)
  exact HD.out.mg.wf s hs
 have HO:Hid (∀ wr v a c,Tq w5 wr (.slice a0 G.length c0) v G (srt (G.map (·.1))) (srt (G.map (·.1))).length->v=.slice a G.length c->TaO W w l fs G (.returned (.tuple #[.slice a G.length c,.int .i64 0])) wr):=fun wr v a c q1 q2=>HD.out.out q1 q2
 have HN:Hid ((srt (G.map (·.1))).length=G.length/\G.length<=80000):=⟨by rw[srt_len,List.length_map],HD.out.n⟩
 have HMg:Hid (Mg w5 bm' G):=HD.out.mg
 clear r0 o0 hc0 hlen CE HD
 generalize srt (G.map (·.1))=ts at *
 obtain⟨m,hm⟩:∃ m,G.length=m:=⟨_,rfl⟩
 rw[hm] at HR0 HO HN ⊢
 clear hm
 have hm8:m<=80000:=HN.out.2
 go_loopw [13,55] (fun s13 s55 wr=>∃ (i:Nat) (a:Option Addr) (c:Nat),s55=.int .i64 (i:Int)/\s13=.slice a i c/\i<=m/\Tq w5 wr (.slice a0 m c0) (.slice a i c) G ts i) (fun s13 s55 _=>m-(intOf s55).toNat)
 case atStart=>exact⟨0,none,0,rfl,rfl,Nat.zero_le _,q2,HR0.out,Gm.Row.nil _ _ _,fun g e=>by cases e⟩
 case round =>
  clear HR0 q2
  obtain⟨i,a,c,rfl,rfl,hi,hM⟩:=hrel
  rename World=>wo
  have HM:Hid (Tq w5 wo (.slice a0 m c0) (.slice a i c) G ts i):=hM
  clear hM
  by_cases hlt:i<m
  ·have hltI:(i:Int)<(m:Int):=by omega
   have hit:i<ts.length:=by have:=HN.out.1;omega
   obtain⟨g0,ea,hg0,hat⟩:=HM.out.r0.at_ (i:=i) (by simp only[iC2,List.length_map];exact hit)
   have k0:wo.cell? ⟨g0,i,none⟩=some (.int .i64 ts[i]):=(by
    have:=(hat wo rfl).1 0 (.int .i64 ts[i]) (by simp[iC2])
    simpa using this)
   clear hat
   subst ea
   have kb2:wo.cell? ⟨b,0,none⟩=some (.map (some bm')):=(World.cell?_of_block (HM.out.bel.block b (by
    rcases Nat.lt_or_ge b w5.heap.size with h1 |h1
    ·exact h1
    ·simp[World.cell?,Array.getElem?_eq_none h1] at kb))).trans kb
   have hlk:=lookM (HMg.out.keep (HM.out.bel.block bm' HMg.out.mp.lt)) (HT.out _ (List.getElem_mem hit))
   have HE:Hid ((((ts.take (i+1)).map fun t=>(t,gL G t)).map Rq.encS)=(((ts.take i).map fun t=>(t,gL G t)).map Rq.encS)++[Rq.encS (ts[i],gL G ts[i])]):=(by
    show _=_
    rw[List.take_succ_eq_append_getElem hit,List.map_append,List.map_append]
    rfl)
   have HL2:Hid ((((ts.take i).map fun t=>(t,gL G t)).map Rq.encS).length=i):=(by show _=_;rw[List.length_map,List.length_map,List.length_take];exact Nat.min_eq_left (Nat.le_of_lt hit))
   generalize ts[i]=t at *
   generalize gL G t=la at *
   go_wp2_with first
    | (refine Gm.wpList_push elAc (A:=#[.int .i64 t,.int .i64 la]) rfl _ _ rfl rfl (HM.out.rw.bel (bl1 _)) rfl (Gm.At.new _ _ _) rfl (Rq.oneI _ _) (by rw[HL2.out];omega) ?_;intro a2 c2 w8 A8;rw[HL2.out] at A8 ⊢)
   have B8:Below w5.heap.size w5 w8:=(HM.out.bel.trans ((bl1 (w:=wo) (.cells #[.int .i64 t,.int .i64 la] 40)).mono HM.out.bel.size)).trans (A8.bel (fun g e=>HM.out.own g e) (by simp;exact Nat.le_succ_of_le HM.out.bel.size))
   have R8:Gm.Row w8 3 1 (.slice (some ⟨g0,0,none⟩) m c0) (iC2 ts):=(HM.out.r0.bel (bl1 (.cells #[.int .i64 t,.int .i64 la] 40))).keep fun g e=>A8.grow.block g (by have:=HM.out.r0.lt e;simp;omega) (fun e2=>int_ac_ne HM.out.r0 HM.out.rw e e2.symm)
   go_roundw
   case rel=>exact⟨i+1,a2,c2,by first |rfl |go_num,rfl,by omega,B8,R8,by rw[HE.out];exact A8.row,fun g e=>A8.own.elim (fun h=>HM.out.own g (h.symm.trans e)) (fun h=>by rw[h] at e;cases e;simp;exact Nat.le_succ_of_le HM.out.bel.size)⟩
   case measure=>simp[intOf];omega
  ·obtain rfl:i=m:=by omega
   have hltI:¬ (i:Int)<(i:Int):=by omega
   go_wp2
   go_ret2
   exact HO.out _ _ _ _ (by rw[HN.out.1];exact HM.out) rfl
end
end Go.Proofs.YtdchjncnjgelhaaGreat.Lg
