import Derived.Test.YtdchjncnjgelhaaGreatMad
import Derived.BigRegion
set_option linter.unusedVariables false
set_option linter.unusedSimpArgs false
set_option maxRecDepth 100000
namespace Go.Proofs.YtdchjncnjgelhaaGreat.Fd
open Go.RowKit Gm Go.Maps
def recB (x:Bk):Rc:=⟨x.act,x.tx,0,0,0,x.ky,⟨#[]⟩,x.nw,0,0,0⟩
def encR (x:Bk):List Value:=((recB x).A (.slice none 0 0) (.slice none 0 0)).toList
theorem i1R:(Tryz.prog.info? 43).map (·.size)=some 1:=by kernel_rfl
structure PlO (w0 w:World) (pb:Nat) (vc vb:Value) (p:Ps):Prop where
 is:At w pb 62 #[vc,vb,.int .i64 p.n]
 rc:Row w 69 2 vc (p.K.map encC)
 rb:Row w 54 13 vb (p.B.map encR)
 bel:Below w0.heap.size w0 w
 pbo:w0.heap.size<=pb
 co:∀ g,vc.ownBlock=some g->w0.heap.size<=g
 bo:∀ g,vb.ownBlock=some g->w0.heap.size<=g
section
variable {w0 w:World}{pb:Nat}{vc vb:Value}{p:Ps}{r:Rc}{I T:Value}
theorem PlO.below {w':World} (h:PlO w0 w pb vc vb p) (hb:Below w.heap.size w w'):PlO w0 w' pb vc vb p :=
 ⟨h.is.bel hb,h.rc.bel hb,h.rb.bel hb,thn h.bel hb,h.pbo,h.co,h.bo⟩
structure NtO (w0:World) (pb:Nat) (p:Ps) (e:Ending) (w':World):Prop where
 ex:e=.returned (.tuple #[])/\∃ vc vb,PlO w0 w' pb vc vb p
set_option maxHeartbeats 2000000 in
theorem note_not (h:PlO w0 w pb vc vb p) (h1:r.kd<3∨8<r.kd):Calls Tryz.prog 24 #[.pointer (some ⟨pb,0,none⟩),.agg (r.A I T)] w fun e w'=>NtO w0 pb (noteP p r) e w':=by
 have e9:noteP p r=p:=by unfold noteP;rw[if_neg (by omega),if_neg (by omega),if_neg (by omega)]
 rw[e9]
 have H:Hid (PlO w0 w pb vc vb p):=h
 clear h e9
 obtain⟨kd,tx,pv,pg,ac,ky,ol,nw,nx,ep,nd⟩:=r
 dsimp only at h1
 unfold Rc.A
 have k1:(kd==6)=false:=by simp;omega
 have k2:(kd !=7)=true:=by simp;omega
 have k3:(kd !=8)=true:=by simp;omega
 have k4:3<=kd->¬ kd<=6:=by omega
 by_cases k5:3<=kd
 all_goals
  first |(have k6:=k4 k5) |skip
  clear k4
  go_enter Tryz.func24,Tryz.ntmps24
  go_wp2
  refine bodyPost_ret (results_none rfl _ _ _) rfl ?_
  exact⟨rfl,_,_,H.out.below (bl1 _)⟩
theorem elR:El 43 54 13 (.agg #[.int .i64 0,.int .i64 0,.int .i64 0,.int .i64 0,.int .i64 0,.string ⟨#[]⟩,.string ⟨#[]⟩,.string ⟨#[]⟩,.int .i64 0,.slice none 0 0,.slice none 0 0,.int .i64 0,.int .i64 0]):=⟨Tryz.underlying43,by
 obtain⟨i,h1,h2,h3,h4⟩:=info_parts (show(Tryz.prog.info? 54).map (fun i=>(i.zero,i.size,i.bytes))=some (some (.agg #[.int .i64 0,.int .i64 0,.int .i64 0,.int .i64 0,.int .i64 0,.string ⟨#[]⟩,.string ⟨#[]⟩,.string ⟨#[]⟩,.int .i64 0,.slice none 0 0,.slice none 0 0,.int .i64 0,.int .i64 0]),13,160) by kernel_rfl)
 exact⟨i,h1,h2,h3,by omega⟩,rfl,by omega⟩
theorem bR1 (x:Bk) (w:World):(Instr.buildSlice 43 1 #[(0,.agg ((recB x).A (.slice none 0 0) (.slice none 0 0)))]).run Tryz.prog w=.ok (.slice (some ⟨w.heap.size,0,none⟩) 1 1) (w.alloc (.cells ((recB x).A (.slice none 0 0) (.slice none 0 0)) 54)):=by kernel_rfl
theorem load_sr {b k n c:Nat} {a:Option Addr} (h:w.cell? ⟨b,k,none⟩=some (.slice a n c)):(Instr.loadAt 43 (.pointer (some ⟨b,k,none⟩))).run Tryz.prog w=.ok (.slice a n c) w:=by
 go_simp
theorem oneR (x:Bk):∀ u∈((recB x).A (.slice none 0 0) (.slice none 0 0)).toList,u.oneCell'=true:=by
 intro u hu
 simp[Rc.A] at hu
 rcases hu with rfl |rfl |rfl |rfl |rfl |rfl |rfl |rfl |rfl |rfl |rfl |rfl |rfl <;> rfl
theorem PlO.pushB {K:List CL} {B:List Bk} {n:Int} {wA:World} {ab aA:Option Addr} {cb cA xb:Nat} {x:Bk} {RA:Array Value} (h:PlO w0 w pb vc (.slice ab B.length cb) ⟨K,B,n⟩) (A:App w wA 54 13 (.slice ab B.length cb) (.slice aA (B.length+1) cA) (B.map encR++[encR x])) (hx:At w xb 54 RA) (hxv:(Value.slice ab B.length cb).ownBlock≠some xb) (hxp:xb≠pb) :
  PlO w0 (wA.setCell ⟨pb,1,none⟩ (.slice aA (B.length+1) cA)) pb vc (.slice aA (B.length+1) cA) ⟨K,B++[x],n⟩/\At wA xb 54 RA/\At wA pb 62 #[vc,.slice ab B.length cb,.int .i64 n]/\At (wA.setCell ⟨pb,1,none⟩ (.slice aA (B.length+1) cA)) xb 54 RA:=by
 have hvp:(Value.slice ab B.length cb).ownBlock≠some pb:=h.rb.ne (g:=0) h.is (by decide)
 have hvc:∀ g,vc.ownBlock=some g->(Value.slice ab B.length cb).ownBlock≠some g:=fun g e e2=>by
  obtain⟨cur,hc⟩:=h.rc.blkAt e
  obtain⟨cur',hc'⟩:=h.rb.blkAt e2
  rw[hc] at hc';simp at hc'
 have hk:∀ b,b<w.heap.size->(Value.slice ab B.length cb).ownBlock≠some b->wA.heap[b]?=w.heap[b]?:=fun b hl hn=>A.grow.block b hl (fun e=>hn e.symm)
 have hs:∀ b,b≠pb->(wA.setCell ⟨pb,1,none⟩ (.slice aA (B.length+1) cA)).heap[b]?=wA.heap[b]?:=fun b hb=>Below.heap_setCell wA _ _ b hb
 have hnp:∀ b,(Value.slice aA (B.length+1) cA).ownBlock=some b->b≠pb:=fun b e=>by
  rcases A.own with e2 |e2
  ·intro e3;subst e3;exact hvp (e2.symm.trans e)
  ·rw[e2] at e;cases e;have:=h.is.lt;omega
 have hpA:At wA pb 62 #[vc,.slice ab B.length cb,.int .i64 n]:=h.is.keep (hk pb h.is.lt hvp)
 have hxA:At wA xb 54 RA:=hx.keep (hk xb hx.lt hxv)
 refine⟨⟨hpA.set 1 _,?_,?_,?_,h.pbo,h.co,fun g e=>?_⟩,hxA,hpA,hxA.keep (hs xb hxp)⟩
 ·exact h.rc.keep fun b e=>(hs b (fun e2=>h.rc.ne (g:=0) h.is (by decide) (e2 ▸ e))).trans (hk b (h.rc.lt e) (hvc b e))
 ·rw[List.map_append,List.map_singleton]
  exact A.row.keep fun b e=>hs b (hnp b e)
 ·have b1:Below w0.heap.size w0 wA:=h.bel.trans (A.bel (fun g e=>h.bo g e) h.bel.size)
  exact b1.setCell (p:=⟨pb,1,none⟩) h.pbo _
 ·rcases A.own with e2 |e2
  ·exact h.bo g (e2.symm.trans e)
  ·rw[e2] at e;cases e;exact h.bel.size
set_option maxHeartbeats 4000000 in
theorem note_turn (h:PlO w0 w pb vc vb p) (hn:p.B.length<=80000) (h1:3<=r.kd) (h2:r.kd<=6):Calls Tryz.prog 24 #[.pointer (some ⟨pb,0,none⟩),.agg (r.A I T)] w fun e w'=>NtO w0 pb (noteP p r) e w':=by
 have e9:noteP p r=⟨p.K,p.B++[bkO r],p.n⟩:=if_pos ⟨h1,h2⟩
 rw[e9]
 obtain⟨K0,B,n⟩:=p
 dsimp only at h hn ⊢
 obtain⟨ab,cb,rfl,hcb⟩:=h.rb.sl
 rw[List.length_map] at hcb h
 have H:Hid (PlO w0 w pb vc (.slice ab B.length cb) ⟨K0,B,n⟩):=h
 clear h e9 hcb
 obtain⟨kd,tx,pv,pg,ac,ky,ol,nw,nx,ep,nd⟩:=r
 dsimp only at h1 h2
 unfold Rc.A
 by_cases k6:kd=6
 ·subst k6
  have eb:bkO ⟨6,tx,pv,pg,ac,ky,ol,nw,nx,ep,nd⟩=⟨ac,tx,ky,nw⟩:=rfl
  rw[eb]
  clear eb
  go_enter Tryz.func24,Tryz.ntmps24
  go_wp2_with (refine wpList_box_at (A:=#[.int .i64 6,.int .i64 tx,.int .i64 pv,.int .i64 pg,.int .i64 ac,.string ky,.string ol,.string nw,.int .i64 nx,I,T,.int .i64 ep,.int .i64 nd]) _ rfl _ rfl rfl ?_;intro w1 b1 n1;have N1:Hid (New w w1 b1 54 #[.int .i64 6,.int .i64 tx,.int .i64 pv,.int .i64 pg,.int .i64 ac,.string ky,.string ol,.string nw,.int .i64 nx,I,T,.int .i64 ep,.int .i64 nd]):=n1;clear n1;have k0:w1.cell? ⟨b1,0,none⟩=some (.int .i64 6):=N1.out.is.c 0;have k4:w1.cell? ⟨b1,4,none⟩=some (.int .i64 ac):=N1.out.is.c 4)
  have HNX:Hid ((Value.slice ab B.length cb).ownBlock≠some b1/\b1≠pb):=⟨fun e=>(by have:=H.out.rb.lt e;have:=N1.out.eq;omega),fun e=>(by have:=H.out.is.lt;have:=N1.out.eq;omega)⟩
  have H1:Hid (PlO w0 w1 pb vc (.slice ab B.length cb) ⟨K0,B,n⟩):=H.out.below N1.out.bel
  clear k0 k4 H
  have KS:Hid (∀ wx,Below w1.heap.size w1 wx->wx.cell? ⟨b1,1,none⟩=some (.int .i64 tx)/\wx.cell? ⟨b1,5,none⟩=some (.string ky)/\wx.cell? ⟨b1,7,none⟩=some (.string nw)):=fun wx hb=>⟨(N1.out.is.bel hb).c 1,(N1.out.is.bel hb).c 5,(N1.out.is.bel hb).c 7⟩
  have PB:Hid (∀ wx,Below w1.heap.size w1 wx->PlO w0 wx pb vc (.slice ab B.length cb) ⟨K0,B,n⟩/\wx.cell? ⟨pb,1,none⟩=some (.slice ab B.length cb)):=fun wx hb=>⟨H1.out.below hb,(H1.out.is.bel hb).c 1⟩
  have D7:Hid (Below w1.heap.size w1 w1.drew):=(Below.refl _ _).drew
  have HBl:Hid ((B.map encR).length=B.length/\(B.map encR).length<=90000):=⟨List.length_map ..,by rw[List.length_map];omega⟩
  refine wp_region_held_drew (S:=fun W:World=>W.cell? ⟨b1,1,none⟩=some (.int .i64 tx)/\W.cell? ⟨b1,5,none⟩=some (.string ky)/\W.cell? ⟨b1,7,none⟩=some (.string nw)) (by kernel_rfl) (KS.out _ D7.out) (fun hHeld=>?_)
  refine wpAnyH_take (i:=0) (oi:=_) (v:=?_) rfl (by kernel_rfl) (by kernel_rfl) (by kernel_rfl) (fun _ _ _ h=>h) (Or.inl ⟨by rfl,?_⟩) hHeld ?_
  rotate_left
  ·(intro w hSw;(try dsimp only at hSw);go_simp;(try with_reducible rfl))
  try simp only[Act.put,List.setIfInBounds_toArray,List.set_cons_zero,List.set_cons_succ,List.getElem_toArray,List.getElem_cons_succ,List.getElem_cons_zero]
  refine wpAnyH_take (i:=1) (oi:=_) (v:=?_) rfl (by kernel_rfl) (by kernel_rfl) (by kernel_rfl) (fun _ _ _ h=>h) (Or.inl ⟨by rfl,?_⟩) hHeld ?_
  rotate_left
  ·(intro w hSw;(try dsimp only at hSw);go_simp;(try with_reducible rfl))
  try simp only[Act.put,List.setIfInBounds_toArray,List.set_cons_zero,List.set_cons_succ,List.getElem_toArray,List.getElem_cons_succ,List.getElem_cons_zero]
  refine wpAnyH_take (i:=2) (oi:=_) (v:=?_) rfl (by kernel_rfl) (by kernel_rfl) (by kernel_rfl) (fun _ _ _ h=>h) (Or.inl ⟨by rfl,?_⟩) hHeld ?_
  rotate_left
  ·(intro w hSw;(try dsimp only at hSw);go_simp;(try with_reducible rfl))
  try simp only[Act.put,List.setIfInBounds_toArray,List.set_cons_zero,List.set_cons_succ,List.getElem_toArray,List.getElem_cons_succ,List.getElem_cons_zero]
  refine wpAnyH_take (i:=3) (oi:=_) (v:=?_) rfl (by kernel_rfl) (by kernel_rfl) (by kernel_rfl) (fun _ _ _ h=>h) (Or.inl ⟨by rfl,?_⟩) hHeld ?_
  rotate_left
  ·(intro w hSw;(try dsimp only at hSw);go_simp;(try with_reducible rfl))
  try simp only[Act.put,List.setIfInBounds_toArray,List.set_cons_zero,List.set_cons_succ,List.getElem_toArray,List.getElem_cons_succ,List.getElem_cons_zero]
  refine wpAnyH_take (i:=5) (oi:=_) (v:=?_) rfl (by kernel_rfl) (by kernel_rfl) (by kernel_rfl) (fun _ _ _ h=>h) (Or.inl ⟨by rfl,?_⟩) hHeld ?_
  rotate_left
  ·(intro w hSw;(try dsimp only at hSw);go_simp;(try with_reducible rfl))
  try simp only[Act.put,List.setIfInBounds_toArray,List.set_cons_zero,List.set_cons_succ,List.getElem_toArray,List.getElem_cons_succ,List.getElem_cons_zero]
  refine wpAnyH_take (i:=6) (oi:=_) (v:=?_) rfl (by kernel_rfl) (by kernel_rfl) (by kernel_rfl) (fun _ _ _ h=>h) (Or.inl ⟨by rfl,?_⟩) hHeld ?_
  rotate_left
  ·(intro w hSw;(try dsimp only at hSw);go_simp;(try with_reducible rfl))
  try simp only[Act.put,List.setIfInBounds_toArray,List.set_cons_zero,List.set_cons_succ,List.getElem_toArray,List.getElem_cons_succ,List.getElem_cons_zero]
  refine wpAnyH_take (i:=7) (oi:=_) (v:=?_) rfl (by kernel_rfl) (by kernel_rfl) (by kernel_rfl) (fun _ _ _ h=>h) (Or.inl ⟨by rfl,?_⟩) hHeld ?_
  rotate_left
  ·(intro w hSw;(try dsimp only at hSw);go_simp;(try with_reducible rfl))
  try simp only[Act.put,List.setIfInBounds_toArray,List.set_cons_zero,List.set_cons_succ,List.getElem_toArray,List.getElem_cons_succ,List.getElem_cons_zero]
  refine wpAnyH_take (i:=8) (oi:=_) (v:=?_) rfl (by kernel_rfl) (by kernel_rfl) (by kernel_rfl) (fun _ _ _ h=>h) (Or.inl ⟨by rfl,?_⟩) hHeld ?_
  rotate_left
  ·(intro w hSw;(try dsimp only at hSw);go_simp;(try with_reducible rfl))
  try simp only[Act.put,List.setIfInBounds_toArray,List.set_cons_zero,List.set_cons_succ,List.getElem_toArray,List.getElem_cons_succ,List.getElem_cons_zero]
  refine wpAnyH_take (i:=9) (oi:=_) (v:=?_) rfl (by kernel_rfl) (by kernel_rfl) (by kernel_rfl) (fun _ _ _ h=>h) (Or.inl ⟨by rfl,?_⟩) hHeld ?_
  rotate_left
  ·(intro w hSw;(try dsimp only at hSw);go_simp;(try with_reducible rfl))
  try simp only[Act.put,List.setIfInBounds_toArray,List.set_cons_zero,List.set_cons_succ,List.getElem_toArray,List.getElem_cons_succ,List.getElem_cons_zero]
  refine wpAnyH_take (i:=10) (oi:=_) (v:=?_) rfl (by kernel_rfl) (by kernel_rfl) (by kernel_rfl) (fun _ _ _ h=>h) (Or.inl ⟨by rfl,?_⟩) hHeld ?_
  rotate_left
  ·(intro w hSw;(try dsimp only at hSw);go_simp;(try with_reducible rfl))
  try simp only[Act.put,List.setIfInBounds_toArray,List.set_cons_zero,List.set_cons_succ,List.getElem_toArray,List.getElem_cons_succ,List.getElem_cons_zero]
  refine wpAnyH_take (i:=11) (oi:=_) (v:=?_) rfl (by kernel_rfl) (by kernel_rfl) (by kernel_rfl) (fun _ _ _ h=>h) (Or.inl ⟨by rfl,?_⟩) hHeld ?_
  rotate_left
  ·(intro w hSw;(try dsimp only at hSw);go_simp;(try with_reducible rfl))
  try simp only[Act.put,List.setIfInBounds_toArray,List.set_cons_zero,List.set_cons_succ,List.getElem_toArray,List.getElem_cons_succ,List.getElem_cons_zero]
  refine wpAnyH_take (i:=12) (oi:=_) (v:=?_) rfl (by kernel_rfl) (by kernel_rfl) (by kernel_rfl) (fun _ _ _ h=>h) (Or.inl ⟨by rfl,?_⟩) hHeld ?_
  rotate_left
  ·(intro w hSw;(try dsimp only at hSw);go_simp;(try with_reducible rfl))
  try simp only[Act.put,List.setIfInBounds_toArray,List.set_cons_zero,List.set_cons_succ,List.getElem_toArray,List.getElem_cons_succ,List.getElem_cons_zero]
  refine wpAnyH_ready (rs:=[4,13]) (by kernel_rfl) (by simp) ?_
  refine AllReadyH.cons (o:=_) rfl (fun K hK=>?_) (AllReadyH.cons (o:=_) rfl (fun K hK=>?_) AllReadyH.nil)
  rw[if_pos (by rfl)]
  refine wp_load1 (v:=.slice ab B.length cb) _ (.tmp 26) rfl rfl (load_sr (PB.out _ D7.out).2) ?_
  refine hK.out _ _ (KS.out _ D7.out) (fun hHeld=>?_)
  clear hK K
  try simp only[Act.put,List.setIfInBounds_toArray,List.set_cons_zero,List.set_cons_succ,List.getElem_toArray,List.getElem_cons_succ,List.getElem_cons_zero]
  refine wpAnyH_ready (rs:=[13]) (by kernel_rfl) (by simp) ?_
  refine AllReadyH.cons (o:=_) rfl (fun K hK=>?_) AllReadyH.nil
  rw[if_pos (by rfl)]
  refine wp_build1 _ (.tmp 35) rfl rfl (bR1 ⟨ac,tx,ky,nw⟩) ?_
  intro wB bB NB
  have DB:Hid (Below w1.heap.size w1 wB):=thn D7.out NB.bel
  refine hK.out _ _ (KS.out _ DB.out) (fun hHeld=>?_)
  clear hK K
  try simp only[Act.put,List.setIfInBounds_toArray,List.set_cons_zero,List.set_cons_succ,List.getElem_toArray,List.getElem_cons_succ,List.getElem_cons_zero]
  rotate_left
  rw[if_pos (by rfl)]
  refine wp_build1 _ (.tmp 35) rfl rfl (bR1 ⟨ac,tx,ky,nw⟩) ?_
  intro wB bB NB
  have DB:Hid (Below w1.heap.size w1 wB):=thn D7.out NB.bel
  refine hK.out _ _ (KS.out _ DB.out) (fun hHeld=>?_)
  clear hK K
  try simp only[Act.put,List.setIfInBounds_toArray,List.set_cons_zero,List.set_cons_succ,List.getElem_toArray,List.getElem_cons_succ,List.getElem_cons_zero]
  refine wpAnyH_ready (rs:=[4]) (by kernel_rfl) (by simp) ?_
  refine AllReadyH.cons (o:=_) rfl (fun K hK=>?_) AllReadyH.nil
  rw[if_pos (by rfl)]
  refine wp_load1 (v:=.slice ab B.length cb) _ (.tmp 26) rfl rfl (load_sr (PB.out _ DB.out).2) ?_
  refine hK.out _ _ (KS.out _ DB.out) (fun hHeld=>?_)
  clear hK K
  try simp only[Act.put,List.setIfInBounds_toArray,List.set_cons_zero,List.set_cons_succ,List.getElem_toArray,List.getElem_cons_succ,List.getElem_cons_zero]
  all_goals
   refine wpAnyH_ready (rs:=[14]) (by kernel_rfl) (by simp) ?_
   refine AllReadyH.cons (o:=_) rfl (fun K hK=>?_) AllReadyH.nil
   refine step_push elR (L:=B.map encR) (v:=.slice ab B.length cb) (A:=(recB ⟨ac,tx,ky,nw⟩).A (.slice none 0 0) (.slice none 0 0)) (c:=1) (b:=bB) rfl (.tmp 27) (.tmp 36) rfl rfl (PB.out _ DB.out).1.rb rfl NB.is rfl (oneR _) HBl.out.2 ?_
   intro aA cA wA AA
   rw[HBl.out.1] at AA ⊢
   obtain⟨PA,XA⟩:=(PB.out _ DB.out).1.pushB (xb:=b1) (x:=⟨ac,tx,ky,nw⟩) AA (N1.out.is.bel DB.out) HNX.out.1 HNX.out.2
   have PA:Hid (PlO w0 (wA.setCell ⟨pb,1,none⟩ (.slice aA (B.length+1) cA)) pb vc (.slice aA (B.length+1) cA) ⟨K0,B++[⟨ac,tx,ky,nw⟩],n⟩):=PA
   have XA:Hid (At wA b1 54 #[.int .i64 6,.int .i64 tx,.int .i64 pv,.int .i64 pg,.int .i64 ac,.string ky,.string ol,.string nw,.int .i64 nx,I,T,.int .i64 ep,.int .i64 nd]/\At wA pb 62 #[vc,.slice ab B.length cb,.int .i64 n]/\At (wA.setCell ⟨pb,1,none⟩ (.slice aA (B.length+1) cA)) b1 54 #[.int .i64 6,.int .i64 tx,.int .i64 pv,.int .i64 pg,.int .i64 ac,.string ky,.string ol,.string nw,.int .i64 nx,I,T,.int .i64 ep,.int .i64 nd]):=XA
   refine hK.out _ _ ⟨XA.out.1.c 1,XA.out.1.c 5,XA.out.1.c 7⟩ (fun hHeld=>?_)
   clear hK K
   try simp only[Act.put,List.setIfInBounds_toArray,List.set_cons_zero,List.set_cons_succ,List.getElem_toArray,List.getElem_cons_succ,List.getElem_cons_zero]
   refine wpAnyH_take (i:=15) (oi:=_) (v:=?_) rfl (by kernel_rfl) (by kernel_rfl) (by kernel_rfl) (fun _ _ _ h=>h) (Or.inl ⟨by rfl,?_⟩) hHeld ?_
   rotate_left
   ·(intro w hSw;(try dsimp only at hSw);go_simp;(try with_reducible rfl))
   try simp only[Act.put,List.setIfInBounds_toArray,List.set_cons_zero,List.set_cons_succ,List.getElem_toArray,List.getElem_cons_succ,List.getElem_cons_zero]
   refine wpAnyH_take (i:=16) (oi:=_) (v:=?_) rfl (by kernel_rfl) (by kernel_rfl) (by kernel_rfl) (fun _ _ _ h=>h) (Or.inl ⟨by rfl,?_⟩) hHeld ?_
   rotate_left
   ·(intro w hSw;(try dsimp only at hSw);go_simp;(try with_reducible rfl))
   try simp only[Act.put,List.setIfInBounds_toArray,List.set_cons_zero,List.set_cons_succ,List.getElem_toArray,List.getElem_cons_succ,List.getElem_cons_zero]
   refine wpAnyH_ready (rs:=[17]) (by kernel_rfl) (by simp) ?_
   refine AllReadyH.cons (o:=_) rfl (fun K hK=>?_) AllReadyH.nil
   rw[if_pos (by rfl)]
   refine wp_set1 (v:=.slice aA (B.length+1) cA) _ 43 (.tmp 39) (.tmp 37) rfl rfl rfl (XA.out.2.1.c 1) (XA.out.2.1.f 1) rfl i1R ?_
   intro wC eC
   rw[← eC] at PA XA
   refine hK.out _ _ ⟨XA.out.2.2.c 1,XA.out.2.2.c 5,XA.out.2.2.c 7⟩ (fun hHeld=>?_)
   clear hK K eC
   try simp only[Act.put,List.setIfInBounds_toArray,List.set_cons_zero,List.set_cons_succ,List.getElem_toArray,List.getElem_cons_succ,List.getElem_cons_zero]
   refine wpAnyH_done (by kernel_rfl) ?_ _
   go_wp2
   refine bodyPost_ret (results_none rfl _ _ _) rfl ?_
   exact⟨rfl,_,_,PA.out⟩
 ·have k1:(kd==6)=false:=by simp;omega
  have eb:bkO ⟨kd,tx,pv,pg,ac,ky,ol,nw,nx,ep,nd⟩=⟨kd,tx,ky,nw⟩:=by unfold bkO;dsimp only;rw[if_neg k6]
  rw[eb]
  clear eb
  go_enter Tryz.func24,Tryz.ntmps24
  go_wp2_with (refine wpList_box_at (A:=#[.int .i64 kd,.int .i64 tx,.int .i64 pv,.int .i64 pg,.int .i64 ac,.string ky,.string ol,.string nw,.int .i64 nx,I,T,.int .i64 ep,.int .i64 nd]) _ rfl _ rfl rfl ?_;intro w1 b1 n1;have N1:Hid (New w w1 b1 54 #[.int .i64 kd,.int .i64 tx,.int .i64 pv,.int .i64 pg,.int .i64 ac,.string ky,.string ol,.string nw,.int .i64 nx,I,T,.int .i64 ep,.int .i64 nd]):=n1;clear n1;have k0:w1.cell? ⟨b1,0,none⟩=some (.int .i64 kd):=N1.out.is.c 0;have k4:w1.cell? ⟨b1,4,none⟩=some (.int .i64 ac):=N1.out.is.c 4)
  have HNX:Hid ((Value.slice ab B.length cb).ownBlock≠some b1/\b1≠pb):=⟨fun e=>(by have:=H.out.rb.lt e;have:=N1.out.eq;omega),fun e=>(by have:=H.out.is.lt;have:=N1.out.eq;omega)⟩
  have H1:Hid (PlO w0 w1 pb vc (.slice ab B.length cb) ⟨K0,B,n⟩):=H.out.below N1.out.bel
  clear k0 k4 H
  have KS:Hid (∀ wx,Below w1.heap.size w1 wx->wx.cell? ⟨b1,1,none⟩=some (.int .i64 tx)/\wx.cell? ⟨b1,5,none⟩=some (.string ky)/\wx.cell? ⟨b1,7,none⟩=some (.string nw)):=fun wx hb=>⟨(N1.out.is.bel hb).c 1,(N1.out.is.bel hb).c 5,(N1.out.is.bel hb).c 7⟩
  have PB:Hid (∀ wx,Below w1.heap.size w1 wx->PlO w0 wx pb vc (.slice ab B.length cb) ⟨K0,B,n⟩/\wx.cell? ⟨pb,1,none⟩=some (.slice ab B.length cb)):=fun wx hb=>⟨H1.out.below hb,(H1.out.is.bel hb).c 1⟩
  have D7:Hid (Below w1.heap.size w1 w1.drew):=(Below.refl _ _).drew
  have HBl:Hid ((B.map encR).length=B.length/\(B.map encR).length<=90000):=⟨List.length_map ..,by rw[List.length_map];omega⟩
  refine wp_region_held_drew (S:=fun W:World=>W.cell? ⟨b1,1,none⟩=some (.int .i64 tx)/\W.cell? ⟨b1,5,none⟩=some (.string ky)/\W.cell? ⟨b1,7,none⟩=some (.string nw)) (by kernel_rfl) (KS.out _ D7.out) (fun hHeld=>?_)
  refine wpAnyH_take (i:=0) (oi:=_) (v:=?_) rfl (by kernel_rfl) (by kernel_rfl) (by kernel_rfl) (fun _ _ _ h=>h) (Or.inl ⟨by rfl,?_⟩) hHeld ?_
  rotate_left
  ·(intro w hSw;(try dsimp only at hSw);go_simp;(try with_reducible rfl))
  try simp only[Act.put,List.setIfInBounds_toArray,List.set_cons_zero,List.set_cons_succ,List.getElem_toArray,List.getElem_cons_succ,List.getElem_cons_zero]
  refine wpAnyH_take (i:=1) (oi:=_) (v:=?_) rfl (by kernel_rfl) (by kernel_rfl) (by kernel_rfl) (fun _ _ _ h=>h) (Or.inl ⟨by rfl,?_⟩) hHeld ?_
  rotate_left
  ·(intro w hSw;(try dsimp only at hSw);go_simp;(try with_reducible rfl))
  try simp only[Act.put,List.setIfInBounds_toArray,List.set_cons_zero,List.set_cons_succ,List.getElem_toArray,List.getElem_cons_succ,List.getElem_cons_zero]
  refine wpAnyH_take (i:=2) (oi:=_) (v:=?_) rfl (by kernel_rfl) (by kernel_rfl) (by kernel_rfl) (fun _ _ _ h=>h) (Or.inl ⟨by rfl,?_⟩) hHeld ?_
  rotate_left
  ·(intro w hSw;(try dsimp only at hSw);go_simp;(try with_reducible rfl))
  try simp only[Act.put,List.setIfInBounds_toArray,List.set_cons_zero,List.set_cons_succ,List.getElem_toArray,List.getElem_cons_succ,List.getElem_cons_zero]
  refine wpAnyH_take (i:=3) (oi:=_) (v:=?_) rfl (by kernel_rfl) (by kernel_rfl) (by kernel_rfl) (fun _ _ _ h=>h) (Or.inl ⟨by rfl,?_⟩) hHeld ?_
  rotate_left
  ·(intro w hSw;(try dsimp only at hSw);go_simp;(try with_reducible rfl))
  try simp only[Act.put,List.setIfInBounds_toArray,List.set_cons_zero,List.set_cons_succ,List.getElem_toArray,List.getElem_cons_succ,List.getElem_cons_zero]
  refine wpAnyH_take (i:=5) (oi:=_) (v:=?_) rfl (by kernel_rfl) (by kernel_rfl) (by kernel_rfl) (fun _ _ _ h=>h) (Or.inl ⟨by rfl,?_⟩) hHeld ?_
  rotate_left
  ·(intro w hSw;(try dsimp only at hSw);go_simp;(try with_reducible rfl))
  try simp only[Act.put,List.setIfInBounds_toArray,List.set_cons_zero,List.set_cons_succ,List.getElem_toArray,List.getElem_cons_succ,List.getElem_cons_zero]
  refine wpAnyH_take (i:=6) (oi:=_) (v:=?_) rfl (by kernel_rfl) (by kernel_rfl) (by kernel_rfl) (fun _ _ _ h=>h) (Or.inl ⟨by rfl,?_⟩) hHeld ?_
  rotate_left
  ·(intro w hSw;(try dsimp only at hSw);go_simp;(try with_reducible rfl))
  try simp only[Act.put,List.setIfInBounds_toArray,List.set_cons_zero,List.set_cons_succ,List.getElem_toArray,List.getElem_cons_succ,List.getElem_cons_zero]
  refine wpAnyH_take (i:=7) (oi:=_) (v:=?_) rfl (by kernel_rfl) (by kernel_rfl) (by kernel_rfl) (fun _ _ _ h=>h) (Or.inl ⟨by rfl,?_⟩) hHeld ?_
  rotate_left
  ·(intro w hSw;(try dsimp only at hSw);go_simp;(try with_reducible rfl))
  try simp only[Act.put,List.setIfInBounds_toArray,List.set_cons_zero,List.set_cons_succ,List.getElem_toArray,List.getElem_cons_succ,List.getElem_cons_zero]
  refine wpAnyH_take (i:=8) (oi:=_) (v:=?_) rfl (by kernel_rfl) (by kernel_rfl) (by kernel_rfl) (fun _ _ _ h=>h) (Or.inl ⟨by rfl,?_⟩) hHeld ?_
  rotate_left
  ·(intro w hSw;(try dsimp only at hSw);go_simp;(try with_reducible rfl))
  try simp only[Act.put,List.setIfInBounds_toArray,List.set_cons_zero,List.set_cons_succ,List.getElem_toArray,List.getElem_cons_succ,List.getElem_cons_zero]
  refine wpAnyH_take (i:=9) (oi:=_) (v:=?_) rfl (by kernel_rfl) (by kernel_rfl) (by kernel_rfl) (fun _ _ _ h=>h) (Or.inl ⟨by rfl,?_⟩) hHeld ?_
  rotate_left
  ·(intro w hSw;(try dsimp only at hSw);go_simp;(try with_reducible rfl))
  try simp only[Act.put,List.setIfInBounds_toArray,List.set_cons_zero,List.set_cons_succ,List.getElem_toArray,List.getElem_cons_succ,List.getElem_cons_zero]
  refine wpAnyH_take (i:=10) (oi:=_) (v:=?_) rfl (by kernel_rfl) (by kernel_rfl) (by kernel_rfl) (fun _ _ _ h=>h) (Or.inl ⟨by rfl,?_⟩) hHeld ?_
  rotate_left
  ·(intro w hSw;(try dsimp only at hSw);go_simp;(try with_reducible rfl))
  try simp only[Act.put,List.setIfInBounds_toArray,List.set_cons_zero,List.set_cons_succ,List.getElem_toArray,List.getElem_cons_succ,List.getElem_cons_zero]
  refine wpAnyH_take (i:=11) (oi:=_) (v:=?_) rfl (by kernel_rfl) (by kernel_rfl) (by kernel_rfl) (fun _ _ _ h=>h) (Or.inl ⟨by rfl,?_⟩) hHeld ?_
  rotate_left
  ·(intro w hSw;(try dsimp only at hSw);go_simp;(try with_reducible rfl))
  try simp only[Act.put,List.setIfInBounds_toArray,List.set_cons_zero,List.set_cons_succ,List.getElem_toArray,List.getElem_cons_succ,List.getElem_cons_zero]
  refine wpAnyH_take (i:=12) (oi:=_) (v:=?_) rfl (by kernel_rfl) (by kernel_rfl) (by kernel_rfl) (fun _ _ _ h=>h) (Or.inl ⟨by rfl,?_⟩) hHeld ?_
  rotate_left
  ·(intro w hSw;(try dsimp only at hSw);go_simp;(try with_reducible rfl))
  try simp only[Act.put,List.setIfInBounds_toArray,List.set_cons_zero,List.set_cons_succ,List.getElem_toArray,List.getElem_cons_succ,List.getElem_cons_zero]
  refine wpAnyH_ready (rs:=[4,13]) (by kernel_rfl) (by simp) ?_
  refine AllReadyH.cons (o:=_) rfl (fun K hK=>?_) (AllReadyH.cons (o:=_) rfl (fun K hK=>?_) AllReadyH.nil)
  rw[if_pos (by rfl)]
  refine wp_load1 (v:=.slice ab B.length cb) _ (.tmp 26) rfl rfl (load_sr (PB.out _ D7.out).2) ?_
  refine hK.out _ _ (KS.out _ D7.out) (fun hHeld=>?_)
  clear hK K
  try simp only[Act.put,List.setIfInBounds_toArray,List.set_cons_zero,List.set_cons_succ,List.getElem_toArray,List.getElem_cons_succ,List.getElem_cons_zero]
  refine wpAnyH_ready (rs:=[13]) (by kernel_rfl) (by simp) ?_
  refine AllReadyH.cons (o:=_) rfl (fun K hK=>?_) AllReadyH.nil
  rw[if_pos (by rfl)]
  refine wp_build1 _ (.tmp 35) rfl rfl (bR1 ⟨kd,tx,ky,nw⟩) ?_
  intro wB bB NB
  have DB:Hid (Below w1.heap.size w1 wB):=thn D7.out NB.bel
  refine hK.out _ _ (KS.out _ DB.out) (fun hHeld=>?_)
  clear hK K
  try simp only[Act.put,List.setIfInBounds_toArray,List.set_cons_zero,List.set_cons_succ,List.getElem_toArray,List.getElem_cons_succ,List.getElem_cons_zero]
  rotate_left
  rw[if_pos (by rfl)]
  refine wp_build1 _ (.tmp 35) rfl rfl (bR1 ⟨kd,tx,ky,nw⟩) ?_
  intro wB bB NB
  have DB:Hid (Below w1.heap.size w1 wB):=thn D7.out NB.bel
  refine hK.out _ _ (KS.out _ DB.out) (fun hHeld=>?_)
  clear hK K
  try simp only[Act.put,List.setIfInBounds_toArray,List.set_cons_zero,List.set_cons_succ,List.getElem_toArray,List.getElem_cons_succ,List.getElem_cons_zero]
  refine wpAnyH_ready (rs:=[4]) (by kernel_rfl) (by simp) ?_
  refine AllReadyH.cons (o:=_) rfl (fun K hK=>?_) AllReadyH.nil
  rw[if_pos (by rfl)]
  refine wp_load1 (v:=.slice ab B.length cb) _ (.tmp 26) rfl rfl (load_sr (PB.out _ DB.out).2) ?_
  refine hK.out _ _ (KS.out _ DB.out) (fun hHeld=>?_)
  clear hK K
  try simp only[Act.put,List.setIfInBounds_toArray,List.set_cons_zero,List.set_cons_succ,List.getElem_toArray,List.getElem_cons_succ,List.getElem_cons_zero]
  all_goals
   refine wpAnyH_ready (rs:=[14]) (by kernel_rfl) (by simp) ?_
   refine AllReadyH.cons (o:=_) rfl (fun K hK=>?_) AllReadyH.nil
   refine step_push elR (L:=B.map encR) (v:=.slice ab B.length cb) (A:=(recB ⟨kd,tx,ky,nw⟩).A (.slice none 0 0) (.slice none 0 0)) (c:=1) (b:=bB) rfl (.tmp 27) (.tmp 36) rfl rfl (PB.out _ DB.out).1.rb rfl NB.is rfl (oneR _) HBl.out.2 ?_
   intro aA cA wA AA
   rw[HBl.out.1] at AA ⊢
   obtain⟨PA,XA⟩:=(PB.out _ DB.out).1.pushB (xb:=b1) (x:=⟨kd,tx,ky,nw⟩) AA (N1.out.is.bel DB.out) HNX.out.1 HNX.out.2
   have PA:Hid (PlO w0 (wA.setCell ⟨pb,1,none⟩ (.slice aA (B.length+1) cA)) pb vc (.slice aA (B.length+1) cA) ⟨K0,B++[⟨kd,tx,ky,nw⟩],n⟩):=PA
   have XA:Hid (At wA b1 54 #[.int .i64 kd,.int .i64 tx,.int .i64 pv,.int .i64 pg,.int .i64 ac,.string ky,.string ol,.string nw,.int .i64 nx,I,T,.int .i64 ep,.int .i64 nd]/\At wA pb 62 #[vc,.slice ab B.length cb,.int .i64 n]/\At (wA.setCell ⟨pb,1,none⟩ (.slice aA (B.length+1) cA)) b1 54 #[.int .i64 kd,.int .i64 tx,.int .i64 pv,.int .i64 pg,.int .i64 ac,.string ky,.string ol,.string nw,.int .i64 nx,I,T,.int .i64 ep,.int .i64 nd]):=XA
   refine hK.out _ _ ⟨XA.out.1.c 1,XA.out.1.c 5,XA.out.1.c 7⟩ (fun hHeld=>?_)
   clear hK K
   try simp only[Act.put,List.setIfInBounds_toArray,List.set_cons_zero,List.set_cons_succ,List.getElem_toArray,List.getElem_cons_succ,List.getElem_cons_zero]
   refine wpAnyH_take (i:=15) (oi:=_) (v:=?_) rfl (by kernel_rfl) (by kernel_rfl) (by kernel_rfl) (fun _ _ _ h=>h) (Or.inl ⟨by rfl,?_⟩) hHeld ?_
   rotate_left
   ·(intro w hSw;(try dsimp only at hSw);go_simp;(try with_reducible rfl))
   try simp only[Act.put,List.setIfInBounds_toArray,List.set_cons_zero,List.set_cons_succ,List.getElem_toArray,List.getElem_cons_succ,List.getElem_cons_zero]
   refine wpAnyH_take (i:=16) (oi:=_) (v:=?_) rfl (by kernel_rfl) (by kernel_rfl) (by kernel_rfl) (fun _ _ _ h=>h) (Or.inl ⟨by rfl,?_⟩) hHeld ?_
   rotate_left
   ·(intro w hSw;(try dsimp only at hSw);go_simp;(try with_reducible rfl))
   try simp only[Act.put,List.setIfInBounds_toArray,List.set_cons_zero,List.set_cons_succ,List.getElem_toArray,List.getElem_cons_succ,List.getElem_cons_zero]
   refine wpAnyH_ready (rs:=[17]) (by kernel_rfl) (by simp) ?_
   refine AllReadyH.cons (o:=_) rfl (fun K hK=>?_) AllReadyH.nil
   rw[if_pos (by rfl)]
   refine wp_set1 (v:=.slice aA (B.length+1) cA) _ 43 (.tmp 39) (.tmp 37) rfl rfl rfl (XA.out.2.1.c 1) (XA.out.2.1.f 1) rfl i1R ?_
   intro wC eC
   rw[← eC] at PA XA
   refine hK.out _ _ ⟨XA.out.2.2.c 1,XA.out.2.2.c 5,XA.out.2.2.c 7⟩ (fun hHeld=>?_)
   clear hK K eC
   try simp only[Act.put,List.setIfInBounds_toArray,List.set_cons_zero,List.set_cons_succ,List.getElem_toArray,List.getElem_cons_succ,List.getElem_cons_zero]
   refine wpAnyH_done (by kernel_rfl) ?_ _
   go_wp2
   refine bodyPost_ret (results_none rfl _ _ _) rfl ?_
   exact⟨rfl,_,_,PA.out⟩
end
end Go.Proofs.YtdchjncnjgelhaaGreat.Fd
