import Derived.Test.YtdchjncnjgelhaaGreatMae
set_option linter.unusedVariables false
set_option linter.unusedSimpArgs false
set_option maxRecDepth 100000
namespace Go.Proofs.YtdchjncnjgelhaaGreat.Fd
open Go.RowKit Gm Go.Maps
theorem offT_snoc (B:List Bk) (x:Bk) (t:Int):offT (B++[x]) t=if x.tx=t then offT B t else offT B t++[x]:=by
 unfold offT
 rw[List.filter_append]
 by_cases h:x.tx=t <;> simp[h]
theorem comB_len (K:List CL) (x:Bk):(comB K x).length<=K.length+1:=comK_len K _ _
theorem foldC_len:∀ (es:List Bk) (K:List CL),(foldC K es).length<=K.length+es.length
 | [],K=>Nat.le_refl _
 | x :: es,K=>by
  have h:=foldC_len es (comB K x)
  have:=comB_len K x
  have e:foldC K (x ::es)=foldC (comB K x) es:=rfl
  rw[e,List.length_cons]
  omega
theorem ofT_len (B:List Bk) (t:Int):(ofT B t).length<=B.length:=List.length_filter_le _ _
theorem offT_len (B:List Bk) (t:Int):(offT B t).length<=B.length:=List.length_filter_le _ _
theorem comB_del {x:Bk} (h:x.act=4) (K:List CL):comB K x=delK K x.ky:=by unfold comB hsB comK;rw[if_pos h];rfl
theorem comB_put {x:Bk} (h:¬ x.act=4) (K:List CL):comB K x=putK K (x.ky,x.nw):=by unfold comB hsB comK;rw[if_neg h];rfl
def celI (kd:Int) (K:List CL) (B:List Bk) (t:Int) (i:Nat):List CL:=if kd=7 then foldC K (ofT (B.take i) t) else K
theorem celI_len (kd:Int) (K:List CL) (B:List Bk) (t:Int) (i:Nat):(celI kd K B t i).length<=K.length+B.length:=by
 unfold celI
 split
 ·have h1:=foldC_len (ofT (B.take i) t) K
  have h2:=ofT_len (B.take i) t
  rw[List.length_take] at h2
  omega
 ·omega
section
variable {B:List Bk}{K:List CL}{t kd:Int}{i:Nat}
theorem celI_off (hi:i<B.length) (h:B[i].tx≠t):celI kd K B t (i+1)=celI kd K B t i/\offT (B.take (i+1)) t=offT (B.take i) t++[B[i]]:=by
 unfold celI
 rw[List.take_succ_eq_append_getElem hi,ofT_snoc,offT_snoc,if_neg h,if_neg h]
 exact⟨rfl,rfl⟩
theorem celI_on (hi:i<B.length) (h:B[i].tx=t):celI 7 K B t (i+1)=comB (celI 7 K B t i) B[i]/\offT (B.take (i+1)) t=offT (B.take i) t:=by
 unfold celI
 rw[List.take_succ_eq_append_getElem hi,ofT_snoc,offT_snoc,if_pos h,if_pos h,if_pos rfl,if_pos rfl,foldC_snoc]
 exact⟨rfl,rfl⟩
theorem celI_on8 (hi:i<B.length) (h:B[i].tx=t) (hk:kd≠7):celI kd K B t (i+1)=celI kd K B t i/\offT (B.take (i+1)) t=offT (B.take i) t:=by
 unfold celI
 rw[List.take_succ_eq_append_getElem hi,ofT_snoc,offT_snoc,if_pos h,if_pos h,if_neg hk,if_neg hk]
 exact⟨rfl,rfl⟩
end
section
variable {w0 w w' w2 wr:World}{pb b1:Nat}{vc vb vl v':Value}{p:Ps}{r:Rc}{I T:Value}{K K':List CL}{B L:List Bk}{n:Int}{RA:Array Value}
theorem PlO.cells (h:PlO w0 w pb vc vb ⟨K,B,n⟩) (hb:Below w.heap.size w w') (hr:Row w' 69 2 v' (K'.map encC)) (ho:v'=vc∨∀ g,v'.ownBlock=some g->w.heap.size<=g):PlO w0 (w'.setCell ⟨pb,0,none⟩ v') pb v' vb ⟨K',B,n⟩:=by
 have h2:=h.below hb
 have hs:∀ b,b≠pb->(w'.setCell ⟨pb,0,none⟩ v').heap[b]?=w'.heap[b]?:=fun b hb=>Below.heap_setCell w' _ _ b hb
 refine⟨h2.is.set 0 _,hr.keep fun g e=>hs g fun e2=>?_,h2.rb.keep fun g e=>hs g fun e2=>h2.rb.ne (g:=0) h2.is (by decide) (e2 ▸ e),h2.bel.setCell (p:=⟨pb,0,none⟩) h.pbo _,h.pbo,fun g e=>?_,h.bo⟩
 ·exact hr.ne (g:=0) h2.is (by decide) (e2 ▸ e)
 ·rcases ho with rfl |ho
  ·exact h.co g e
  ·exact Nat.le_trans h.bel.size (ho g e)
structure GnO (w0 w2 wr:World) (pb b1:Nat) (vc vb vl:Value) (p:Ps) (L:List Bk) (RA:Array Value):Prop where
 pl:PlO w0 wr pb vc vb p
 r:At wr b1 54 RA
 lf:Row wr 54 13 vl (L.map encR)
 lo:∀ g,vl.ownBlock=some g->w2.heap.size<=g
 le:w2.heap.size<=wr.heap.size
theorem GnO.below (h:GnO w0 w2 wr pb b1 vc vb vl p L RA) (hb:Below wr.heap.size wr w'):GnO w0 w2 w' pb b1 vc vb vl p L RA :=
 ⟨h.pl.below hb,h.r.bel hb,h.lf.bel hb,h.lo,Nat.le_trans h.le hb.size⟩
theorem GnO.push (h:GnO w0 w2 wr pb b1 vc vb vl p L RA) (hpb:pb<w2.heap.size) (hb1:b1<w2.heap.size) (hvb:∀ g,vb.ownBlock=some g->g<w2.heap.size) {x:Bk} (A:App wr w' 54 13 vl v' (L.map encR++[encR x])):GnO w0 w2 w' pb b1 vc vb v' p (L++[x]) RA:=by
 have hk:∀ b,b<wr.heap.size->vl.ownBlock≠some b->w'.heap[b]?=wr.heap[b]?:=fun b hl hn=>A.grow.block b hl (fun e=>hn e.symm)
 have hvc:∀ g,vc.ownBlock=some g->vl.ownBlock≠some g:=fun g e e2=>by
  obtain⟨cur,hc⟩:=h.pl.rc.blkAt e
  obtain⟨cur',hc'⟩:=h.lf.blkAt e2
  rw[hc] at hc';simp at hc'
 have b2:Below w2.heap.size wr w':=A.bel h.lo h.le
 refine⟨⟨h.pl.is.keep (hk pb h.pl.is.lt (h.lf.ne (g:=0) h.pl.is (by decide))),h.pl.rc.keep fun g e=>hk g (h.pl.rc.lt e) (hvc g e),h.pl.rb.keep fun g e=>hk g (h.pl.rb.lt e) fun e2=>?_,?_,h.pl.pbo,h.pl.co,h.pl.bo⟩,h.r.keep (hk b1 h.r.lt fun e=>?_),by rw[List.map_append,List.map_singleton];exact A.row,fun g e=>?_,Nat.le_trans h.le A.grow.size⟩
 ·have h1:=hvb g e;have h3:=h.lo g e2;omega
 ·exact h.pl.bel.trans (A.bel (fun g e=>Nat.le_trans (Nat.le_trans h.pl.pbo (Nat.le_of_lt hpb)) (h.lo g e)) h.pl.bel.size)
 ·have h3:=h.lo b1 e;omega
 ·rcases A.own with e2 |e2
  ·exact h.lo g (e2.symm.trans e)
  ·rw[e2] at e;cases e;exact h.le
theorem GnO.cells (h:GnO w0 w2 wr pb b1 vc vb vl ⟨K,B,n⟩ L RA) (hpb:pb<w2.heap.size) (hb1:b1≠pb) (hb:Below wr.heap.size wr w') (hr:Row w' 69 2 v' (K'.map encC)) (ho:v'=vc∨∀ g,v'.ownBlock=some g->wr.heap.size<=g):GnO w0 w2 (w'.setCell ⟨pb,0,none⟩ v') pb b1 v' vb vl ⟨K',B,n⟩ L RA:=by
 have hs:∀ b,b≠pb->(w'.setCell ⟨pb,0,none⟩ v').heap[b]?=w'.heap[b]?:=fun b hb=>Below.heap_setCell w' _ _ b hb
 have h2:=h.below hb
 refine⟨h.pl.cells hb hr ho,h2.r.keep (hs b1 hb1),h2.lf.keep fun g e=>hs g fun e2=>?_,h.lo,?_⟩
 ·have:=h.lo g e;omega
 ·have:=h2.le;simpa[World.setCell] using this
theorem GnO.book (h:GnO w0 w2 wr pb b1 vc vb vl ⟨K,B,n⟩ L RA) (hpb:pb<w2.heap.size) (hb1:b1≠pb) (hn:vl.ownBlock≠some pb):GnO w0 w2 (wr.setCell ⟨pb,1,none⟩ vl) pb b1 vc vl vl ⟨K,L,n⟩ L RA:=by
 have hs:∀ b,b≠pb->(wr.setCell ⟨pb,1,none⟩ vl).heap[b]?=wr.heap[b]?:=fun b hb=>Below.heap_setCell wr _ _ b hb
 have hl:Row (wr.setCell ⟨pb,1,none⟩ vl) 54 13 vl (L.map encR):=h.lf.keep fun g e=>hs g fun e2=>hn (e2 ▸ e)
 refine⟨⟨h.pl.is.set 1 _,h.pl.rc.keep fun g e=>hs g fun e2=>h.pl.rc.ne (g:=0) h.pl.is (by decide) (e2 ▸ e),hl,h.pl.bel.setCell (p:=⟨pb,1,none⟩) h.pl.pbo _,h.pl.pbo,h.pl.co,fun g e=>Nat.le_trans (Nat.le_trans h.pl.pbo (Nat.le_of_lt hpb)) (h.lo g e)⟩,h.r.keep (hs b1 hb1),hl,h.lo,?_⟩
 have:=h.le;simpa[World.setCell] using this
theorem PlO.count (h:PlO w0 w pb vc vb ⟨K,B,n⟩):PlO w0 (w.setCell ⟨pb,2,none⟩ (.int .i64 (n+1))) pb vc vb ⟨K,B,n+1⟩:=by
 have hs:∀ b,b≠pb->(w.setCell ⟨pb,2,none⟩ (.int .i64 (n+1))).heap[b]?=w.heap[b]?:=fun b hb=>Below.heap_setCell w _ _ b hb
 exact⟨h.is.set 2 _,h.rc.keep fun g e=>hs g fun e2=>h.rc.ne (g:=0) h.is (by decide) (e2 ▸ e),h.rb.keep fun g e=>hs g fun e2=>h.rb.ne (g:=0) h.is (by decide) (e2 ▸ e),h.bel.setCell (p:=⟨pb,2,none⟩) h.pbo _,h.pbo,h.co,h.bo⟩
theorem book_at {g c:Nat} {a:Option Addr} (h:Row w 54 13 (.slice a B.length c) (B.map encR)) {i:Nat} (hi:i<B.length):∃ g,a=some ⟨g,0,none⟩/\∀ wx,Below w.heap.size w wx->wx.rangeAt g (i*13) ((recB B[i]).A (.slice none 0 0) (.slice none 0 0)).toList:=by
 obtain⟨g,ea,hg,hat⟩:=h.at_ (i:=i) (by rw[List.length_map];exact hi)
 refine⟨g,ea,fun wx hb=>?_⟩
 have:=(hat wx (hb.block g hg)).1
 rw[List.getElem_map] at this
 exact this
def zR:Array Value:=#[.int .i64 0,.int .i64 0,.int .i64 0,.int .i64 0,.int .i64 0,.string ⟨#[]⟩,.string ⟨#[]⟩,.string ⟨#[]⟩,.int .i64 0,.slice none 0 0,.slice none 0 0,.int .i64 0,.int .i64 0]
theorem zRv (w:World):(zeroValue 54).run Tryz.prog w=.ok (.agg zR) w:=by kernel_rfl
set_option maxHeartbeats 8000000 in
theorem note_commit (h:PlO w0 w pb vc vb p) (hn:p.K.length+p.B.length<=900) (hc:0<=p.n/\p.n<1000000) (h1:r.kd=7):Calls Tryz.prog 24 #[.pointer (some ⟨pb,0,none⟩),.agg (r.A I T)] w fun e w'=>NtO w0 pb (noteP p r) e w':=by
 have e9:noteP p r=⟨celI r.kd p.K p.B r.tx p.B.length,offT p.B r.tx,if r.kd=7 then p.n+1 else p.n⟩:=by
  unfold noteP celI
  rw[if_neg (by omega),List.take_length]
  rw[if_pos h1,if_pos h1,if_pos h1]
 rw[e9]
 obtain⟨K0,B,n⟩:=p
 dsimp only at h hn hc ⊢
 obtain⟨ab,cb,rfl,hcb⟩:=h.rb.sl
 rw[List.length_map] at hcb h
 have H:Hid (PlO w0 w pb vc (.slice ab B.length cb) ⟨K0,B,n⟩):=h
 clear h e9 hcb
 obtain⟨kd,tx,pv,pg,ac,ky,ol,nw,nx,ep,nd⟩:=r
 dsimp only at h1 ⊢
 unfold Rc.A
 dsimp only
 have k1:(kd==6)=false:=by simp;omega
 have k2:3<=kd:=by omega
 have k3:¬ kd<=6:=by omega
 have hwn:IntKind.i64.wrap (n+1)=n+1:=by rw[IntKind.wrap_i64];omega
 have k4:(kd !=7)=true->(kd !=8)=false:=by simp;omega
 have CP:Hid (∀ wx K v,Row wx 69 2 v (K.map encC)->K.length<=1000->∀ q t,Calls Tryz.prog 56 #[v,.agg #[.string q,.string t]] wx fun e w'=>ClE wx e w' (putK K (q,t))):=fun wx K v hr hl q t=>Lay_row hr hl q t
 have CG:Hid (∀ wx K v,Row wx 69 2 v (K.map encC)->K.length<=1000->∀ q,Calls Tryz.prog 55 #[v,.string q] wx fun e w'=>GoE wx e w' v (delK K q)):=fun wx K v hr hl q=>Gone_row hr hl q
 go_enter Tryz.func24,Tryz.ntmps24
 have k5:kd=7:=h1
 clear h1
 subst k5
 ·skip
  go_wp2_with (refine wpList_box_at (A:=#[.int .i64 7,.int .i64 tx,.int .i64 pv,.int .i64 pg,.int .i64 ac,.string ky,.string ol,.string nw,.int .i64 nx,I,T,.int .i64 ep,.int .i64 nd]) _ rfl _ rfl rfl ?_;intro w1 b1 n1;have N1:Hid (New w w1 b1 54 #[.int .i64 7,.int .i64 tx,.int .i64 pv,.int .i64 pg,.int .i64 ac,.string ky,.string ol,.string nw,.int .i64 nx,I,T,.int .i64 ep,.int .i64 nd]):=n1;clear n1;have y0:w1.cell? ⟨b1,0,none⟩=some (.int .i64 7):=N1.out.is.c 0)
  obtain⟨RA,hRA⟩:∃ RA:Array Value,RA=#[.int .i64 7,.int .i64 tx,.int .i64 pv,.int .i64 pg,.int .i64 ac,.string ky,.string ol,.string nw,.int .i64 nx,I,T,.int .i64 ep,.int .i64 nd]:=⟨_,rfl⟩
  have HRA:Hid (RA[0]?=some (.int .i64 7)/\RA[1]?=some (.int .i64 tx)):=by rw[hRA];exact⟨rfl,rfl⟩
  rw[← hRA] at N1
  clear hRA y0
  have G0:Hid (GnO w0 w1 w1 pb b1 vc (.slice ab B.length cb) (.slice none 0 0) ⟨celI 7 K0 B tx 0,B,n⟩ (offT (B.take 0) tx) RA):=⟨H.out.below N1.out.bel,N1.out.is,Row.nil _ _ _,fun g e=>(by cases e),Nat.le_refl _⟩
  have HS:Hid (pb<w1.heap.size/\b1<w1.heap.size/\b1≠pb/\∀ g,(Value.slice ab B.length cb).ownBlock=some g->g<w1.heap.size):=⟨Nat.lt_of_lt_of_le H.out.is.lt N1.out.bel.size,N1.out.is.lt,fun e=>(by have:=H.out.is.lt;have:=N1.out.eq;omega),fun g e=>Nat.lt_of_lt_of_le (H.out.rb.lt e) N1.out.bel.size⟩
  have HKl:Hid (∀ i,(celI 7 K0 B tx i).length<=1000):=fun i=>by have:=celI_len 7 K0 B tx i;omega
  have HLl:Hid (∀ i,(offT (B.take i) tx).length<=900):=fun i=>by have:=offT_len (B.take i) tx;rw[List.length_take] at this;omega
  clear H N1
  go_loopg [5,6] B.length (fun k vl vi wr=>∃ (i:Nat) (vc:Value),vi=.int .i64 (i:Int)/\B.length-i<=k/\i<=B.length/\GnO w0 w1 wr pb b1 vc (.slice ab B.length cb) vl ⟨celI 7 K0 B tx i,B,n⟩ (offT (B.take i) tx) RA)
  case atStart=>exact⟨0,vc,rfl,by omega,by omega,G0.out⟩
  case round =>
   clear G0
   obtain⟨i,vc,rfl,hk,him,hG⟩:=hrel
   have HG:Hid (GnO w0 w1 wr pb b1 vc (.slice ab B.length cb) u5 ⟨celI 7 K0 B tx i,B,n⟩ (offT (B.take i) tx) RA):=hG
   clear hG
   have y1:wr.cell? ⟨pb,1,none⟩=some (.slice ab B.length cb):=HG.out.pl.is.c 1
   by_cases hlt:i<B.length
   ·have hltI:(i:Int)<(B.length:Int):=by omega
    obtain⟨g,rfl,hat⟩:=book_at (g:=0) HG.out.pl.rb hlt
    have HAt:Hid (∀ wx,Below wr.heap.size wr wx->wx.rangeAt g (i*13) ((recB B[i]).A (.slice none 0 0) (.slice none 0 0)).toList):=hat
    clear hat
    have y2:wr.rangeAt g (i*13) ((recB B[i]).A (.slice none 0 0) (.slice none 0 0)).toList:=HAt.out _ (Below.refl _ _)
    have HOff:Hid (B[i].tx≠tx->celI 7 K0 B tx (i+1)=celI 7 K0 B tx i/\offT (B.take (i+1)) tx=offT (B.take i) tx++[B[i]]):=celI_off hlt
    have HOn:Hid (B[i].tx=tx->celI 7 K0 B tx (i+1)=comB (celI 7 K0 B tx i) B[i]/\offT (B.take (i+1)) tx=offT (B.take i) tx):=celI_on hlt
    generalize B[i]=x at *
    have HSz:Hid (((recB x).A (.slice none 0 0) (.slice none 0 0)).size=13/\zR.size=13):=⟨rfl,rfl⟩
    have hSt:=stRc
    obtain⟨RX,hRX⟩:∃ RX:Array Value,RX=(recB x).A (.slice none 0 0) (.slice none 0 0):=⟨_,rfl⟩
    have HRX:Hid (RX[0]?=some (.int .i64 x.act)/\RX[1]?=some (.int .i64 x.tx)/\RX[5]?=some (.string x.ky)/\RX[7]?=some (.string x.nw)/\RX.size=13/\RX.size=zR.size/\(∀ u∈RX.toList,u.oneCell'=true)/\RX.toList=encR x):=by rw[hRX];exact⟨rfl,rfl,rfl,rfl,rfl,rfl,oneR x,rfl⟩
    have HB1:Hid (∀ w,(Instr.buildSlice 43 1 #[(0,.agg RX)]).run Tryz.prog w=.ok (.slice (some ⟨w.heap.size,0,none⟩) 1 1) (w.alloc (.cells RX 54))):=by rw[hRX];exact bR1 x
    rw[← hRX] at y2
    clear hRX HAt
    by_cases ht:x.tx=tx
    ·obtain⟨e1,e2⟩:=HOn.out ht
     have HE:Hid (celI 7 K0 B tx (i+1)=comB (celI 7 K0 B tx i) x/\offT (B.take (i+1)) tx=offT (B.take i) tx):=⟨e1,e2⟩
     have hll:=HKl.out i
     have HKn:Hid ((celI 7 K0 B tx i).length<=1000):=hll
     clear e1 e2 HOff HOn hll
     generalize celI 7 K0 B tx i=Kc at *
     generalize offT (B.take i) tx=Lf at *
     obtain⟨xa,xt,xk,xn⟩:=x
     dsimp only at ht HRX
     subst ht
     obtain⟨ac1,cc1,ec1,_⟩:=HG.out.pl.rc.sl
     rw[List.length_map] at ec1
     dsimp only at ec1
     subst ec1
     by_cases h4:xa=4
     ·subst h4
      have HCb:Hid (comB Kc ⟨4,xt,xk,xn⟩=delK Kc xk):=comB_del rfl Kc
      go_wp2_with first
       | (refine wpList_load_in hSt (A:=RX) _ rfl _ rfl rfl y2 HRX.out.2.2.2.2.1 ?_)
       | (refine wpList_new_at (A:=zR) _ zRv rfl rfl ?_;intro w3 b7 N3)
       | (refine wpList_put_at (A:=zR) (A':=RX) hSt _ rfl _ _ rfl rfl rfl N3.is HSz.out.2 HRX.out.2.2.2.2.2.1 HRX.out.2.2.2.2.2.2.1 ?_;intro w4 P4;have X4:Hid (GnO w0 w1 w4 pb b1 (.slice ac1 Kc.length cc1) (.slice (some ⟨g,0,none⟩) B.length cb) u5 ⟨Kc,B,n⟩ Lf RA/\At w4 b7 54 RX):=⟨HG.out.below (np_bel N3 P4),P4.is⟩;have z0:w4.cell? ⟨b7,0,none⟩=some (.int .i64 4):=(P4.is.c 0).trans HRX.out.1;have z1:w4.cell? ⟨b7,1,none⟩=some (.int .i64 xt):=(P4.is.c 1).trans HRX.out.2.1;have q1:w4.cell? ⟨b1,1,none⟩=some (.int .i64 xt):=(X4.out.1.r.c 1).trans HRA.out.2;have q0:w4.cell? ⟨b1,0,none⟩=some (.int .i64 7):=(X4.out.1.r.c 0).trans HRA.out.1)
      have DX:Hid (GnO w0 w1 w4.drew pb b1 (.slice ac1 Kc.length cc1) (.slice (some ⟨g,0,none⟩) B.length cb) u5 ⟨Kc,B,n⟩ Lf RA/\At w4.drew b7 54 RX):=⟨X4.out.1.below (Below.refl _ _).drew,X4.out.2.bel (Below.refl _ _).drew⟩
      have d0:w4.drew.cell? ⟨pb,0,none⟩=some (.slice ac1 Kc.length cc1):=DX.out.1.pl.is.c 0
      have d5:w4.drew.cell? ⟨b7,5,none⟩=some (.string xk):=(DX.out.2.c 5).trans HRX.out.2.2.1
      have d7:w4.drew.cell? ⟨b7,7,none⟩=some (.string xn):=(DX.out.2.c 7).trans HRX.out.2.2.2.1
      clear z0 z1 q0 q1 P4 N3
      go_region_with (go_at_call 55;refine(CG.out _ _ _ DX.out.1.pl.rc HKn.out xk).mono ?_;rintro e w5 ⟨⟨v5,rfl,r5,o5⟩,b5⟩;have I5:=DX.out.1.pl.is.bel b5;have k12:w5.cell? ⟨pb,0,none⟩=some (.slice ac1 Kc.length cc1):=I5.c 0;have f12:w5.frozen? ⟨pb,0,none⟩=false:=I5.f 0;obtain⟨a5,c5,e5,_⟩:=r5.sl;rw[List.length_map] at e5;subst e5;have X6:Hid (GnO w0 w1 (w5.setCell ⟨pb,0,none⟩ (.slice a5 (delK Kc xk).length c5)) pb b1 (.slice a5 (delK Kc xk).length c5) (.slice (some ⟨g,0,none⟩) B.length cb) u5 ⟨delK Kc xk,B,n⟩ Lf RA):=DX.out.1.cells HS.out.1 HS.out.2.2.1 b5 r5 o5;clear r5 o5 I5)
      all_goals
       go_wp2
       go_roundg (B.length-(i+1))
       case measure=>omega
       case rel=>exact⟨i+1,_,by first |rfl |go_num,Nat.le_refl _,by omega,by rw[HE.out.1,HE.out.2,HCb.out];exact X6.out⟩
     ·have h4b:(xa==4)=false:=by simpa using h4
      have HCb:Hid (comB Kc ⟨xa,xt,xk,xn⟩=putK Kc (xk,xn)):=comB_put h4 Kc
      go_wp2_with first
       | (refine wpList_load_in hSt (A:=RX) _ rfl _ rfl rfl y2 HRX.out.2.2.2.2.1 ?_)
       | (refine wpList_new_at (A:=zR) _ zRv rfl rfl ?_;intro w3 b7 N3)
       | (refine wpList_put_at (A:=zR) (A':=RX) hSt _ rfl _ _ rfl rfl rfl N3.is HSz.out.2 HRX.out.2.2.2.2.2.1 HRX.out.2.2.2.2.2.2.1 ?_;intro w4 P4;have X4:Hid (GnO w0 w1 w4 pb b1 (.slice ac1 Kc.length cc1) (.slice (some ⟨g,0,none⟩) B.length cb) u5 ⟨Kc,B,n⟩ Lf RA/\At w4 b7 54 RX):=⟨HG.out.below (np_bel N3 P4),P4.is⟩;have z0:w4.cell? ⟨b7,0,none⟩=some (.int .i64 xa):=(P4.is.c 0).trans HRX.out.1;have z1:w4.cell? ⟨b7,1,none⟩=some (.int .i64 xt):=(P4.is.c 1).trans HRX.out.2.1;have q1:w4.cell? ⟨b1,1,none⟩=some (.int .i64 xt):=(X4.out.1.r.c 1).trans HRA.out.2;have q0:w4.cell? ⟨b1,0,none⟩=some (.int .i64 7):=(X4.out.1.r.c 0).trans HRA.out.1)
      have DX:Hid (GnO w0 w1 w4.drew pb b1 (.slice ac1 Kc.length cc1) (.slice (some ⟨g,0,none⟩) B.length cb) u5 ⟨Kc,B,n⟩ Lf RA/\At w4.drew b7 54 RX):=⟨X4.out.1.below (Below.refl _ _).drew,X4.out.2.bel (Below.refl _ _).drew⟩
      have d0:w4.drew.cell? ⟨pb,0,none⟩=some (.slice ac1 Kc.length cc1):=DX.out.1.pl.is.c 0
      have d5:w4.drew.cell? ⟨b7,5,none⟩=some (.string xk):=(DX.out.2.c 5).trans HRX.out.2.2.1
      have d7:w4.drew.cell? ⟨b7,7,none⟩=some (.string xn):=(DX.out.2.c 7).trans HRX.out.2.2.2.1
      clear z0 z1 q0 q1 P4 N3
      go_region_with (go_at_call 56;refine(CP.out _ _ _ DX.out.1.pl.rc HKn.out xk xn).mono ?_;rintro e w5 ⟨⟨v5,rfl,r5,o5⟩,b5⟩;have I5:=DX.out.1.pl.is.bel b5;have k12:w5.cell? ⟨pb,0,none⟩=some (.slice ac1 Kc.length cc1):=I5.c 0;have f12:w5.frozen? ⟨pb,0,none⟩=false:=I5.f 0;obtain⟨a5,c5,e5,_⟩:=r5.sl;rw[List.length_map] at e5;subst e5;have X6:Hid (GnO w0 w1 (w5.setCell ⟨pb,0,none⟩ (.slice a5 (putK Kc (xk,xn)).length c5)) pb b1 (.slice a5 (putK Kc (xk,xn)).length c5) (.slice (some ⟨g,0,none⟩) B.length cb) u5 ⟨putK Kc (xk,xn),B,n⟩ Lf RA):=DX.out.1.cells HS.out.1 HS.out.2.2.1 b5 r5 (Or.inr o5);clear r5 o5 I5)
      all_goals
       go_wp2
       go_roundg (B.length-(i+1))
       case measure=>omega
       case rel=>exact⟨i+1,_,by first |rfl |go_num,Nat.le_refl _,by omega,by rw[HE.out.1,HE.out.2,HCb.out];exact X6.out⟩
    ·have htb:(x.tx !=tx)=true:=by simpa using ht
     obtain⟨e1,e2⟩:=HOff.out ht
     have HE:Hid (celI 7 K0 B tx (i+1)=celI 7 K0 B tx i/\offT (B.take (i+1)) tx=offT (B.take i) tx++[x]):=⟨e1,e2⟩
     have hll:=HLl.out i
     have HLn:Hid ((offT (B.take i) tx).length<=900):=hll
     clear e1 e2 HOff HOn hll
     generalize celI 7 K0 B tx i=Kc at *
     generalize offT (B.take i) tx=Lf at *
     go_wp2_with first
      | (refine wpList_load_in hSt (A:=RX) _ rfl _ rfl rfl y2 HRX.out.2.2.2.2.1 ?_)
      | (refine wpList_new_at (A:=zR) _ zRv rfl rfl ?_;intro w3 b7 N3)
      | (refine wpList_put_at (A:=zR) (A':=RX) hSt _ rfl _ _ rfl rfl rfl N3.is HSz.out.2 HRX.out.2.2.2.2.2.1 HRX.out.2.2.2.2.2.2.1 ?_;intro w4 P4;have X4:Hid (GnO w0 w1 w4 pb b1 vc (.slice (some ⟨g,0,none⟩) B.length cb) u5 ⟨Kc,B,n⟩ Lf RA/\At w4 b7 54 RX):=⟨HG.out.below (np_bel N3 P4),P4.is⟩;have z1:w4.cell? ⟨b7,1,none⟩=some (.int .i64 x.tx):=(P4.is.c 1).trans HRX.out.2.1;have q1:w4.cell? ⟨b1,1,none⟩=some (.int .i64 tx):=(X4.out.1.r.c 1).trans HRA.out.2)
      | (refine wpList_load_at hSt (A:=RX) _ rfl _ rfl rfl X4.out.2 HRX.out.2.2.2.2.1 ?_)
      | (refine wpList_build1 (u:=.agg RX) (A:=RX) _ rfl _ rfl rfl HB1.out ?_;intro w5 b5 N5;have X5:Hid (GnO w0 w1 w5 pb b1 vc (.slice (some ⟨g,0,none⟩) B.length cb) u5 ⟨Kc,B,n⟩ Lf RA):=X4.out.1.below N5.bel)
      | (refine wpList_push elR (A:=RX) (L:=Lf.map encR) rfl _ _ rfl rfl X5.out.lf rfl N5.is HRX.out.2.2.2.2.1 HRX.out.2.2.2.2.2.2.1 (by have:=HLn.out;rw[List.length_map];omega) ?_;intro a6 c6 w6 A6;rw[HRX.out.2.2.2.2.2.2.2] at A6;rw[List.length_map] at A6;have X6:=X5.out.push HS.out.1 HS.out.2.1 HS.out.2.2.2 A6)
     go_roundg (B.length-(i+1))
     case measure=>omega
     case rel=>exact⟨i+1,vc,by first |rfl |go_num,Nat.le_refl _,by omega,by rw[HE.out.1,HE.out.2];exact X6⟩
   ·have hltI:¬ (i:Int)<(B.length:Int):=by omega
    obtain⟨al,cl,el,hcl⟩:=HG.out.lf.sl
    subst el
    rw[List.length_map,List.take_of_length_le (show B.length<=i by omega)] at HG ⊢
    have y9:wr.frozen? ⟨pb,1,none⟩=false:=HG.out.pl.is.f 1
    have ei:celI 7 K0 B tx i=celI 7 K0 B tx B.length:=by unfold celI;rw[if_pos rfl,if_pos rfl,List.take_of_length_le (show B.length<=i by omega),List.take_of_length_le (Nat.le_refl _)]
    rw[ei] at HG
    clear ei hcl
    have HY9:Hid (wr.frozen? ⟨pb,1,none⟩=false):=y9
    clear y9
    have HNl:Hid ((Value.slice al (offT B tx).length cl).ownBlock≠some pb):=fun e=>by have:=HG.out.lo pb e;have:=HS.out.1;omega
    go_wp2_with (refine wpList_set1 (v:=.slice al (offT B tx).length cl) _ rfl 43 (.tmp 110) (.tmp 108) rfl rfl rfl y1 HY9.out rfl i1R ?_;intro w8 e8;have HE8:Hid (w8=wr.setCell ⟨pb,1,none⟩ (.slice al (offT B tx).length cl)):=e8;clear e8;have X8:Hid (GnO w0 w1 w8 pb b1 vc (.slice al (offT B tx).length cl) (.slice al (offT B tx).length cl) ⟨celI 7 K0 B tx B.length,offT B tx,n⟩ (offT B tx) RA):=(by rw[HE8.out];exact HG.out.book HS.out.1 HS.out.2.2.1 HNl.out);have q0:w8.cell? ⟨b1,0,none⟩=some (.int .i64 7):=(X8.out.r.c 0).trans HRA.out.1;have q2:w8.cell? ⟨pb,2,none⟩=some (.int .i64 n):=X8.out.pl.is.c 2;have q3:w8.frozen? ⟨pb,2,none⟩=false:=X8.out.pl.is.f 2)
    refine bodyPost_ret (results_none rfl _ _ _) rfl ?_
    exact⟨rfl,_,_,X8.out.pl.count⟩
end
end Go.Proofs.YtdchjncnjgelhaaGreat.Fd
