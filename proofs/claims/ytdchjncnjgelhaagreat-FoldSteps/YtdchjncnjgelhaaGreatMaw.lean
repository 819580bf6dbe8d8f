import Derived.Test.YtdchjncnjgelhaaGreatMav
import Derived.Test.YtdchjncnjgelhaaGreatMaf
import Derived.BigRegion
import Derived.Test.YtdchjncnjgelhaaGreatMad
import Derived.BigQuiet
import Derived.Test.YtdchjncnjgelhaaGreatMag
set_option linter.unusedVariables false
set_option linter.unusedSimpArgs false
set_option maxRecDepth 100000
namespace Go.Proofs.YtdchjncnjgelhaaGreat.Fd
open Go.RowKit Gm Go.Maps
section
variable {S:Nat->Prop}{w wR:World}{r:Rc}{I T:Value}{i:Nat}{fs:List ByteArray}
structure RwS (S:Nat->Prop) (wR:World) (fs:List ByteArray) (a a':Option Addr):Prop where
 at_:∀ i,i<fs.length->∃ g g' I T,a=some ⟨g,0,none⟩/\a'=some ⟨g',0,none⟩/\S g/\S g'/\(I.oneCell'=true/\T.oneCell'=true)/\wR.rangeAt g (i*13) ((rcO fs i).A I T).toList/\wR.cell? ⟨g',i,none⟩=some (.int .i64 (Lg.pla fs i))
theorem recF_one {w:World} {q:Sc} {I T:Value} {m:Rm} {B:Nat} (h:RecF w (.agg (q.A I T)) m B):I.oneCell'=true/\T.oneCell'=true:=by
 obtain⟨I',T',e,f1,f2⟩:=h.ex
 obtain⟨a1,c1,e1,_⟩:=f1.ex
 obtain⟨a2,c2,e2,_⟩:=f2.ex
 injection e with e
 have e9:=congrArg (fun a=>a[9]?) e
 have e10:=congrArg (fun a=>a[10]?) e
 simp[Sc.A] at e9 e10
 rw[e9,e10,e1,e2]
 exact⟨rfl,rfl⟩
theorem one_rc (r:Rc) {I T:Value} (hI:I.oneCell'=true) (hT:T.oneCell'=true):∀ u∈(r.A I T).toList,u.oneCell'=true:=by
 intro u hu
 simp[Rc.A] at hu
 rcases hu with rfl |rfl |rfl |rfl |rfl |rfl |rfl |rfl |rfl |rfl |rfl |rfl |rfl
 all_goals first |rfl |assumption
end
end Go.Proofs.YtdchjncnjgelhaaGreat.Fd
namespace Go.Proofs.YtdchjncnjgelhaaGreat.Lg
open Go.RowKit Go.Maps Go.ChangeMaps
open Gm (thn bl1 bdr)
section
variable {w w0 w':World}{ms:List Rm}{a0:Option Addr}{n0 c0 l:Nat}{fs:List ByteArray}{W W':Nat->Prop}
structure LmN (w:World) (l:Nat) (w':World) (N:Nat):Prop where
 ex:∃ W fs,Lo W w' l fs/\(∀ j,W j->w.heap.size<=j)/\Below w.heap.size w w'/\fs.length<=N
theorem LmN.bel {N:Nat} (h:LmN w l w' N):Below w.heap.size w w':=by obtain⟨W,fs,h1,h2,h3,h4⟩:=h.ex;exact h3
theorem LmN.up {N M:Nat} (h:LmN w l w' N) (hm:N<=M):LmN w l w' M:=by obtain⟨W,fs,h1,h2,h3,h4⟩:=h.ex;exact⟨W,fs,h1,h2,h3,Nat.le_trans h4 hm⟩
theorem LmN.append {N:Nat} {v:Value} {m:Rm} (h:LmN w l w0 N) (hv:RecV w0 v m) (hm:Small m):Calls Tryz.prog 35 #[.pointer (some ⟨l,0,none⟩),v] w0 fun e w'=>∃ x y,e=.returned (.tuple #[.int .i64 x,.int .i64 y])/\LmN w l w' (N+1):=by
 obtain⟨W,fs,h1,h2,h3,h4⟩:=h.ex
 refine(h1.append hv hm).mono ?_
 rintro e w' ⟨x,y,fs',W',he,hl,hf,ho⟩
 refine⟨x,y,he,W',fs',hl,ge_sub h2 h3.size hf,h3.trans (hf.bel h2 h3.size),?_⟩
 rcases ho with⟨_,_,e2,_⟩ |⟨_,e2,_⟩
 ·rw[e2,List.length_append,List.length_singleton];omega
 ·rw[e2];omega
theorem lmN_new (w:World):Calls Tryz.prog 7 #[.int .i64 200] w fun e w'=>∃ db,e=.returned (.tuple #[.pointer (some ⟨db,0,none⟩),.int .i64 0])/\Below w.heap.size w w'/\Hid (Calls Tryz.prog 8 #[.pointer (some ⟨db,0,none⟩),.int .i64 0,.int .i64 200,.int .i64 1] w' fun e w2=>∃ l,e=.returned (.tuple #[.pointer (some ⟨l,0,none⟩),.int .i64 0])/\LmN w l w2 0):=by
 letI:Inhabited PrSet:=⟨⟨fun _=>none⟩⟩
 refine(Ds.new 200 (by omega) (by omega) w (fun j o e=>by cases e)).mono ?_
 rintro e w' ⟨he,h1,h2⟩
 refine⟨_,he,h2,?_⟩
 refine((new_wt 200 0 200 (by omega)).open_ (run:=1) (fit_nil (by omega) (by omega)) (Nat.le_refl _) h1 (by omega) (by omega) (by omega) (by show 0+200<=200;omega) rfl rfl).mono ?_
 rintro e w2 ⟨j,S',l,he,⟨_,hj,hs,hn⟩,hlv,hK⟩
 obtain⟨W,g1,g2,g3⟩:=lv_sup (q:=⟨w.heap.size,0+200+1,S',w.heap.size+2,0,200,1,j⟩) hlv
 exact⟨l,he,W,_,⟨_,g3,rfl⟩,g3.ge,h2.trans hK.bel,by rw[List.take_nil];exact Nat.le_refl _⟩
set_option maxHeartbeats 2000000 in
theorem log_anyN (hr:RsV w a0 n0 ms) (hs:∀ m∈ms,Small m) (hn:n0<=9223372036854775807) (most:Nat) (hm:most<=1000):Calls Tryz.prog 16 #[.slice a0 n0 c0,.int .i64 (most:Int)] w fun e w'=>∃ l,e=.returned (.pointer (some ⟨l,0,none⟩))/\LmN w l w' most:=by
 have HR:Hid (RsV w a0 n0 ms):=hr
 have HSm:Hid (∀ m∈ms,Small m):=hs
 have HLn:Hid (ms.length=n0):=hr.len
 have CN:=lmN_new w
 obtain⟨N,hN⟩:∃ N,min n0 most=N:=⟨_,rfl⟩
 have HN:Hid (min n0 most=N):=hN
 clear hr hs hN
 go_enter Tryz.func16,Tryz.ntmps16
 go_wp2_with first
  | (go_at_call 7;refine CN.mono ?_;rintro e w1 ⟨db,rfl,b1,CO⟩)
  | (go_at_call 8;refine CO.out.mono ?_;rintro e w2 ⟨l,rfl,HM⟩;have HM1:Hid (LmN w l w2 0):=HM;clear HM CO)
 go_loopw [9] (fun ix wr=>∃ j:Nat,j<=N/\ix=.int .i64 (j:Int)/\LmN w l wr j) (fun ix _=>N-(intOf ix).toNat)
 case atStart=>exact⟨0,Nat.zero_le _,rfl,HM1.out⟩
 case round =>
  clear HM1
  obtain⟨j,hj,rfl,hM⟩:=hrel
  rename World=>wo
  have HM:Hid (LmN w l wo j):=hM
  clear hM
  have hNe:=HN.out
  by_cases hlt:j<N
  ·have hj1:(j:Int)<(n0:Int):=by omega
   have hj2:(j:Int)<(most:Int):=by omega
   have hjm:j<ms.length:=by have:=HLn.out;omega
   obtain⟨g,o,I,T,ha,hg,hrg,hv,hh⟩:=HR.out.at_ j hjm
   subst ha
   have hbo:Below w.heap.size w wo:=HM.out.bel
   have hr1:wo.rangeAt g (o+j*13) ((ms[j].s.A I T).toList):=rangeAt_below hrg hg hbo
   have CA:Hid (Calls Tryz.prog 35 #[.pointer (some ⟨l,0,none⟩),.agg (ms[j].s.A I T)] wo fun e w'=>∃ x y,e=.returned (.tuple #[.int .i64 x,.int .i64 y])/\LmN w l w' (j+1)):=HM.out.append (hv.below hbo) (HSm.out _ (List.getElem_mem _))
   clear hrg hv hh hbo hg
   generalize ms[j].s=sm at *
   go_wp2_with first
    | (refine wpList_load_rcs (s:=sm) (I:=I) (T:=T) _ rfl (.tmp 45) rfl rfl hr1 ?_;clear hr1)
    | (go_at_call 35;refine CA.out.mono ?_;rintro e w3 ⟨x,y,rfl,HM3⟩)
   go_roundw
   case rel=>exact⟨j+1,by omega,by go_num,HM3⟩
   case measure=>simp[intOf];omega
  ·have hj3:¬ ((j:Int)<(n0:Int)/\(j:Int)<(most:Int)):=by omega
   by_cases hj1:(j:Int)<(n0:Int)
   ·have hj2:¬ (j:Int)<(most:Int):=by omega
    go_wp2
    go_ret
    exact⟨l,rfl,HM.out.up (by omega)⟩
   ·go_wp2
    go_ret
    exact⟨l,rfl,HM.out.up (by omega)⟩
end
end Go.Proofs.YtdchjncnjgelhaaGreat.Lg
namespace Go.Proofs.YtdchjncnjgelhaaGreat.Fd
open Go.RowKit Gm Go.Maps
structure RwA (wR:World) (fs:List ByteArray) (a a':Option Addr):Prop where
 at_:∀ i,i<fs.length->∃ g g' I T,a=some ⟨g,0,none⟩/\a'=some ⟨g',0,none⟩/\(I.oneCell'=true/\T.oneCell'=true)/\∀ wx,Below wR.heap.size wR wx->wx.rangeAt g (i*13) ((rcO fs i).A I T).toList/\wx.cell? ⟨g',i,none⟩=some (.int .i64 (Lg.pla fs i))
theorem putG_nd {G:List Gt} (h:G.Pairwise fun a b=>a.txn≠b.txn) (t:Int) (k:ByteArray) (x:Hs):(putG G t k x).Pairwise fun a b=>a.txn≠b.txn:=by
 unfold putG
 cases hl:lkG G t with
 | some g =>
  rw[if_pos (show(some g).isSome=true from rfl)]
  rw[List.pairwise_map]
  exact h.imp fun {a b} hab=>by rw[tnG_txn,tnG_txn];exact hab
 | none =>
  rw[if_neg (by simp)]
  rw[List.pairwise_append]
  refine⟨h,List.pairwise_singleton ..,fun a ha b hb=>?_⟩
  rw[List.mem_singleton] at hb
  subst hb
  unfold lkG at hl
  have:=List.find?_eq_none.1 hl a ha
  simpa using this
theorem noteF_nd {s:Fs} (h:s.G.Pairwise fun a b=>a.txn≠b.txn) (r:Rc):(noteF s r).G.Pairwise fun a b=>a.txn≠b.txn:=by
 unfold noteF
 split
 ·exact h.filter _
 ·split
  ·exact h.filter _
  ·dsimp only
   split
   ·exact putG_nd h _ _ _
   ·exact h
theorem fsF_bd {fs:List ByteArray} (hf:∀ f∈fs,Frm f):∀ i,i<=fs.length->Bd (fsF fs i) i/\(fsF fs i).G.Pairwise fun a b=>a.txn≠b.txn
 | 0,_=>⟨Bd.zero,List.Pairwise.nil⟩
 | i+1,h=>by
  obtain⟨h1,h2⟩:=fsF_bd hf i (by omega)
  exact⟨h1.note h2 _,noteF_nd h2 _⟩
theorem fsP_len {fs:List ByteArray}:∀ i,(fsP fs i).B.length<=i/\0<=(fsP fs i).n/\(fsP fs i).n<=i
 | 0=>⟨Nat.le_refl _,Int.le_refl _,Int.le_refl _⟩
 | i+1=>by
  obtain⟨h1,h2,h3⟩:=fsP_len (fs:=fs) i
  have h4:=offT_len (fsP fs i).B (rcO fs i).tx
  show(noteP (fsP fs i) (rcO fs i)).B.length<=i+1/\0<=(noteP (fsP fs i) (rcO fs i)).n/\(noteP (fsP fs i) (rcO fs i)).n<=((i+1:Nat):Int)
  unfold noteP
  split
  ·dsimp only
   rw[List.length_append,List.length_singleton]
   omega
  ·split
   ·dsimp only;omega
   ·split
    ·dsimp only;omega
    ·omega
section
variable {w0 w w' wr:World}{pb b1:Nat}{vc vb vl:Value}{p:Ps}{r:Rc}{I T:Value}{K:List CL}{B L:List Bk}{n:Int}{RA:Array Value}
set_option maxHeartbeats 8000000 in
theorem note_end (h:PlO w0 w pb vc vb p) (hn:p.K.length+p.B.length<=900) (hc:0<=p.n/\p.n<1000000) (h1:r.kd=8):Calls Tryz.prog 24 #[.pointer (some ⟨pb,0,none⟩),.agg (r.A I T)] w fun e w'=>NtO w0 pb (noteP p r) e w':=by
 have e9:noteP p r=⟨celI r.kd p.K p.B r.tx p.B.length,offT p.B r.tx,if r.kd=7 then p.n+1 else p.n⟩:=by
  unfold noteP celI
  rw[if_neg (by omega),List.take_length]
  rw[if_neg (by omega),if_pos h1,if_neg (by omega),if_neg (by omega)]
 rw[e9]
 obtain⟨K0,B,n⟩:=p
 dsimp only at h hn hc ⊢
 obtain⟨ab,cb,rfl,hcb⟩:=h.rb.sl
 rw[List.length_map] at hcb h
 have H:Hid (PlO w0 w pb vc (.slice ab B.length cb) ⟨K0,B,n⟩):=h
 clear h e9 hcb
 obtain⟨kd,tx,pv,pg,ac,ky,ol,nw,nx,ep,nd⟩:=r
 dsimp only at h1 ⊢
 unfold Rc.A
 dsimp only
 have k1:(kd==6)=false:=by simp;omega
 have k2:3<=kd:=by omega
 have k3:¬ kd<=6:=by omega
 have hwn:IntKind.i64.wrap (n+1)=n+1:=by rw[IntKind.wrap_i64];omega
 have k4:(kd !=7)=true->(kd !=8)=false:=by simp;omega
 have CP:Hid (∀ wx K v,Gm.Row wx 69 2 v (K.map encC)->K.length<=1000->∀ q t,Calls Tryz.prog 56 #[v,.agg #[.string q,.string t]] wx fun e w'=>ClE wx e w' (putK K (q,t))):=fun wx K v hr hl q t=>Lay_row hr hl q t
 have CG:Hid (∀ wx K v,Gm.Row wx 69 2 v (K.map encC)->K.length<=1000->∀ q,Calls Tryz.prog 55 #[v,.string q] wx fun e w'=>GoE wx e w' v (delK K q)):=fun wx K v hr hl q=>Gone_row hr hl q
 go_enter Tryz.func24,Tryz.ntmps24
 have k5:kd=8:=h1
 clear h1
 subst k5
 ·skip
  go_wp2_with (refine wpList_box_at (A:=#[.int .i64 8,.int .i64 tx,.int .i64 pv,.int .i64 pg,.int .i64 ac,.string ky,.string ol,.string nw,.int .i64 nx,I,T,.int .i64 ep,.int .i64 nd]) _ rfl _ rfl rfl ?_;intro w1 b1 n1;have N1:Hid (New w w1 b1 54 #[.int .i64 8,.int .i64 tx,.int .i64 pv,.int .i64 pg,.int .i64 ac,.string ky,.string ol,.string nw,.int .i64 nx,I,T,.int .i64 ep,.int .i64 nd]):=n1;clear n1;have y0:w1.cell? ⟨b1,0,none⟩=some (.int .i64 8):=N1.out.is.c 0)
  obtain⟨RA,hRA⟩:∃ RA:Array Value,RA=#[.int .i64 8,.int .i64 tx,.int .i64 pv,.int .i64 pg,.int .i64 ac,.string ky,.string ol,.string nw,.int .i64 nx,I,T,.int .i64 ep,.int .i64 nd]:=⟨_,rfl⟩
  have HRA:Hid (RA[0]?=some (.int .i64 8)/\RA[1]?=some (.int .i64 tx)):=by rw[hRA];exact⟨rfl,rfl⟩
  rw[← hRA] at N1
  clear hRA y0
  have G0:Hid (GnO w0 w1 w1 pb b1 vc (.slice ab B.length cb) (.slice none 0 0) ⟨celI 8 K0 B tx 0,B,n⟩ (offT (B.take 0) tx) RA):=⟨H.out.below N1.out.bel,N1.out.is,Gm.Row.nil _ _ _,fun g e=>(by cases e),Nat.le_refl _⟩
  have HS:Hid (pb<w1.heap.size/\b1<w1.heap.size/\b1≠pb/\∀ g,(Value.slice ab B.length cb).ownBlock=some g->g<w1.heap.size):=⟨Nat.lt_of_lt_of_le H.out.is.lt N1.out.bel.size,N1.out.is.lt,fun e=>(by have:=H.out.is.lt;have:=N1.out.eq;omega),fun g e=>Nat.lt_of_lt_of_le (H.out.rb.lt e) N1.out.bel.size⟩
  have HKl:Hid (∀ i,(celI 8 K0 B tx i).length<=1000):=fun i=>by have:=celI_len 8 K0 B tx i;omega
  have HLl:Hid (∀ i,(offT (B.take i) tx).length<=900):=fun i=>by have:=offT_len (B.take i) tx;rw[List.length_take] at this;omega
  clear H N1
  go_loopg [5,6] B.length (fun k vl vi wr=>∃ (i:Nat) (vc:Value),vi=.int .i64 (i:Int)/\B.length-i<=k/\i<=B.length/\GnO w0 w1 wr pb b1 vc (.slice ab B.length cb) vl ⟨celI 8 K0 B tx i,B,n⟩ (offT (B.take i) tx) RA)
  case atStart=>exact⟨0,vc,rfl,by omega,by omega,G0.out⟩
  case round =>
   clear G0
   obtain⟨i,vc,rfl,hk,him,hG⟩:=hrel
   have HG:Hid (GnO w0 w1 wr pb b1 vc (.slice ab B.length cb) u5 ⟨celI 8 K0 B tx i,B,n⟩ (offT (B.take i) tx) RA):=hG
   clear hG
   have y1:wr.cell? ⟨pb,1,none⟩=some (.slice ab B.length cb):=HG.out.pl.is.c 1
   by_cases hlt:i<B.length
   ·have hltI:(i:Int)<(B.length:Int):=by omega
    obtain⟨g,rfl,hat⟩:=book_at (g:=0) HG.out.pl.rb hlt
    have HAt:Hid (∀ wx,Below wr.heap.size wr wx->wx.rangeAt g (i*13) ((recB B[i]).A (.slice none 0 0) (.slice none 0 0)).toList):=hat
    clear hat
    have y2:wr.rangeAt g (i*13) ((recB B[i]).A (.slice none 0 0) (.slice none 0 0)).toList:=HAt.out _ (Below.refl _ _)
    have HOff:Hid (B[i].tx≠tx->celI 8 K0 B tx (i+1)=celI 8 K0 B tx i/\offT (B.take (i+1)) tx=offT (B.take i) tx++[B[i]]):=celI_off hlt
    have HOn:Hid (B[i].tx=tx->celI 8 K0 B tx (i+1)=celI 8 K0 B tx i/\offT (B.take (i+1)) tx=offT (B.take i) tx):=fun h=>celI_on8 (kd:=8) hlt h (by decide)
    generalize B[i]=x at *
    have HSz:Hid (((recB x).A (.slice none 0 0) (.slice none 0 0)).size=13/\zR.size=13):=⟨rfl,rfl⟩
    have hSt:=stRc
    obtain⟨RX,hRX⟩:∃ RX:Array Value,RX=(recB x).A (.slice none 0 0) (.slice none 0 0):=⟨_,rfl⟩
    have HRX:Hid (RX[0]?=some (.int .i64 x.act)/\RX[1]?=some (.int .i64 x.tx)/\RX[5]?=some (.string x.ky)/\RX[7]?=some (.string x.nw)/\RX.size=13/\RX.size=zR.size/\(∀ u∈RX.toList,u.oneCell'=true)/\RX.toList=encR x):=by rw[hRX];exact⟨rfl,rfl,rfl,rfl,rfl,rfl,oneR x,rfl⟩
    have HB1:Hid (∀ w,(Instr.buildSlice 43 1 #[(0,.agg RX)]).run Tryz.prog w=.ok (.slice (some ⟨w.heap.size,0,none⟩) 1 1) (w.alloc (.cells RX 54))):=by rw[hRX];exact bR1 x
    rw[← hRX] at y2
    clear hRX HAt
    by_cases ht:x.tx=tx
    ·obtain⟨e1,e2⟩:=HOn.out ht
     have HE:Hid (celI 8 K0 B tx (i+1)=celI 8 K0 B tx i/\offT (B.take (i+1)) tx=offT (B.take i) tx):=⟨e1,e2⟩
     have hll:=HKl.out i
     have HKn:Hid ((celI 8 K0 B tx i).length<=1000):=hll
     clear e1 e2 HOff HOn hll
     generalize celI 8 K0 B tx i=Kc at *
     generalize offT (B.take i) tx=Lf at *
     obtain⟨xa,xt,xk,xn⟩:=x
     dsimp only at ht HRX
     subst ht
     obtain⟨ac1,cc1,ec1,_⟩:=HG.out.pl.rc.sl
     rw[List.length_map] at ec1
     dsimp only at ec1
     subst ec1
     go_wp2_with first
      | (refine wpList_load_in hSt (A:=RX) _ rfl _ rfl rfl y2 HRX.out.2.2.2.2.1 ?_)
      | (refine wpList_new_at (A:=zR) _ zRv rfl rfl ?_;intro w3 b7 N3)
      | (refine wpList_put_at (A:=zR) (A':=RX) hSt _ rfl _ _ rfl rfl rfl N3.is HSz.out.2 HRX.out.2.2.2.2.2.1 HRX.out.2.2.2.2.2.2.1 ?_;intro w4 P4;have X4:Hid (GnO w0 w1 w4 pb b1 (.slice ac1 Kc.length cc1) (.slice (some ⟨g,0,none⟩) B.length cb) u5 ⟨Kc,B,n⟩ Lf RA/\At w4 b7 54 RX):=⟨HG.out.below (np_bel N3 P4),P4.is⟩;have z0:w4.cell? ⟨b7,0,none⟩=some (.int .i64 xa):=(P4.is.c 0).trans HRX.out.1;have z1:w4.cell? ⟨b7,1,none⟩=some (.int .i64 xt):=(P4.is.c 1).trans HRX.out.2.1;have q1:w4.cell? ⟨b1,1,none⟩=some (.int .i64 xt):=(X4.out.1.r.c 1).trans HRA.out.2;have q0:w4.cell? ⟨b1,0,none⟩=some (.int .i64 8):=(X4.out.1.r.c 0).trans HRA.out.1)
     go_roundg (B.length-(i+1))
     case measure=>omega
     case rel=>exact⟨i+1,_,by first |rfl |go_num,Nat.le_refl _,by omega,by rw[HE.out.1,HE.out.2];exact X4.out.1⟩
    ·have htb:(x.tx !=tx)=true:=by simpa using ht
     obtain⟨e1,e2⟩:=HOff.out ht
     have HE:Hid (celI 8 K0 B tx (i+1)=celI 8 K0 B tx i/\offT (B.take (i+1)) tx=offT (B.take i) tx++[x]):=⟨e1,e2⟩
     have hll:=HLl.out i
     have HLn:Hid ((offT (B.take i) tx).length<=900):=hll
     clear e1 e2 HOff HOn hll
     generalize celI 8 K0 B tx i=Kc at *
     generalize offT (B.take i) tx=Lf at *
     go_wp2_with first
      | (refine wpList_load_in hSt (A:=RX) _ rfl _ rfl rfl y2 HRX.out.2.2.2.2.1 ?_)
      | (refine wpList_new_at (A:=zR) _ zRv rfl rfl ?_;intro w3 b7 N3)
      | (refine wpList_put_at (A:=zR) (A':=RX) hSt _ rfl _ _ rfl rfl rfl N3.is HSz.out.2 HRX.out.2.2.2.2.2.1 HRX.out.2.2.2.2.2.2.1 ?_;intro w4 P4;have X4:Hid (GnO w0 w1 w4 pb b1 vc (.slice (some ⟨g,0,none⟩) B.length cb) u5 ⟨Kc,B,n⟩ Lf RA/\At w4 b7 54 RX):=⟨HG.out.below (np_bel N3 P4),P4.is⟩;have z1:w4.cell? ⟨b7,1,none⟩=some (.int .i64 x.tx):=(P4.is.c 1).trans HRX.out.2.1;have q1:w4.cell? ⟨b1,1,none⟩=some (.int .i64 tx):=(X4.out.1.r.c 1).trans HRA.out.2)
      | (refine wpList_load_at hSt (A:=RX) _ rfl _ rfl rfl X4.out.2 HRX.out.2.2.2.2.1 ?_)
      | (refine wpList_build1 (u:=.agg RX) (A:=RX) _ rfl _ rfl rfl HB1.out ?_;intro w5 b5 N5;have X5:Hid (GnO w0 w1 w5 pb b1 vc (.slice (some ⟨g,0,none⟩) B.length cb) u5 ⟨Kc,B,n⟩ Lf RA):=X4.out.1.below N5.bel)
      | (refine wpList_push elR (A:=RX) (L:=Lf.map encR) rfl _ _ rfl rfl X5.out.lf rfl N5.is HRX.out.2.2.2.2.1 HRX.out.2.2.2.2.2.2.1 (by have:=HLn.out;rw[List.length_map];omega) ?_;intro a6 c6 w6 A6;rw[HRX.out.2.2.2.2.2.2.2] at A6;rw[List.length_map] at A6;have X6:=X5.out.push HS.out.1 HS.out.2.1 HS.out.2.2.2 A6)
     go_roundg (B.length-(i+1))
     case measure=>omega
     case rel=>exact⟨i+1,vc,by first |rfl |go_num,Nat.le_refl _,by omega,by rw[HE.out.1,HE.out.2];exact X6⟩
   ·have hltI:¬ (i:Int)<(B.length:Int):=by omega
    obtain⟨al,cl,el,hcl⟩:=HG.out.lf.sl
    subst el
    rw[List.length_map,List.take_of_length_le (show B.length<=i by omega)] at HG ⊢
    have y9:wr.frozen? ⟨pb,1,none⟩=false:=HG.out.pl.is.f 1
    have ei:celI 8 K0 B tx i=celI 8 K0 B tx B.length:=by unfold celI;rw[if_neg (by decide),if_neg (by decide)]
    rw[ei] at HG
    clear ei hcl
    have HY9:Hid (wr.frozen? ⟨pb,1,none⟩=false):=y9
    clear y9
    have HNl:Hid ((Value.slice al (offT B tx).length cl).ownBlock≠some pb):=fun e=>by have:=HG.out.lo pb e;have:=HS.out.1;omega
    go_wp2_with (refine wpList_set1 (v:=.slice al (offT B tx).length cl) _ rfl 43 (.tmp 110) (.tmp 108) rfl rfl rfl y1 HY9.out rfl i1R ?_;intro w8 e8;have HE8:Hid (w8=wr.setCell ⟨pb,1,none⟩ (.slice al (offT B tx).length cl)):=e8;clear e8;have X8:Hid (GnO w0 w1 w8 pb b1 vc (.slice al (offT B tx).length cl) (.slice al (offT B tx).length cl) ⟨celI 8 K0 B tx B.length,offT B tx,n⟩ (offT B tx) RA):=(by rw[HE8.out];exact HG.out.book HS.out.1 HS.out.2.2.1 HNl.out);have q0:w8.cell? ⟨b1,0,none⟩=some (.int .i64 8):=(X8.out.r.c 0).trans HRA.out.1;have q2:w8.cell? ⟨pb,2,none⟩=some (.int .i64 n):=X8.out.pl.is.c 2;have q3:w8.frozen? ⟨pb,2,none⟩=false:=X8.out.pl.is.f 2)
    refine bodyPost_ret (results_none rfl _ _ _) rfl ?_
    exact⟨rfl,_,_,X8.out.pl⟩
theorem NoteP_any (h:PlO w0 w pb vc vb p) (hn:p.K.length+p.B.length<=900) (hc:0<=p.n/\p.n<1000000):Calls Tryz.prog 24 #[.pointer (some ⟨pb,0,none⟩),.agg (r.A I T)] w fun e w'=>NtO w0 pb (noteP p r) e w':=by
 by_cases h1:3<=r.kd/\r.kd<=6
 ·exact note_turn h (by omega) h1.1 h1.2
 ·by_cases h2:r.kd=7
  ·exact note_commit h hn hc h2
  ·by_cases h3:r.kd=8
   ·exact note_end h hn hc h3
   ·exact note_not h (by omega)
end
def kA:ByteArray:=⟨#[97]⟩
def kX:ByteArray:=⟨#[120]⟩
def rA:Rc:=⟨3,1,0,0,0,kA,⟨#[]⟩,kX,0,0,0⟩
def rB:Rc:=⟨7,1,0,0,0,⟨#[]⟩,⟨#[]⟩,⟨#[]⟩,0,0,0⟩
def rC:Rc:=⟨4,2,0,0,0,kA,⟨#[]⟩,⟨#[]⟩,0,0,0⟩
def rD:Rc:=⟨7,2,0,0,0,⟨#[]⟩,⟨#[]⟩,⟨#[]⟩,0,0,0⟩
def zI:Value:=.slice none 0 0
section
variable {W:Nat->Prop}{w w':World}{fb:Nat}
theorem nA (h:Fo W w fb [] [] 0):Calls Tryz.prog 54 #[.pointer (some ⟨fb,0,none⟩),.agg #[.int .i64 3,.int .i64 1,.int .i64 0,.int .i64 0,.int .i64 0,.string ⟨#[97]⟩,.string ⟨#[]⟩,.string ⟨#[120]⟩,.int .i64 0,.slice none 0 0,.slice none 0 0,.int .i64 0,.int .i64 0]] w fun e w'=>e=.returned (.tuple #[])/\FoO W w w' fb [] [⟨1,[(kA,⟨kX,true⟩)]⟩] 0:=by
 have:=Note_any (r:=rA) (I:=zI) (T:=zI) h (show(Lit.int .i64 _).wf=true from rfl) (by decide) (by decide) (by decide) (fun g hg=>by cases hg) (by decide)
 have e:noteF ⟨[],[],0⟩ rA=⟨[],[⟨1,[(kA,⟨kX,true⟩)]⟩],0⟩:=by kernel_rfl
 rw[e] at this
 exact this
theorem nB (h:Fo W w fb [] [⟨1,[(kA,⟨kX,true⟩)]⟩] 0):Calls Tryz.prog 54 #[.pointer (some ⟨fb,0,none⟩),.agg #[.int .i64 7,.int .i64 1,.int .i64 0,.int .i64 0,.int .i64 0,.string ⟨#[]⟩,.string ⟨#[]⟩,.string ⟨#[]⟩,.int .i64 0,.slice none 0 0,.slice none 0 0,.int .i64 0,.int .i64 0]] w fun e w'=>e=.returned (.tuple #[])/\FoO W w w' fb [(kA,kX)] [] 1:=by
 have:=Note_any (r:=rB) (I:=zI) (T:=zI) h (show(Lit.int .i64 _).wf=true from rfl) (by decide) (by decide) (by decide) (fun g hg=>by rw[List.mem_singleton] at hg;subst hg;decide) (by decide)
 have e:noteF ⟨[],[⟨1,[(kA,⟨kX,true⟩)]⟩],0⟩ rB=⟨[(kA,kX)],[],1⟩:=by kernel_rfl
 rw[e] at this
 exact this
theorem nC (h:Fo W w fb [(kA,kX)] [] 1):Calls Tryz.prog 54 #[.pointer (some ⟨fb,0,none⟩),.agg #[.int .i64 4,.int .i64 2,.int .i64 0,.int .i64 0,.int .i64 0,.string ⟨#[97]⟩,.string ⟨#[]⟩,.string ⟨#[]⟩,.int .i64 0,.slice none 0 0,.slice none 0 0,.int .i64 0,.int .i64 0]] w fun e w'=>e=.returned (.tuple #[])/\FoO W w w' fb [(kA,kX)] [⟨2,[(kA,zH)]⟩] 1:=by
 have:=Note_any (r:=rC) (I:=zI) (T:=zI) h (show(Lit.int .i64 _).wf=true from rfl) (by decide) (by decide) (by decide) (fun g hg=>by cases hg) (by decide)
 have e:noteF ⟨[(kA,kX)],[],1⟩ rC=⟨[(kA,kX)],[⟨2,[(kA,zH)]⟩],1⟩:=by kernel_rfl
 rw[e] at this
 exact this
theorem nD (h:Fo W w fb [(kA,kX)] [⟨2,[(kA,zH)]⟩] 1):Calls Tryz.prog 54 #[.pointer (some ⟨fb,0,none⟩),.agg #[.int .i64 7,.int .i64 2,.int .i64 0,.int .i64 0,.int .i64 0,.string ⟨#[]⟩,.string ⟨#[]⟩,.string ⟨#[]⟩,.int .i64 0,.slice none 0 0,.slice none 0 0,.int .i64 0,.int .i64 0]] w fun e w'=>e=.returned (.tuple #[])/\FoO W w w' fb [] [] 2:=by
 have:=Note_any (r:=rD) (I:=zI) (T:=zI) h (show(Lit.int .i64 _).wf=true from rfl) (by decide) (by decide) (by decide) (fun g hg=>by rw[List.mem_singleton] at hg;subst hg;decide) (by decide)
 have e:noteF ⟨[(kA,kX)],[⟨2,[(kA,zH)]⟩],1⟩ rD=⟨[],[],2⟩:=by kernel_rfl
 rw[e] at this
 exact this
theorem gA (h:Fo W w fb [(kA,kX)] [⟨2,[(kA,zH)]⟩] 1):Calls Tryz.prog 57 #[.pointer (some ⟨fb,0,none⟩),.string ⟨#[97]⟩] w fun e w'=>e=.returned (.tuple #[.string ⟨#[120]⟩,.bool true])/\Below w.heap.size w w':=by
 have:=Get_any h kA (by decide)
 have e:getK [(kA,kX)] kA=(kX,true):=by kernel_rfl
 rw[e] at this
 exact this
set_option maxHeartbeats 1000000 in
theorem awake16 (w:World):Calls Tryz.prog 26 #[] w fun e w'=>e=.returned (.bool true)/\Below w.heap.size w w':=by
 have C1:Hid (∀ W wx fb,Fo W wx fb [] [] 0->Calls Tryz.prog 54 #[.pointer (some ⟨fb,0,none⟩),.agg (rA.A zI zI)] wx fun e w'=>e=.returned (.tuple #[])/\FoO W wx w' fb [] [⟨1,[(kA,⟨kX,true⟩)]⟩] 0):=fun W wx fb h=>nA h
 have C2:Hid (∀ W wx fb,Fo W wx fb [] [⟨1,[(kA,⟨kX,true⟩)]⟩] 0->Calls Tryz.prog 54 #[.pointer (some ⟨fb,0,none⟩),.agg (rB.A zI zI)] wx fun e w'=>e=.returned (.tuple #[])/\FoO W wx w' fb [(kA,kX)] [] 1):=fun W wx fb h=>nB h
 have C3:Hid (∀ W wx fb,Fo W wx fb [(kA,kX)] [] 1->Calls Tryz.prog 54 #[.pointer (some ⟨fb,0,none⟩),.agg (rC.A zI zI)] wx fun e w'=>e=.returned (.tuple #[])/\FoO W wx w' fb [(kA,kX)] [⟨2,[(kA,zH)]⟩] 1):=fun W wx fb h=>nC h
 have C4:Hid (∀ W wx fb,Fo W wx fb [(kA,kX)] [⟨2,[(kA,zH)]⟩] 1->Calls Tryz.prog 54 #[.pointer (some ⟨fb,0,none⟩),.agg (rD.A zI zI)] wx fun e w'=>e=.returned (.tuple #[])/\FoO W wx w' fb [] [] 2):=fun W wx fb h=>nD h
 go_enter Tryz.func26,Tryz.ntmps26
 go_wp2_with first
  | (go_at_call 52;refine(New_ok _).mono ?_;rintro e w1 ⟨rfl,⟨W1,F1,q1⟩,B1⟩;have H1:Hid (Fo W1 w1 (w.heap.size+1) [] [] 0/\Below w.heap.size w w1/\∀ j,W1 j->w.heap.size<=j):=⟨F1,B1,q1⟩;clear F1 B1 q1)
  | (go_at_call 54;refine(C4.out _ _ _ H5.out.1).mono ?_;rintro e w6 ⟨rfl,W6,F6,f6⟩;have H6:Hid (Fo W6 w6 (w.heap.size+1) [] [] 2/\Below w.heap.size w w6):=⟨F6,H5.out.2.1.trans (f6.bel H5.out.2.2 H5.out.2.1.size)⟩;clear F6 f6)
  | (go_at_call 57;refine(gA H4.out.1).mono ?_;rintro e w5 ⟨rfl,b5⟩;have H5:Hid (Fo W4 w5 (w.heap.size+1) [(kA,kX)] [⟨2,[(kA,zH)]⟩] 1/\Below w.heap.size w w5/\∀ j,W4 j->w.heap.size<=j):=⟨H4.out.1.bel b5,thn H4.out.2.1 b5,H4.out.2.2⟩;clear b5)
  | (go_at_call 54;refine(C3.out _ _ _ H3.out.1).mono ?_;rintro e w4 ⟨rfl,W4,F4,f4⟩;have H4:Hid (Fo W4 w4 (w.heap.size+1) [(kA,kX)] [⟨2,[(kA,zH)]⟩] 1/\Below w.heap.size w w4/\∀ j,W4 j->w.heap.size<=j):=⟨F4,H3.out.2.1.trans (f4.bel H3.out.2.2 H3.out.2.1.size),fun j hj=>(f4.sub j hj).elim (H3.out.2.2 j) (fun h=>Nat.le_trans H3.out.2.1.size h)⟩;clear F4 f4)
  | (go_at_call 54;refine(C2.out _ _ _ H2.out.1).mono ?_;rintro e w3 ⟨rfl,W3,F3,f3⟩;have H3:Hid (Fo W3 w3 (w.heap.size+1) [(kA,kX)] [] 1/\Below w.heap.size w w3/\∀ j,W3 j->w.heap.size<=j):=⟨F3,H2.out.2.1.trans (f3.bel H2.out.2.2 H2.out.2.1.size),fun j hj=>(f3.sub j hj).elim (H2.out.2.2 j) (fun h=>Nat.le_trans H2.out.2.1.size h)⟩;clear F3 f3)
  | (go_at_call 54;refine(C1.out _ _ _ H1.out.1).mono ?_;rintro e w2 ⟨rfl,W2,F2,f2⟩;have H2:Hid (Fo W2 w2 (w.heap.size+1) [] [⟨1,[(kA,⟨kX,true⟩)]⟩] 0/\Below w.heap.size w w2/\∀ j,W2 j->w.heap.size<=j):=⟨F2,H1.out.2.1.trans (f2.bel H1.out.2.2 H1.out.2.1.size),fun j hj=>(f2.sub j hj).elim (H1.out.2.2 j) (fun h=>Nat.le_trans H1.out.2.1.size h)⟩;clear F2 f2)
  | (go_at_call 53;refine(Cells_any H6.out.1 (by decide)).mono ?_;rintro e w7 ⟨⟨v7,rfl,r7,o7⟩,b7⟩;have H7:Hid (Fo W6 w7 (w.heap.size+1) [] [] 2/\Below w.heap.size w w7):=⟨H6.out.1.bel b7,thn H6.out.2 b7⟩;obtain⟨a7,c7,e7,_⟩:=r7.sl;rw[List.length_map] at e7;subst e7;clear r7 o7 b7)
  | (go_at_call 58;refine(Count_any H7.out.1).mono ?_;rintro e w8 ⟨rfl,rfl⟩)
 go_ret
 exact⟨rfl,H7.out.2⟩
end
def zP:Array Value:=#[.slice none 0 0,.slice none 0 0,.int .i64 0]
section
variable {w w1:World}{pb:Nat}
theorem PlO.new (N:New w w1 pb 62 zP):PlO w w1 pb (.slice none 0 0) (.slice none 0 0) ⟨[],[],0⟩ :=
 ⟨N.is,Gm.Row.nil _ _ _,Gm.Row.nil _ _ _,N.bel,by rw[N.eq];exact Nat.le_refl _,fun g e=>(by cases e),fun g e=>by cases e⟩
end
theorem elSS:El 57 60 1 (.slice none 0 0):=⟨Tryz.underlying57,by
 obtain⟨i,h1,h2,h3,h4⟩:=info_parts (show(Tryz.prog.info? 60).map (fun i=>(i.zero,i.size,i.bytes))=some (some (.slice none 0 0),1,24) by kernel_rfl)
 exact⟨i,h1,h2,h3,by omega⟩,rfl,by omega⟩
theorem bSS (a:Option Addr) (n c:Nat) (w:World):(Instr.buildSlice 57 1 #[(0,.slice a n c)]).run Tryz.prog w=.ok (.slice (some ⟨w.heap.size,0,none⟩) 1 1) (w.alloc (.cells #[.slice a n c] 60)):=by kernel_rfl
def stpF (fs:List ByteArray):Nat->List (List CL)
 | 0=>[[]]
 | i+1=>if(rcO fs i).kd=7 then stpF fs i++[(noteF (fsF fs i) (rcO fs i)).K] else stpF fs i
theorem stpF_len (fs:List ByteArray):∀ i,(stpF fs i).length<=i+1
 | 0=>Nat.le_refl _
 | i+1=>by
  have:=stpF_len fs i
  unfold stpF
  split
  ·rw[List.length_append,List.length_singleton];omega
  ·omega
def stB (v:Value) (vs:List Value) (j:Nat):Prop:=v.ownBlock=some j∨∃ u∈vs,u.ownBlock=some j
structure Stp (w:World) (v:Value) (vs:List Value) (Ks:List (List CL)):Prop where
 row:Gm.Row w 60 1 v (vs.map fun u=>[u])
 len:vs.length=Ks.length
 at_:∀ i (h1:i<vs.length) (h2:i<Ks.length),Gm.Row w 69 2 vs[i] (Ks[i].map encC)
section
variable {Wl Wl' S W W':Nat->Prop}{w wR wr w':World}{fb:Nat}{s s':Fs}{v u:Value}{vs:List Value}{Ks:List (List CL)}{K:List CL}{i:Nat}
theorem Stp.lt (h:Stp w v vs Ks) {j:Nat} (hj:stB v vs j):j<w.heap.size:=by
 rcases hj with e |⟨u,hu,e⟩
 ·exact h.row.lt e
 ·obtain⟨k,hk,rfl⟩:=List.getElem_of_mem hu
  exact(h.at_ k hk (by rw[← h.len];exact hk)).lt e
theorem Stp.keep (h:Stp w v vs Ks) (hb:∀ j,stB v vs j->w'.heap[j]?=w.heap[j]?):Stp w' v vs Ks :=
 ⟨h.row.keep fun g e=>hb g (Or.inl e),h.len,fun i h1 h2=>(h.at_ i h1 h2).keep fun g e=>hb g (Or.inr ⟨_,List.getElem_mem h1,e⟩)⟩
structure StS (Wl Wl' S:Nat->Prop) (w wR wr:World) (fb:Nat) (s:Fs) (v:Value) (vs:List Value) (Ks:List (List CL)):Prop where
 ex:∃ W,Fo W wr fb s.K s.G s.n/\(∀ j,W j->w.heap.size<=j)/\(∀ j,W j->¬ S j)/\∀ j,stB v vs j->¬ W j
 keep:∀ j,S j->wr.heap[j]?=wR.heap[j]?
 slt:∀ j,S j->j<wR.heap.size
 fr:Gm.Fr Wl Wl' w wr
 sz:wR.heap.size<=wr.heap.size
 st:Stp wr v vs Ks
 sb:∀ j,stB v vs j->w.heap.size<=j/\¬ S j
theorem StS.step (h:StS Wl Wl' S w wR wr fb s v vs Ks) (hW:(∀ j,W j->w.heap.size<=j)/\(∀ j,W j->¬ S j)/\∀ j,stB v vs j->¬ W j) (hf:Gm.Fr W W' wr w') (ho:Fo W' w' fb s'.K s'.G s'.n):StS Wl Wl' S w wR w' fb s' v vs Ks:=by
 refine⟨⟨W',ho,fun j hj=>?_,fun j hj hs=>?_,fun j hj hw=>?_⟩,fun j hs=>?_,h.slt,⟨hf.os.trans h.fr.os,hf.tape.trans h.fr.tape,hf.output.trans h.fr.output,Nat.le_trans h.fr.size hf.size,fun j hj hn=>?_,h.fr.sub⟩,Nat.le_trans h.sz hf.size,h.st.keep fun j hj=>hf.blk j (h.st.lt hj) (hW.2.2 j hj),h.sb⟩
 ·exact(hf.sub j hj).elim (hW.1 j) (fun e=>Nat.le_trans h.fr.size e)
 ·rcases hf.sub j hj with e |e
  ·exact hW.2.1 j e hs
  ·have:=h.slt j hs;have:=h.sz;omega
 ·rcases hf.sub j hw with e |e
  ·exact hW.2.2 j hj e
  ·have:=h.st.lt hj;omega
 ·exact(hf.blk j (Nat.lt_of_lt_of_le (h.slt j hs) h.sz) (fun e=>hW.2.1 j e hs)).trans (h.keep j hs)
 ·exact(hf.blk j (Nat.lt_of_lt_of_le hj h.fr.size) (fun e=>by have:=hW.1 j e;omega)).trans (h.fr.blk j hj hn)
theorem StS.below (h:StS Wl Wl' S w wR wr fb s v vs Ks) (hb:Below wr.heap.size wr w'):StS Wl Wl' S w wR w' fb s v vs Ks:=by
 obtain⟨W,h1,h2⟩:=h.ex
 exact h.step h2 (Gm.Fr.of_below hb W) (h1.bel hb)
theorem StS.pa (h:StS Wl Wl' S w wR wr fb s v vs Ks):s.G.Pairwise fun a b=>a.txn≠b.txn:=by obtain⟨W,h1,_⟩:=h.ex;exact h1.nd
theorem StS.cells (h:StS Wl Wl' S w wR wr fb s v vs Ks) (hn:s.K.length<=90000):Calls Tryz.prog 53 #[.pointer (some ⟨fb,0,none⟩)] wr fun e w'=>∃ a c,e=.returned (.slice a s.K.length c)/\Gm.Row w' 69 2 (.slice a s.K.length c) (s.K.map encC)/\(∀ g,(Value.slice a s.K.length c).ownBlock=some g->w.heap.size<=g/\¬ S g)/\(∃ W,Fo W w' fb s.K s.G s.n/\(∀ j,W j->w.heap.size<=j)/\(∀ j,W j->¬ S j)/\(∀ j,stB v vs j->¬ W j)/\∀ g,(Value.slice a s.K.length c).ownBlock=some g->¬ W g)/\StS Wl Wl' S w wR w' fb s v vs Ks:=by
 obtain⟨W,h1,h2,h3,h4⟩:=h.ex
 refine(Cells_any h1 hn).mono ?_
 rintro e w' ⟨⟨u,rfl,q,o⟩,b⟩
 obtain⟨a,c,eu,_⟩:=q.sl
 rw[List.length_map] at eu
 subst eu
 refine⟨a,c,rfl,q,fun g e=>⟨Nat.le_trans h.fr.size (o g e),fun hs=>?_⟩,⟨W,h1.bel b,h2,h3,h4,fun g e hw=>?_⟩,h.below b⟩
 ·have:=o g e;have:=h.slt g hs;have:=h.sz;omega
 ·have:=o g e;have:=h1.lt g hw;omega
end
section
variable {Wl Wl' S W:Nat->Prop}{w wR wr w':World}{fb:Nat}{s:Fs}{v v' u:Value}{vs:List Value}{Ks:List (List CL)}{K:List CL}{i:Nat}
structure StU (Wl Wl' S:Nat->Prop) (w wR wr:World) (fb:Nat) (s:Fs) (v:Value) (vs:List Value) (Ks:List (List CL)) (u:Value) (K:List CL):Prop where
 ss:StS Wl Wl' S w wR wr fb s v vs Ks
 ex:∃ W,Fo W wr fb s.K s.G s.n/\(∀ j,W j->w.heap.size<=j)/\(∀ j,W j->¬ S j)/\(∀ j,stB v vs j->¬ W j)/\∀ g,u.ownBlock=some g->¬ W g
 row:Gm.Row wr 69 2 u (K.map encC)
 ub:∀ g,u.ownBlock=some g->w.heap.size<=g/\¬ S g
theorem StU.below (h:StU Wl Wl' S w wR wr fb s v vs Ks u K) (hb:Below wr.heap.size wr w'):StU Wl Wl' S w wR w' fb s v vs Ks u K:=by
 obtain⟨W,h1,h2⟩:=h.ex
 exact⟨h.ss.below hb,⟨W,h1.bel hb,h2⟩,h.row.bel hb,h.ub⟩
theorem StU.push (h:StU Wl Wl' S w wR wr fb s v vs Ks u K) (A:App wr w' 60 1 v v' ((vs.map fun u=>[u])++[[u]])):StS Wl Wl' S w wR w' fb s v' (vs++[u]) (Ks++[K]):=by
 obtain⟨W,h1,h2,h3,h4,h5⟩:=h.ex
 have hk:∀ b,b<wr.heap.size->v.ownBlock≠some b->w'.heap[b]?=wr.heap[b]?:=fun b hl hn=>A.grow.block b hl (fun e=>hn e.symm)
 have hvr:∀ (x:Value) (L:List CL),Gm.Row wr 69 2 x (L.map encC)->∀ g,x.ownBlock=some g->v.ownBlock≠some g:=fun x L hx g e e2=>by
  obtain⟨cur,hc⟩:=hx.blkAt e
  obtain⟨cur',hc'⟩:=h.ss.st.row.blkAt e2
  rw[hc] at hc';simp at hc'
 have hv':∀ j,v'.ownBlock=some j->v.ownBlock=some j∨j=wr.heap.size:=fun j e=>by
  rcases A.own with e2 |e2
  ·exact Or.inl (e2.symm.trans e)
  ·rw[e2] at e;cases e;exact Or.inr rfl
 have hsb:∀ j,stB v' (vs++[u]) j->stB v vs j∨j=wr.heap.size∨u.ownBlock=some j:=fun j hj=>by
  rcases hj with e |⟨x,hx,e⟩
  ·rcases hv' j e with e2 |e2
   ·exact Or.inl (Or.inl e2)
   ·exact Or.inr (Or.inl e2)
  ·rcases List.mem_append.1 hx with hx |hx
   ·exact Or.inl (Or.inr ⟨x,hx,e⟩)
   ·rw[List.mem_singleton] at hx
    subst hx
    exact Or.inr (Or.inr e)
 have hsz:wr.heap.size<=w'.heap.size:=A.grow.size
 refine⟨⟨W,h1.keep (fun j hj=>hk j (h1.lt j hj) fun e=>h4 j (Or.inl e) hj) hsz,h2,h3,fun j hj hw=>?_⟩,fun j hs=>?_,h.ss.slt,?_,Nat.le_trans h.ss.sz hsz,⟨?_,?_,fun i q1 q2=>?_⟩,fun j hj=>?_⟩
 ·rcases hsb j hj with e |e |e
  ·exact h4 j e hw
  ·have:=h1.lt j hw;omega
  ·exact h5 j e hw
 ·exact(hk j (Nat.lt_of_lt_of_le (h.ss.slt j hs) h.ss.sz) fun e=>(h.ss.sb j (Or.inl e)).2 hs).trans (h.ss.keep j hs)
 ·have hb:Below w.heap.size wr w':=A.bel (fun g e=>(h.ss.sb g (Or.inl e)).1) h.ss.fr.size
  exact⟨hb.os.trans h.ss.fr.os,hb.tape.trans h.ss.fr.tape,hb.output.trans h.ss.fr.output,Nat.le_trans h.ss.fr.size hb.size,fun j hj hn=>(hb.block j hj).trans (h.ss.fr.blk j hj hn),h.ss.fr.sub⟩
 ·rw[List.map_append,List.map_singleton]
  exact A.row
 ·rw[List.length_append,List.length_append,h.ss.st.len];rfl
 ·rcases Nat.lt_or_ge i vs.length with hl |hl
  ·have hl2:i<Ks.length:=by rw[← h.ss.st.len];exact hl
   rw[List.getElem_append_left hl,List.getElem_append_left hl2]
   have hr:=h.ss.st.at_ i hl hl2
   exact hr.keep fun g e=>hk g (hr.lt e) (hvr _ _ hr g e)
  ·have e1:i=vs.length:=by rw[List.length_append,List.length_singleton] at q1;omega
   subst e1
   have e2:(vs++[u])[vs.length]=u:=by simp
   have e3:(Ks++[K])[vs.length]=K:=by simp[h.ss.st.len]
   rw[e2,e3]
   exact h.row.keep fun g e=>hk g (h.row.lt e) (hvr _ _ h.row g e)
 ·rcases hsb j hj with e |e |e
  ·exact h.ss.sb j e
  ·subst e
   exact⟨h.ss.fr.size,fun hs=>by have:=h.ss.slt _ hs;have:=h.ss.sz;omega⟩
  ·exact h.ub j e
end
end Go.Proofs.YtdchjncnjgelhaaGreat.Fd
