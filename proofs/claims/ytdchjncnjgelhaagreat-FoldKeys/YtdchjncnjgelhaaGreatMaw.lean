import Derived.Test.YtdchjncnjgelhaaGreatMav
import Derived.Test.YtdchjncnjgelhaaGreatMaf
import Derived.BigRegion
import Derived.Test.YtdchjncnjgelhaaGreatMad
import Derived.BigQuiet
import Derived.Test.YtdchjncnjgelhaaGreatMag
set_option linter.unusedVariables false
set_option linter.unusedSimpArgs false
set_option maxRecDepth 100000
namespace Go.Proofs.YtdchjncnjgelhaaGreat.Fd
open Go.RowKit Gm Go.Maps
structure OfS (Wl Wl' S:Nat->Prop) (w wR wr:World) (fb:Nat) (s:Fs):Prop where
 ex:∃ W,Fo W wr fb s.K s.G s.n/\(∀ j,W j->w.heap.size<=j)/\∀ j,W j->¬ S j
 keep:∀ j,S j->wr.heap[j]?=wR.heap[j]?
 slt:∀ j,S j->j<wR.heap.size
 fr:Gm.Fr Wl Wl' w wr
 sz:wR.heap.size<=wr.heap.size
section
variable {Wl Wl' S:Nat->Prop}{w wR:World}{fb l:Nat}{s:Fs}{r:Rc}{I T:Value}{i:Nat}{fs:List ByteArray}
structure RwS (S:Nat->Prop) (wR:World) (fs:List ByteArray) (a a':Option Addr):Prop where
 at_:∀ i,i<fs.length->∃ g g' I T,a=some ⟨g,0,none⟩/\a'=some ⟨g',0,none⟩/\S g/\S g'/\(I.oneCell'=true/\T.oneCell'=true)/\wR.rangeAt g (i*13) ((rcO fs i).A I T).toList/\wR.cell? ⟨g',i,none⟩=some (.int .i64 (Lg.pla fs i))
theorem recF_one {w:World} {q:Sc} {I T:Value} {m:Rm} {B:Nat} (h:RecF w (.agg (q.A I T)) m B):I.oneCell'=true/\T.oneCell'=true:=by
 obtain⟨I',T',e,f1,f2⟩:=h.ex
 obtain⟨a1,c1,e1,_⟩:=f1.ex
 obtain⟨a2,c2,e2,_⟩:=f2.ex
 injection e with e
 have e9:=congrArg (fun a=>a[9]?) e
 have e10:=congrArg (fun a=>a[10]?) e
 simp[Sc.A] at e9 e10
 rw[e9,e10,e1,e2]
 exact⟨rfl,rfl⟩
theorem one_rc (r:Rc) {I T:Value} (hI:I.oneCell'=true) (hT:T.oneCell'=true):∀ u∈(r.A I T).toList,u.oneCell'=true:=by
 intro u hu
 simp[Rc.A] at hu
 rcases hu with rfl |rfl |rfl |rfl |rfl |rfl |rfl |rfl |rfl |rfl |rfl |rfl |rfl
 all_goals first |rfl |assumption
set_option maxHeartbeats 1000000 in
theorem rec_of {Wl:Nat->Prop} {w1:World} (h:Lg.Lo Wl w1 l fs) (hw:w.heap.size<=w1.heap.size) (hl:∀ j,Wl j->j<w.heap.size) (hb:Below w.heap.size w w1) {W:Nat->Prop} {fb:Nat} {s:Fs} (ho:Fo W w1 fb s.K s.G s.n) (hW:∀ j,W j->w.heap.size<=j):Calls Tryz.prog 17 #[.pointer (some ⟨l,0,none⟩)] w1 fun e w2=>∃ a c a' c' S Wl',e=.returned (.tuple #[.slice a fs.length c,.slice a' fs.length c'])/\RwS S w2 fs a a'/\OfS Wl Wl' S w w2 w2 fb s/\Lg.Lo Wl' w2 l fs/\(∀ j,Wl' j->S j):=by
 refine h.records.mono ?_
 rintro e w2 ⟨v,v2,Wl',he,hr,hi,hlo,hf,n1,n2⟩
 obtain⟨a,c,e1⟩:=hr.slice
 obtain⟨a',c',e2⟩:=hi.ex
 rw[List.length_map] at e1
 rw[plc_length] at e2
 subst e1 e2
 have hlt:∀ j,Wl j->j<w1.heap.size:=fun j hj=>Nat.lt_of_lt_of_le (hl j hj) hw
 have hWl:∀ j,W j->¬ Wl j:=fun j h1 h2=>by have:=hW j h1;have:=hl j h2;omega
 have gr:∀ g,(Value.slice a fs.length c).ownBlock=some g->w1.heap.size<=g/\g<w2.heap.size:=fun g eg=>by
  obtain⟨es,h1,⟨h2,h3⟩,h4⟩:=hr.ex
  rcases h3 with⟨e,_⟩ |⟨g9,cap,cur,e,hB,hg,_⟩
  ·rw[e] at eg;cases eg
  ·rw[e] at eg;cases eg;exact⟨hB,lt_of hg⟩
 have gi:∀ g,(Value.slice a' fs.length c').ownBlock=some g->w1.heap.size<=g/\g<w2.heap.size:=fun g eg=>Lg.ownI_lt hi eg
 refine⟨a,c,a',c',fun j=>(Value.slice a fs.length c).ownBlock=some j∨(Value.slice a' fs.length c').ownBlock=some j∨Wl' j,Wl',he,⟨fun i hlt=>?_⟩,⟨⟨W,?_,hW,fun j hj hs=>?_⟩,fun j _=>rfl,fun j hj=>?_,?_,Nat.le_refl _⟩,hlo,fun j hj=>Or.inr (Or.inr hj)⟩
 ·obtain⟨g,I,T,e3,h1,hrf⟩:=hr.at_ (i:=i) (by rw[List.length_map];exact hlt)
  obtain⟨g',e4,h2⟩:=hi.at_ (i:=i) (by rw[plc_length];exact hlt)
  refine⟨g,g',I,T,e3,e4,Or.inl (by rw[e3];rfl),Or.inr (Or.inl (by rw[e4];rfl)),recF_one hrf,?_,?_⟩
  ·rw[List.getElem_map,Lg.rcd_at hlt] at h1
   unfold rcO
   rw[toR_A]
   exact h1
  ·have h3:=h2 w2 (Below.refl _ _)
   have h4:=plc_get 1 fs i hlt
   rw[List.getElem?_eq_getElem (by rw[plc_length];exact hlt)] at h4
   have h5:=Option.some.inj h4
   rw[h3,h5]
   rfl
 ·exact ho.keep (fun j hj=>hf.blk j (ho.lt j hj) (hWl j hj)) hf.size
 ·have:=ho.lt j hj
  rcases hs with e |e |e
  ·have:=(gr j e).1;omega
  ·have:=(gi j e).1;omega
  ·rcases hf.sub j e with e2 |e2
   ·exact hWl j hj e2
   ·omega
 ·rcases hj with e |e |e
  ·exact(gr j e).2
  ·exact(gi j e).2
  ·exact hlo.lt e
 ·refine⟨hf.os.trans hb.os,hf.tape.trans hb.tape,hf.output.trans hb.output,Nat.le_trans hw hf.size,fun j hj hn=>(hf.blk j (Nat.lt_of_lt_of_le hj hw) hn).trans (hb.block j hj),fun j hj=>(hf.sub j hj).imp id fun e=>Nat.le_trans hw e⟩
end
end Go.Proofs.YtdchjncnjgelhaaGreat.Fd
namespace Go.Proofs.YtdchjncnjgelhaaGreat.Lg
open Go.RowKit Go.Maps Go.ChangeMaps
open Gm (thn bl1 bdr)
section
variable {w w0 w':World}{ms:List Rm}{a0:Option Addr}{n0 c0 l:Nat}{fs:List ByteArray}{W W':Nat->Prop}
structure LmN (w:World) (l:Nat) (w':World) (N:Nat):Prop where
 ex:∃ W fs,Lo W w' l fs/\(∀ j,W j->w.heap.size<=j)/\Below w.heap.size w w'/\fs.length<=N
theorem LmN.bel {N:Nat} (h:LmN w l w' N):Below w.heap.size w w':=by obtain⟨W,fs,h1,h2,h3,h4⟩:=h.ex;exact h3
theorem LmN.up {N M:Nat} (h:LmN w l w' N) (hm:N<=M):LmN w l w' M:=by obtain⟨W,fs,h1,h2,h3,h4⟩:=h.ex;exact⟨W,fs,h1,h2,h3,Nat.le_trans h4 hm⟩
theorem LmN.append {N:Nat} {v:Value} {m:Rm} (h:LmN w l w0 N) (hv:RecV w0 v m) (hm:Small m):Calls Tryz.prog 35 #[.pointer (some ⟨l,0,none⟩),v] w0 fun e w'=>∃ x y,e=.returned (.tuple #[.int .i64 x,.int .i64 y])/\LmN w l w' (N+1):=by
 obtain⟨W,fs,h1,h2,h3,h4⟩:=h.ex
 refine(h1.append hv hm).mono ?_
 rintro e w' ⟨x,y,fs',W',he,hl,hf,ho⟩
 refine⟨x,y,he,W',fs',hl,ge_sub h2 h3.size hf,h3.trans (hf.bel h2 h3.size),?_⟩
 rcases ho with⟨_,_,e2,_⟩ |⟨_,e2,_⟩
 ·rw[e2,List.length_append,List.length_singleton];omega
 ·rw[e2];omega
theorem lmN_new (w:World):Calls Tryz.prog 7 #[.int .i64 200] w fun e w'=>∃ db,e=.returned (.tuple #[.pointer (some ⟨db,0,none⟩),.int .i64 0])/\Below w.heap.size w w'/\Hid (Calls Tryz.prog 8 #[.pointer (some ⟨db,0,none⟩),.int .i64 0,.int .i64 200,.int .i64 1] w' fun e w2=>∃ l,e=.returned (.tuple #[.pointer (some ⟨l,0,none⟩),.int .i64 0])/\LmN w l w2 0):=by
 letI:Inhabited PrSet:=⟨⟨fun _=>none⟩⟩
 refine(Ds.new 200 (by omega) (by omega) w (fun j o e=>by cases e)).mono ?_
 rintro e w' ⟨he,h1,h2⟩
 refine⟨_,he,h2,?_⟩
 refine((new_wt 200 0 200 (by omega)).open_ (run:=1) (fit_nil (by omega) (by omega)) (Nat.le_refl _) h1 (by omega) (by omega) (by omega) (by show 0+200<=200;omega) rfl rfl).mono ?_
 rintro e w2 ⟨j,S',l,he,⟨_,hj,hs,hn⟩,hlv,hK⟩
 obtain⟨W,g1,g2,g3⟩:=lv_sup (q:=⟨w.heap.size,0+200+1,S',w.heap.size+2,0,200,1,j⟩) hlv
 exact⟨l,he,W,_,⟨_,g3,rfl⟩,g3.ge,h2.trans hK.bel,by rw[List.take_nil];exact Nat.le_refl _⟩
set_option maxHeartbeats 2000000 in
theorem log_anyN (hr:RsV w a0 n0 ms) (hs:∀ m∈ms,Small m) (hn:n0<=9223372036854775807) (most:Nat) (hm:most<=1000):Calls Tryz.prog 16 #[.slice a0 n0 c0,.int .i64 (most:Int)] w fun e w'=>∃ l,e=.returned (.pointer (some ⟨l,0,none⟩))/\LmN w l w' most:=by
 have HR:Hid (RsV w a0 n0 ms):=hr
 have HSm:Hid (∀ m∈ms,Small m):=hs
 have HLn:Hid (ms.length=n0):=hr.len
 have CN:=lmN_new w
 obtain⟨N,hN⟩:∃ N,min n0 most=N:=⟨_,rfl⟩
 have HN:Hid (min n0 most=N):=hN
 clear hr hs hN
 go_enter Tryz.func16,Tryz.ntmps16
 go_wp2_with first
  | (go_at_call 7;refine CN.mono ?_;rintro e w1 ⟨db,rfl,b1,CO⟩)
  | (go_at_call 8;refine CO.out.mono ?_;rintro e w2 ⟨l,rfl,HM⟩;have HM1:Hid (LmN w l w2 0):=HM;clear HM CO)
 go_loopw [9] (fun ix wr=>∃ j:Nat,j<=N/\ix=.int .i64 (j:Int)/\LmN w l wr j) (fun ix _=>N-(intOf ix).toNat)
 case atStart=>exact⟨0,Nat.zero_le _,rfl,HM1.out⟩
 case round =>
  clear HM1
  obtain⟨j,hj,rfl,hM⟩:=hrel
  rename World=>wo
  have HM:Hid (LmN w l wo j):=hM
  clear hM
  have hNe:=HN.out
  by_cases hlt:j<N
  ·have hj1:(j:Int)<(n0:Int):=by omega
   have hj2:(j:Int)<(most:Int):=by omega
   have hjm:j<ms.length:=by have:=HLn.out;omega
   obtain⟨g,o,I,T,ha,hg,hrg,hv,hh⟩:=HR.out.at_ j hjm
   subst ha
   have hbo:Below w.heap.size w wo:=HM.out.bel
   have hr1:wo.rangeAt g (o+j*13) ((ms[j].s.A I T).toList):=rangeAt_below hrg hg hbo
   have CA:Hid (Calls Tryz.prog 35 #[.pointer (some ⟨l,0,none⟩),.agg (ms[j].s.A I T)] wo fun e w'=>∃ x y,e=.returned (.tuple #[.int .i64 x,.int .i64 y])/\LmN w l w' (j+1)):=HM.out.append (hv.below hbo) (HSm.out _ (List.getElem_mem _))
   clear hrg hv hh hbo hg
   generalize ms[j].s=sm at *
   go_wp2_with first
    | (refine wpList_load_rcs (s:=sm) (I:=I) (T:=T) _ rfl (.tmp 45) rfl rfl hr1 ?_;clear hr1)
    | (go_at_call 35;refine CA.out.mono ?_;rintro e w3 ⟨x,y,rfl,HM3⟩)
   go_roundw
   case rel=>exact⟨j+1,by omega,by go_num,HM3⟩
   case measure=>simp[intOf];omega
  ·have hj3:¬ ((j:Int)<(n0:Int)/\(j:Int)<(most:Int)):=by omega
   by_cases hj1:(j:Int)<(n0:Int)
   ·have hj2:¬ (j:Int)<(most:Int):=by omega
    go_wp2
    go_ret
    exact⟨l,rfl,HM.out.up (by omega)⟩
   ·go_wp2
    go_ret
    exact⟨l,rfl,HM.out.up (by omega)⟩
end
end Go.Proofs.YtdchjncnjgelhaaGreat.Lg
namespace Go.Proofs.YtdchjncnjgelhaaGreat.Fd
open Go.RowKit Gm Go.Maps
structure RwA (wR:World) (fs:List ByteArray) (a a':Option Addr):Prop where
 at_:∀ i,i<fs.length->∃ g g' I T,a=some ⟨g,0,none⟩/\a'=some ⟨g',0,none⟩/\(I.oneCell'=true/\T.oneCell'=true)/\∀ wx,Below wR.heap.size wR wx->wx.rangeAt g (i*13) ((rcO fs i).A I T).toList/\wx.cell? ⟨g',i,none⟩=some (.int .i64 (Lg.pla fs i))
theorem putG_nd {G:List Gt} (h:G.Pairwise fun a b=>a.txn≠b.txn) (t:Int) (k:ByteArray) (x:Hs):(putG G t k x).Pairwise fun a b=>a.txn≠b.txn:=by
 unfold putG
 cases hl:lkG G t with
 | some g =>
  rw[if_pos (show(some g).isSome=true from rfl)]
  rw[List.pairwise_map]
  exact h.imp fun {a b} hab=>by rw[tnG_txn,tnG_txn];exact hab
 | none =>
  rw[if_neg (by simp)]
  rw[List.pairwise_append]
  refine⟨h,List.pairwise_singleton ..,fun a ha b hb=>?_⟩
  rw[List.mem_singleton] at hb
  subst hb
  unfold lkG at hl
  have:=List.find?_eq_none.1 hl a ha
  simpa using this
theorem noteF_nd {s:Fs} (h:s.G.Pairwise fun a b=>a.txn≠b.txn) (r:Rc):(noteF s r).G.Pairwise fun a b=>a.txn≠b.txn:=by
 unfold noteF
 split
 ·exact h.filter _
 ·split
  ·exact h.filter _
  ·dsimp only
   split
   ·exact putG_nd h _ _ _
   ·exact h
theorem fsF_bd {fs:List ByteArray} (hf:∀ f∈fs,Frm f):∀ i,i<=fs.length->Bd (fsF fs i) i/\(fsF fs i).G.Pairwise fun a b=>a.txn≠b.txn
 | 0,_=>⟨Bd.zero,List.Pairwise.nil⟩
 | i+1,h=>by
  obtain⟨h1,h2⟩:=fsF_bd hf i (by omega)
  exact⟨h1.note h2 _,noteF_nd h2 _⟩
theorem fsP_len {fs:List ByteArray}:∀ i,(fsP fs i).B.length<=i/\0<=(fsP fs i).n/\(fsP fs i).n<=i
 | 0=>⟨Nat.le_refl _,Int.le_refl _,Int.le_refl _⟩
 | i+1=>by
  obtain⟨h1,h2,h3⟩:=fsP_len (fs:=fs) i
  have h4:=offT_len (fsP fs i).B (rcO fs i).tx
  show(noteP (fsP fs i) (rcO fs i)).B.length<=i+1/\0<=(noteP (fsP fs i) (rcO fs i)).n/\(noteP (fsP fs i) (rcO fs i)).n<=((i+1:Nat):Int)
  unfold noteP
  split
  ·dsimp only
   rw[List.length_append,List.length_singleton]
   omega
  ·split
   ·dsimp only;omega
   ·split
    ·dsimp only;omega
    ·omega
section
variable {w0 w w' wr:World}{pb b1:Nat}{vc vb vl:Value}{p:Ps}{r:Rc}{I T:Value}{K:List CL}{B L:List Bk}{n:Int}{RA:Array Value}
set_option maxHeartbeats 8000000 in
theorem note_end (h:PlO w0 w pb vc vb p) (hn:p.K.length+p.B.length<=900) (hc:0<=p.n/\p.n<1000000) (h1:r.kd=8):Calls Tryz.prog 24 #[.pointer (some ⟨pb,0,none⟩),.agg (r.A I T)] w fun e w'=>NtO w0 pb (noteP p r) e w':=by
 have e9:noteP p r=⟨celI r.kd p.K p.B r.tx p.B.length,offT p.B r.tx,if r.kd=7 then p.n+1 else p.n⟩:=by
  unfold noteP celI
  rw[if_neg (by omega),List.take_length]
  rw[if_neg (by omega),if_pos h1,if_neg (by omega),if_neg (by omega)]
 rw[e9]
 obtain⟨K0,B,n⟩:=p
 dsimp only at h hn hc ⊢
 obtain⟨ab,cb,rfl,hcb⟩:=h.rb.sl
 rw[List.length_map] at hcb h
 have H:Hid (PlO w0 w pb vc (.slice ab B.length cb) ⟨K0,B,n⟩):=h
 clear h e9 hcb
 obtain⟨kd,tx,pv,pg,ac,ky,ol,nw,nx,ep,nd⟩:=r
 dsimp only at h1 ⊢
 unfold Rc.A
 dsimp only
 have k1:(kd==6)=false:=by simp;omega
 have k2:3<=kd:=by omega
 have k3:¬ kd<=6:=by omega
 have hwn:IntKind.i64.wrap (n+1)=n+1:=by rw[IntKind.wrap_i64];omega
 have k4:(kd !=7)=true->(kd !=8)=false:=by simp;omega
 have CP:Hid (∀ wx K v,Gm.Row wx 69 2 v (K.map encC)->K.length<=1000->∀ q t,Calls Tryz.prog 56 #[v,.agg #[.string q,.string t]] wx fun e w'=>ClE wx e w' (putK K (q,t))):=fun wx K v hr hl q t=>Lay_row hr hl q t
 have CG:Hid (∀ wx K v,Gm.Row wx 69 2 v (K.map encC)->K.length<=1000->∀ q,Calls Tryz.prog 55 #[v,.string q] wx fun e w'=>GoE wx e w' v (delK K q)):=fun wx K v hr hl q=>Gone_row hr hl q
 go_enter Tryz.func24,Tryz.ntmps24
 have k5:kd=8:=h1
 clear h1
 subst k5
 ·skip
  go_wp2_with (refine wpList_box_at (A:=#[.int .i64 8,.int .i64 tx,.int .i64 pv,.int .i64 pg,.int .i64 ac,.string ky,.string ol,.string nw,.int .i64 nx,I,T,.int .i64 ep,.int .i64 nd]) _ rfl _ rfl rfl ?_;intro w1 b1 n1;have N1:Hid (New w w1 b1 54 #[.int .i64 8,.int .i64 tx,.int .i64 pv,.int .i64 pg,.int .i64 ac,.string ky,.string ol,.string nw,.int .i64 nx,I,T,.int .i64 ep,.int .i64 nd]):=n1;clear n1;have y0:w1.cell? ⟨b1,0,none⟩=some (.int .i64 8):=N1.out.is.c 0)
  obtain⟨RA,hRA⟩:∃ RA:Array Value,RA=#[.int .i64 8,.int .i64 tx,.int .i64 pv,.int .i64 pg,.int .i64 ac,.string ky,.string ol,.string nw,.int .i64 nx,I,T,.int .i64 ep,.int .i64 nd]:=⟨_,rfl⟩
  have HRA:Hid (RA[0]?=some (.int .i64 8)/\RA[1]?=some (.int .i64 tx)):=by rw[hRA];exact⟨rfl,rfl⟩
  rw[← hRA] at N1
  clear hRA y0
  have G0:Hid (GnO w0 w1 w1 pb b1 vc (.slice ab B.length cb) (.slice none 0 0) ⟨celI 8 K0 B tx 0,B,n⟩ (offT (B.take 0) tx) RA):=⟨H.out.below N1.out.bel,N1.out.is,Gm.Row.nil _ _ _,fun g e=>(by cases e),Nat.le_refl _⟩
  have HS:Hid (pb<w1.heap.size/\b1<w1.heap.size/\b1≠pb/\∀ g,(Value.slice ab B.length cb).ownBlock=some g->g<w1.heap.size):=⟨Nat.lt_of_lt_of_le H.out.is.lt N1.out.bel.size,N1.out.is.lt,fun e=>(by have:=H.out.is.lt;have:=N1.out.eq;omega),fun g e=>Nat.lt_of_lt_of_le (H.out.rb.lt e) N1.out.bel.size⟩
  have HKl:Hid (∀ i,(celI 8 K0 B tx i).length<=1000):=fun i=>by have:=celI_len 8 K0 B tx i;omega
  have HLl:Hid (∀ i,(offT (B.take i) tx).length<=900):=fun i=>by have:=offT_len (B.take i) tx;rw[List.length_take] at this;omega
  clear H N1
  go_loopg [5,6] B.length (fun k vl vi wr=>∃ (i:Nat) (vc:Value),vi=.int .i64 (i:Int)/\B.length-i<=k/\i<=B.length/\GnO w0 w1 wr pb b1 vc (.slice ab B.length cb) vl ⟨celI 8 K0 B tx i,B,n⟩ (offT (B.take i) tx) RA)
  case atStart=>exact⟨0,vc,rfl,by omega,by omega,G0.out⟩
  case round =>
   clear G0
   obtain⟨i,vc,rfl,hk,him,hG⟩:=hrel
   have HG:Hid (GnO w0 w1 wr pb b1 vc (.slice ab B.length cb) u5 ⟨celI 8 K0 B tx i,B,n⟩ (offT (B.take i) tx) RA):=hG
   clear hG
   have y1:wr.cell? ⟨pb,1,none⟩=some (.slice ab B.length cb):=HG.out.pl.is.c 1
   by_cases hlt:i<B.length
   ·have hltI:(i:Int)<(B.length:Int):=by omega
    obtain⟨g,rfl,hat⟩:=book_at (g:=0) HG.out.pl.rb hlt
    have HAt:Hid (∀ wx,Below wr.heap.size wr wx->wx.rangeAt g (i*13) ((recB B[i]).A (.slice none 0 0) (.slice none 0 0)).toList):=hat
    clear hat
    have y2:wr.rangeAt g (i*13) ((recB B[i]).A (.slice none 0 0) (.slice none 0 0)).toList:=HAt.out _ (Below.refl _ _)
    have HOff:Hid (B[i].tx≠tx->celI 8 K0 B tx (i+1)=celI 8 K0 B tx i/\offT (B.take (i+1)) tx=offT (B.take i) tx++[B[i]]):=celI_off hlt
    have HOn:Hid (B[i].tx=tx->celI 8 K0 B tx (i+1)=celI 8 K0 B tx i/\offT (B.take (i+1)) tx=offT (B.take i) tx):=fun h=>celI_on8 (kd:=8) hlt h (by decide)
    generalize B[i]=x at *
    have HSz:Hid (((recB x).A (.slice none 0 0) (.slice none 0 0)).size=13/\zR.size=13):=⟨rfl,rfl⟩
    have hSt:=stRc
    obtain⟨RX,hRX⟩:∃ RX:Array Value,RX=(recB x).A (.slice none 0 0) (.slice none 0 0):=⟨_,rfl⟩
    have HRX:Hid (RX[0]?=some (.int .i64 x.act)/\RX[1]?=some (.int .i64 x.tx)/\RX[5]?=some (.string x.ky)/\RX[7]?=some (.string x.nw)/\RX.size=13/\RX.size=zR.size/\(∀ u∈RX.toList,u.oneCell'=true)/\RX.toList=encR x):=by rw[hRX];exact⟨rfl,rfl,rfl,rfl,rfl,rfl,oneR x,rfl⟩
    have HB1:Hid (∀ w,(Instr.buildSlice 43 1 #[(0,.agg RX)]).run Tryz.prog w=.ok (.slice (some ⟨w.heap.size,0,none⟩) 1 1) (w.alloc (.cells RX 54))):=by rw[hRX];exact bR1 x
    rw[← hRX] at y2
    clear hRX HAt
    by_cases ht:x.tx=tx
    ·obtain⟨e1,e2⟩:=HOn.out ht
     have HE:Hid (celI 8 K0 B tx (i+1)=celI 8 K0 B tx i/\offT (B.take (i+1)) tx=offT (B.take i) tx):=⟨e1,e2⟩
     have hll:=HKl.out i
     have HKn:Hid ((celI 8 K0 B tx i).length<=1000):=hll
     clear e1 e2 HOff HOn hll
     generalize celI 8 K0 B tx i=Kc at *
     generalize offT (B.take i) tx=Lf at *
     obtain⟨xa,xt,xk,xn⟩:=x
     dsimp only at ht HRX
     subst ht
     obtain⟨ac1,cc1,ec1,_⟩:=HG.out.pl.rc.sl
     rw[List.length_map] at ec1
     dsimp only at ec1
     subst ec1
     go_wp2_with first
      | (refine wpList_load_in hSt (A:=RX) _ rfl _ rfl rfl y2 HRX.out.2.2.2.2.1 ?_)
      | (refine wpList_new_at (A:=zR) _ zRv rfl rfl ?_;intro w3 b7 N3)
      | (refine wpList_put_at (A:=zR) (A':=RX) hSt _ rfl _ _ rfl rfl rfl N3.is HSz.out.2 HRX.out.2.2.2.2.2.1 HRX.out.2.2.2.2.2.2.1 ?_;intro w4 P4;have X4:Hid (GnO w0 w1 w4 pb b1 (.slice ac1 Kc.length cc1) (.slice (some ⟨g,0,none⟩) B.length cb) u5 ⟨Kc,B,n⟩ Lf RA/\At w4 b7 54 RX):=⟨HG.out.below (np_bel N3 P4),P4.is⟩;have z0:w4.cell? ⟨b7,0,none⟩=some (.int .i64 xa):=(P4.is.c 0).trans HRX.out.1;have z1:w4.cell? ⟨b7,1,none⟩=some (.int .i64 xt):=(P4.is.c 1).trans HRX.out.2.1;have q1:w4.cell? ⟨b1,1,none⟩=some (.int .i64 xt):=(X4.out.1.r.c 1).trans HRA.out.2;have q0:w4.cell? ⟨b1,0,none⟩=some (.int .i64 8):=(X4.out.1.r.c 0).trans HRA.out.1)
     go_roundg (B.length-(i+1))
     case measure=>omega
     case rel=>exact⟨i+1,_,by first |rfl |go_num,Nat.le_refl _,by omega,by rw[HE.out.1,HE.out.2];exact X4.out.1⟩
    ·have htb:(x.tx !=tx)=true:=by simpa using ht
     obtain⟨e1,e2⟩:=HOff.out ht
     have HE:Hid (celI 8 K0 B tx (i+1)=celI 8 K0 B tx i/\offT (B.take (i+1)) tx=offT (B.take i) tx++[x]):=⟨e1,e2⟩
     have hll:=HLl.out i
     have HLn:Hid ((offT (B.take i) tx).length<=900):=hll
     clear e1 e2 HOff HOn hll
     generalize celI 8 K0 B tx i=Kc at *
     generalize offT (B.take i) tx=Lf at *
     go_wp2_with first
      | (refine wpList_load_in hSt (A:=RX) _ rfl _ rfl rfl y2 HRX.out.2.2.2.2.1 ?_)
      | (refine wpList_new_at (A:=zR) _ zRv rfl rfl ?_;intro w3 b7 N3)
      | (refine wpList_put_at (A:=zR) (A':=RX) hSt _ rfl _ _ rfl rfl rfl N3.is HSz.out.2 HRX.out.2.2.2.2.2.1 HRX.out.2.2.2.2.2.2.1 ?_;intro w4 P4;have X4:Hid (GnO w0 w1 w4 pb b1 vc (.slice (some ⟨g,0,none⟩) B.length cb) u5 ⟨Kc,B,n⟩ Lf RA/\At w4 b7 54 RX):=⟨HG.out.below (np_bel N3 P4),P4.is⟩;have z1:w4.cell? ⟨b7,1,none⟩=some (.int .i64 x.tx):=(P4.is.c 1).trans HRX.out.2.1;have q1:w4.cell? ⟨b1,1,none⟩=some (.int .i64 tx):=(X4.out.1.r.c 1).trans HRA.out.2)
      | (refine wpList_load_at hSt (A:=RX) _ rfl _ rfl rfl X4.out.2 HRX.out.2.2.2.2.1 ?_)
      | (refine wpList_build1 (u:=.agg RX) (A:=RX) _ rfl _ rfl rfl HB1.out ?_;intro w5 b5 N5;have X5:Hid (GnO w0 w1 w5 pb b1 vc (.slice (some ⟨g,0,none⟩) B.length cb) u5 ⟨Kc,B,n⟩ Lf RA):=X4.out.1.below N5.bel)
      | (refine wpList_push elR (A:=RX) (L:=Lf.map encR) rfl _ _ rfl rfl X5.out.lf rfl N5.is HRX.out.2.2.2.2.1 HRX.out.2.2.2.2.2.2.1 (by have:=HLn.out;rw[List.length_map];omega) ?_;intro a6 c6 w6 A6;rw[HRX.out.2.2.2.2.2.2.2] at A6;rw[List.length_map] at A6;have X6:=X5.out.push HS.out.1 HS.out.2.1 HS.out.2.2.2 A6)
     go_roundg (B.length-(i+1))
     case measure=>omega
     case rel=>exact⟨i+1,vc,by first |rfl |go_num,Nat.le_refl _,by omega,by rw[HE.out.1,HE.out.2];exact X6⟩
   ·have hltI:¬ (i:Int)<(B.length:Int):=by omega
    obtain⟨al,cl,el,hcl⟩:=HG.out.lf.sl
    subst el
    rw[List.length_map,List.take_of_length_le (show B.length<=i by omega)] at HG ⊢
    have y9:wr.frozen? ⟨pb,1,none⟩=false:=HG.out.pl.is.f 1
    have ei:celI 8 K0 B tx i=celI 8 K0 B tx B.length:=by unfold celI;rw[if_neg (by decide),if_neg (by decide)]
    rw[ei] at HG
    clear ei hcl
    have HY9:Hid (wr.frozen? ⟨pb,1,none⟩=false):=y9
    clear y9
    have HNl:Hid ((Value.slice al (offT B tx).length cl).ownBlock≠some pb):=fun e=>by have:=HG.out.lo pb e;have:=HS.out.1;omega
    go_wp2_with (refine wpList_set1 (v:=.slice al (offT B tx).length cl) _ rfl 43 (.tmp 110) (.tmp 108) rfl rfl rfl y1 HY9.out rfl i1R ?_;intro w8 e8;have HE8:Hid (w8=wr.setCell ⟨pb,1,none⟩ (.slice al (offT B tx).length cl)):=e8;clear e8;have X8:Hid (GnO w0 w1 w8 pb b1 vc (.slice al (offT B tx).length cl) (.slice al (offT B tx).length cl) ⟨celI 8 K0 B tx B.length,offT B tx,n⟩ (offT B tx) RA):=(by rw[HE8.out];exact HG.out.book HS.out.1 HS.out.2.2.1 HNl.out);have q0:w8.cell? ⟨b1,0,none⟩=some (.int .i64 8):=(X8.out.r.c 0).trans HRA.out.1;have q2:w8.cell? ⟨pb,2,none⟩=some (.int .i64 n):=X8.out.pl.is.c 2;have q3:w8.frozen? ⟨pb,2,none⟩=false:=X8.out.pl.is.f 2)
    refine bodyPost_ret (results_none rfl _ _ _) rfl ?_
    exact⟨rfl,_,_,X8.out.pl⟩
theorem NoteP_any (h:PlO w0 w pb vc vb p) (hn:p.K.length+p.B.length<=900) (hc:0<=p.n/\p.n<1000000):Calls Tryz.prog 24 #[.pointer (some ⟨pb,0,none⟩),.agg (r.A I T)] w fun e w'=>NtO w0 pb (noteP p r) e w':=by
 by_cases h1:3<=r.kd/\r.kd<=6
 ·exact note_turn h (by omega) h1.1 h1.2
 ·by_cases h2:r.kd=7
  ·exact note_commit h hn hc h2
  ·by_cases h3:r.kd=8
   ·exact note_end h hn hc h3
   ·exact note_not h (by omega)
end
def kA:ByteArray:=⟨#[97]⟩
def kX:ByteArray:=⟨#[120]⟩
def rA:Rc:=⟨3,1,0,0,0,kA,⟨#[]⟩,kX,0,0,0⟩
def rB:Rc:=⟨7,1,0,0,0,⟨#[]⟩,⟨#[]⟩,⟨#[]⟩,0,0,0⟩
def rC:Rc:=⟨4,2,0,0,0,kA,⟨#[]⟩,⟨#[]⟩,0,0,0⟩
def rD:Rc:=⟨7,2,0,0,0,⟨#[]⟩,⟨#[]⟩,⟨#[]⟩,0,0,0⟩
def zI:Value:=.slice none 0 0
section
variable {W:Nat->Prop}{w w':World}{fb:Nat}
theorem nA (h:Fo W w fb [] [] 0):Calls Tryz.prog 54 #[.pointer (some ⟨fb,0,none⟩),.agg #[.int .i64 3,.int .i64 1,.int .i64 0,.int .i64 0,.int .i64 0,.string ⟨#[97]⟩,.string ⟨#[]⟩,.string ⟨#[120]⟩,.int .i64 0,.slice none 0 0,.slice none 0 0,.int .i64 0,.int .i64 0]] w fun e w'=>e=.returned (.tuple #[])/\FoO W w w' fb [] [⟨1,[(kA,⟨kX,true⟩)]⟩] 0:=by
 have:=Note_any (r:=rA) (I:=zI) (T:=zI) h (show(Lit.int .i64 _).wf=true from rfl) (by decide) (by decide) (by decide) (fun g hg=>by cases hg) (by decide)
 have e:noteF ⟨[],[],0⟩ rA=⟨[],[⟨1,[(kA,⟨kX,true⟩)]⟩],0⟩:=by kernel_rfl
 rw[e] at this
 exact this
theorem nB (h:Fo W w fb [] [⟨1,[(kA,⟨kX,true⟩)]⟩] 0):Calls Tryz.prog 54 #[.pointer (some ⟨fb,0,none⟩),.agg #[.int .i64 7,.int .i64 1,.int .i64 0,.int .i64 0,.int .i64 0,.string ⟨#[]⟩,.string ⟨#[]⟩,.string ⟨#[]⟩,.int .i64 0,.slice none 0 0,.slice none 0 0,.int .i64 0,.int .i64 0]] w fun e w'=>e=.returned (.tuple #[])/\FoO W w w' fb [(kA,kX)] [] 1:=by
 have:=Note_any (r:=rB) (I:=zI) (T:=zI) h (show(Lit.int .i64 _).wf=true from rfl) (by decide) (by decide) (by decide) (fun g hg=>by rw[List.mem_singleton] at hg;subst hg;decide) (by decide)
 have e:noteF ⟨[],[⟨1,[(kA,⟨kX,true⟩)]⟩],0⟩ rB=⟨[(kA,kX)],[],1⟩:=by kernel_rfl
 rw[e] at this
 exact this
theorem nC (h:Fo W w fb [(kA,kX)] [] 1):Calls Tryz.prog 54 #[.pointer (some ⟨fb,0,none⟩),.agg #[.int .i64 4,.int .i64 2,.int .i64 0,.int .i64 0,.int .i64 0,.string ⟨#[97]⟩,.string ⟨#[]⟩,.string ⟨#[]⟩,.int .i64 0,.slice none 0 0,.slice none 0 0,.int .i64 0,.int .i64 0]] w fun e w'=>e=.returned (.tuple #[])/\FoO W w w' fb [(kA,kX)] [⟨2,[(kA,zH)]⟩] 1:=by
 have:=Note_any (r:=rC) (I:=zI) (T:=zI) h (show(Lit.int .i64 _).wf=true from rfl) (by decide) (by decide) (by decide) (fun g hg=>by cases hg) (by decide)
 have e:noteF ⟨[(kA,kX)],[],1⟩ rC=⟨[(kA,kX)],[⟨2,[(kA,zH)]⟩],1⟩:=by kernel_rfl
 rw[e] at this
 exact this
theorem nD (h:Fo W w fb [(kA,kX)] [⟨2,[(kA,zH)]⟩] 1):Calls Tryz.prog 54 #[.pointer (some ⟨fb,0,none⟩),.agg #[.int .i64 7,.int .i64 2,.int .i64 0,.int .i64 0,.int .i64 0,.string ⟨#[]⟩,.string ⟨#[]⟩,.string ⟨#[]⟩,.int .i64 0,.slice none 0 0,.slice none 0 0,.int .i64 0,.int .i64 0]] w fun e w'=>e=.returned (.tuple #[])/\FoO W w w' fb [] [] 2:=by
 have:=Note_any (r:=rD) (I:=zI) (T:=zI) h (show(Lit.int .i64 _).wf=true from rfl) (by decide) (by decide) (by decide) (fun g hg=>by rw[List.mem_singleton] at hg;subst hg;decide) (by decide)
 have e:noteF ⟨[(kA,kX)],[⟨2,[(kA,zH)]⟩],1⟩ rD=⟨[],[],2⟩:=by kernel_rfl
 rw[e] at this
 exact this
theorem gA (h:Fo W w fb [(kA,kX)] [⟨2,[(kA,zH)]⟩] 1):Calls Tryz.prog 57 #[.pointer (some ⟨fb,0,none⟩),.string ⟨#[97]⟩] w fun e w'=>e=.returned (.tuple #[.string ⟨#[120]⟩,.bool true])/\Below w.heap.size w w':=by
 have:=Get_any h kA (by decide)
 have e:getK [(kA,kX)] kA=(kX,true):=by kernel_rfl
 rw[e] at this
 exact this
set_option maxHeartbeats 1000000 in
theorem awake16 (w:World):Calls Tryz.prog 26 #[] w fun e w'=>e=.returned (.bool true)/\Below w.heap.size w w':=by
 have C1:Hid (∀ W wx fb,Fo W wx fb [] [] 0->Calls Tryz.prog 54 #[.pointer (some ⟨fb,0,none⟩),.agg (rA.A zI zI)] wx fun e w'=>e=.returned (.tuple #[])/\FoO W wx w' fb [] [⟨1,[(kA,⟨kX,true⟩)]⟩] 0):=fun W wx fb h=>nA h
 have C2:Hid (∀ W wx fb,Fo W wx fb [] [⟨1,[(kA,⟨kX,true⟩)]⟩] 0->Calls Tryz.prog 54 #[.pointer (some ⟨fb,0,none⟩),.agg (rB.A zI zI)] wx fun e w'=>e=.returned (.tuple #[])/\FoO W wx w' fb [(kA,kX)] [] 1):=fun W wx fb h=>nB h
 have C3:Hid (∀ W wx fb,Fo W wx fb [(kA,kX)] [] 1->Calls Tryz.prog 54 #[.pointer (some ⟨fb,0,none⟩),.agg (rC.A zI zI)] wx fun e w'=>e=.returned (.tuple #[])/\FoO W wx w' fb [(kA,kX)] [⟨2,[(kA,zH)]⟩] 1):=fun W wx fb h=>nC h
 have C4:Hid (∀ W wx fb,Fo W wx fb [(kA,kX)] [⟨2,[(kA,zH)]⟩] 1->Calls Tryz.prog 54 #[.pointer (some ⟨fb,0,none⟩),.agg (rD.A zI zI)] wx fun e w'=>e=.returned (.tuple #[])/\FoO W wx w' fb [] [] 2):=fun W wx fb h=>nD h
 go_enter Tryz.func26,Tryz.ntmps26
 go_wp2_with first
  | (go_at_call 52;refine(New_ok _).mono ?_;rintro e w1 ⟨rfl,⟨W1,F1,q1⟩,B1⟩;have H1:Hid (Fo W1 w1 (w.heap.size+1) [] [] 0/\Below w.heap.size w w1/\∀ j,W1 j->w.heap.size<=j):=⟨F1,B1,q1⟩;clear F1 B1 q1)
  | (go_at_call 54;refine(C4.out _ _ _ H5.out.1).mono ?_;rintro e w6 ⟨rfl,W6,F6,f6⟩;have H6:Hid (Fo W6 w6 (w.heap.size+1) [] [] 2/\Below w.heap.size w w6):=⟨F6,H5.out.2.1.trans (f6.bel H5.out.2.2 H5.out.2.1.size)⟩;clear F6 f6)
  | (go_at_call 57;refine(gA H4.out.1).mono ?_;rintro e w5 ⟨rfl,b5⟩;have H5:Hid (Fo W4 w5 (w.heap.size+1) [(kA,kX)] [⟨2,[(kA,zH)]⟩] 1/\Below w.heap.size w w5/\∀ j,W4 j->w.heap.size<=j):=⟨H4.out.1.bel b5,thn H4.out.2.1 b5,H4.out.2.2⟩;clear b5)
  | (go_at_call 54;refine(C3.out _ _ _ H3.out.1).mono ?_;rintro e w4 ⟨rfl,W4,F4,f4⟩;have H4:Hid (Fo W4 w4 (w.heap.size+1) [(kA,kX)] [⟨2,[(kA,zH)]⟩] 1/\Below w.heap.size w w4/\∀ j,W4 j->w.heap.size<=j):=⟨F4,H3.out.2.1.trans (f4.bel H3.out.2.2 H3.out.2.1.size),fun j hj=>(f4.sub j hj).elim (H3.out.2.2 j) (fun h=>Nat.le_trans H3.out.2.1.size h)⟩;clear F4 f4)
  | (go_at_call 54;refine(C2.out _ _ _ H2.out.1).mono ?_;rintro e w3 ⟨rfl,W3,F3,f3⟩;have H3:Hid (Fo W3 w3 (w.heap.size+1) [(kA,kX)] [] 1/\Below w.heap.size w w3/\∀ j,W3 j->w.heap.size<=j):=⟨F3,H2.out.2.1.trans (f3.bel H2.out.2.2 H2.out.2.1.size),fun j hj=>(f3.sub j hj).elim (H2.out.2.2 j) (fun h=>Nat.le_trans H2.out.2.1.size h)⟩;clear F3 f3)
  | (go_at_call 54;refine(C1.out _ _ _ H1.out.1).mono ?_;rintro e w2 ⟨rfl,W2,F2,f2⟩;have H2:Hid (Fo W2 w2 (w.heap.size+1) [] [⟨1,[(kA,⟨kX,true⟩)]⟩] 0/\Below w.heap.size w w2/\∀ j,W2 j->w.heap.size<=j):=⟨F2,H1.out.2.1.trans (f2.bel H1.out.2.2 H1.out.2.1.size),fun j hj=>(f2.sub j hj).elim (H1.out.2.2 j) (fun h=>Nat.le_trans H1.out.2.1.size h)⟩;clear F2 f2)
  | (go_at_call 53;refine(Cells_any H6.out.1 (by decide)).mono ?_;rintro e w7 ⟨⟨v7,rfl,r7,o7⟩,b7⟩;have H7:Hid (Fo W6 w7 (w.heap.size+1) [] [] 2/\Below w.heap.size w w7):=⟨H6.out.1.bel b7,thn H6.out.2 b7⟩;obtain⟨a7,c7,e7,_⟩:=r7.sl;rw[List.length_map] at e7;subst e7;clear r7 o7 b7)
  | (go_at_call 58;refine(Count_any H7.out.1).mono ?_;rintro e w8 ⟨rfl,rfl⟩)
 go_ret
 exact⟨rfl,H7.out.2⟩
end
def zP:Array Value:=#[.slice none 0 0,.slice none 0 0,.int .i64 0]
section
variable {w w1:World}{pb:Nat}
theorem PlO.new (N:New w w1 pb 62 zP):PlO w w1 pb (.slice none 0 0) (.slice none 0 0) ⟨[],[],0⟩ :=
 ⟨N.is,Gm.Row.nil _ _ _,Gm.Row.nil _ _ _,N.bel,by rw[N.eq];exact Nat.le_refl _,fun g e=>(by cases e),fun g e=>by cases e⟩
end
theorem lastE_any (k:ByteArray):∀ es:List Bk,(lastE es k).isSome=es.any fun x=>decide (x.ky=k):=snocB rfl fun A c ih=>by
 rw[lastE_snoc,List.any_append,← ih]
 by_cases h:c.ky=k
 ·rw[if_pos h];simp[h]
 ·rw[if_neg h];simp[h]
theorem lastE_val (k:ByteArray):∀ es:List Bk,∀ h,lastE es k=some h->h.is=false->h=zH:=snocB (fun h e=>by cases e) fun A c ih h=>by
 rw[lastE_snoc]
 by_cases hk:c.ky=k
 ·rw[if_pos hk]
  intro e hi
  injection e with e
  subst e
  unfold hsB at hi ⊢
  by_cases h4:c.act=4
  ·rw[if_pos h4]
  ·rw[if_neg h4] at hi;cases hi
 ·rw[if_neg hk]
  exact ih h
def khF (fs:List ByteArray) (key:ByteArray) (i:Nat):Option Hs:=if(rcO fs i).kd=7 then lastE (ofT (fsP fs i).B (rcO fs i).tx) key else none
def chF (fs:List ByteArray) (key:ByteArray) (i:Nat):List (Int × Hs):=(khF fs key i).toList.map fun h=>(Lg.pla fs i,h)
def keyF (fs:List ByteArray) (key:ByteArray):Nat->List (Int × Hs)
 | 0=>[]
 | i+1=>keyF fs key i++chF fs key i
def whF (L:List (Int × Hs)) (en:Int):Hs:=L.foldl (fun h x=>if x.1<en then x.2 else h) zH
theorem whF_snoc (L:List (Int × Hs)) (x:Int × Hs) (en:Int):whF (L++[x]) en=if x.1<en then x.2 else whF L en:=by unfold whF;rw[List.foldl_append];rfl
def encH (x:Int × Hs):List Value:=[.int .i64 x.1,.string x.2.v,.bool x.2.is]
theorem keyF_some {fs:List ByteArray} {key:ByteArray} {i:Nat} {h:Hs} (e:khF fs key i=some h):keyF fs key (i+1)=keyF fs key i++[(Lg.pla fs i,h)]:=by
 show keyF fs key i++chF fs key i=_
 unfold chF
 rw[e]
 rfl
theorem keyF_none {fs:List ByteArray} {key:ByteArray} {i:Nat} (e:khF fs key i=none):keyF fs key (i+1)=keyF fs key i:=by
 show keyF fs key i++chF fs key i=_
 unfold chF
 rw[e]
 exact List.append_nil _
theorem keyF_len {fs:List ByteArray} {key:ByteArray}:∀ i,(keyF fs key i).length<=i
 | 0=>Nat.le_refl _
 | i+1=>by
  have:=keyF_len (fs:=fs) (key:=key) i
  cases e:khF fs key i with
  | none=>rw[keyF_none e];omega
  | some h=>rw[keyF_some e,List.length_append,List.length_singleton];omega
theorem keyF_pre {fs:List ByteArray} {key:ByteArray} (i:Nat):∀ k,keyF fs key i <+:keyF fs key (i+k)
 | 0=>List.prefix_refl _
 | k+1=>(keyF_pre i k).trans (List.prefix_append _ _)
theorem keyF_at {fs:List ByteArray} {key:ByteArray} {i m:Nat} {h:Hs} (hi:i<m) (e:khF fs key i=some h):(keyF fs key m)[(keyF fs key i).length]?=some (Lg.pla fs i,h):=by
 obtain⟨t,ht⟩:=keyF_pre (fs:=fs) (key:=key) (i+1) (m-(i+1))
 rw[show i+1+(m-(i+1))=m by omega,keyF_some e] at ht
 rw[← ht]
 simp
theorem kh_turns (fs:List ByteArray) (key:ByteArray) (i:Nat):(khF fs key i).isSome=(fsP fs i).B.any fun x=>decide ((rcO fs i).kd=7)&&decide (x.tx=(rcO fs i).tx)&&decide (x.ky=key):=by
 unfold khF
 by_cases h:(rcO fs i).kd=7
 ·rw[if_pos h,lastE_any]
  unfold ofT
  rw[List.any_filter]
  simp[h]
 ·rw[if_neg h]
  symm
  rw[Option.isSome_none,List.any_eq_false]
  intro x hx
  simp[h]
theorem kh_zero {fs:List ByteArray} {key:ByteArray} {i:Nat} {h:Hs} (e:khF fs key i=some h) (hi:h.is=false):h=zH:=by
 unfold khF at e
 split at e
 ·exact lastE_val _ _ _ e hi
 ·cases e
theorem kh_cells {fs:List ByteArray} {key:ByteArray} {i:Nat} {h:Hs} (hr:Ris (fsP fs i).K) (e:khF fs key i=some h) (q:CL) (hq:q.1=key):q∈(fsP fs (i+1)).K↔(h.is=true/\q.2=h.v):=by
 unfold khF at e
 split at e
 ·rename_i h7
  have e9:(fsP fs (i+1)).K=foldC (fsP fs i).K (ofT (fsP fs i).B (rcO fs i).tx):=by
   show(noteP (fsP fs i) (rcO fs i)).K=_
   unfold noteP
   rw[if_neg (by omega),if_pos h7]
  rw[e9,foldC_mem hr q,hq,e]
  rfl
 ·cases e
theorem kh_dev {fs:List ByteArray} {i:Nat} (hr:Rel (fsF fs i) (fsP fs i)) (key:ByteArray):khF fs key i=if(rcO fs i).kd=7 then(lkK (ksG (fsF fs i).G (rcO fs i).tx) key.data.toList).map (·.2) else none:=by
 unfold khF
 rw[hr.his]
end Go.Proofs.YtdchjncnjgelhaaGreat.Fd
