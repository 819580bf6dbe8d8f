import Derived.Test.YtdchjncnjgelhaaGreatMaw
import Derived.Test.YtdchjncnjgelhaaGreatMax
import Derived.BigQuiet
import Derived.Deep.QuietTactic
set_option linter.unusedVariables false
set_option linter.unusedSimpArgs false
set_option maxRecDepth 100000
namespace Go.Proofs.YtdchjncnjgelhaaGreat.Fd
open Go.RowKit Gm Go.Maps
theorem stpF_n {fs:List ByteArray}:∀ i,((stpF fs i).length:Int)=(fsF fs i).n+1
 | 0=>rfl
 | i+1=>by
  have h1:=stpF_n (fs:=fs) i
  show _=(noteF (fsF fs i) (rcO fs i)).n+1
  unfold stpF noteF
  split
  ·rw[List.length_append,List.length_singleton];dsimp only;omega
  ·split <;> (dsimp only;omega)
theorem stpF_pre {fs:List ByteArray} (i:Nat):∀ k,stpF fs i <+:stpF fs (i+k)
 | 0=>List.prefix_refl _
 | k+1=>by
  refine(stpF_pre i k).trans ?_
  show stpF fs (i+k) <+:(if(rcO fs (i+k)).kd=7 then stpF fs (i+k)++[(noteF (fsF fs (i+k)) (rcO fs (i+k))).K] else stpF fs (i+k))
  split
  ·exact List.prefix_append _ _
  ·exact List.prefix_refl _
theorem stpF_at {fs:List ByteArray} {i m:Nat} (hi:i<m) (hk:(rcO fs i).kd=7):∃ nn:Nat,(fsF fs (i+1)).n=(nn:Int)/\(stpF fs m)[nn]?=some (fsF fs (i+1)).K:=by
 have e:stpF fs (i+1)=stpF fs i++[(fsF fs (i+1)).K]:=if_pos hk
 have h1:=stpF_n (fs:=fs) i
 have h2:=stpF_n (fs:=fs) (i+1)
 rw[e,List.length_append,List.length_singleton] at h2
 obtain⟨t,ht⟩:=stpF_pre (fs:=fs) (i+1) (m-(i+1))
 rw[show i+1+(m-(i+1))=m by omega,e] at ht
 refine⟨(stpF fs i).length,by omega,?_⟩
 rw[← ht]
 simp
theorem stpF_head {fs:List ByteArray} (m:Nat):(stpF fs m)[0]?=some []:=by
 obtain⟨t,ht⟩:=stpF_pre (fs:=fs) 0 m
 rw[Nat.zero_add] at ht
 rw[← ht]
 rfl
section
variable {w w1:World}{l N:Nat}
theorem LmN_steps (h:Lg.LmN w l w1 N) (hN:N<=400):Calls Tryz.prog 23 #[.pointer (some ⟨l,0,none⟩)] w1 fun e w2=>∃ fs b c vs,e=.returned (.slice b (stpF fs fs.length).length c)/\fs.length<=N/\(∀ f∈fs,Frm f)/\Below w.heap.size w w2/\Hid (Calls Tryz.prog 17 #[.pointer (some ⟨l,0,none⟩)] w2 fun e w3=>∃ a1 c1 a' c',e=.returned (.tuple #[.slice a1 fs.length c1,.slice a' fs.length c'])/\RwA w3 fs a1 a'/\Stp w3 (.slice b (stpF fs fs.length).length c) vs (stpF fs fs.length)/\Below w.heap.size w w3):=by
 obtain⟨W,fs,h1,h2,h3,h4⟩:=h.ex
 refine(Steps_any h1 (by omega)).mono ?_
 rintro e w2 ⟨b,c,vs,Wl',rfl,k1,k2,k3,k4⟩
 have hb2:Below w.heap.size w w2:=h3.trans (k3.bel h2 h3.size)
 refine⟨fs,b,c,vs,rfl,h4,h1.fit.frm,hb2,?_⟩
 show Calls _ _ _ _ _
 refine k2.records.mono ?_
 rintro e w3 ⟨v,v2,Wm,he,hr,hi,hlo,hf,n1,n2⟩
 obtain⟨a,c0,e1⟩:=hr.slice
 obtain⟨a',c',e2⟩:=hi.ex
 rw[List.length_map] at e1
 rw[plc_length] at e2
 subst e1 e2
 refine⟨a,c0,a',c',he,⟨fun i hlt=>?_⟩,k1.keep fun j hj=>hf.blk j (k1.lt hj) (k4 j hj).2,hb2.trans (hf.bel (Lg.ge_sub h2 h3.size k3) hb2.size)⟩
 obtain⟨g,I,T,e3,hra,hrf⟩:=hr.at_ (i:=i) (by rw[List.length_map];exact hlt)
 obtain⟨g',e4,hci⟩:=hi.at_ (i:=i) (by rw[plc_length];exact hlt)
 have hg:g<w3.heap.size:=by
  obtain⟨es,q1,⟨q2,q3⟩,q4⟩:=hr.ex
  rcases q3 with⟨e,_⟩ |⟨g9,cap,cur,e,hB,hg9,_⟩
  ·rw[e3] at e;injection e with e5 e6 e7;cases e5
  ·rw[e3] at e;injection e with e5 e6 e7;cases e5;exact lt_of hg9
 have hp:=plc_get 1 fs i hlt
 rw[List.getElem?_eq_getElem (by rw[plc_length];exact hlt)] at hp
 have hp:=Option.some.inj hp
 rw[List.getElem_map,Lg.rcd_at hlt] at hra
 refine⟨g,g',I,T,e3,e4,recF_one hrf,fun wx hb=>⟨?_,?_⟩⟩
 ·unfold rcO
  rw[toR_A]
  exact range_bel hra (hb.block g hg)
 ·rw[hci wx hb,hp]
  rfl
end
theorem Stp.cell {w:World} {b:Option Addr} {n c:Nat} {vs:List Value} {Ks:List (List CL)} (h:Stp w (.slice b n c) vs Ks) {i:Nat} (hi:i<Ks.length):∃ sb,b=some ⟨sb,0,none⟩/\∃ a c',∀ wx,Below w.heap.size w wx->wx.cell? ⟨sb,i,none⟩=some (.slice a Ks[i].length c')/\Gm.Row wx 69 2 (.slice a Ks[i].length c') (Ks[i].map encC):=by
 have hv:i<vs.length:=by rw[h.len];exact hi
 have hr:=h.at_ i hv hi
 obtain⟨a,c',e,_⟩:=hr.sl
 rw[List.length_map] at e
 obtain⟨g,ea,hg,hat⟩:=h.row.at_ (i:=i) (by rw[List.length_map];exact hv)
 refine⟨g,ea,a,c',fun wx hb=>⟨?_,?_⟩⟩
 ·have hra:=(hat wx (hb.block g hg)).1
  rw[List.getElem_map] at hra
  have:=hra 0 vs[i] rfl
  rw[e] at this
  simpa using this
 ·rw[← e]
  exact hr.bel hb
theorem Stp.head {w:World} {fs:List ByteArray} {b:Option Addr} {N c:Nat} {vs:List Value} (hf:∀ f∈fs,Frm f) (hN:(stpF fs fs.length).length=N) (h:Stp w (.slice b N c) vs (stpF fs fs.length)):∃ sb,b=some ⟨sb,0,none⟩/\∃ a c',∀ wx,Below w.heap.size w wx->wx.cell? ⟨sb,0,none⟩=some (.slice a 0 c'):=by
 have hl:0<(stpF fs fs.length).length:=by
  have h1:=stpF_n (fs:=fs) fs.length
  have h2:=(fsF_bd hf fs.length (Nat.le_refl _)).1.n0
  omega
 have h0:=stpF_head (fs:=fs) fs.length
 rw[List.getElem?_eq_getElem hl] at h0
 obtain⟨sb,e,a,c',hc⟩:=h.cell hl
 refine⟨sb,e,a,c',fun wx hb=>?_⟩
 have:=(hc wx hb).1
 rw[Option.some.inj h0] at this
 exact this
section
variable {w:World}{v1 v2:Value}{K:List CL}
set_option maxHeartbeats 2000000 in
theorem same_q (h1:Rv w v1 K) (h2:Rv w v2 K) (hn:K.length<=100000):Calls Tryz.prog 25 #[v1,v2] w fun e w'=>e=.returned (.bool true)/\∃ n,w'=w.drewN n:=by
 obtain⟨a0,c0,rfl,-⟩:=h1.ex
 obtain⟨a1,c1,rfl,-⟩:=h2.ex
 have H1:Hid (Rv w (.slice a0 K.length c0) K):=h1
 have H2:Hid (Rv w (.slice a1 K.length c1) K):=h2
 have mixed:Tryz.prog.follows .mixedOrders=true:=by kernel_rfl
 clear h1 h2
 obtain⟨m,hm⟩:∃ m,K.length=m:=⟨_,rfl⟩
 have Hm:Hid (K.length=m):=hm
 rw[hm] at H1 H2 hn ⊢
 clear hm
 go_enter Tryz.func25,Tryz.ntmps25
 go_wp2
 go_loopg [5] m (fun k vi wr=>∃ i n:Nat,vi=.int .i64 (i:Int)/\m-i<=k/\i<=m/\wr=w.drewN n)
 case atStart=>exact⟨0,0,rfl,by omega,by omega,rfl⟩
 case round =>
  obtain⟨i,n,rfl,hk,him,rfl⟩:=hrel
  by_cases hlt:i<m
  ·have hltI:(i:Int)<(m:Int):=by omega
   have hi1:i<K.length:=by have:=Hm.out;omega
   obtain⟨g,o,rfl,_,c0',c1'⟩:=(H1.out.bel (Sm.below_dr (Below.refl _ _) n)).at_ hi1
   obtain⟨g',o',rfl,_,e0',e1'⟩:=(H2.out.bel (Sm.below_dr (Below.refl _ _) n)).at_ hi1
   have d0:(w.drewN n).drew.cell? ⟨g,o+i*2,none⟩=some (.string K[i].1):=c0'
   have d1:(w.drewN n).drew.cell? ⟨g,o+i*2+1,none⟩=some (.string K[i].2):=c1'
   have f0:(w.drewN n).drew.cell? ⟨g',o'+i*2,none⟩=some (.string K[i].1):=e0'
   have f1:(w.drewN n).drew.cell? ⟨g',o'+i*2+1,none⟩=some (.string K[i].2):=e1'
   have heq:∀ wx,(binOp .neq 69 (.agg #[.string K[i].1,.string K[i].2]) (.agg #[.string K[i].1,.string K[i].2])).run Tryz.prog wx=.ok (.bool false) wx:=fun wx=>by
    have:=(eqlsC wx K[i] K[i]).2
    rw[show eqC K[i] K[i]=true from eqC_iff.2 rfl] at this
    exact this
   generalize hwr:w.drewN n=wr at *
   have Hwr:Hid (w.drewN n=wr):=hwr
   clear hwr
   generalize K[i].1=ka at *
   generalize K[i].2=kb at *
   go_wp2_with fail
   go_big_region
   all_goals go_wp2
   go_roundg (m-(i+1))
   case measure=>omega
   case rel=>exact⟨i+1,n+1,by first |rfl |go_num,Nat.le_refl _,by omega,by rw[← Hwr.out];rfl⟩
  ·have hltI:¬ (i:Int)<(m:Int):=by omega
   go_wp2
   go_ret
   exact⟨rfl,n,rfl⟩
end
section
variable {w:World}{ms:List Rm}{a0:Option Addr}{n0 c0:Nat}
set_option maxHeartbeats 8000000 in
theorem steps16_walk (hr:RsV w a0 n0 ms) (hs:∀ m∈ms,Small m) (hn:n0<=9223372036854775807):Calls Tryz.prog 5 #[.slice a0 n0 c0] w fun e w'=>e=.returned (.bool true)/\Below w.heap.size w w':=by
 have CL:Hid (Calls Tryz.prog 16 #[.slice a0 n0 c0,.int .i64 60] w fun e w'=>∃ l,e=.returned (.pointer (some ⟨l,0,none⟩))/\Lg.LmN w l w' 60):=Lg.log_anyN hr hs hn 60 (by omega)
 have CK:Hid (∀ wx,Calls Tryz.prog 26 #[] wx fun e w'=>e=.returned (.bool true)/\Below wx.heap.size wx w'):=awake16
 have mixed:Tryz.prog.follows .mixedOrders=true:=by kernel_rfl
 clear hr hs hn
 go_enter Tryz.func5,Tryz.ntmps5
 go_wp2_with first
  | (go_at_call 16;refine CL.out.mono ?_;rintro e w1 ⟨l,rfl,HM⟩;have HM1:Hid (Lg.LmN w l w1 60):=HM;clear HM)
  | (go_at_call 23;refine(LmN_steps HM1.out (by omega)).mono ?_;rintro e w2 ⟨fs,b,c,vs,rfl,y1,y2,y3,y4⟩;obtain⟨N,hN⟩:∃ N,(stpF fs fs.length).length=N:=⟨_,rfl⟩;have HN:Hid ((stpF fs fs.length).length=N):=hN;rw[hN] at y4 ⊢;clear hN;have HY:Hid (fs.length<=60/\(∀ f∈fs,Frm f)/\Below w.heap.size w w2):=⟨y1,y2,y3⟩;clear y1 y2 y3)
  | (go_at_call 17;refine y4.out.mono ?_;rintro e w3 ⟨a1,c1,a',c',rfl,x1,x2,x3⟩;obtain⟨sb,rfl,az,cz,hz⟩:=Stp.head HY.out.2.1 HN.out x2;have HX:Hid (RwA w3 fs a1 a'/\Stp w3 (.slice (some ⟨sb,0,none⟩) N c) vs (stpF fs fs.length)/\Below w.heap.size w w3):=⟨x1,x2,x3⟩;have HZ:Hid (∀ wx,Below w3.heap.size w3 wx->wx.cell? ⟨sb,0,none⟩=some (.slice az 0 cz)):=hz;have hN1:¬ (N:Int)<1:=(by have:=stpF_n (fs:=fs) fs.length;have:=(fsF_bd HY.out.2.1 fs.length (Nat.le_refl _)).1.n0;have:=HN.out;omega);have hN0:(0:Int)<(N:Int):=(by omega);clear x1 x2 x3 y4 hz)
  | (refine wpList_box_at (A:=zP) _ rfl _ rfl rfl ?_;intro w4 pb N4;have P4:Hid (PlO w3 w4 pb (.slice none 0 0) (.slice none 0 0) (fsP fs 0)):=PlO.new N4;have z0:w4.cell? ⟨sb,0,none⟩=some (.slice az 0 cz):=HZ.out _ N4.bel;clear N4)
 obtain⟨m,hm⟩:∃ m,fs.length=m:=⟨_,rfl⟩
 have Hm:Hid (fs.length=m/\m<=60):=⟨hm,by rw[← hm];exact HY.out.1⟩
 rw[hm]
 clear hm z0 HM1
 go_loopg [8] m (fun k vi wr=>∃ (i:Nat) (vc vb:Value),vi=.int .i64 (i:Int)/\m-i<=k/\i<=m/\PlO w3 wr pb vc vb (fsP fs i))
 case atStart=>exact⟨0,_,_,rfl,by omega,by omega,P4.out⟩
 case round =>
  clear P4 HZ
  obtain⟨i,vc,vb,rfl,hk,him,hP⟩:=hrel
  have HP:Hid (PlO w3 wr pb vc vb (fsP fs i)):=hP
  clear hP
  have hmI:=Hm.out.2
  by_cases hlt:i<m
  ·have hltI:(i:Int)<(m:Int):=by omega
   obtain⟨g,g',I,T,rfl,rfl,hone,hat⟩:=HX.out.1.at_ i (by rw[Hm.out.1];exact hlt)
   have y2:wr.rangeAt g (i*13) ((rcO fs i).A I T).toList:=(hat wr HP.out.bel).1
   have HRX:Hid (((rcO fs i).A I T).size=13/\((rcO fs i).A I T).toList[0]?=some (.int .i64 (rcO fs i).kd)):=⟨rfl,rfl⟩
   have HAT:Hid (∀ wx,Below w3.heap.size w3 wx->wx.rangeAt g (i*13) ((rcO fs i).A I T).toList):=fun wx hb=>(hat wx hb).1
   have CT:Hid (Calls Tryz.prog 24 #[.pointer (some ⟨pb,0,none⟩),.agg ((rcO fs i).A I T)] wr fun e w'=>NtO w3 pb (fsP fs (i+1)) e w'):=NoteP_any HP.out (by
    have h1:=fsP_len (fs:=fs) i
    have h2:=fsF_bd HY.out.2.1 i (by rw[Hm.out.1];omega)
    have h3:=(rel_fs HY.out.2.1 i (by rw[Hm.out.1];omega)).k
    have h4:=h2.1.wt
    rw[h3] at h4
    omega) (by have h1:=fsP_len (fs:=fs) i;omega)
   have hSt:=stRc
   have hrel2:=rel_fs HY.out.2.1 (i+1) (by rw[Hm.out.1];omega)
   have h60:(fsF fs (i+1)).K.length<=900:=by have h2:=fsF_bd HY.out.2.1 (i+1) (by rw[Hm.out.1];omega);have:=h2.1.wt;omega
   by_cases hx:(rcO fs i).kd=7
   ·obtain⟨nn,en,hget⟩:=stpF_at (m:=fs.length) (by rw[Hm.out.1];exact hlt) hx
    obtain⟨hl,hge⟩:=List.getElem?_eq_some_iff.1 hget
    obtain⟨sb',e,ak,ck,hst⟩:=HX.out.2.1.cell hl
    cases e
    rw[hge] at hst
    have HST:Hid (∀ wx,Below w3.heap.size w3 wx->wx.cell? ⟨sb,nn,none⟩=some (.slice ak (fsF fs (i+1)).K.length ck)/\Gm.Row wx 69 2 (.slice ak (fsF fs (i+1)).K.length ck) ((fsF fs (i+1)).K.map encC)):=hst
    have hnN:(nn:Int)<(N:Int):=by have:=HN.out;omega
    have hnN3:decide (N<=nn)=false:=decide_eq_false (by omega)
    have HE1:Hid ((fsP fs (i+1)).K=(fsF fs (i+1)).K/\(fsP fs (i+1)).n=(nn:Int)):=⟨hrel2.k.symm,hrel2.n.symm.trans en⟩
    have HK9:Hid ((fsF fs (i+1)).K.length<=900):=h60
    have HKD:Hid (((rcO fs i).A I T).toList[0]?=some (.int .i64 7)):=HRX.out.2.trans (by rw[hx])
    clear hat hone en hget hl hge hst hrel2 h60 hx
    generalize (rcO fs i).A I T=RX at *
    generalize (fsF fs (i+1)).K=KK at *
    go_wp2_with first
     | (refine wpList_load_in hSt (A:=RX) _ rfl _ rfl rfl y2 HRX.out.1 ?_)
     | (go_at_call 24;refine CT.out.mono ?_;rintro e w5 ⟨rfl,vc5,vb5,hp5⟩;have P5:Hid (PlO w3 w5 pb vc5 vb5 (fsP fs (i+1))):=hp5;clear hp5)
    have u1:w5.cell? ⟨g,i*13,none⟩=some (.int .i64 7):=by have:=(HAT.out _ P5.out.bel) 0 _ HKD.out;simpa using this
    have u2:w5.cell? ⟨pb,2,none⟩=some (.int .i64 (nn:Int)):=(P5.out.is.c 2).trans (by rw[HE1.out.2];rfl)
    have u0:w5.cell? ⟨pb,0,none⟩=some vc5:=P5.out.is.c 0
    have u3:w5.cell? ⟨sb,nn,none⟩=some (.slice ak KK.length ck):=(HST.out _ P5.out.bel).1
    have CSm:Hid (∀ n,Calls Tryz.prog 25 #[.slice ak KK.length ck,vc5] (w5.drewN n) fun e w'=>e=.returned (.bool true)/\∃ k,w'=(w5.drewN n).drewN k):=fun n=>by
     have hb:Below w5.heap.size w5 (w5.drewN n):=Sm.below_dr (Below.refl _ _) n
     refine same_q (Rv.of_row ((HST.out _ P5.out.bel).2.bel hb)) (Rv.of_row ?_) (by have:=HK9.out;omega)
     have:=P5.out.rc.bel hb
     rw[HE1.out.1] at this
     exact this
    go_wp2
    go_quiet ((go_at_call 25;refine Calls.quiet_of (CSm.out _)))
    go_wp2
    go_roundg (m-(i+1))
    case measure=>omega
    case rel=>exact⟨i+1,vc5,vb5,by first |rfl |go_num,Nat.le_refl _,by omega,P5.out.below (Sm.below_dr (Below.refl _ _) nq)⟩
   ·have HKD:Hid (((rcO fs i).A I T).toList[0]?=some (.int .i64 (rcO fs i).kd)):=HRX.out.2
    clear hat hone hrel2 h60
    generalize (rcO fs i).A I T=RX at *
    generalize (rcO fs i).kd=kd at *
    have hkd:(kd==7)=false:=by simpa using hx
    go_wp2_with first
     | (refine wpList_load_in hSt (A:=RX) _ rfl _ rfl rfl y2 HRX.out.1 ?_)
     | (go_at_call 24;refine CT.out.mono ?_;rintro e w5 ⟨rfl,vc5,vb5,hp5⟩;have P5:Hid (PlO w3 w5 pb vc5 vb5 (fsP fs (i+1))):=hp5;clear hp5)
    have u1:w5.cell? ⟨g,i*13,none⟩=some (.int .i64 kd):=by have:=(HAT.out _ P5.out.bel) 0 _ HKD.out;simpa using this
    go_wp2
    go_quiet (fail)
    go_wp2
    go_roundg (m-(i+1))
    case measure=>omega
    case rel=>exact⟨i+1,vc5,vb5,by first |rfl |go_num,Nat.le_refl _,by omega,P5.out.below (Sm.below_dr (Below.refl _ _) nq)⟩
  ·obtain rfl:i=m:=by omega
   have hltI:¬ (i:Int)<(i:Int):=by omega
   obtain⟨nf,hnf,hnN⟩:∃ nf:Nat,(fsP fs i).n=(nf:Int)/\(N:Int)=(nf:Int)+1:=by
    have h1:=stpF_n (fs:=fs) fs.length
    have h2:=(fsF_bd HY.out.2.1 fs.length (Nat.le_refl _)).1.n0
    have h3:=(rel_fs HY.out.2.1 fs.length (Nat.le_refl _)).n
    have h4:=HN.out
    have h5:=Hm.out.1
    rw[h5] at h1 h2 h3 h4
    exact⟨(fsF fs i).n.toNat,by omega,by omega⟩
   have u2:wr.cell? ⟨pb,2,none⟩=some (.int .i64 (nf:Int)):=(HP.out.is.c 2).trans (by rw[hnf];rfl)
   have hnf9:nf<=60:=by
    have h1:=fsP_len (fs:=fs) i
    omega
   have hw1:IntKind.i64.wrap ((nf:Int)+1)=(nf:Int)+1:=by rw[IntKind.wrap_i64];omega
   have heq:decide ((N:Int)=(nf:Int)+1)=true:=decide_eq_true hnN
   have B8:Hid (Below w.heap.size w wr):=thn HX.out.2.2 HP.out.bel
   clear hnf
   go_wp2_with first
    | (have:=B8.out;go_at_call 26;refine(CK.out _).mono ?_;rintro e w8 ⟨rfl,b8⟩)
   go_ret
   exact⟨rfl,thn B8.out b8⟩
end
end Go.Proofs.YtdchjncnjgelhaaGreat.Fd
