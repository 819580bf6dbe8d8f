import Derived.Test.YtjlhohljkedbbaaGreatMaq
import Derived.Deep.RegionHeldLaw
import Derived.Test.YtjlhohljkedbbaaGreatMao
import Derived.Maps.RangeWalk
import Derived.Maps.OwnSet
import Derived.Maps.Ext
set_option linter.unusedVariables false
set_option linter.unusedSimpArgs false
set_option maxRecDepth 100000
namespace Go.Proofs.YtjlhohljkedbbaaGreat.Lg
open Go.RowKit Go.Maps Go.ChangeMaps
open Gm (thn bl1 bdr)
section
variable {w w1 w2 wr w':World}{l:Nat}{fs:List ByteArray}{v1 v2 v3:Value}{L1 L2:List Rq.SpL}{a a':Option Addr}{c c':Nat}{ms:List Rm}{a0:Option Addr}{n0 c0:Nat}
theorem below_da (w:World) (o:Obj):Below w.heap.size w ((w.alloc o).drew):=thn (bl1 o) (bdr (Below.refl _ _) 1)
structure S6 (fs:List ByteArray) (en:Int) (w2:World) (i n1 n2:Nat) (a1 a2:Option Addr) (c1 c2:Nat) (ck ep nd:Int) (wr:World):Prop where
 q1:(accM fs spF i).length=n1
 q2:(accM fs (cmF en) i).length=n2
 q3:lstM fs ckF 0 i=ck
 q4:lstM fs ldF (0,0) i=(ep,nd)
 sw:Sw w2 wr (.slice a1 n1 c1) (.slice a2 n2 c2) (accM fs spF i) (accM fs (cmF en) i)
set_option maxHeartbeats 4000000 in
theorem spans15_walk (hr:RsV w a0 n0 ms) (hs:∀ m∈ms,Small m) (hn:n0<=9223372036854775807) (en:Int):Calls Tryz.prog 6 #[.slice a0 n0 c0,.int .i64 en] w fun e w'=>e=.returned (.bool true)/\Below w.heap.size w w':=by
 have CL:Hid (Calls Tryz.prog 16 #[.slice a0 n0 c0,.int .i64 60] w fun e w'=>∃ l,e=.returned (.pointer (some ⟨l,0,none⟩))/\Lm w l w'):=log_any hr hs hn 60 (by omega)
 have CK:Hid (∀ wx,Calls Tryz.prog 21 #[] wx fun e w'=>e=.returned (.bool true)/\Below wx.heap.size wx w'):=fun wx=>Rq.awake15 wx
 have mixed:Tryz.prog.follows .mixedOrders=true:=by kernel_rfl
 clear hr hs hn
 go_enter Tryz.func6,Tryz.ntmps6
 go_wp2_with first
  | (go_at_call 16;refine CL.out.mono ?_;rintro e w1 ⟨l,rfl,HM⟩;have HM1:Hid (Lm w l w1):=HM;clear HM)
  | (go_at_call 17;refine HM1.out.records.mono ?_;rintro e w2 ⟨fs,a,c,a',c',rfl,X⟩;have HX:Hid (RcX w w2 l fs a c a' c'):=X;clear X)
 clear CL HM1
 obtain⟨m,hm⟩:∃ m,fs.length=m:=⟨_,rfl⟩
 have Hm:Hid (fs.length=m/\m<=11600):=⟨hm,by rw[← hm];exact HX.out.len⟩
 rw[hm]
 clear hm
 go_loopw [8,9,10,11,12,13] (fun s8 s9 s10 s11 s12 s13 wr=>∃ (i n1 n2:Nat) (a1 a2:Option Addr) (c1 c2:Nat) (ck ep nd:Int),s13=.int .i64 (i:Int)/\s8=.slice a1 n1 c1/\s9=.slice a2 n2 c2/\s10=.int .i64 ck/\s11=.int .i64 ep/\s12=.int .i64 nd/\i<=m/\S6 fs en w2 i n1 n2 a1 a2 c1 c2 ck ep nd wr) (fun s8 s9 s10 s11 s12 s13 _=>m-(intOf s13).toNat)
 case atStart=>exact⟨0,0,0,none,none,0,0,0,0,0,rfl,rfl,rfl,rfl,rfl,rfl,Nat.zero_le _,rfl,rfl,rfl,rfl,Sw.nil _⟩
 case round =>
  obtain⟨i,n1,n2,a1,a2,c1,c2,ck,ep,nd,rfl,rfl,rfl,rfl,rfl,rfl,him,hS⟩:=hrel
  rename World=>wo
  have HS:Hid (S6 fs en w2 i n1 n2 a1 a2 c1 c2 ck ep nd wo):=hS
  clear hS
  by_cases hlt:i<m
  ·have hltI:(i:Int)<(m:Int):=by omega
   have hmI:m<=11600:=Hm.out.2
   have hif:i<fs.length:=by have:=Hm.out.1;omega
   obtain⟨g,g',rfl,rfl,hat⟩:=HX.out.at_ hif
   have E1:Hid (accM fs spF (i+1)=accM fs spF i++spF (rcd fs i) (pla fs i)):=rfl
   have E2:Hid (accM fs (cmF en) (i+1)=accM fs (cmF en) i++cmF en (rcd fs i) (pla fs i)):=rfl
   have E3:Hid (lstM fs ckF 0 (i+1)=(ckF (rcd fs i) (pla fs i)).getD ck):=by show _=_;rw[← HS.out.q3];rfl
   have E4:Hid (lstM fs ldF (0,0) (i+1)=(ldF (rcd fs i) (pla fs i)).getD (ep,nd)):=by show _=_;rw[← HS.out.q4];rfl
   have HR:Hid (∀ wr,Below w2.heap.size w2 wr->wr.cell? ⟨g,i*13,none⟩=some (.int .i64 (rcd fs i).kd)/\wr.cell? ⟨g,i*13+1,none⟩=some (.int .i64 (rcd fs i).tx)/\wr.cell? ⟨g,i*13+11,none⟩=some (.int .i64 (rcd fs i).ep)/\wr.cell? ⟨g,i*13+12,none⟩=some (.int .i64 (rcd fs i).nd)/\wr.cell? ⟨g',i,none⟩=some (.int .i64 (pla fs i))):=fun wr hb=>by
    obtain⟨q1,q2,q3,q4,q5⟩:=hat wr hb
    exact⟨q1,q2,q3,q4,q5⟩
   have HLn:Hid (n1<=11600/\n2<=11600):=by
    have q1:=acc_len (fs:=fs) spF_len i
    have q2:=acc_len (fs:=fs) (cmF_len en) i
    rw[HS.out.q1] at q1
    rw[HS.out.q2] at q2
    have:=Hm.out.2
    exact⟨by omega,by omega⟩
   have hn1:Hid (∀ s:Rq.SpL,(accM fs spF i++[s]).length=n1+1):=fun s=>by rw[List.length_append,HS.out.q1];rfl
   have hn2:Hid (∀ s:Rq.SpL,(accM fs (cmF en) i++[s]).length=n2+1):=fun s=>by rw[List.length_append,HS.out.q2];rfl
   have hl1:Hid (((accM fs spF i).map Rq.encS).length=n1):=by show _=_;rw[List.length_map,HS.out.q1]
   have hl2:Hid (((accM fs (cmF en) i).map Rq.encS).length=n2):=by show _=_;rw[List.length_map,HS.out.q2]
   clear hat hif
   generalize rcd fs i=s at *
   generalize pla fs i=x at *
   obtain⟨kd,tx,pv,pg,ac,ky,ol,nw,nx,ep',nd'⟩:=s
   obtain⟨k0,k1,k11,k12,kp⟩:=HR.out _ HS.out.sw.bel
   dsimp only at k0 k1 k11 k12
   by_cases hk:kd=10
   ·subst hk
    have F1:Hid (accM fs spF (i+1)=accM fs spF i++[(ep',x)]):=E1.out
    have F2:Hid (accM fs (cmF en) (i+1)=accM fs (cmF en) i):=by show _=_;rw[E2.out,show cmF en ⟨10,tx,pv,pg,ac,ky,ol,nw,nx,ep',nd'⟩ x=[] from if_neg (fun e=>absurd (show(10:Int)=7 from e.1) (by decide)),List.append_nil]
    have F3:Hid (lstM fs ckF 0 (i+1)=ck):=E3.out
    have F4:Hid (lstM fs ldF (0,0) (i+1)=(ep',nd')):=E4.out
    clear E1 E2 E3 E4
    go_wp2
    go_region_held_law (fun wx=>wx.cell? ⟨g,i*13+11,none⟩=some (.int .i64 ep')/\wx.cell? ⟨g',i,none⟩=some (.int .i64 x)) (first |exact⟨k11,kp⟩ |exact⟨j11,jp⟩ |exact⟨(HR.out _ (HS.out.sw.below (below_da _ _)).bel).2.2.1,(HR.out _ (HS.out.sw.below (below_da _ _)).bel).2.2.2.2⟩) ((refine Gm.step_push elSp (A:=#[.int .i64 ep',.int .i64 x]) (L:=(accM fs spF i).map Rq.encS) (v:=.slice a1 n1 c1) (c:=1) rfl (.tmp 40) (.tmp 51) rfl rfl (HS.out.sw.below (below_da _ _)).r1 rfl ((Gm.At.new wo _ _).keep rfl) rfl (Rq.oneI _ _) (by have:=HLn.out.1;have:=hl1.out;omega) ?_;intro a3 d3 w9 A9;rw[hl1.out] at A9 ⊢;have V9:Hid (Sw w2 w9 (.slice a3 (n1+1) d3) (.slice a2 n2 c2) (accM fs spF i++[(ep',x)]) (accM fs (cmF en) i)):=(HS.out.sw.below (below_da _ _)).push1 (s:=(ep',x)) A9;obtain⟨-,-,j11,j12,jp⟩:=HR.out _ V9.out.bel;(try dsimp only at j11 j12);clear A9))
    go_wp2
    go_roundw
    case rel=>exact⟨i+1,n1+1,n2,a3,a2,d3,c2,ck,ep',nd',by first |rfl |go_num,rfl,rfl,rfl,rfl,rfl,by omega,by rw[F1.out];exact hn1.out _,by rw[F2.out];exact HS.out.q2,F3.out,F4.out,by rw[F1.out,F2.out];exact V9.out⟩
    case measure=>simp[intOf];omega
   ·have F1:Hid (accM fs spF (i+1)=accM fs spF i):=by show _=_;rw[E1.out,show spF ⟨kd,tx,pv,pg,ac,ky,ol,nw,nx,ep',nd'⟩ x=[] from if_neg hk,List.append_nil]
    have F4:Hid (lstM fs ldF (0,0) (i+1)=(ep,nd)):=by show _=_;rw[E4.out,show ldF ⟨kd,tx,pv,pg,ac,ky,ol,nw,nx,ep',nd'⟩ x=none from if_neg hk];rfl
    clear E1 E4
    by_cases hk9:kd=9
    ·subst hk9
     have F2:Hid (accM fs (cmF en) (i+1)=accM fs (cmF en) i):=by show _=_;rw[E2.out,show cmF en ⟨9,tx,pv,pg,ac,ky,ol,nw,nx,ep',nd'⟩ x=[] from if_neg (fun e=>absurd (show(9:Int)=7 from e.1) (by decide)),List.append_nil]
     have F3:Hid (lstM fs ckF 0 (i+1)=x):=E3.out
     clear E2 E3 hk
     go_wp2
     go_roundw
     case rel=>exact⟨i+1,n1,n2,a1,a2,c1,c2,x,ep,nd,by first |rfl |go_num,rfl,rfl,rfl,rfl,rfl,by omega,by rw[F1.out];exact HS.out.q1,by rw[F2.out];exact HS.out.q2,F3.out,F4.out,by rw[F1.out,F2.out];exact HS.out.sw⟩
     case measure=>simp[intOf];omega
    ·have F3:Hid (lstM fs ckF 0 (i+1)=ck):=by show _=_;rw[E3.out,show ckF ⟨kd,tx,pv,pg,ac,ky,ol,nw,nx,ep',nd'⟩ x=none from if_neg hk9];rfl
     clear E3
     by_cases hk7:kd=7
     ·subst hk7
      by_cases hx:x<en
      ·have F2:Hid (accM fs (cmF en) (i+1)=accM fs (cmF en) i++[(tx,x)]):=by show _=_;rw[E2.out,show cmF en ⟨7,tx,pv,pg,ac,ky,ol,nw,nx,ep',nd'⟩ x=[(tx,x)] from if_pos ⟨rfl,hx⟩]
       clear E2 hk hk9
       go_wp2
       go_region_held_law (fun wx=>wx.cell? ⟨g,i*13+1,none⟩=some (.int .i64 tx)/\wx.cell? ⟨g',i,none⟩=some (.int .i64 x)) (first |exact⟨k1,kp⟩ |exact⟨j1,jp⟩ |exact⟨(HR.out _ (HS.out.sw.below (below_da _ _)).bel).2.1,(HR.out _ (HS.out.sw.below (below_da _ _)).bel).2.2.2.2⟩) ((refine Gm.step_push elAc (A:=#[.int .i64 tx,.int .i64 x]) (L:=(accM fs (cmF en) i).map Rq.encS) (v:=.slice a2 n2 c2) (c:=1) rfl (.tmp 77) (.tmp 88) rfl rfl (HS.out.sw.below (below_da _ _)).r2 rfl ((Gm.At.new wo _ _).keep rfl) rfl (Rq.oneI _ _) (by have:=HLn.out.2;have:=hl2.out;omega) ?_;intro a3 d3 w9 A9;rw[hl2.out] at A9 ⊢;have V9:Hid (Sw w2 w9 (.slice a1 n1 c1) (.slice a3 (n2+1) d3) (accM fs spF i) (accM fs (cmF en) i++[(tx,x)])):=(HS.out.sw.below (below_da _ _)).push2 (s:=(tx,x)) A9;obtain⟨-,j1,-,-,jp⟩:=HR.out _ V9.out.bel;(try dsimp only at j1);clear A9))
       go_wp2
       go_roundw
       case rel=>exact⟨i+1,n1,n2+1,a1,a3,c1,d3,ck,ep,nd,by first |rfl |go_num,rfl,rfl,rfl,rfl,rfl,by omega,by rw[F1.out];exact HS.out.q1,by rw[F2.out];exact hn2.out _,F3.out,F4.out,by rw[F1.out,F2.out];exact V9.out⟩
       case measure=>simp[intOf];omega
      ·have F2:Hid (accM fs (cmF en) (i+1)=accM fs (cmF en) i):=by show _=_;rw[E2.out,show cmF en ⟨7,tx,pv,pg,ac,ky,ol,nw,nx,ep',nd'⟩ x=[] from if_neg (fun e=>hx e.2),List.append_nil]
       clear E2 hk hk9
       go_wp2
       go_roundw
       case rel=>exact⟨i+1,n1,n2,a1,a2,c1,c2,ck,ep,nd,by first |rfl |go_num,rfl,rfl,rfl,rfl,rfl,by omega,by rw[F1.out];exact HS.out.q1,by rw[F2.out];exact HS.out.q2,F3.out,F4.out,by rw[F1.out,F2.out];exact HS.out.sw⟩
       case measure=>simp[intOf];omega
     ·have F2:Hid (accM fs (cmF en) (i+1)=accM fs (cmF en) i):=by show _=_;rw[E2.out,show cmF en ⟨kd,tx,pv,pg,ac,ky,ol,nw,nx,ep',nd'⟩ x=[] from if_neg (fun e=>hk7 e.1),List.append_nil]
      clear E2
      go_wp2
      go_roundw
      case rel=>exact⟨i+1,n1,n2,a1,a2,c1,c2,ck,ep,nd,by first |rfl |go_num,rfl,rfl,rfl,rfl,rfl,by omega,by rw[F1.out];exact HS.out.q1,by rw[F2.out];exact HS.out.q2,F3.out,F4.out,by rw[F1.out,F2.out];exact HS.out.sw⟩
      case measure=>simp[intOf];omega
  ·obtain rfl:i=m:=by omega
   have hltI:¬ (i:Int)<(i:Int):=by omega
   have HE:Hid (Ew w wo l fs (.slice a1 n1 c1) (.slice a2 n2 c2) (.slice none 0 0) (accM fs spF i) (accM fs (cmF en) i) []):=HX.out.ew HS.out.sw
   have FS:Hid (∀ wx v1 v2,Ew w wx l fs v1 v2 (.slice none 0 0) (accM fs spF i) (accM fs (cmF en) i) []->Calls Tryz.prog 24 #[.pointer (some ⟨l,0,none⟩)] wx fun e w'=>∃ a c,e=.returned (.slice a n1 c)/\Ew w w' l fs v1 v2 (.slice a n1 c) (accM fs spF i) (accM fs (cmF en) i) (accM fs spF i)):=fun wx v1 v2 h=>by
    have:=h.spans
    rw[Hm.out.1,HS.out.q1] at this
    exact this
   have FL:Hid (∀ wx v1 v2 v3,Ew w wx l fs v1 v2 v3 (accM fs spF i) (accM fs (cmF en) i) (accM fs spF i)->Calls Tryz.prog 25 #[.pointer (some ⟨l,0,none⟩)] wx fun e w'=>e=.returned (.tuple #[.int .i64 ep,.int .i64 nd])/\Ew w w' l fs v1 v2 v3 (accM fs spF i) (accM fs (cmF en) i) (accM fs spF i)):=fun wx v1 v2 v3 h=>by
    have:=h.leader
    rw[Hm.out.1,HS.out.q4] at this
    exact this
   have FC:Hid (∀ wx v1 v2 v3,Ew w wx l fs v1 v2 v3 (accM fs spF i) (accM fs (cmF en) i) (accM fs spF i)->Calls Tryz.prog 26 #[.pointer (some ⟨l,0,none⟩)] wx fun e w'=>e=.returned (.int .i64 ck)/\Ew w w' l fs v1 v2 v3 (accM fs spF i) (accM fs (cmF en) i) (accM fs spF i)):=fun wx v1 v2 v3 h=>by
    have:=h.check
    rw[Hm.out.1,HS.out.q3] at this
    exact this
   have FM:Hid (∀ wx v1 v2 v3,Ew w wx l fs v1 v2 v3 (accM fs spF i) (accM fs (cmF en) i) (accM fs spF i)->Calls Tryz.prog 27 #[.pointer (some ⟨l,0,none⟩),.int .i64 en] wx fun e w'=>∃ a c,e=.returned (.slice a n2 c)/\Below w.heap.size w w'/\Rq.Sp w' (.slice a n2 c) (accM fs (cmF en) i)/\Rq.Sp w' v2 (accM fs (cmF en) i)):=fun wx v1 v2 v3 h=>by
    have:=h.commits en
    rw[Hm.out.1,HS.out.q2] at this
    exact this
   have hq1:Hid ((accM fs spF i).length=n1/\n1<=11600):=⟨HS.out.q1,by
    have q2:=acc_len (fs:=fs) spF_len i
    rw[HS.out.q1] at q2
    have:=Hm.out.2
    omega⟩
   have hq2:Hid ((accM fs (cmF en) i).length=n2/\n2<=100000):=⟨HS.out.q2,by
    have q2:=acc_len (fs:=fs) (cmF_len en) i
    rw[HS.out.q2] at q2
    have:=Hm.out.2
    omega⟩
   clear HS HX Hm him hlt
   generalize accM fs spF i=L1 at *
   generalize accM fs (cmF en) i=L2 at *
   go_wp2_with (go_at_call 24;refine(FS.out _ _ _ HE.out).mono ?_;rintro e w4 ⟨a3,c3,rfl,E4⟩;have HE4:Hid (Ew w w4 l fs (.slice a1 n1 c1) (.slice a2 n2 c2) (.slice a3 n1 c3) L1 L2 L1):=E4;clear E4)
   clear HE FS
   go_loopw [15] (fun s15 wr=>∃ k:Nat,s15=.int .i64 (k:Int)/\k<=n1/\Ew w wr l fs (.slice a1 n1 c1) (.slice a2 n2 c2) (.slice a3 n1 c3) L1 L2 L1) (fun s15 _=>n1-(intOf s15).toNat)
   case atStart=>exact⟨0,rfl,Nat.zero_le _,HE4.out⟩
   case round =>
    clear HE4
    obtain⟨k,rfl,hk,hE⟩:=hrel
    rename World=>wi
    have HE:Hid (Ew w wi l fs (.slice a1 n1 c1) (.slice a2 n2 c2) (.slice a3 n1 c3) L1 L2 L1):=hE
    clear hE
    have hnI:n1<=11600:=hq1.out.2
    by_cases hkl:k<n1
    ·have hkI:(k:Int)<(n1:Int):=by omega
     have hk1:k<L1.length:=by have:=hq1.out.1;omega
     obtain⟨g,o,rfl,_,c0,c1'⟩:=(Rq.Sp.of_row HE.out.r1).at_ hk1
     obtain⟨g',o',rfl,_,e0,e1⟩:=(Rq.Sp.of_row HE.out.r3).at_ hk1
     have d0:wi.drew.cell? ⟨g,o+k*2,none⟩=some (.int .i64 L1[k].1):=c0
     have d1:wi.drew.cell? ⟨g,o+k*2+1,none⟩=some (.int .i64 L1[k].2):=c1'
     have f0:wi.drew.cell? ⟨g',o'+k*2,none⟩=some (.int .i64 L1[k].1):=e0
     have f1:wi.drew.cell? ⟨g',o'+k*2+1,none⟩=some (.int .i64 L1[k].2):=e1
     have heq:∀ wx,(binOp .neq 62 (.agg #[.int .i64 L1[k].1,.int .i64 L1[k].2]) (.agg #[.int .i64 L1[k].1,.int .i64 L1[k].2])).run Tryz.prog wx=.ok (.bool false) wx:=fun wx=>neqS wx _ _
     generalize L1[k].1=ka at *
     generalize L1[k].2=kb at *
     go_wp2_with fail
     go_big_region
     all_goals go_wp2
     go_roundw
     case rel=>exact⟨k+1,by first |rfl |go_num,by omega,HE.out.below (bdr (Below.refl _ _) 1)⟩
     case measure=>simp[intOf];omega
    ·have hkI:¬ (k:Int)<(n1:Int):=by omega
     go_wp2_with first
      | (go_at_call 25;refine(FL.out _ _ _ _ HE.out).mono ?_;rintro e w5 ⟨rfl,E5⟩;have HE5:Hid (Ew w w5 l fs (.slice a1 n1 c1) (.slice a2 n2 c2) (.slice a3 n1 c3) L1 L2 L1):=E5;clear E5)
      | (go_at_call 26;refine(FC.out _ _ _ _ HE5.out).mono ?_;rintro e w6 ⟨rfl,E6⟩;have HE6:Hid (Ew w w6 l fs (.slice a1 n1 c1) (.slice a2 n2 c2) (.slice a3 n1 c3) L1 L2 L1):=E6;clear E6)
      | (go_at_call 27;refine(FM.out _ _ _ _ HE6.out).mono ?_;rintro e w7 ⟨a4,c4,rfl,b7,s4,s2⟩;have B7:Hid (Below w.heap.size w w7/\Rq.Sp w7 (.slice a4 n2 c4) L2/\Rq.Sp w7 (.slice a2 n2 c2) L2):=⟨b7,s4,s2⟩;clear b7 s4 s2)
      | (go_at_call 19;refine(same_any B7.out.2.1 B7.out.2.2 hq2.out.1 hq2.out.2).mono ?_;rintro e w8 ⟨rfl,b8⟩;have B8:Hid (Below w.heap.size w w8):=thn B7.out.1 b8;clear b8)
      | (go_at_call 21;refine(CK.out _).mono ?_;rintro e w9 ⟨rfl,b9⟩;have B9:Hid (Below w.heap.size w w9):=thn B8.out b9;clear b9)
     go_ret
     exact⟨rfl,B9.out⟩
end
end Go.Proofs.YtjlhohljkedbbaaGreat.Lg
namespace Go.Proofs.YtjlhohljkedbbaaGreat.Gm
open Go.RowKit Go.Maps Go.ChangeMaps
def hdR (v:Value):Option (DataW Value × List MemPlace):=some (.held v,[])
def updL (f:Lit->Option Value) (l:Lit) (x:Option Value):Lit->Option Value:=fun j=>if j.sameKey l then x else f j
theorem updL_same (f:Lit->Option Value) {l:Lit} (hl:WideAt.IsKeyLit l) (x:Option Value):updL f l x l=x:=by simp[updL,WideAt.sameKey_self hl]
theorem updL_other (f:Lit->Option Value) {l j:Lit} (x:Option Value) (h:j≠l):updL f l x j=f j:=by simp[updL,sameKey_ne h]
structure MpV (D:DataW Value) (f:Lit->Option Value):Prop where
 has:∀ l,Maps.has D l=(f l).isSome
 at_:∀ l v,f l=some v->∀ z,D.atKey l z=.held v
structure Mp (w:World) (kt:TypeId) (b n:Nat) (f:Lit->Option Value):Prop where
 ex:∃ D,w.ownsMap Tryz.prog kt hdR b n D/\Maps.size D=n/\MpV D f
section
variable {w w':World}{kt t e:TypeId}{b n:Nat}{f g:Lit->Option Value}{W W':Nat->Prop}
theorem Mp.ext (h:Mp w kt b n f) (he:∀ l,g l=f l):Mp w kt b n g:=by
 have:g=f:=funext he
 rw[this];exact h
theorem MpV.put {D:DataW Value} (h:MpV D f) (hD:IsMap D) {l:Lit} (hl:WideAt.IsKeyLit l) (v:Value):MpV (D.put l (.held v)) (updL f l (some v)):=by
 refine⟨fun j=>?_,fun j c hj z=>?_⟩
 ·by_cases e:j=l
  ·subst e;rw[updL_same _ hl,has_put_same hD hl];rfl
  ·rw[updL_other _ _ e,has_put_other e,h.has]
 ·by_cases e:j=l
  ·subst e;rw[updL_same _ hl] at hj;cases hj;rw[atKey_put_same hD hl]
  ·rw[updL_other _ _ e] at hj;rw[atKey_put_other e];exact h.at_ j c hj z
theorem MpV.del {D:DataW Value} (h:MpV D f) {l:Lit} (hl:WideAt.IsKeyLit l):MpV (D.del l) (updL f l none):=by
 refine⟨fun j=>?_,fun j c hj z=>?_⟩
 ·by_cases e:j=l
  ·subst e;rw[updL_same _ hl,has_del_same];rfl
  ·rw[updL_other _ _ e,has_del_other e,h.has]
 ·by_cases e:j=l
  ·subst e;rw[updL_same _ hl] at hj;cases hj
  ·rw[updL_other _ _ e] at hj;rw[atKey_del_other e];exact h.at_ j c hj z
theorem owns_exact {m:Nat} {D:DataW Value} (h:w.ownsMap Tryz.prog kt hdR b m D):w.ownsMap Tryz.prog kt hdR b (Maps.size D) D:=by
 obtain⟨es,cl,h1,h2,h3,rfl⟩:=h
 refine⟨es,cl,h1,h2,?_,rfl⟩
 simp[Maps.size,length_sorted]
theorem Mp.of {m:Nat} {D:DataW Value} (h:w.ownsMap Tryz.prog kt hdR b m D) (hf:MpV D f) (hn:Maps.size D=n):Mp w kt b n f:=by
 subst hn;exact⟨D,owns_exact h,rfl,hf⟩
theorem Mp.lt (h:Mp w kt b n f):b<w.heap.size:=by obtain⟨D,h,_⟩:=h.ex;exact h.lt
theorem Mp.keep (h:Mp w kt b n f) (hb:w'.heap[b]?=w.heap[b]?):Mp w' kt b n f:=by
 obtain⟨D,⟨es,cl,h1,h2,h3,h4⟩,hv⟩:=h.ex
 exact⟨D,⟨es,cl,hb.trans h1,h2,h3,h4⟩,hv⟩
theorem Mp.bel (h:Mp w kt b n f) (hb:Below w.heap.size w w'):Mp w' kt b n f:=h.keep (hb.block b h.lt)
theorem Mp.fr (h:Mp w kt b n f) (hf:Fr W W' w w') (hn:¬ W b):Mp w' kt b n f:=h.keep (hf.blk b h.lt hn)
theorem Mp.made (w:World) (kt:TypeId):Mp (w.alloc (.map #[] 0)) kt w.heap.size 0 (fun _=>none):=⟨_,World.ownsMap_made _ _ _ _,rfl,fun l=>rfl,fun l v h=>by cases h⟩
theorem Mp.blk (h:Mp w kt b n f):∃ es cl,w.heap[b]?=some (.map es cl):=by obtain⟨D,⟨es,cl,h1,_⟩,_⟩:=h.ex;exact⟨es,cl,h1⟩
theorem Mp.ne {A:Array Value} {c:Nat} (h:Mp w kt b n f) (hc:At w c t A):b≠c:=fun e2=>by
 obtain⟨es,cl,h1⟩:=h.blk
 rw[e2,hc.blk] at h1
 cases h1
theorem turned_off {b:Nat} (h:w.mapTurned w' b):∀ j,j≠b->w'.heap[j]?=w.heap[j]?:=fun j hj=>by
 obtain⟨es,cl,es',cl',h1,rfl⟩:=h
 exact heap_setBlock_other h1 _ hj
theorem turned_fr (h:w.mapTurned w' b) (hW:W b):Fr W W w w':=Fr.grown h.grown fun g e=>by cases e;exact hW
theorem Mp.look1 (h:Mp w kt b n f) (K:Keyed Tryz.prog kt) (ht:Tryz.prog.underlying t=some (.map kt e)) {z:Value} (hz:(zeroValue e).run Tryz.prog w=.ok z w) {key:Value} {l:Lit} (hk:keyOf Tryz.prog kt key=some l) :
  (Instr.lookup t (.map (some b)) key false).run Tryz.prog w=.ok ((f l).getD z) w:=by
 obtain⟨D,ho,_,hv⟩:=h.ex
 obtain⟨v,ps,hrun,hR⟩:=ho.lookup K ht hz (show hdR z=some (.held z,[]) from rfl) hk
 rw[hrun]
 simp only[hdR,Option.some.injEq,Prod.mk.injEq] at hR
 cases hf:f l with
 | none =>
  rw[atKey_of_not_has (by rw[hv.has,hf];rfl)] at hR
  injection hR.1 with h1
  rw[h1];rfl
 | some c =>
  rw[hv.at_ l c hf] at hR
  injection hR.1 with h1
  rw[h1];rfl
theorem Mp.tidy (h:Mp w kt b n f) (K:Keyed Tryz.prog kt):∃ D,w.ownsMap Tryz.prog kt hdR b n D/\Maps.size D=n/\MpV D f/\Tidy D:=by
 obtain⟨D,ho,hn,hv⟩:=h.ex
 exact⟨D,ho,hn,hv,ho.tidy K⟩
theorem Mp.store (h:Mp w kt b n f) (K:Keyed Tryz.prog kt) (ht:Tryz.prog.underlying t=some (.map kt e)) (hn:n<10000000000000) {key:Value} {l:Lit} (hk:keyOf Tryz.prog kt key=some l) (v:Value) :
  ∃ w',(Instr.mapUpdate t (.map (some b)) key v).run Tryz.prog w=.ok () w'/\Mp w' kt b (if(f l).isSome then n else n+1) (updL f l (some v))/\w.mapTurned w' b:=by
 obtain⟨D,ho,hs,hv,hd⟩:=h.tidy K
 obtain⟨w',h1,h2,h3⟩:=ho.store K ht (by unfold maxLen;omega) hk (show hdR v=some (.held v,[]) from rfl)
 refine⟨w',h1,Mp.of h2 (hv.put ho.isMap (K.key hk) v) ?_,h3⟩
 rw[size_put hd,hv.has,hs]
theorem Mp.drop (h:Mp w kt b n f) (K:Keyed Tryz.prog kt) (ht:Tryz.prog.underlying t=some (.map kt e)) {key:Value} {l:Lit} (hk:keyOf Tryz.prog kt key=some l) (ty:TypeId) :
  ∃ w',(Builtin.delete_ #[t,kt] ty #[.map (some b),key]).run Tryz.prog w=.ok (.tuple #[]) w'/\Mp w' kt b (if(f l).isSome then n-1 else n) (updL f l none)/\w.mapTurned w' b:=by
 obtain⟨D,ho,hs,hv,hd⟩:=h.tidy K
 obtain⟨w',h1,h2,h3⟩:=ho.drop K ht hk ty
 refine⟨w',h1,Mp.of h2 (hv.del (K.key hk)) ?_,h3⟩
 have:=size_del (k:=l) hd
 rw[hv.has,hs] at this
 split at this <;> split <;> first |omega |simp_all
end
section
variable {ops:Array Oper}{rest:List Oper}{o:Oper}{a:Act}{Q:Exit->Act->World->Prop}{kt t e:TypeId}{b n:Nat}{f:Lit->Option Value}
theorem wpList_store_mp (w:World) (hg:o.guard=none) (m x v:Operand) (hop:o.op=Op.mapUpdate t m x v) (K:Keyed Tryz.prog kt) (ht:Tryz.prog.underlying t=some (.map kt e)) (hn:n<10000000000000) (hm:a.eval m=.map (some b)) (h:Mp w kt b n f) {key u:Value} {l:Lit} (hx:a.eval x=key) (hv:a.eval v=u) (hk:keyOf Tryz.prog kt key=some l)
  (hK:∀ w',Mp w' kt b (if(f l).isSome then n else n+1) (updL f l (some u))->w.mapTurned w' b->wpList Tryz.prog ops Q rest (a.put o.dst undef) w'):wpList Tryz.prog ops Q (o ::rest) a w:=by
 refine wpList_plain hg fun K' hK'=>?_
 obtain⟨w',hrun,r1,r2⟩:=h.store K ht hn hk u
 unfold Oper.wp
 simp[execOp,hop,hm,hx,hv,hrun,Result.andThen]
 exact hK' _ _ (hK w' r1 r2)
theorem wpList_drop_mp (w:World) (hg:o.guard=none) (m x:Operand) (hop:o.op=Op.call {callee:=Callee.builtin Builtin.delete,args:=#[m,x],argTypes:=#[t,kt]}) (K:Keyed Tryz.prog kt) (ht:Tryz.prog.underlying t=some (.map kt e)) (hm:a.eval m=.map (some b)) (h:Mp w kt b n f) {key:Value} {l:Lit} (hx:a.eval x=key) (hk:keyOf Tryz.prog kt key=some l)
  (hK:∀ w',Mp w' kt b (if(f l).isSome then n-1 else n) (updL f l none)->w.mapTurned w' b->wpList Tryz.prog ops Q rest (a.put o.dst (.tuple #[])) w'):wpList Tryz.prog ops Q (o ::rest) a w:=by
 refine wpList_plain hg fun K' hK'=>?_
 obtain⟨w',hrun,r1,r2⟩:=h.drop K ht hk o.type
 unfold Oper.wp
 simp[execOp,hop,resolve,invoke,builtin,hm,hx,hrun,Result.andThen]
 exact hK' _ _ (hK w' r1 r2)
end
end Go.Proofs.YtjlhohljkedbbaaGreat.Gm
