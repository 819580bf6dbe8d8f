import Derived.Test.YtpcnjncgilmehabGreatMbf
import Derived.Defers
set_option linter.unusedVariables false
set_option linter.unusedSimpArgs false
set_option maxRecDepth 100000
namespace Go.Proofs.YtpcnjncgilmehabGreat.Tr
open Go.RowKit Go.Maps Go.ChangeMaps
section
variable {W W' W0:Nat->Prop}{w w':World}{tb mb m:Nat}{X:Ad}{k:Nat}{C:Cf}{st:Nat->Option Nat}{mk:Int}{wh:Nat->Option Nat}
theorem Tt.set (h:Tt W w tb X k C st mk wh) (hk:k<=280000000000) (id:Nat) (hid:id<C.ps) (r:Nat) (hr:1<=r/\r<=(cat C.fs).size/\C.lo id<=r) (hpv:C.pv id r=st id) (hst:∀ r0,st id=some r0->r0<=r):Calls Tryz.prog 43 #[.pointer (some ⟨X.pb,0,none⟩),.int .i64 (id:Int),.string (C.T id r),.int .i64 (r:Int)] w fun e w'=>e=.returned (.int .i64 0)/\∃ W',Tt W' w' tb X (k+8006) C (upd st id (some r)) mk wh/\Fr W W' w w':=by
 obtain⟨W0,mb,m,h0,hW⟩:=h.ex
 refine(h0.pe.set (by omega) id hid (Or.inl (fun _=>rfl)) r hr hpv hst).mono ?_
 rintro e w' ⟨rfl,W1,p1,f1⟩
 exact⟨rfl,_,⟨W1,mb,m,h0.fr p1 f1 (by omega) rfl,fun j=>Iff.rfl⟩,h0.wide hW f1⟩
theorem Tt.c0 (h:Tt W w tb X k C st mk wh):w.cell? ⟨tb,0,none⟩=some (.pointer (some ⟨X.pb,0,none⟩)):=by obtain⟨W0,mb,m,h0,hW⟩:=h.ex;exact h0.c0
theorem Tt.made (h:Tt W w tb X k C st mk wh):Calls Tryz.prog 28 #[.pointer (some ⟨tb,0,none⟩)] w fun e w'=>e=.returned (.bool true)/\w'=w:=by obtain⟨W0,mb,m,h0,hW⟩:=h.ex;exact isMade_tt h0
theorem cb_fr {b:Nat} {x y:ByteArray} (h:Pg.Cb w b x y) (hf:Fr W W' w w') (hn:¬ W b):Pg.Cb w' b x y:=h.of_block (hf.blk b h.lt hn)
set_option maxHeartbeats 1000000 in
theorem Tt.change (h:Tt W w tb X k C st mk wh) (hk:k<=270000000000) (id:Nat) (hid:id<C.ps) (hne:(Vw C st id).size≠0) (act:Int) (hact:act=3∨act=4∨act=5) (c:Cl) (r:Nat) (t:ByteArray) (y:Int) (CT:∀ wx,Calls Tryz.prog 42 #[.string (Vw C st id),.int .i64 act,.agg #[.string c.k,.string c.v]] wx fun e w'=>e=.returned (.tuple #[.string t,.int .i64 y])/\Below wx.heap.size wx w')
  (hok:y=0->t=C.T id r/\(1<=r/\r<=(cat C.fs).size/\C.lo id<=r)/\C.pv id r=st id/\∀ r0,st id=some r0->r0<=r) :
  Calls Tryz.prog 12 #[.pointer (some ⟨tb,0,none⟩),.int .i64 (id:Int),.int .i64 (r:Int),.int .i64 act,.agg #[.string c.k,.string c.v]] w fun e w'=>e=.returned (.int .i64 y)/\∃ W',Tt W' w' tb X (k+16012) C (if y=0 then upd st id (some r) else st) mk wh/\Fr W W' w w':=by
 have CM:Hid (∀ wx,Tt W wx tb X k C st mk wh->Calls Tryz.prog 28 #[.pointer (some ⟨tb,0,none⟩)] wx fun e w'=>e=.returned (.bool true)/\w'=wx):=fun wx hx=>hx.made
 have CS:Hid (∀ wx,Tt W wx tb X k C st mk wh->Calls Tryz.prog 41 #[.pointer (some ⟨tb,0,none⟩)] wx fun e w'=>e=.returned (.int .i64 0)/\Tt W w' tb X k C st mk wh/\Fr W W wx w'):=fun wx hx=>hx.settle0
 have CK:Hid (∀ wx,Tt W wx tb X k C st mk wh->Calls Tryz.prog 35 #[.pointer (some ⟨tb,0,none⟩),.int .i64 (id:Int)] wx fun e w'=>e=.returned (.tuple #[.string (Vw C st id),.int .i64 0])/\∃ W',Tt W' w' tb X (k+8006) C st mk wh/\Fr W W' wx w'):=fun wx hx=>hx.known (by omega) id hid hne
 have CT':Hid (∀ wx,Calls Tryz.prog 42 #[.string (Vw C st id),.int .i64 act,.agg #[.string c.k,.string c.v]] wx fun e w'=>e=.returned (.tuple #[.string t,.int .i64 y])/\Below wx.heap.size wx w'):=CT
 have CP:Hid (y=0->∀ wx W',Tt W' wx tb X (k+8006) C st mk wh->Calls Tryz.prog 43 #[.pointer (some ⟨X.pb,0,none⟩),.int .i64 (id:Int),.string t,.int .i64 (r:Int)] wx fun e w'=>e=.returned (.int .i64 0)/\∃ W2,Tt W2 w' tb X (k+16012) C (upd st id (some r)) mk wh/\Fr W' W2 wx w'):=fun hy wx W' hx=>by
  obtain⟨rfl,q1,q2,q3⟩:=hok hy
  exact hx.set (by omega) id hid r q1 q2 q3
 have H0:Hid (Tt W w tb X k C st mk wh):=h
 have HLT:Hid (∀ j,W j->j<w.heap.size):=fun j hj=>h.lt hj
 clear h hne CT hok
 generalize Vw C st id=t0 at *
 have hb3:(act !=3&&act !=4&&act !=5)=false:=by rcases hact with rfl |rfl |rfl <;> rfl
 by_cases hy:y=0
 ·subst hy
  have CP':Hid (∀ wx W',Tt W' wx tb X (k+8006) C st mk wh->Calls Tryz.prog 43 #[.pointer (some ⟨X.pb,0,none⟩),.int .i64 (id:Int),.string t,.int .i64 (r:Int)] wx fun e w'=>e=.returned (.int .i64 0)/\∃ W2,Tt W2 w' tb X (k+16012) C (upd st id (some r)) mk wh/\Fr W' W2 wx w'):=CP.out rfl
  clear CP
  rcases hact with rfl |rfl |rfl
  all_goals
   go_enter Tryz.func12,Tryz.ntmps12
   go_wp2_with (first
    | (refine Pg.wpList_box_cb _ rfl _ rfl rfl ?_;intro w1 b1 n1;have T1:Hid _:=H0.out.below n1.below)
    | (go_at_call 28;refine(CM.out _ T1.out).mono ?_;rintro e w2 ⟨rfl,rfl⟩)
    | (go_at_call 41;refine(CS.out _ T1.out).mono ?_;rintro e w3 ⟨rfl,t3,f3⟩;have HB:Hid (¬ W b1):=(fun e=>absurd (HLT.out _ e) (by have:=n1.le;omega):¬ W b1);have T3:Hid _:=t3;have F3:Hid _:=f3;have N3:Hid _:=cb_fr n1.cb f3 HB.out;clear t3 f3)
    | (go_at_call 35;refine(CK.out _ T3.out).mono ?_;rintro e w4 ⟨rfl,W4,t4,f4⟩;have T4:Hid _:=t4;have F4:Hid _:=f4;have N4:=cb_fr N3.out f4 HB.out;have k0:=N4.c0;have k1:=N4.c1;clear t4 f4 N4)
    | (go_at_call 42;refine(CT'.out _).mono ?_;rintro e w5 ⟨rfl,b5⟩;have T5:Hid _:=T4.out.below b5;have c5:=T5.out.c0)
    | (go_at_call 43;refine(CP'.out _ W4 T5.out).mono ?_;rintro e w6 ⟨rfl,W6,t6,f6⟩;have T6:Hid _:=t6;have F6:Hid _:=f6;clear t6 f6))
   go_ret
   exact⟨rfl,W6,T6.out,(Fr.of_below n1.below W).trans (F3.out.trans ((F4.out.below b5).trans F6.out))⟩
 ·clear CP
  rw[if_neg hy]
  rcases hact with rfl |rfl |rfl
  all_goals
   go_enter Tryz.func12,Tryz.ntmps12
   go_wp2_with (first
    | (refine Pg.wpList_box_cb _ rfl _ rfl rfl ?_;intro w1 b1 n1;have T1:Hid _:=H0.out.below n1.below)
    | (go_at_call 28;refine(CM.out _ T1.out).mono ?_;rintro e w2 ⟨rfl,rfl⟩)
    | (go_at_call 41;refine(CS.out _ T1.out).mono ?_;rintro e w3 ⟨rfl,t3,f3⟩;have HB:Hid (¬ W b1):=(fun e=>absurd (HLT.out _ e) (by have:=n1.le;omega):¬ W b1);have T3:Hid _:=t3;have F3:Hid _:=f3;have N3:Hid _:=cb_fr n1.cb f3 HB.out;clear t3 f3)
    | (go_at_call 35;refine(CK.out _ T3.out).mono ?_;rintro e w4 ⟨rfl,W4,t4,f4⟩;have T4:Hid _:=t4;have F4:Hid _:=f4;have N4:=cb_fr N3.out f4 HB.out;have k0:=N4.c0;have k1:=N4.c1;clear t4 f4 N4)
    | (go_at_call 42;refine(CT'.out _).mono ?_;rintro e w5 ⟨rfl,b5⟩;have T5:Hid _:=T4.out.below b5))
   go_ret
   exact⟨rfl,W4,T5.out.mono (by omega),(Fr.of_below n1.below W).trans (F3.out.trans (F4.out.below b5))⟩
end
def stA (st:Nat->Option Nat) (im:Ims) (r:Nat):Nat->Option Nat:=fun d=>if d∈im.map (·.1) then some r else st d
theorem stA_nil (st:Nat->Option Nat) (r:Nat):stA st [] r=st:=by funext d;simp[stA]
theorem stA_snoc (st:Nat->Option Nat) (im:Ims) (q:Nat × ByteArray) (r:Nat):upd (stA st im r) q.1 (some r)=stA st (im++[q]) r:=by
 funext d
 unfold upd stA
 by_cases e:d=q.1
 ·subst e;simp
 ·rw[if_neg e]
  simp only[List.map_append,List.map_cons,List.map_nil,List.mem_append,List.mem_singleton,e,or_false]
theorem stA_not {st:Nat->Option Nat} {im:Ims} {r d:Nat} (h:d ∉ im.map (·.1)):stA st im r d=st d:=by unfold stA;rw[if_neg h]
def lateN (w:World) (tb:Nat):Nat:=match w.cell? ⟨tb,4,none⟩ with
 | some (.slice _ n _)=>n
 | _=>0
abbrev Al (W0:Nat->Prop) (tb mb:Nat):Nat->Prop:=fun j=>W0 j∨j=tb∨j=mb
section
variable {W W0:Nat->Prop}{w w':World}{tb mb m:Nat}{la:Value}{X:Ad}{k:Nat}{C:Cf}{st:Nat->Option Nat}{pn:Nat->Nat}{mk:Int}{wh:Nat->Option Nat}{im:Ims}{a:Option Addr}{n cap:Nat}
theorem T0.lateN_ (h:T0 W0 mb m (.slice a n cap) w tb X k C st pn mk wh):lateN w tb=n:=by unfold lateN;rw[h.c4]
structure Sbl (C:Cf) (st:Nat->Option Nat) (pn:Nat->Nat) (wh:Nat->Option Nat) (r:Nat) (p:Nat × ByteArray):Prop where
 id:p.1<C.ps
 pin:(∀ d,pn d=0)∨pn p.1≠0
 wh:wh p.1=some r
 tx:p.2=C.T p.1 r
 r1:1<=r/\r<=(cat C.fs).size/\C.lo p.1<=r
 pv:C.pv p.1 r=st p.1
 st:∀ r0,st p.1=some r0->r0<=r
theorem ImV.tail {q:Nat × ByteArray} {cap:Nat} (h:ImV W w (.slice a (im.length+1) cap) (q ::im)):∃ bk off,a=some ⟨bk,off,none⟩/\im.length+1<=cap/\w.cell? ⟨bk,off,none⟩=some (.int .i64 (q.1:Int))/\w.cell? ⟨bk,off+1,none⟩=some (.string q.2)/\ImV W w (.slice (some ⟨bk,off+2,none⟩) im.length (cap-1)) im/\ImV W w (.slice (some ⟨bk,off,none⟩) 0 0) []:=by
 obtain⟨a2,cap2,e2,h2,h3,h4,h5⟩:=h.ex
 injection e2 with e3 e4 e5
 subst e3 e5
 obtain⟨bk,off,e,q0,q1,q2⟩:=h2.at_ 0 (by rw[encI_length,imI_length];simp)
 subst e
 simp only[List.length_cons] at h4
 have h6:=h5 _ rfl
 refine⟨bk,off,rfl,h4,by simpa[encI,imI] using q1,by simpa[encI,imI] using q2,⟨_,_,rfl,⟨fun i hi=>?_⟩,(fun e=>by cases e),by omega,fun ad e=>?_⟩,⟨_,_,rfl,Cs.nil _ _,(fun e=>by cases e),by simp,fun ad e=>?_⟩⟩
 ·rw[encI_length,imI_length] at hi
  obtain⟨b',off',e',p0,p1,p2⟩:=h2.at_ (i+1) (by rw[encI_length,imI_length,List.length_cons];omega)
  injection e' with e'
  injection e' with e1 e2
  subst e1 e2
  refine⟨bk,off+2,rfl,p0,?_,?_⟩
  ·rw[show off+2+i*2=off+(i+1)*2 by omega,p1];simp[encI,imI]
  ·rw[show off+2+i*2+1=off+(i+1)*2+1 by omega,p2];simp[encI,imI]
 ·cases e;exact h6
 ·cases e;exact h6
theorem T0.al (h:T0 W0 mb m la w tb X k C st pn mk wh) {j:Nat} (hj:Al W0 tb mb j):j<w.heap.size:=by
 rcases hj with e |rfl |rfl
 ·exact h.pe.lt e
 ·exact h.lt_
 ·exact h.map.lt
theorem fr_own (ho:Pk.Off tb w w'):Fr (Al W0 tb mb) (Al W0 tb mb) w w':=⟨ho.os,ho.tape,ho.output,ho.size,fun j hj hn=>ho.block j hj (fun e=>hn (Or.inr (Or.inl e))),fun j hj=>Or.inl hj⟩
theorem T0.off_new {c:Nat} (h:T0 W0 mb m la w tb X k C st pn mk wh) (ho:Pk.Off c w w') (hc:¬ Al W0 tb mb c):T0 W0 mb m la w' tb X k C st pn mk wh :=
 ⟨h.pe.fr_off ho (fun e=>hc (Or.inl e)),(ho.block tb h.lt_ (fun e=>hc (Or.inr (Or.inl e.symm)))).trans h.blk,h.map.of_block (ho.block mb h.map.lt (fun e=>hc (Or.inr (Or.inr e.symm)))),h.nt,h.nm,h.ne,h.m1,h.p1⟩
end
section
variable {W' W0:Nat->Prop}{w w':World}{tb mb m:Nat}{v:Value}{X:Ad}{k:Nat}{C:Cf}{st:Nat->Option Nat}{pn:Nat->Nat}{mk:Int}{wh:Nat->Option Nat}{im:Ims}{a:Option Addr}{n cap:Nat}
set_option maxHeartbeats 2000000 in
theorem settle_t0 {r:Nat} (h:T0 W0 mb m v w tb X k C st pn mk wh) (hk:k<=270000000000) (hv:ImV (Al W0 tb mb) w v im) (hr:Rise im) (hl:im.length<=200) (hp:∀ p∈im,Sbl C st pn wh r p):Calls Tryz.prog 41 #[.pointer (some ⟨tb,0,none⟩)] w fun e w'=>e=.returned (.int .i64 0)/\∃ W',T0 W' mb m (.slice none 0 0) w' tb X (k+im.length*8006) C (stA st im r) pn mk wh/\Fr (Al W0 tb mb) (Al W' tb mb) w w':=by
 have CS:Hid (∀ (i:Nat) (hi:i<im.length) wx Wx vx,T0 Wx mb m vx wx tb X (k+i*8006) C (stA st (im.take i) r) pn mk wh->Calls Tryz.prog 43 #[.pointer (some ⟨X.pb,0,none⟩),.int .i64 (im[i].1:Int),.string im[i].2,.int .i64 (r:Int)] wx fun e w'=>e=.returned (.int .i64 0)/\∃ W',T0 W' mb m vx w' tb X (k+(i+1)*8006) C (stA st (im.take (i+1)) r) pn mk wh/\Fr (Al Wx tb mb) (Al W' tb mb) wx w'):=fun i hi wx Wx vx hx=>by
  have q:=hp im[i] (List.getElem_mem hi)
  have e1:im.take (i+1)=im.take i++[im[i]]:=(List.take_append_getElem hi).symm
  have hn:im[i].1 ∉ (im.take i).map (·.1):=fun hm=>by
   obtain⟨x,hx,e⟩:=List.mem_map.1 hm
   have hr1:Rise (im.take i++[im[i]]):=by rw[← e1];exact List.Pairwise.sublist (List.take_sublist _ im) hr
   have:=(List.pairwise_append.1 hr1).2.2 x hx im[i] (by simp)
   omega
  have:=hx.pe.set (by omega) im[i].1 q.id q.pin r q.r1 (by rw[stA_not hn];exact q.pv) (by rw[stA_not hn];exact q.st)
  rw[← q.tx] at this
  refine this.mono ?_
  rintro e w' ⟨rfl,W1,p1,f1⟩
  rw[stA_snoc,← e1,show k+i*8006+8006=k+(i+1)*8006 by omega] at p1
  exact⟨rfl,W1,hx.fr p1 f1 (by omega) rfl,hx.wide (fun j=>Iff.rfl) f1⟩
 have HW:Hid (∀ (i:Nat) (hi:i<im.length),wh im[i].1=some r/\im[i].1<8192):=fun i hi=>⟨(hp _ (List.getElem_mem hi)).wh,by have:=(hp _ (List.getElem_mem hi)).id;have:=h.p1;omega⟩
 have H0:Hid (T0 W0 mb m v w tb X k C st pn mk wh):=h
 have HV:Hid (ImV (Al W0 tb mb) w v im):=hv
 clear h hv hp hr
 go_enter Tryz.func41,Tryz.ntmps41
 go_wp2
 go_loopw [2] (fun s wr=>s=.int .i64 0/\∃ i vi Wi,i<=im.length/\T0 Wi mb m vi wr tb X (k+i*8006) C (stA st (im.take i) r) pn mk wh/\ImV (Al Wi tb mb) wr vi (im.drop i)/\Fr (Al W0 tb mb) (Al Wi tb mb) w wr) (fun _ wr=>lateN wr tb)
 case atStart=>exact⟨rfl,0,v,W0,Nat.zero_le _,by rw[List.take_zero,stA_nil];exact H0.out,HV.out,Fr.refl _ w⟩
 case round =>
  obtain⟨rfl,i,vi,Wi,hi,t1,v1,f1⟩:=hrel
  obtain⟨a,cap,rfl,_⟩:=v1.ex
  by_cases hlt:i<im.length
  ·have e1:im.drop i=im[i] ::im.drop (i+1):=List.drop_eq_getElem_cons hlt
   have hd:(im.drop i).length=(im.drop (i+1)).length+1:=by rw[e1,List.length_cons]
   rw[hd,e1] at v1
   rw[hd] at t1
   obtain⟨bk,off,rfl,hcap,c0,c1,v2,v3⟩:=v1.tail
   have hnl:(im.drop (i+1)).length=im.length-(i+1):=List.length_drop ..
   have C1:Hid (∀ wx Wx vx,T0 Wx mb m vx wx tb X (k+i*8006) C (stA st (im.take i) r) pn mk wh->Calls Tryz.prog 43 #[.pointer (some ⟨X.pb,0,none⟩),.int .i64 (im[i].1:Int),.string im[i].2,.int .i64 (r:Int)] wx fun e w'=>e=.returned (.int .i64 0)/\∃ W',T0 W' mb m vx w' tb X (k+(i+1)*8006) C (stA st (im.take (i+1)) r) pn mk wh/\Fr (Al Wx tb mb) (Al W' tb mb) wx w'):=CS.out i hlt
   obtain⟨hw1,hw2⟩:=HW.out i hlt
   have d4:=t1.c4
   have T1:Hid _:=t1
   have F1:Hid _:=f1
   have V2:Hid _:=v2
   have V3:Hid _:=v3
   have HD:Hid _:=hnl
   have hlen1:(im.drop (i+1)).length+1<=1000:=by omega
   clear t1 f1 v1 v2 v3 CS HW e1 hd hnl
   generalize im[i]=q at *
   generalize (im.drop (i+1)).length=n at *
   go_wp2_with (first
    | (refine wpList_new_im _ rfl rfl ?_;intro w2 b2 i2 l2 g2)
    | (refine wpList_put_im _ rfl _ _ rfl rfl rfl i2 ?_;intro w3 i3 o3;have k0:=i3.c0;have k1:=i3.c1;have T3:Hid _:=(T1.out.below l2).off_new o3 (fun e=>absurd (T1.out.al e) (by omega));have G3:Hid _:=(Fr.of_below l2 (Al Wi tb mb)).off o3 g2;have j0:=T3.out.c0;have j3:=T3.out.c3;have j4:=T3.out.c4))
   have hlk:(Instr.lookup 51 (.map (some mb)) (.int .i64 (q.1:Int)) false).run Tryz.prog w3.drew=.ok (.int .i64 (r:Int)) w3.drew:=(T3.out.map.of_block (w':=w3.drew) rfl).look1 hw2 hw1
   have hb2:Hid (¬ Al Wi tb mb b2):=(fun e=>absurd (T1.out.al e) (by omega):¬ Al Wi tb mb b2)
   have hbl:Hid (b2<w3.drew.heap.size):=lt_of_some i3.blk
   have hbw:Below w3.heap.size w3 w3.drew:=⟨rfl,rfl,rfl,Nat.le_refl _,fun _ _=>rfl⟩
   have T3d:Hid _:=T3.out.below hbw
   have k0d:w3.drew.cell? ⟨b2,0,none⟩=some (.int .i64 (q.1:Int)):=k0
   have k1d:w3.drew.cell? ⟨b2,1,none⟩=some (.string q.2):=k1
   have K0:Hid _:=k0d
   have K1:Hid _:=k1d
   clear hbw k0d k1d
   go_region_held_law (fun wx=>wx.cell? ⟨tb,0,none⟩=some (.pointer (some ⟨X.pb,0,none⟩))/\wx.cell? ⟨tb,3,none⟩=some (.map (some mb))/\wx.cell? ⟨b2,0,none⟩=some (.int .i64 (q.1:Int))/\wx.cell? ⟨b2,1,none⟩=some (.string q.2)) (first |exact⟨j0,j3,k0,k1⟩ |exact⟨m0,m3,m4,m5⟩) (first
    | (go_at_call 43;refine(C1.out _ Wi _ T3d.out).mono ?_;rintro e w4 ⟨rfl,W4,t4,f4⟩;have m0:=t4.c0;have m3:=t4.c3;have m6:=t4.c4;have z6:=t4.z 4;have m4:=(f4.cell (p:=⟨b2,0,none⟩) hbl.out hb2.out).trans K0.out;have m5:=(f4.cell (p:=⟨b2,1,none⟩) hbl.out hb2.out).trans K1.out;have T4:Hid _:=t4;have F4:Hid _:=f4;clear t4 f4))
   have FR:Hid _:=(G3.out.trans (⟨rfl,rfl,rfl,Nat.le_refl _,(fun _ _ _=>rfl),(fun j hj=>Or.inl hj)⟩:Fr (Al Wi tb mb) (Al Wi tb mb) w3 w3.drew)).trans F4.out
   by_cases hc1:cap=1
   ·subst hc1
    have hn0:n=0:=by omega
    subst hn0
    have he:Hid (im.drop (i+1)=[]):=(List.drop_eq_nil_of_le (by have:=HD.out;omega):im.drop (i+1)=[])
    go_wp2
    have T5:T0 W4 mb m (.slice (some ⟨bk,off,none⟩) 0 0) (w4.setCell ⟨tb,4,none⟩ (.slice (some ⟨bk,off,none⟩) 0 0)) tb X (k+(i+1)*8006) C (stA st (im.take (i+1)) r) pn mk wh:=T4.out.own (Joins.block_setCell T4.out.blk _) ((Pk.Off.refl tb _).setCell 4 _)
    refine⟨⟨rfl,i+1,_,W4,by omega,T5,by rw[he.out];exact V3.out.fr (FR.out.trans (fr_own ((Pk.Off.refl tb _).setCell 4 _))),(F1.out.trans FR.out).trans (fr_own ((Pk.Off.refl tb _).setCell 4 _))⟩,?_⟩
    rw[T5.lateN_,T1.out.lateN_]
    omega
   ·go_wp2
    have T5:T0 W4 mb m (.slice (some ⟨bk,off+2,none⟩) n (cap-1)) (w4.setCell ⟨tb,4,none⟩ (.slice (some ⟨bk,off+2,none⟩) n (cap-1))) tb X (k+(i+1)*8006) C (stA st (im.take (i+1)) r) pn mk wh:=T4.out.own (Joins.block_setCell T4.out.blk _) ((Pk.Off.refl tb _).setCell 4 _)
    refine⟨⟨rfl,i+1,_,W4,by omega,T5,V2.out.fr (FR.out.trans (fr_own ((Pk.Off.refl tb _).setCell 4 _))),(F1.out.trans FR.out).trans (fr_own ((Pk.Off.refl tb _).setCell 4 _))⟩,?_⟩
    rw[T5.lateN_,T1.out.lateN_]
    omega
  ·have e1:i=im.length:=by omega
   subst e1
   rw[List.drop_length] at v1
   have T1:Hid _:=t1
   have F1:Hid _:=f1
   have d4:=t1.c4
   have z4:=t1.z 4
   rw[List.drop_length] at d4
   clear t1 f1 v1 CS HW
   go_wp2
   go_ret
   refine⟨rfl,Wi,?_,F1.out.trans (fr_own ((Pk.Off.refl tb _).setCell 4 _))⟩
   have t:=T1.out
   rw[List.take_length] at t
   exact t.own (Joins.block_setCell t.blk _) ((Pk.Off.refl tb _).setCell 4 _)
end
section
variable {W W':Nat->Prop}{w w':World}{v:Value}{X:Ad}{k:Nat}{C:Cf}{st:Nat->Option Nat}{im:Ims}
set_option maxHeartbeats 1000000 in
theorem release_d (h:Pe W w X k C st (pnO im)) (hv:ImV W w v im) (hr:Rise im) (hl:im.length<=200) (hp:∀ p∈im,p.1<C.ps) (u:FrameMode):CallsD Tryz.prog 66 #[.pointer (some ⟨X.pb,0,none⟩),v] u w fun e u' w'=>u'=u/\(e=.returned (.tuple #[])/\∃ W',Pe W' w' X k C st (fun _=>0)/\Fr W W' w w'):=by
 have CU:Hid (∀ (i:Nat) (hi:i<im.length) wx Wx,Pe Wx wx X k C st (pnO (im.drop i))->Calls Tryz.prog 104 #[.pointer (some ⟨X.pb,0,none⟩),.int .i64 (im[i].1:Int)] wx fun e w'=>e=.returned (.int .i64 0)/\∃ W',Pe W' w' X k C st (pnO (im.drop (i+1)))/\Fr Wx W' wx w'):=fun i hi wx Wx hx=>by
  have e1:im.drop i=im[i] ::im.drop (i+1):=List.drop_eq_getElem_cons hi
  have hr1:Rise (im[i] ::im.drop (i+1)):=by rw[← e1];exact List.Pairwise.sublist (List.drop_sublist i im) hr
  obtain⟨q1,q2⟩:=pnO_cons hr1
  rw[e1] at hx
  refine(hx.unpin im[i].1 (hp _ (List.getElem_mem hi)) (by rw[q1];omega) (by rw[q1];omega)).mono ?_
  rintro e w' ⟨rfl,W',p1,f1⟩
  rw[q2] at p1
  exact⟨rfl,W',p1,f1⟩
 obtain⟨a,cap,rfl,hcs,hnil,hcap,hblk⟩:=hv.ex
 have HV:Hid (ImV W w (.slice a im.length cap) im):=hv
 have H0:Hid (Pe W w X k C st (pnO im)):=h
 have HR:Hid (∀ (i:Nat) (hi:i<im.length) wx Wx,Fr W Wx w wx->∃ bk off,a=some ⟨bk,off,none⟩/\wx.cell? ⟨bk,off+i*2,none⟩=some (.int .i64 (im[i].1:Int))/\wx.cell? ⟨bk,off+i*2+1,none⟩=some (.string im[i].2)):=fun i hi wx Wx hf=>by
  obtain⟨a2,cap2,e2,hc2,_⟩:=(hv.fr hf).ex
  injection e2 with e3 e4 e5
  subst e3
  obtain⟨bk,off,e,hlt,hcell⟩:=csIm_at hc2 hi
  exact⟨bk,off,e,hcell wx (Below.refl _ _)⟩
 clear h hcs hnil hblk hv
 go_enter_d Tryz.func66,Tryz.ntmps66
 go_wp2
 go_loopw [8] (fun s wr=>∃ i:Nat,s=.int .i64 (i:Int)/\i<=im.length/\∃ W',Pe W' wr X k C st (pnO (im.drop i))/\Fr W W' w wr) (fun s _=>im.length-(intOf s).toNat)
 case atStart=>exact⟨0,rfl,Nat.zero_le _,W,H0.out,Fr.refl W w⟩
 case round =>
  obtain⟨i,rfl,hi,W1,p1,f1⟩:=hrel
  by_cases hlt:i<im.length
  ·have hltI:(i:Int)<(im.length:Int):=by omega
   obtain⟨bk,off,rfl,c0,c1⟩:=HR.out i hlt _ _ f1
   have C1:Hid (∀ wx Wx,Pe Wx wx X k C st (pnO (im.drop i))->Calls Tryz.prog 104 #[.pointer (some ⟨X.pb,0,none⟩),.int .i64 (im[i].1:Int)] wx fun e w'=>e=.returned (.int .i64 0)/\∃ W',Pe W' w' X k C st (pnO (im.drop (i+1)))/\Fr Wx W' wx w'):=CU.out i hlt
   have P1:Hid _:=p1
   have F1:Hid _:=f1
   clear p1 f1 CU HR
   generalize im[i]=q at *
   go_wp2_with (first
    | (refine wpList_new_im _ rfl rfl ?_;intro w2 b2 i2 l2 g2)
    | (refine wpList_put_im _ rfl _ _ rfl rfl rfl i2 ?_;intro w3 i3 o3;have k0:=i3.c0;have k1:=i3.c1)
    | (go_at_call 104;refine(C1.out _ W1 ?_).mono ?_;exact(P1.out.below l2).fr_off o3 (fun e=>absurd (P1.out.lt e) (by omega));rintro e w4 ⟨rfl,W4,p4,f4⟩;have P4:Hid _:=p4;have F4:Hid _:=f4;clear p4 f4))
   go_roundw
   case rel=>exact⟨i+1,rfl,by omega,W4,P4.out,F1.out.trans (((Fr.of_below l2 W1).off o3 g2).trans F4.out)⟩
   case measure=>simp[intOf];omega
  ·have e1:i=im.length:=by omega
   subst e1
   have hltI:¬ ((im.length:Nat):Int)<(im.length:Int):=by omega
   have P1:Hid _:=p1
   have F1:Hid _:=f1
   clear p1 f1 CU HR
   go_wp2
   go_end0
   have p:=P1.out
   rw[List.drop_length,pnO_nil] at p
   exact⟨rfl,W1,p,F1.out⟩
end
def recI (kd:Int) (im:Ims):Rm:=⟨{zS with kd:=kd},imI im,[]⟩
section
variable {W W' W0:Nat->Prop}{w w':World}{tb mb m m':Nat}{v la:Value}{X:Ad}{k:Nat}{C:Cf}{st:Nat->Option Nat}{pn:Nat->Nat}{mk:Int}{wh wh':Nat->Option Nat}{im:Ims}{a:Option Addr}{cap:Nat}{U:Nat->ByteArray}
theorem turned_other (ht:w.mapTurned w' mb) {j:Nat} (hj:j≠mb):w'.heap[j]?=w.heap[j]?:=by
 obtain⟨es,cl,es',cl',_,rfl⟩:=ht
 show(w.heap.setIfInBounds mb _)[j]?=_
 rw[Array.getElem?_setIfInBounds_ne (Ne.symm hj)]
theorem turned_fr (ht:w.mapTurned w' mb):Fr (Al W0 tb mb) (Al W0 tb mb) w w':=by
 have ho:=@turned_other _ _ _ ht
 obtain⟨es,cl,es',cl',_,rfl⟩:=ht
 exact⟨rfl,rfl,rfl,by simp[setBlock],fun j hj hn=>ho (fun e=>hn (Or.inr (Or.inr e))),fun j hj=>Or.inl hj⟩
theorem T0.put (h:T0 W0 mb m la w tb X k C st pn mk wh) (ht:w.mapTurned w' mb) (hM:MiIs w' mb m' wh') (hm:m'<=k):T0 W0 mb m' la w' tb X k C st pn mk wh' :=
 ⟨h.pe.turn (fun j hj=>turned_other ht (fun e=>h.nm (e ▸ hj))) (turned_fr (W0:=W0) (tb:=tb) ht).size,(turned_other ht h.ne).trans h.blk,hM,h.nt,h.nm,h.ne,hm,h.p1⟩
theorem stA_take {im:Ims} {wh:Nat->Option Nat} {r i:Nat} (hi:i<im.length):upd (stA wh (im.take i) r) im[i].1 (some r)=stA wh (im.take (i+1)) r:=by
 rw[stA_snoc]
 congr 1
 exact(List.take_append_getElem hi)
theorem stA_mem {st:Nat->Option Nat} {r:Nat} {p:Nat × ByteArray} (hp:p∈im):stA st im r p.1=some r:=if_pos (List.mem_map.2 ⟨p,hp,rfl⟩)
theorem ImV.recV (h:ImV W w v im) (kd:Int):RecV w (.agg ((recI kd im).s.A v nilV)) (recI kd im):=by
 obtain⟨a,cap,rfl,h1,h2,h3,h4⟩:=h.ex
 refine⟨_,_,rfl,⟨a,cap,?_,h1,h2,?_,fun _ ad e=>(h4 ad e).1⟩,⟨none,0,rfl,Cs.nil _ _,(fun _=>rfl),by simp[recI],fun e=>absurd rfl e⟩⟩
 ·simp[recI,imI_length]
 ·simp[recI,imI_length];exact h3
theorem ImV.nil (W:Nat->Prop) (w:World):ImV W w (.slice none 0 0) []:=⟨none,0,rfl,Cs.nil _ _,(fun _=>rfl),by simp,fun ad e=>by cases e⟩
structure LayO (W0:Nat->Prop) (mb:Nat) (w w':World) (tb:Nat) (X:Ad) (k:Nat) (C:Cf) (st:Nat->Option Nat) (mk:Int) (wh:Nat->Option Nat) (R:Rm) (im:Ims) (U:Nat->ByteArray) (y:Int):Prop where
  ex:∃ W' m',Fr (Al W0 tb mb) (Al W' tb mb) w w' /\
    ((y=0/\(frameM R).2=0/\(cat C.fs).size+(frameM R).1.size<=58*C.sc/\T0 W' mb m' (.slice none 0 0) w' tb X (k+801*8006) (addF C (frameM R).1 U st) (stA st im (nxt C)) (fun _=>0) mk (stA wh im (nxt C))) ∨
     (y≠0/\(((frameM R).2≠0/\y=(frameM R).2)∨((frameM R).2=0/\y=7/\¬ (cat C.fs).size+(frameM R).1.size<=58*C.sc))/\T0 W' mb m' (.slice none 0 0) w' tb X (k+801*8006) C st (fun _=>0) mk wh))
end
end Go.Proofs.YtpcnjncgilmehabGreat.Tr
