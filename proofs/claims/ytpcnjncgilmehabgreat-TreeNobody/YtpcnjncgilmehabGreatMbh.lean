import Derived.Test.YtpcnjncgilmehabGreatMbg
import Derived.BigRegion
set_option linter.unusedVariables false
set_option linter.unusedSimpArgs false
set_option maxRecDepth 100000
namespace Go.Proofs.YtpcnjncgilmehabGreat.Tr
open Go.RowKit Go.Maps Go.ChangeMaps
def onlyN (Q:Exit->Act->World->Prop):Exit->Act->World->Prop
 | .normal,a,w=>Q .normal a w
 | _,_,_=>False
theorem wp_only {c:Code} {Q:Exit->Act->World->Prop} {a:Act} {w:World} (h:c.wp Tryz.prog (onlyN Q) a w):c.wp Tryz.prog Q a w:=Code.wp_mono (fun e a w h=>by cases e <;> first |exact h |exact h.elim) h
section
variable {W W' W0:Nat->Prop}{w w':World}{tb mb m:Nat}{v la:Value}{X:Ad}{k:Nat}{C:Cf}{st:Nat->Option Nat}{pn:Nat->Nat}{mk:Int}{wh:Nat->Option Nat}{im:Ims}{a:Option Addr}{cap:Nat}{U:Nat->ByteArray}
theorem ImV.less {V:Nat->Prop} (h:ImV W w v im) (hV:∀ j,V j->W j):ImV V w v im:=by
 obtain⟨a,cap,h1,h2,h3,h4,h5⟩:=h.ex
 exact⟨a,cap,h1,h2,h3,h4,fun ad e=>⟨(h5 ad e).1,fun q=>(h5 ad e).2.1 (hV _ q),(h5 ad e).2.2⟩⟩
theorem settle_none (h:T0 W0 mb m (.slice none 0 0) w tb X k C st pn mk wh) (hk:k<=270000000000):Calls Tryz.prog 41 #[.pointer (some ⟨tb,0,none⟩)] w fun e w'=>e=.returned (.int .i64 0)/\∃ W',T0 W' mb m (.slice none 0 0) w' tb X k C st pn mk wh/\Fr (Al W0 tb mb) (Al W' tb mb) w w':=by
 refine(settle_t0 (r:=0) (im:=[]) h hk (ImV.nil _ _) List.Pairwise.nil (by simp) (fun p hp=>by cases hp)).mono ?_
 rintro e w' ⟨he,W',t,f⟩
 rw[stA_nil] at t
 exact⟨he,W',t.mono (by simp),f⟩
theorem hold_t0 (h:T0 W0 mb m (.slice none 0 0) w tb X k C st (fun _=>0) mk wh) (hk:k<=270000000000) (hv:ImV (Al W0 tb mb) w v im) (hr:Rise im) (hl:im.length<=200) (hp:∀ p∈im,p.1<C.ps) :
  Calls Tryz.prog 65 #[.pointer (some ⟨X.pb,0,none⟩),v] w fun e w'=>∃ v',e=.returned (.tuple #[v',.int .i64 0])/\∃ W' im',(im'=im/\v'=v∨im'=[]/\v'=.slice none 0 0)/\T0 W' mb m (.slice none 0 0) w' tb X (k+401*8006) C st (pnO im') mk wh/\Fr (Al W0 tb mb) (Al W' tb mb) w w':=by
 refine(hold_pe h.pe hk (hv.less (fun j hj=>Or.inl hj)) hr hl hp).mono ?_
 rintro e w' ⟨v',he,W',im',ho,p1,f1⟩
 exact⟨v',he,W',im',ho,h.fr p1 f1 (by omega) rfl,h.wide (fun j=>Iff.rfl) f1⟩
theorem small_recI (kd:Int) (hl:im.length<=200) (hs:∀ p∈im,p.2.size<=224):Small (recI kd im) :=
 ⟨by simp[recI,imI_length];omega,by simp[recI],fun p hp=>by
  simp only[recI,imI] at hp
  obtain⟨q,hq,rfl⟩:=List.mem_map.1 hp
  have:=hs q hq
  exact Nat.le_trans this (by omega),(by show(0:Nat)<=9223372036854775807;omega),(by show(0:Nat)<=9223372036854775807;omega),(by show(0:Nat)<=9223372036854775807;omega)⟩
theorem append_t0 (h:T0 W0 mb m la w tb X k C st pn mk wh) (kd:Int) (hv:ImV W w v im) (hl:im.length<=200) (hs:∀ p∈im,p.2.size<=224) (hU:∀ id,(U id).size=224) :
    Calls Tryz.prog 67 #[.pointer (some ⟨X.l,0,none⟩),.agg ((recI kd im).s.A v nilV)] w fun e w'=>∃ x y:Int,e=.returned (.tuple #[.int .i64 x,.int .i64 y])/\∃ W',Fr (Al W0 tb mb) (Al W' tb mb) w w' /\
      ((y=0/\x=(nxt C:Nat)/\(frameM (recI kd im)).2=0/\(cat C.fs).size+(frameM (recI kd im)).1.size<=58*C.sc/\T0 W' mb m la w' tb X k (addF C (frameM (recI kd im)).1 U st) st pn mk wh) ∨
       (y≠0/\x=0/\(((frameM (recI kd im)).2≠0/\y=(frameM (recI kd im)).2)∨((frameM (recI kd im)).2=0/\y=7/\¬ (cat C.fs).size+(frameM (recI kd im)).1.size<=58*C.sc))/\T0 W' mb m la w' tb X k C st pn mk wh)):=by
  refine(h.pe.append (hv.recV kd) (small_recI kd hl hs) U hU).mono ?_
  rintro e w' ⟨x,y,he,hor⟩
  refine⟨x,y,he,?_⟩
  rcases hor with⟨h1,h2,h3,h4,W',p1,f1⟩ |⟨h1,h2,h3,W',p1,f1⟩
  · exact⟨W',h.wide (fun j=>Iff.rfl) f1,Or.inl ⟨h1,h2,h3,h4,h.fr p1 f1 (Nat.le_refl _) rfl⟩⟩
  · exact⟨W',h.wide (fun j=>Iff.rfl) f1,Or.inr ⟨h1,h2,h3,h.fr p1 f1 (Nat.le_refl _) rfl⟩⟩
theorem release_t0 {im':Ims} (h:T0 W0 mb m la w tb X k C st (pnO im') mk wh) (hv:ImV (Al W0 tb mb) w v im') (hr:Rise im') (hl:im'.length<=200) (hp:∀ p∈im',p.1<C.ps) (u:FrameMode) :
  CallsD Tryz.prog 66 #[.pointer (some ⟨X.pb,0,none⟩),v] u w fun e u' w'=>u'=u/\(e=.returned (.tuple #[])/\∃ W',T0 W' mb m la w' tb X k C st (fun _=>0) mk wh/\Fr (Al W0 tb mb) (Al W' tb mb) w w'):=by
 refine(release_d h.pe (hv.less (fun j hj=>Or.inl hj)) hr hl hp u).mono ?_
 rintro e u' w' ⟨rfl,he,W',p1,f1⟩
 exact⟨rfl,he,W',h.fr p1 f1 (Nat.le_refl _) rfl,h.wide (fun j=>Iff.rfl) f1⟩
set_option maxHeartbeats 4000000 in
theorem lay_bad (h:T0 W0 mb m (.slice none 0 0) w tb X k C st (fun _=>0) mk wh) (hk:k<=250000000000) (kd:Int) (hv:ImV (Al W0 tb mb) w v im) (hr:Rise im) (hl:im.length<=200) (hp:∀ p∈im,p.1<C.ps) (hs:∀ p∈im,p.2.size<=224) (hU:∀ id,(U id).size=224) (hb:¬ ((frameM (recI kd im)).2=0/\(cat C.fs).size+(frameM (recI kd im)).1.size<=58*C.sc)) :
  Calls Tryz.prog 36 #[.pointer (some ⟨tb,0,none⟩),.int .i64 kd,v] w fun e w'=>∃ y,e=.returned (.int .i64 y)/\LayO W0 mb w w' tb X k C st mk wh (recI kd im) im U y:=by
 obtain⟨yB,hyB⟩:∃ yB:Int,yB=if(frameM (recI kd im)).2≠0 then(frameM (recI kd im)).2 else 7:=⟨_,rfl⟩
 have hyn:yB≠0:=by rw[hyB];split <;> omega
 have hyw:Hid (((frameM (recI kd im)).2≠0/\yB=(frameM (recI kd im)).2)∨((frameM (recI kd im)).2=0/\yB=7/\¬ (cat C.fs).size+(frameM (recI kd im)).1.size<=58*C.sc)):=(by
  by_cases e:(frameM (recI kd im)).2=0
  ·exact Or.inr ⟨e,by rw[hyB,if_neg (by simpa using e)],fun h=>hb ⟨e,h⟩⟩
  ·exact Or.inl ⟨e,by rw[hyB,if_pos e]⟩:((frameM (recI kd im)).2≠0/\yB=(frameM (recI kd im)).2)∨((frameM (recI kd im)).2=0/\yB=7/\¬ (cat C.fs).size+(frameM (recI kd im)).1.size<=58*C.sc))
 obtain⟨a,cap,rfl,_⟩:=hv.ex
 have CS:Hid (∀ wx Wx,T0 Wx mb m (.slice none 0 0) wx tb X k C st (fun _=>0) mk wh->Calls Tryz.prog 41 #[.pointer (some ⟨tb,0,none⟩)] wx fun e w'=>e=.returned (.int .i64 0)/\∃ W',T0 W' mb m (.slice none 0 0) w' tb X k C st (fun _=>0) mk wh/\Fr (Al Wx tb mb) (Al W' tb mb) wx w'):=fun wx Wx hx=>settle_none hx (by omega)
 have CH:Hid (∀ wx Wx,T0 Wx mb m (.slice none 0 0) wx tb X k C st (fun _=>0) mk wh->ImV (Al Wx tb mb) wx (.slice a im.length cap) im->Calls Tryz.prog 65 #[.pointer (some ⟨X.pb,0,none⟩),.slice a im.length cap] wx fun e w'=>∃ v',e=.returned (.tuple #[v',.int .i64 0])/\∃ W' im',(im'=im/\v'=.slice a im.length cap∨im'=[]/\v'=.slice none 0 0)/\T0 W' mb m (.slice none 0 0) w' tb X (k+401*8006) C st (pnO im') mk wh/\Fr (Al Wx tb mb) (Al W' tb mb) wx w'):=fun wx Wx hx hi=>hold_t0 hx (by omega) hi hr hl hp
 have CP:Hid (∀ wx Wx im',T0 Wx mb m (.slice none 0 0) wx tb X (k+401*8006) C st (pnO im') mk wh->ImV (Al Wx tb mb) wx (.slice a im.length cap) im->Calls Tryz.prog 67 #[.pointer (some ⟨X.l,0,none⟩),.agg ((recI kd im).s.A (.slice a im.length cap) nilV)] wx fun e w'=>e=.returned (.tuple #[.int .i64 0,.int .i64 yB])/\∃ W',T0 W' mb m (.slice none 0 0) w' tb X (k+401*8006) C st (pnO im') mk wh/\Fr (Al Wx tb mb) (Al W' tb mb) wx w'):=fun wx Wx im' hx hi=>(append_t0 hx kd hi hl hs hU).mono fun e w'=>by
  rintro⟨x,y,he,W',f1,(⟨h1,h2,h3,h4,t⟩ |⟨h1,h2,h3,t⟩)⟩
  ·exact absurd ⟨h3,h4⟩ hb
  ·refine⟨?_,W',t,f1⟩
   have:y=yB:=by
    rw[hyB]
    rcases h3 with⟨g1,g2⟩ |⟨g1,g2,_⟩
    ·rw[if_pos g1,g2]
    ·rw[if_neg (by simpa using g1),g2]
   rw[he,h2,this]
 have H0:Hid (T0 W0 mb m (.slice none 0 0) w tb X k C st (fun _=>0) mk wh):=h
 have HV:Hid (ImV (Al W0 tb mb) w (.slice a im.length cap) im):=hv
 have HRI:Hid (Rise im):=hr
 have HP:Hid (∀ p∈im,p.1<C.ps):=hp
 have hL:=hl
 have hyb:(yB !=0)=true:=by simp[hyn]
 clear h hv hr hp hs hb hyB
 go_enter_defers Tryz.func36,Tryz.ntmps36
 go_wp2_with (first
  | (go_at_call 41;refine(CS.out _ _ H0.out).mono ?_;rintro e w1 ⟨rfl,W1,t1,f1⟩;have T1:Hid _:=t1;have F1:Hid _:=f1;have V1:Hid _:=HV.out.fr f1;have c0:=t1.c0;clear t1 f1)
  | (go_at_call 65;refine(CH.out _ _ T1.out V1.out).mono ?_;rintro e w2 ⟨v2,rfl,W2,im2,ho,t2,f2⟩;have O2:Hid _:=ho;have T2:Hid _:=t2;have F2:Hid _:=f2;have V2:Hid _:=V1.out.fr f2;have d0:=t2.c0;have d1:=t2.c1;clear t2 f2 ho)
  | (go_at_call 67;refine(CP.out _ _ im2 T2.out V2.out).mono ?_;rintro e w3 ⟨rfl,W3,t3,f3⟩;have T3:Hid _:=t3;have F3:Hid _:=f3;have V3:Hid _:=V2.out.fr f3;clear t3 f3))
 refine leaves_cons (f:=66) (args:=#[.pointer (some ⟨X.pb,0,none⟩),v2]) (by simp) (by simp[go_sem]) ?_
 have VV:ImV (Al W3 tb mb) w3 v2 im2/\Rise im2/\im2.length<=200/\∀ p∈im2,p.1<C.ps:=by
  rcases O2.out with⟨rfl,rfl⟩ |⟨rfl,rfl⟩
  ·exact⟨V3.out,HRI.out,hL,HP.out⟩
  ·exact⟨ImV.nil _ _,List.Pairwise.nil,by simp,fun p hp=>by cases hp⟩
 refine(release_t0 T3.out VV.1 VV.2.1 VV.2.2.1 VV.2.2.2 .returning).mono ?_
 rintro e u' w'' ⟨rfl,rfl,W4,t4,f4⟩
 exact⟨_,results_tmp rfl _ _ _,yB,rfl,⟨W4,m,((F1.out.trans F2.out).trans F3.out).trans f4,Or.inr ⟨hyn,hyw.out,t4.mono (by omega)⟩⟩⟩
set_option maxHeartbeats 4000000 in
theorem lay_ok (h:T0 W0 mb m (.slice none 0 0) w tb X k C st (fun _=>0) mk wh) (hk:k<=250000000000) (kd:Int) (hv:ImV (Al W0 tb mb) w v im) (hr:Rise im) (hl:im.length<=200) (hp:∀ p∈im,p.1<C.ps) (hlo:∀ p∈im,C.lo p.1<=nxt C) (hs:∀ p∈im,p.2.size<=224) (hU:∀ id,(U id).size=224) (hUi:∀ p∈im,p.2=U p.1) (hb:(frameM (recI kd im)).2=0/\(cat C.fs).size+(frameM (recI kd im)).1.size<=58*C.sc) :
  Calls Tryz.prog 36 #[.pointer (some ⟨tb,0,none⟩),.int .i64 kd,v] w fun e w'=>∃ y,e=.returned (.int .i64 y)/\LayO W0 mb w w' tb X k C st mk wh (recI kd im) im U y:=by
 obtain⟨a,cap,rfl,_⟩:=hv.ex
 have hfs:7<=(frameM (recI kd im)).1.size:=(frm_good hb.1).pos
 have hnx:nxt C<=8192*58+1:=by have:=h.pe.fit.sz;have:=h.pe.fit.s1;unfold nxt;omega
 have CS:Hid (∀ wx Wx,T0 Wx mb m (.slice none 0 0) wx tb X k C st (fun _=>0) mk wh->Calls Tryz.prog 41 #[.pointer (some ⟨tb,0,none⟩)] wx fun e w'=>e=.returned (.int .i64 0)/\∃ W',T0 W' mb m (.slice none 0 0) w' tb X k C st (fun _=>0) mk wh/\Fr (Al Wx tb mb) (Al W' tb mb) wx w'):=fun wx Wx hx=>settle_none hx (by omega)
 have CH:Hid (∀ wx Wx,T0 Wx mb m (.slice none 0 0) wx tb X k C st (fun _=>0) mk wh->ImV (Al Wx tb mb) wx (.slice a im.length cap) im->Calls Tryz.prog 65 #[.pointer (some ⟨X.pb,0,none⟩),.slice a im.length cap] wx fun e w'=>∃ v',e=.returned (.tuple #[v',.int .i64 0])/\∃ W' im',(im'=im/\v'=.slice a im.length cap∨im'=[]/\v'=.slice none 0 0)/\T0 W' mb m (.slice none 0 0) w' tb X (k+401*8006) C st (pnO im') mk wh/\Fr (Al Wx tb mb) (Al W' tb mb) wx w'):=fun wx Wx hx hi=>hold_t0 hx (by omega) hi hr hl hp
 have CP:Hid (∀ wx Wx im',T0 Wx mb m (.slice none 0 0) wx tb X (k+401*8006) C st (pnO im') mk wh->ImV (Al Wx tb mb) wx (.slice a im.length cap) im->Calls Tryz.prog 67 #[.pointer (some ⟨X.l,0,none⟩),.agg ((recI kd im).s.A (.slice a im.length cap) nilV)] wx fun e w'=>e=.returned (.tuple #[.int .i64 (nxt C:Nat),.int .i64 0])/\∃ W',T0 W' mb m (.slice none 0 0) w' tb X (k+401*8006) (addF C (frameM (recI kd im)).1 U st) st (pnO im') mk wh/\Fr (Al Wx tb mb) (Al W' tb mb) wx w'):=fun wx Wx im' hx hi=>(append_t0 hx kd hi hl hs hU).mono fun e w'=>by
  rintro⟨x,y,he,W',f1,(⟨h1,h2,h3,h4,t⟩ |⟨h1,h2,h3,t⟩)⟩
  ·exact⟨by rw[he,h1,h2],W',t,f1⟩
  ·rcases h3 with⟨g1,_⟩ |⟨_,_,g1⟩
   ·exact absurd hb.1 g1
   ·exact absurd hb.2 g1
 have CT:Hid (∀ wx Wx m1 im',(im'=im∨im'=[])->T0 Wx mb m1 (.slice a im.length cap) wx tb X (k+401*8006) (addF C (frameM (recI kd im)).1 U st) st (pnO im') mk (stA wh im (nxt C))->ImV (Al Wx tb mb) wx (.slice a im.length cap) im->Calls Tryz.prog 41 #[.pointer (some ⟨tb,0,none⟩)] wx fun e w'=>e=.returned (.int .i64 0)/\∃ W',T0 W' mb m1 (.slice none 0 0) w' tb X (k+801*8006) (addF C (frameM (recI kd im)).1 U st) (stA st im (nxt C)) (pnO im') mk (stA wh im (nxt C))/\Fr (Al Wx tb mb) (Al W' tb mb) wx w'):=fun wx Wx m1 im' hor hx hi=>by
  have hsz:(cat (addF C (frameM (recI kd im)).1 U st).fs).size=(cat C.fs).size+(frameM (recI kd im)).1.size:=by
   show(cat (C.fs++[(frameM (recI kd im)).1])).size=_
   rw[cat_snoc,ByteArray.size_append]
  refine(settle_t0 (r:=nxt C) hx (by omega) hi hr hl (fun p hm=>⟨hp p hm,?_,stA_mem hm,?_,⟨by unfold nxt;omega,by rw[hsz];unfold nxt;omega,hlo p hm⟩,?_,fun r0 h0=>?_⟩)).mono ?_
  ·rcases hor with rfl |rfl
   ·exact Or.inr (by unfold pnO;rw[if_pos (List.mem_map.2 ⟨p,hm,rfl⟩)];omega)
   ·exact Or.inl (fun d=>rfl)
  ·rw[hUi p hm]
   show _=if nxt C<=(cat C.fs).size then _ else _
   rw[if_neg (by unfold nxt;omega)]
  ·show(if nxt C<=(cat C.fs).size then _ else _)=_
   rw[if_neg (by unfold nxt;omega)]
  ·have:=(h.pe.sl (hp p hm) h0).2.1
   unfold nxt;omega
  ·rintro e w' ⟨he,W',t,f⟩
   exact⟨he,W',t.mono (by omega),f⟩
 have HI:Hid (∀ (i:Nat) (hi:i<im.length),im[i].1<8192):=fun i hi=>by have:=hp _ (List.getElem_mem hi);have:=h.p1;omega
 have H0:Hid (T0 W0 mb m (.slice none 0 0) w tb X k C st (fun _=>0) mk wh):=h
 have HV:Hid (ImV (Al W0 tb mb) w (.slice a im.length cap) im):=hv
 have HRI:Hid (Rise im):=hr
 have HP:Hid (∀ p∈im,p.1<C.ps):=hp
 have HM:Hid (m<=k):=h.m1
 have HOK:Hid ((frameM (recI kd im)).2=0/\(cat C.fs).size+(frameM (recI kd im)).1.size<=58*C.sc):=hb
 have hL:=hl
 clear h hv hr hp hs hb hlo hUi hU hfs
 generalize hr0:nxt C=r at *
 have HR0:Hid (nxt C=r):=hr0
 clear hr0
 generalize hCC:addF C (frameM (recI kd im)).1 U st=C1 at *
 have HC1:Hid (addF C (frameM (recI kd im)).1 U st=C1):=hCC
 clear hCC
 go_enter_defers Tryz.func36,Tryz.ntmps36
 go_wp2_with (first
  | (go_at_call 41;refine(CS.out _ _ H0.out).mono ?_;rintro e w1 ⟨rfl,W1,t1,f1⟩;have T1:Hid _:=t1;have F1:Hid _:=f1;have V1:Hid _:=HV.out.fr f1;have c0:=t1.c0;clear t1 f1)
  | (go_at_call 65;refine(CH.out _ _ T1.out V1.out).mono ?_;rintro e w2 ⟨v2,rfl,W2,im2,ho,t2,f2⟩;have O2:Hid _:=ho;have T2:Hid _:=t2;have F2:Hid _:=f2;have V2:Hid _:=V1.out.fr f2;have d0:=t2.c0;have d1:=t2.c1;clear t2 f2 ho)
  | (go_at_call 67;refine(CP.out _ _ im2 T2.out V2.out).mono ?_;rintro e w3 ⟨rfl,W3,t3,f3⟩;have T3:Hid _:=t3;have F3:Hid _:=f3;have V3:Hid _:=V2.out.fr f3;clear t3 f3))
 clear CS CH CP c0 d0 d1
 go_loopw [12,51] (fun s12 s51 wr=>∃ (i m1:Nat),s51=.int .i64 (i:Int)/\i<=im.length/\m1<=m+i/\T0 W3 mb m1 (.slice none 0 0) wr tb X (k+401*8006) C1 st (pnO im2) mk (stA wh (im.take i) r)/\Fr (Al W3 tb mb) (Al W3 tb mb) w3 wr) (fun s12 s51 _=>im.length-(intOf s51).toNat)
 case atStart=>exact⟨0,m,rfl,Nat.zero_le _,by omega,by rw[List.take_zero,stA_nil];exact T3.out,Fr.refl _ _⟩
 case round =>
  obtain⟨i,m1,rfl,hi,hm1,t4,f4⟩:=hrel
  have T4:Hid _:=t4
  have F4:Hid _:=f4
  have hmk:=HM.out
  clear t4 f4
  by_cases hlt:i<im.length
  ·have hltI:(i:Int)<(im.length:Int):=by omega
   obtain⟨bk,off,ea,q0,q1⟩:=V3.out.cells F4.out hlt
   subst ea
   have h8:=HI.out i hlt
   have HT:Hid (upd (stA wh (im.take i) r) im[i].1 (some r)=stA wh (im.take (i+1)) r):=stA_take hlt
   clear HI CT
   generalize im[i]=q at *
   go_wp2_with (first
    | (refine wpList_new_im _ rfl rfl ?_;intro w5 b5 i5 l5 g5)
    | (refine wpList_put_im _ rfl _ _ rfl rfl rfl i5 ?_;intro w6 i6 o6;have k0:=i6.c0;have T6:Hid _:=(T4.out.below l5).off_new o6 (fun e=>absurd (T4.out.al e) (by omega));have G6:Hid _:=(Fr.of_below l5 (Al W3 tb mb)).off o6 g5;have j3:=T6.out.c3))
   have hbw:Below w6.heap.size w6 w6.drew:=⟨rfl,rfl,rfl,Nat.le_refl _,fun _ _=>rfl⟩
   have T7:=T6.out.below hbw
   obtain⟨w8,hrun,hM8,ht8⟩:=T7.map.store h8 (by omega) r
   have T8:Hid _:=T7.put ht8 hM8 (by omega)
   have G8:Hid (Fr (Al W3 tb mb) (Al W3 tb mb) w3 w8):=(F4.out.trans (G6.out.trans ((Fr.of_below hbw (Al W3 tb mb))))).trans (turned_fr ht8)
   clear T7 hM8 ht8 hbw
   refine wp_only ?_
   go_region
   all_goals
    simp only[onlyN]
    go_wp2
    go_roundw
    case rel=>exact⟨i+1,m1+1,by rfl,by omega,by omega,by rw[← HT.out];exact T8.out,G8.out⟩
    case measure=>simp[intOf];omega
  ·have e1:i=im.length:=by omega
   subst e1
   have hltI:¬ ((im.length:Nat):Int)<(im.length:Int):=by omega
   have t4:=T4.out
   rw[List.take_length] at t4
   have j4:=t4.c4
   have z4:=t4.z 4
   have HOr:Hid (im2=im∨im2=[]):=(O2.out.imp (fun h=>h.1) (fun h=>h.1):im2=im∨im2=[])
   have T5:Hid (T0 W3 mb m1 (.slice a im.length cap) (wr.setCell ⟨tb,4,none⟩ (.slice a im.length cap)) tb X (k+401*8006) C1 st (pnO im2) mk (stA wh im r)):=t4.own (Joins.block_setCell t4.blk _) ((Pk.Off.refl tb _).setCell 4 _)
   have G5:Hid (Fr (Al W3 tb mb) (Al W3 tb mb) w3 (wr.setCell ⟨tb,4,none⟩ (.slice a im.length cap))):=F4.out.trans (fr_own ((Pk.Off.refl tb _).setCell 4 _))
   have V5:Hid (ImV (Al W3 tb mb) (wr.setCell ⟨tb,4,none⟩ (.slice a im.length cap)) (.slice a im.length cap) im):=V3.out.fr G5.out
   clear t4 T4 HI
   go_wp2_with (go_at_call 41;refine(CT.out _ _ m1 im2 HOr.out T5.out V5.out).mono ?_;rintro e w6 ⟨rfl,W6,t6,f6⟩;have T6:Hid _:=t6;have F6:Hid _:=f6;clear t6 f6)
   refine leaves_cons (f:=66) (args:=#[.pointer (some ⟨X.pb,0,none⟩),v2]) (by simp) (by simp[go_sem]) ?_
   have VV:ImV (Al W6 tb mb) w6 v2 im2/\Rise im2/\im2.length<=200/\∀ p∈im2,p.1<C1.ps:=by
    have hps:C1.ps=C.ps:=by rw[← HC1.out];rfl
    rcases O2.out with⟨rfl,rfl⟩ |⟨rfl,rfl⟩
    ·exact⟨V5.out.fr F6.out,HRI.out,hL,by rw[hps];exact HP.out⟩
    ·exact⟨ImV.nil _ _,List.Pairwise.nil,by simp,fun p hp=>by cases hp⟩
   refine(release_t0 T6.out VV.1 VV.2.1 VV.2.2.1 VV.2.2.2 .returning).mono ?_
   rintro e u' w'' ⟨rfl,rfl,W7,t7,f7⟩
   refine⟨_,results_tmp rfl _ _ _,0,rfl,⟨W7,m1,((((F1.out.trans F2.out).trans F3.out).trans G5.out).trans F6.out).trans f7,Or.inl ⟨rfl,HOK.out.1,HOK.out.2,?_⟩⟩⟩
   rw[HC1.out,HR0.out]
   exact t7
theorem lay_t0 (h:T0 W0 mb m (.slice none 0 0) w tb X k C st (fun _=>0) mk wh) (hk:k<=250000000000) (kd:Int) (hv:ImV (Al W0 tb mb) w v im) (hr:Rise im) (hl:im.length<=200) (hp:∀ p∈im,p.1<C.ps) (hlo:∀ p∈im,C.lo p.1<=nxt C) (hs:∀ p∈im,p.2.size<=224) (hU:∀ id,(U id).size=224) (hUi:∀ p∈im,p.2=U p.1) :
  Calls Tryz.prog 36 #[.pointer (some ⟨tb,0,none⟩),.int .i64 kd,v] w fun e w'=>∃ y,e=.returned (.int .i64 y)/\LayO W0 mb w w' tb X k C st mk wh (recI kd im) im U y:=by
 by_cases hb:(frameM (recI kd im)).2=0/\(cat C.fs).size+(frameM (recI kd im)).1.size<=58*C.sc
 ·exact lay_ok h hk kd hv hr hl hp hlo hs hU hUi hb
 ·exact lay_bad h hk kd hv hr hl hp hs hU hb
end
structure LyO (W:Nat->Prop) (w w':World) (tb:Nat) (X:Ad) (k:Nat) (C:Cf) (st:Nat->Option Nat) (mk:Int) (wh:Nat->Option Nat) (R:Rm) (im:Ims) (U:Nat->ByteArray) (y:Int):Prop where
  ex:∃ W',Fr W W' w w' /\
    ((y=0/\(frameM R).2=0/\(cat C.fs).size+(frameM R).1.size<=58*C.sc/\Tt W' w' tb X (k+801*8006) (addF C (frameM R).1 U st) (stA st im (nxt C)) mk (stA wh im (nxt C))) ∨
     (y≠0/\(((frameM R).2≠0/\y=(frameM R).2)∨((frameM R).2=0/\y=7/\¬ (cat C.fs).size+(frameM R).1.size<=58*C.sc))/\Tt W' w' tb X (k+801*8006) C st mk wh))
section
variable {W W' Wt:Nat->Prop}{w w' w2:World}{tb:Nat}{v:Value}{X:Ad}{k:Nat}{C:Cf}{st:Nat->Option Nat}{mk:Int}{wh:Nat->Option Nat}{im:Ims}{U:Nat->ByteArray}{R:Rm}{y:Int}
theorem LyO.pre (h:LyO W' w' w2 tb X k C st mk wh R im U y) (hf:Fr W W' w w'):LyO W w w2 tb X k C st mk wh R im U y:=by
 obtain⟨W2,f2,h2⟩:=h.ex
 exact⟨W2,hf.trans f2,h2⟩
theorem LyO.wide (h:LyO Wt w w' tb X k C st mk wh R im U y) (hV:∀ j,Wt j->W j):LyO W w w' tb X k C st mk wh R im U y:=by
 obtain⟨W2,f2,h2⟩:=h.ex
 exact⟨W2,⟨f2.os,f2.tape,f2.output,f2.size,fun j hj hn=>f2.blk j hj (fun e=>hn (hV j e)),fun j hj=>(f2.sub j hj).imp (hV j) id⟩,h2⟩
theorem Tt.lay (h:Tt W w tb X k C st mk wh) (hk:k<=250000000000) (kd:Int) (hv:ImV W w v im) (hr:Rise im) (hl:im.length<=200) (hp:∀ p∈im,p.1<C.ps) (hlo:∀ p∈im,C.lo p.1<=nxt C) (hs:∀ p∈im,p.2.size<=224) (hU:∀ id,(U id).size=224) (hUi:∀ p∈im,p.2=U p.1) :
  Calls Tryz.prog 36 #[.pointer (some ⟨tb,0,none⟩),.int .i64 kd,v] w fun e w'=>∃ y,e=.returned (.int .i64 y)/\LyO W w w' tb X k C st mk wh (recI kd im) im U y:=by
 obtain⟨W0,mb,m,h0,hW⟩:=h.ex
 obtain rfl:W=Al W0 tb mb:=funext fun j=>propext (hW j)
 refine(lay_t0 h0 hk kd hv hr hl hp hlo hs hU hUi).mono ?_
 rintro e w' ⟨y,he,⟨W',m',f1,hor⟩⟩
 refine⟨y,he,⟨Al W' tb mb,f1,?_⟩⟩
 rcases hor with⟨h1,h2,h3,t⟩ |⟨h1,h2,t⟩
 ·exact Or.inl ⟨h1,h2,h3,⟨W',mb,m',t,fun j=>Iff.rfl⟩⟩
 ·exact Or.inr ⟨h1,h2,⟨W',mb,m',t,fun j=>Iff.rfl⟩⟩
theorem Tt.look (h:Tt W w tb X k C st mk wh) {id:Nat} (hid:id<8192):∃ mb,w.cell? ⟨tb,3,none⟩=some (.map (some mb))/\w.cell? ⟨tb,2,none⟩=some (.int .i64 mk)/\(Instr.lookup 51 (.map (some mb)) (.int .i64 (id:Int)) true).run Tryz.prog w=.ok (.tuple #[.int .i64 ((wh id).getD 0:Nat),.bool (wh id).isSome]) w:=by
 obtain⟨W0,mb,m,h0,hW⟩:=h.ex
 exact⟨mb,h0.c3,h0.c2,h0.map.look hid⟩
set_option maxHeartbeats 1000000 in
theorem Tt.cover0 (h:Tt W w tb X k C st mk wh) (id r:Nat) (hid:id<C.ps) (hw:wh id=some r) (hm:mk<=(r:Int)):Calls Tryz.prog 8 #[.pointer (some ⟨tb,0,none⟩),.int .i64 (id:Int)] w fun e w'=>e=.returned (.int .i64 0)/\w'=w:=by
 have CM:Hid (Calls Tryz.prog 28 #[.pointer (some ⟨tb,0,none⟩)] w fun e w'=>e=.returned (.bool true)/\w'=w):=h.made
 obtain⟨mb,c3,c2,hlk⟩:=h.look (id:=id) (by have:=h.p1;omega)
 rw[hw] at hlk
 simp only[Option.getD_some,Option.isSome_some] at hlk
 clear h hw hid
 go_enter Tryz.func8,Tryz.ntmps8
 go_wp2_with (go_at_call 28;refine CM.out.mono ?_;rintro e w2 ⟨rfl,rfl⟩)
 go_ret
 exact⟨rfl,rfl⟩
end
def Ub (im:Ims) (d:Nat):ByteArray:=if inn im d then(im.getD (pos im d) (0,eb)).2 else blk 0
theorem pos_at {im:Ims} (hr:Rise im) {i:Nat} (hi:i<im.length):pos im im[i].1=i:=by
 by_cases h1:pos im im[i].1<i
 ·have hp:pos im im[i].1<im.length:=by omega
  have:=pos_ge hr hp (Nat.le_refl _)
  have:=List.pairwise_iff_getElem.1 hr (pos im im[i].1) i hp hi h1
  omega
 ·by_cases h2:i<pos im im[i].1
  ·have:=pos_lt h2
   omega
  ·omega
theorem inn_mem {im:Ims} (hr:Rise im) {p:Nat × ByteArray} (hp:p∈im):inn im p.1=true/\im.getD (pos im p.1) (0,eb)=p:=by
 obtain⟨i,hi,rfl⟩:=List.getElem_of_mem hp
 have:=pos_at hr hi
 constructor
 ·unfold inn
  rw[this,List.getElem?_eq_getElem hi]
  simp
 ·rw[this,List.getD_eq_getElem?_getD,List.getElem?_eq_getElem hi]
  rfl
theorem Ub_mem {im:Ims} (hr:Rise im) {p:Nat × ByteArray} (hp:p∈im):p.2=Ub im p.1:=by
 unfold Ub
 rw[if_pos (inn_mem hr hp).1,(inn_mem hr hp).2]
theorem blk0_size:(blk 0).size=224:=pack_size (can_nil 0 (by omega))
theorem inn_gd {im:Ims} {d:Nat} (h:inn im d=true):im.getD (pos im d) (0,eb)∈im:=by
 unfold inn at h
 cases e:im[pos im d]? with
 | none=>rw[e] at h;cases h
 | some p =>
  rw[List.getD_eq_getElem?_getD,e]
  exact List.mem_of_getElem? e
theorem Ub_size {im:Ims} (hz:∀ p∈im,p.2.size=224) (d:Nat):(Ub im d).size=224:=by
 unfold Ub
 by_cases h:inn im d=true
 ·rw[if_pos h];exact hz _ (inn_gd h)
 ·rw[if_neg h];exact blk0_size
section
variable {W W' Wt:Nat->Prop}{w w' w2:World}{bb tb:Nat}{v v':Value}{X:Ad}{k:Nat}{C:Cf}{st:Nat->Option Nat}{mk:Int}{wh:Nat->Option Nat}{b:Bm}{im:Ims}{U:Nat->ByteArray}{y:Int}
theorem B0.imv (h:B0 Wt v w bb tb X k C st mk wh b):ImV Wt w v b.im:=by
 have hl:(encI (imI b.im)).length=b.im.length:=by rw[encI_length,imI_length]
 have hr:=h.row
 rw[← hl] at hr
 obtain⟨a,cap,e,h1,h2,h3,h4⟩:=row_cs hr
 rw[hl] at e h3
 exact⟨a,cap,e,h1,h2,h3,fun ad ea=>⟨(h4 ad ea).1,(h.nr _ (h4 ad ea).2).1,row_own_lt h.row (h4 ad ea).2⟩⟩
set_option maxHeartbeats 1000000 in
theorem Bu.lay0 (h:Bu W w bb tb X k C st mk wh b) (hn:b.im=[]):Calls Tryz.prog 40 #[.pointer (some ⟨bb,0,none⟩)] w fun e w'=>e=.returned (.int .i64 0)/\w'=w:=by
 obtain⟨Wt,v,h0,hW⟩:=h.ex
 obtain⟨a,cap,rfl,_⟩:=h0.imv.ex
 have c4:=h0.ci
 rw[hn] at c4
 clear h h0 hW
 go_enter Tryz.func40,Tryz.ntmps40
 go_wp2
 go_ret
 exact⟨rfl,rfl⟩
set_option maxHeartbeats 2000000 in
theorem Bu.lay (h:Bu W w bb tb X k C st mk wh b) (hk:k<=250000000000) (hn:b.im≠[]) (hps:0<C.ps) (hlo:∀ d,d<C.ps->C.lo d<=nxt C):Calls Tryz.prog 40 #[.pointer (some ⟨bb,0,none⟩)] w fun e w'=>∃ y,e=.returned (.int .i64 y)/\LyO W w w' tb X k C st mk wh (recI 2 (putI b.im 0 (hdT b.rt b.us))) (putI b.im 0 (hdT b.rt b.us)) (Ub (putI b.im 0 (hdT b.rt b.us))) y:=by
 obtain⟨Wt,v,h0,hW⟩:=h.ex
 obtain⟨a,cap,rfl,_⟩:=h0.imv.ex
 have CT:Hid (Calls Tryz.prog 73 #[.pointer (some ⟨bb,1,none⟩)] w fun e w'=>e=.returned (.string (hdT b.rt b.us))/\Below w.heap.size w w'):=text_any w bb 1 b.rt b.us h0.rl h0.ul h0.c1 (fun j hj=>h0.cu hj) h0.lt_
 have CP:Hid (∀ wx,Below w.heap.size w wx->Calls Tryz.prog 72 #[.pointer (some ⟨bb,0,none⟩),.int .i64 0,.string (hdT b.rt b.us)] wx fun e w'=>e=.returned (.tuple #[])/\∃ W',Bu W' w' bb tb X k C st mk wh {b with im:=putI b.im 0 (hdT b.rt b.us)}/\Fr W W' wx w'):=fun wx hb=>(h.below hb).put 0 (hdT b.rt b.us) hps (hdT_size b.rt h0.ul)
 have hr':Rise (putI b.im 0 (hdT b.rt b.us)):=putI_rise h0.so 0 _
 have CL:Hid (∀ wx Wx,Bu Wx wx bb tb X k C st mk wh {b with im:=putI b.im 0 (hdT b.rt b.us)}->∃ a' cap',wx.cell? ⟨bb,0,none⟩=some (.pointer (some ⟨tb,0,none⟩))/\wx.cell? ⟨bb,224,none⟩=some (.slice a' (putI b.im 0 (hdT b.rt b.us)).length cap')/\Calls Tryz.prog 36 #[.pointer (some ⟨tb,0,none⟩),.int .i64 2,.slice a' (putI b.im 0 (hdT b.rt b.us)).length cap'] wx.drew fun e w'=>∃ y,e=.returned (.int .i64 y)/\LyO Wx wx w' tb X k C st mk wh (recI 2 (putI b.im 0 (hdT b.rt b.us))) (putI b.im 0 (hdT b.rt b.us)) (Ub (putI b.im 0 (hdT b.rt b.us))) y):=fun wx Wx hx=>by
  obtain⟨Wt',v',g0,hW'⟩:=hx.ex
  have hd:Below wx.heap.size wx wx.drew:=⟨rfl,rfl,rfl,Nat.le_refl _,fun _ _=>rfl⟩
  have g1:=g0.below hd
  have hv:=g1.imv
  obtain⟨a',cap',e',_⟩:=hv.ex
  rw[e'] at g0
  rw[e'] at hv
  refine⟨a',cap',g0.c0,g0.ci,?_⟩
  refine(Tt.lay (U:=Ub (putI b.im 0 (hdT b.rt b.us))) g1.tt hk 2 hv hr' g1.il (fun p hp=>(g1.ip p hp).1) (fun p hp=>hlo _ (g1.ip p hp).1) (fun p hp=>Nat.le_of_eq (g1.ip p hp).2) (Ub_size (fun p hp=>(g1.ip p hp).2)) (fun p hp=>Ub_mem hr' hp)).mono ?_
  rintro e w' ⟨y,he,hl⟩
  exact⟨y,he,(hl.wide (fun j hj=>(hW' j).2 (Or.inl hj))).pre (Fr.of_below hd Wx)⟩
 have c4:=h0.ci
 have hlI:((b.im.length:Nat):Int)≠0:=by have:=List.length_pos_iff.2 hn;omega
 have hlb:(((b.im.length:Nat):Int)==0)=false:=by simpa using hlI
 clear h h0 hW hn hr'
 generalize putI b.im 0 (hdT b.rt b.us)=im' at *
 generalize hdT b.rt b.us=t at *
 go_enter Tryz.func40,Tryz.ntmps40
 go_wp2_with (first
  | (go_at_call 73;refine CT.out.mono ?_;rintro e w1 ⟨rfl,q1⟩)
  | (go_at_call 72;refine(CP.out _ q1).mono ?_;rintro e w2 ⟨rfl,W2,u2,f2⟩;have U2:Hid _:=u2;have F2:Hid _:=f2;clear u2 f2))
 obtain⟨a2,cap2,d0,d4,cl2⟩:=CL.out _ _ U2.out
 have CL2:Hid (Calls Tryz.prog 36 #[.pointer (some ⟨tb,0,none⟩),.int .i64 2,.slice a2 im'.length cap2] w2.drew fun e w'=>∃ y,e=.returned (.int .i64 y)/\LyO W2 w2 w' tb X k C st mk wh (recI 2 im') im' (Ub im') y):=cl2
 clear cl2 CL
 go_region_with (go_at_call 36;refine CL2.out.mono ?_;rintro e w3 ⟨y,rfl,hl3⟩;have L3:Hid _:=hl3;clear hl3)
 all_goals
  go_wp2
  go_ret
  exact⟨y,rfl,L3.out.pre ((Fr.of_below q1 W).trans F2.out)⟩
end
end Go.Proofs.YtpcnjncgilmehabGreat.Tr
