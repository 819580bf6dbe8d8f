import Derived.Test.YtjlhohljkedbbaaGreatMap
import Derived.Test.YtjlhohljkedbbaaGreatMao
import Derived.SizedLaws
import Derived.Deep.Slices
import Derived.OpenShut
import Derived.BigRegion
import Derived.Laws.StructEq
import Derived.BigQuiet
set_option linter.unusedVariables false
set_option linter.unusedSimpArgs false
set_option maxRecDepth 100000
namespace Go.Proofs.YtjlhohljkedbbaaGreat.Lg
open Go.RowKit Go.Maps Go.ChangeMaps
open Gm (thn bl1 bdr)
section
variable {V:Nat->Prop}{w w1 w' w9 w10:World}{b be b1 b2:Nat}{L:List Rq.SpL}{s:Sc}{x en z z1 z2:Int}{I T v:Value}
theorem i1:(Tryz.prog.info? 3).map (·.size)=some 1:=by kernel_rfl
set_option maxHeartbeats 1000000 in
theorem commits1 (h:Sv2 b 35 40 L V w) (hE:Gm.At w be 3 #[.int .i64 en]) (hL:L.length<=80000) (hI:I.oneCell'=true) (hT:T.oneCell'=true):Calls Tryz.prog 55 #[.agg (s.A I T),.int .i64 x,.pointer (some ⟨be,0,none⟩),.pointer (some ⟨b,0,none⟩)] w fun e w'=>e=.returned (.tuple #[])/\∃ V',Sv2 b 35 40 (L++cmF en s x) V' w'/\Gm.Fr V V' w w':=by
 obtain⟨v,h1,h2,h3⟩:=h.ex
 have i1:(Tryz.prog.info? 35).map (·.size)=some 1:=by kernel_rfl
 have HE:Hid (Gm.At w be 3 #[.int .i64 en]):=hE
 obtain⟨kd,tx,pv,pg,ac,ky,ol,nw,nx,ep,nd⟩:=s
 by_cases hk:kd=7
 ·by_cases hx:x<en
  ·have HF:Hid (cmF en ⟨kd,tx,pv,pg,ac,ky,ol,nw,nx,ep,nd⟩ x=[(tx,x)]):=if_pos ⟨hk,hx⟩
   rw[HF.out]
   subst hk
   obtain⟨a,d,e,-⟩:=h2.sl
   have hlm:(L.map Rq.encS).length=L.length:=List.length_map ..
   rw[hlm] at e
   subst e
   have H1:Hid (Gm.At w b 35 #[.slice a L.length d]):=h1
   have H2:Hid (Gm.Row w 40 2 (.slice a L.length d) (L.map Rq.encS)):=h2
   have H3:Hid (∀ j,V j↔(j=b∨(Value.slice a L.length d).ownBlock=some j)):=h3
   have HLm:Hid ((L.map Rq.encS).length=L.length/\L.length<=80000):=⟨hlm,hL⟩
   clear h h1 h2 h3 HF hlm hL hE
   obtain⟨n,hn⟩:∃ n,L.length=n:=⟨_,rfl⟩
   rw[hn] at H1 H2 H3 HLm
   clear hn
   go_enter Tryz.func55,Tryz.ntmps55
   go_wp2_with first
    | (refine wpList_box_rc (s:=⟨7,tx,pv,pg,ac,ky,ol,nw,nx,ep,nd⟩) (I:=I) (T:=T) _ rfl _ rfl rfl ?_;intro w1 b1 N1;have c0:w1.cell? ⟨b1,0,none⟩=some (.int .i64 7):=N1.rc.c0;have c1:w1.cell? ⟨b1,1,none⟩=some (.int .i64 tx):=N1.rc.c1;have kb:w1.cell? ⟨b,0,none⟩=some (.slice a n d):=(H1.out.bel N1.below).c 0;have ke:w1.cell? ⟨be,0,none⟩=some (.int .i64 en):=(HE.out.bel N1.below).c 0)
    | (refine Gm.wpList_push elAc (A:=#[.int .i64 tx,.int .i64 x]) rfl _ _ rfl rfl ((H2.out.bel N1.below).bel (bl1 _)) rfl (Gm.At.new _ _ _) rfl (Rq.oneI _ _) (by have:=HLm.out;omega) ?_;intro a2 d2 w9 A9;rw[HLm.out.1] at A9 ⊢)
    | (refine Gm.wpList_put1 (u:=.slice a n d) (v:=.slice a2 (n+1) d2) _ rfl _ _ rfl rfl rfl (((H1.out.bel N1.below).bel (bl1 _)).keep (A9.grow.block b ((H1.out.bel N1.below).bel (bl1 _)).lt (fun e=>H2.out.ne (g:=b) H1.out (by decide) e.symm))) rfl i1 ?_;intro w10 P10)
   go_end0
   exact⟨rfl,sv_push H1.out H2.out H3.out (by decide) (thn N1.below (bl1 _)) A9 P10⟩
  ·have HF:Hid (cmF en ⟨kd,tx,pv,pg,ac,ky,ol,nw,nx,ep,nd⟩ x=[]):=if_neg (fun e=>hx e.2)
   rw[HF.out,List.append_nil]
   subst hk
   have H:Hid (Sv2 b 35 40 L V w):=h
   clear HF h h1 h2 h3 hL hE
   go_enter Tryz.func55,Tryz.ntmps55
   go_wp2_with (refine wpList_box_rc (s:=⟨7,tx,pv,pg,ac,ky,ol,nw,nx,ep,nd⟩) (I:=I) (T:=T) _ rfl _ rfl rfl ?_;intro w1 b1 N1;have c0:w1.cell? ⟨b1,0,none⟩=some (.int .i64 7):=N1.rc.c0;have ke:w1.cell? ⟨be,0,none⟩=some (.int .i64 en):=(HE.out.bel N1.below).c 0)
   go_end0
   exact⟨rfl,V,H.out.keep (fun j hj=>N1.below.block j (H.out.lt hj)),Gm.Fr.of_below N1.below V⟩
 ·have HF:Hid (cmF en ⟨kd,tx,pv,pg,ac,ky,ol,nw,nx,ep,nd⟩ x=[]):=if_neg (fun e=>hk e.1)
  rw[HF.out,List.append_nil]
  have hk2:(kd==7)=false:=by simpa using hk
  have H:Hid (Sv2 b 35 40 L V w):=h
  clear HF h h1 h2 h3 hL hE
  go_enter Tryz.func55,Tryz.ntmps55
  go_wp2_with (refine wpList_box_rc (s:=⟨kd,tx,pv,pg,ac,ky,ol,nw,nx,ep,nd⟩) (I:=I) (T:=T) _ rfl _ rfl rfl ?_;intro w1 b1 N1;have c0:w1.cell? ⟨b1,0,none⟩=some (.int .i64 kd):=N1.rc.c0)
  go_end0
  exact⟨rfl,V,H.out.keep (fun j hj=>N1.below.block j (H.out.lt hj)),Gm.Fr.of_below N1.below V⟩
theorem check1 (h:Gm.At w b 3 #[.int .i64 z]):Calls Tryz.prog 54 #[.agg (s.A I T),.int .i64 x,.pointer (some ⟨b,0,none⟩)] w fun e w'=>e=.returned (.tuple #[])/\Gm.At w' b 3 #[.int .i64 ((ckF s x).getD z)]/\Gm.Fr (·=b) (·=b) w w':=by
 have H:Hid (Gm.At w b 3 #[.int .i64 z]):=h
 obtain⟨kd,tx,pv,pg,ac,ky,ol,nw,nx,ep,nd⟩:=s
 by_cases hk:kd=9
 ·have HF:Hid ((ckF ⟨kd,tx,pv,pg,ac,ky,ol,nw,nx,ep,nd⟩ x).getD z=x):=by show _=_;unfold ckF;rw[if_pos hk];rfl
  rw[HF.out]
  subst hk
  clear HF h
  go_enter Tryz.func54,Tryz.ntmps54
  go_wp2_with first
   | (refine wpList_box_rc (s:=⟨9,tx,pv,pg,ac,ky,ol,nw,nx,ep,nd⟩) (I:=I) (T:=T) _ rfl _ rfl rfl ?_;intro w1 b1 N1;have c0:w1.cell? ⟨b1,0,none⟩=some (.int .i64 9):=N1.rc.c0)
   | (refine Gm.wpList_put1 (u:=.int .i64 z) (v:=.int .i64 x) _ rfl _ _ rfl rfl rfl (H.out.bel N1.below) rfl i1 ?_;intro w10 P10)
  go_end0
  exact⟨rfl,P10.is,(Gm.Fr.of_below N1.below _).trans (P10.fr _ rfl)⟩
 ·have HF:Hid ((ckF ⟨kd,tx,pv,pg,ac,ky,ol,nw,nx,ep,nd⟩ x).getD z=z):=by show _=_;unfold ckF;rw[if_neg hk];rfl
  rw[HF.out]
  have hk2:(kd==9)=false:=by simpa using hk
  clear HF h
  go_enter Tryz.func54,Tryz.ntmps54
  go_wp2_with (refine wpList_box_rc (s:=⟨kd,tx,pv,pg,ac,ky,ol,nw,nx,ep,nd⟩) (I:=I) (T:=T) _ rfl _ rfl rfl ?_;intro w1 b1 N1;have c0:w1.cell? ⟨b1,0,none⟩=some (.int .i64 kd):=N1.rc.c0)
  go_end0
  exact⟨rfl,H.out.bel N1.below,Gm.Fr.of_below N1.below _⟩
theorem put2_of (h1:Gm.At w b1 3 #[.int .i64 z1]) (h2:Gm.At w b2 3 #[.int .i64 z2]) (hne:b1≠b2) (e d:Int) :
  Gm.At ((w.setCell ⟨b1,0,none⟩ (.int .i64 e)).setCell ⟨b2,0,none⟩ (.int .i64 d)) b1 3 #[.int .i64 e]/\Gm.At ((w.setCell ⟨b1,0,none⟩ (.int .i64 e)).setCell ⟨b2,0,none⟩ (.int .i64 d)) b2 3 #[.int .i64 d]/\Gm.Fr (fun j=>j=b1∨j=b2) (fun j=>j=b1∨j=b2) w ((w.setCell ⟨b1,0,none⟩ (.int .i64 e)).setCell ⟨b2,0,none⟩ (.int .i64 d)):=by
 have P1:=Gm.put1_of (v:=.int .i64 e) h1
 have h2':=h2.keep (P1.off b2 (fun e=>hne e.symm))
 have P2:=Gm.put1_of (v:=.int .i64 d) h2'
 exact⟨P1.is.keep (P2.off b1 hne),P2.is,(P1.fr _ (Or.inl rfl)).trans (P2.fr _ (Or.inr rfl))⟩
set_option maxHeartbeats 1000000 in
theorem leader1 (h1:Gm.At w b1 3 #[.int .i64 z1]) (h2:Gm.At w b2 3 #[.int .i64 z2]) (hne:b1≠b2):Calls Tryz.prog 53 #[.agg (s.A I T),.int .i64 x,.pointer (some ⟨b1,0,none⟩),.pointer (some ⟨b2,0,none⟩)] w fun e w'=>e=.returned (.tuple #[])/\Gm.At w' b1 3 #[.int .i64 ((ldF s x).getD (z1,z2)).1]/\Gm.At w' b2 3 #[.int .i64 ((ldF s x).getD (z1,z2)).2]/\Gm.Fr (fun j=>j=b1∨j=b2) (fun j=>j=b1∨j=b2) w w':=by
 have H1:Hid (Gm.At w b1 3 #[.int .i64 z1]):=h1
 have H2:Hid (Gm.At w b2 3 #[.int .i64 z2]):=h2
 have HN:Hid (b1≠b2):=hne
 obtain⟨kd,tx,pv,pg,ac,ky,ol,nw,nx,ep,nd⟩:=s
 by_cases hk:kd=10
 ·have HF:Hid ((ldF ⟨kd,tx,pv,pg,ac,ky,ol,nw,nx,ep,nd⟩ x).getD (z1,z2)=(ep,nd)):=by show _=_;unfold ldF;rw[if_pos hk];rfl
  rw[HF.out]
  subst hk
  clear HF h1 h2 hne
  go_enter Tryz.func53,Tryz.ntmps53
  go_wp2_with (refine wpList_box_rc (s:=⟨10,tx,pv,pg,ac,ky,ol,nw,nx,ep,nd⟩) (I:=I) (T:=T) _ rfl _ rfl rfl ?_;intro w1 b3 N1;have c0:w1.cell? ⟨b3,0,none⟩=some (.int .i64 10):=N1.rc.c0;have c11:w1.cell? ⟨b3,11,none⟩=some (.int .i64 ep):=N1.rc.c11;have c12:w1.cell? ⟨b3,12,none⟩=some (.int .i64 nd):=N1.rc.c12;have k1:w1.cell? ⟨b1,0,none⟩=some (.int .i64 z1):=(H1.out.bel N1.below).c 0;have k2:w1.cell? ⟨b2,0,none⟩=some (.int .i64 z2):=(H2.out.bel N1.below).c 0;have f1:w1.frozen? ⟨b1,0,none⟩=false:=(H1.out.bel N1.below).f 0;have f2:w1.frozen? ⟨b2,0,none⟩=false:=(H2.out.bel N1.below).f 0;have hn1:b1≠b3:=(fun e=>by have:=H1.out.lt;have:=N1.eq;omega);have hn2:b2≠b3:=(fun e=>by have:=H2.out.lt;have:=N1.eq;omega);have hn3:=HN.out)
  go_region
  go_end0
  obtain⟨p1,p2,p3⟩:=put2_of (H1.out.bel N1.below) (H2.out.bel N1.below) HN.out ep nd
  exact⟨rfl,p1.bel (bdr (Below.refl _ _) 1),p2.bel (bdr (Below.refl _ _) 1),((Gm.Fr.of_below N1.below _).trans p3).below (bdr (Below.refl _ _) 1)⟩
 ·have HF:Hid ((ldF ⟨kd,tx,pv,pg,ac,ky,ol,nw,nx,ep,nd⟩ x).getD (z1,z2)=(z1,z2)):=by show _=_;unfold ldF;rw[if_neg hk];rfl
  rw[HF.out]
  have hk2:(kd==10)=false:=by simpa using hk
  clear HF h1 h2 hne
  go_enter Tryz.func53,Tryz.ntmps53
  go_wp2_with (refine wpList_box_rc (s:=⟨kd,tx,pv,pg,ac,ky,ol,nw,nx,ep,nd⟩) (I:=I) (T:=T) _ rfl _ rfl rfl ?_;intro w1 b3 N1;have c0:w1.cell? ⟨b3,0,none⟩=some (.int .i64 kd):=N1.rc.c0)
  go_end0
  exact⟨rfl,H1.out.bel N1.below,H2.out.bel N1.below,Gm.Fr.of_below N1.below _⟩
end
theorem pla0 (fs:List ByteArray):pla fs 0=1:=by unfold pla off;rw[List.take_zero];rfl
section
variable {W V:Nat->Prop}{w w1 w2 w':World}{l b be b1 b2 n:Nat}{fs:List ByteArray}{J:Nat->(Nat->Prop)->World->Prop}{en:Int}
structure Dn (W:Nat->Prop) (w:World) (l:Nat) (fs:List ByteArray) (J:(Nat->Prop)->World->Prop) (w':World):Prop where
 ex:∃ W' V',Lo W' w' l fs/\J V' w'/\(∀ j,W' j->¬ V' j)/\(∀ j,V' j->w.heap.size<=j)/\Gm.Fr W W' w w'
theorem Ov.done (ho:Ov W V w1 l fs J n w') (hB:Below w.heap.size w w1) (hV:∀ j,V j->w.heap.size<=j):Dn W w l fs (J n) w':=by
 obtain⟨W',V',g1,g2,g3,g4,g5⟩:=ho.ex
 have hs:=hB.size
 refine⟨W',V',g1,g2,g3,fun j hj=>(g5 j hj).elim (hV j) (fun e=>Nat.le_trans hs e),ho.os.trans hB.os,ho.tape.trans hB.tape,ho.output.trans hB.output,Nat.le_trans hs ho.size,fun j hj hn=>?_,fun j hj=>(g4 j hj).imp id (fun e=>Nat.le_trans hs e)⟩
 exact(ho.blk j (Nat.lt_of_lt_of_le hj hs) hn (fun e=>by have:=hV j e;omega)).trans (hB.block j hj)
theorem sv_new {sl el:TypeId} (h:Gm.At w b sl #[.slice none 0 0]):Sv2 b sl el [] (fun j=>j=b) w:=⟨.slice none 0 0,h,Gm.Row.nil _ _ _,fun j=>⟨Or.inl,fun e=>e.elim id (fun e=>by cases e)⟩⟩
theorem tlS (hf:Fit 200 fs):Tl fs 52 #[.pointer (some ⟨b,0,none⟩)] (fun i V w=>Sv2 b 60 62 (accM fs spF i) V w/\i<=fs.length) :=
 Tel.tl1 ⟨enters_of Tryz.func52 (by kernel_rfl) rfl,fun i V w h j hj=>h.1.lt hj,fun i V w w' h hb hs=>⟨h.1.keep hb,h.2⟩,fun i hi V w I0 T0 h hI hT=>by
  refine(spans1 (s:=(recF fs[i]).s) (x:=pla fs i) h.1 (by have:=acc_len (fs:=fs) spF_len i;have:=fs_len hf;omega) hI hT).mono ?_
  rintro e w' ⟨he,V',g1,g2⟩
  rw[rcd_at hi] at g1
  exact⟨he,V',⟨g1,hi⟩,g2⟩⟩
theorem Spans_any (h:Lo W w l fs):Calls Tryz.prog 24 #[.pointer (some ⟨l,0,none⟩)] w fun e w'=>∃ v,e=.returned v/\Dn W w l fs (fun V w'=>Gm.Row w' 62 2 v ((accM fs spF fs.length).map Rq.encS)/\∀ g,v.ownBlock=some g->V g) w':=by
 have hz:∀ w,(zeroValue 60).run Tryz.prog w=.ok (.slice none 0 0) w:=fun w=>by kernel_rfl
 have CE:Hid (∀ wx b,Gm.New w wx b 60 #[.slice none 0 0]->Calls Tryz.prog 44 #[.pointer (some ⟨l,0,none⟩),.int .i64 1,.func (.func 52) #[] #[.pointer (some ⟨b,0,none⟩)]] wx fun e w'=>e=.returned (.tuple #[])/\Dn W w l fs (fun V w=>Sv2 b 60 62 (accM fs spF fs.length) V w/\fs.length<=fs.length) w'):=fun wx b hN=>by
  have:=each_any (i:=0) (tlS (b:=b) h.fit) (h.below hN.bel) (V:=fun j=>j=b) ⟨sv_new hN.is,Nat.zero_le _⟩ (fun j hj e=>by have:=h.lt hj;have:=hN.eq;omega) (Nat.zero_le _)
  rw[pla0] at this
  refine this.mono ?_
  rintro e w' ⟨he,ho⟩
  exact⟨he,ho.done hN.bel (fun j hj=>by rw[hj,hN.eq];exact Nat.le_refl _)⟩
 have hle:Hid (∀ (b:Nat) (v:Value) (V:Nat->Prop),True):=fun _ _ _=>trivial
 clear h
 go_enter Tryz.func24,Tryz.ntmps24
 go_wp2_with first
  | (refine Gm.wpList_new1 _ hz rfl rfl rfl ?_;intro w1 b1 N1)
  | (go_at_call 44;refine(CE.out _ _ N1).mono ?_;rintro e w2 ⟨rfl,D⟩;obtain⟨W',V',g1,⟨⟨v,k1,k2,k3⟩,_⟩,g3,g4,g5⟩:=D.ex;have kb:w2.cell? ⟨b1,0,none⟩=some v:=k1.c 0;have R:Hid (Dn W w l fs (fun V w'=>Gm.Row w' 62 2 v ((accM fs spF fs.length).map Rq.encS)/\∀ g,v.ownBlock=some g->V g) w2):=⟨W',V',g1,⟨k2,fun g e=>(k3 g).2 (Or.inr e)⟩,g3,g4,g5⟩;obtain⟨a9,c9,e9,-⟩:=k2.sl;rw[List.length_map] at e9;subst e9;clear g1 k1 k2 k3 g3 g4 g5 D)
 go_ret
 exact⟨.slice a9 (accM fs spF fs.length).length c9,rfl,R.out⟩
theorem tlC:Tl fs 54 #[.pointer (some ⟨b,0,none⟩)] (fun i V w=>Gm.At w b 3 #[.int .i64 (lstM fs ckF 0 i)]/\∀ j,V j↔j=b) :=
 Tel.tl1 ⟨enters_of Tryz.func54 (by kernel_rfl) rfl,fun i V w h j hj=>by rw[(h.2 j).1 hj];exact h.1.lt,fun i V w w' h hb hs=>⟨h.1.keep (hb b ((h.2 b).2 rfl)),h.2⟩,fun i hi V w I0 T0 h hI hT=>by
  refine(check1 (s:=(recF fs[i]).s) (x:=pla fs i) h.1).mono ?_
  rintro e w' ⟨he,g1,g2⟩
  rw[rcd_at hi] at g1
  have hV:V=(fun j=>j=b):=funext fun j=>propext (h.2 j)
  exact⟨he,(fun j=>j=b),⟨g1,fun j=>Iff.rfl⟩,by rw[hV];exact g2⟩⟩
theorem Check_any (h:Lo W w l fs):Calls Tryz.prog 26 #[.pointer (some ⟨l,0,none⟩)] w fun e w'=>e=.returned (.int .i64 (lstM fs ckF 0 fs.length))/\Dn W w l fs (fun _ _=>True) w':=by
 have hz:∀ w,(zeroValue 3).run Tryz.prog w=.ok (.int .i64 0) w:=fun w=>by kernel_rfl
 have CE:Hid (∀ wx b,Below w.heap.size w wx->Gm.At wx b 3 #[.int .i64 0]->w.heap.size<=b->Calls Tryz.prog 44 #[.pointer (some ⟨l,0,none⟩),.int .i64 1,.func (.func 54) #[] #[.pointer (some ⟨b,0,none⟩)]] wx fun e w'=>e=.returned (.tuple #[])/\Dn W w l fs (fun V w=>Gm.At w b 3 #[.int .i64 (lstM fs ckF 0 fs.length)]/\∀ j,V j↔j=b) w'):=fun wx b hB hA hb=>by
  have:=each_any (i:=0) (tlC (b:=b) (fs:=fs)) (h.below hB) (V:=fun j=>j=b) ⟨hA,fun j=>Iff.rfl⟩ (fun j hj e=>by have:=h.lt hj;omega) (Nat.zero_le _)
  rw[pla0] at this
  refine this.mono ?_
  rintro e w' ⟨he,ho⟩
  exact⟨he,ho.done hB (fun j hj=>by rw[hj];exact hb)⟩
 clear h
 go_enter Tryz.func26,Tryz.ntmps26
 go_wp2_with first
  | (refine Gm.wpList_new1 _ hz rfl rfl rfl ?_;intro w1 b1 N1)
  | (refine Gm.wpList_put1 (u:=.int .i64 0) (v:=.int .i64 0) _ rfl _ _ rfl rfl rfl N1.is rfl i1 ?_;intro w3 P3)
  | (go_at_call 44;refine(CE.out _ b1 (Rq.Put.belN N1 P3) P3.is (by rw[N1.eq];exact Nat.le_refl _)).mono ?_;rintro e w2 ⟨rfl,D⟩;obtain⟨W',V',g1,⟨k1,k3⟩,g3,g4,g5⟩:=D.ex;have kb:w2.cell? ⟨b1,0,none⟩=some (.int .i64 (lstM fs ckF 0 fs.length)):=k1.c 0;have R:Hid (Dn W w l fs (fun _ _=>True) w2):=⟨W',V',g1,trivial,g3,g4,g5⟩;clear g1 k1 k3 g3 g4 g5 D)
 go_ret
 exact⟨rfl,R.out⟩
theorem tlL (hne:b1≠b2):Tl fs 53 #[.pointer (some ⟨b1,0,none⟩),.pointer (some ⟨b2,0,none⟩)] (fun i V w=>Gm.At w b1 3 #[.int .i64 (lstM fs ldF (0,0) i).1]/\Gm.At w b2 3 #[.int .i64 (lstM fs ldF (0,0) i).2]/\∀ j,V j↔(j=b1∨j=b2)) :=
 Tel.tl2 ⟨enters_of Tryz.func53 (by kernel_rfl) rfl,fun i V w h j hj=>by rcases (h.2.2 j).1 hj with e |e <;> rw[e];exact h.1.lt;exact h.2.1.lt,fun i V w w' h hb hs=>⟨h.1.keep (hb b1 ((h.2.2 b1).2 (Or.inl rfl))),h.2.1.keep (hb b2 ((h.2.2 b2).2 (Or.inr rfl))),h.2.2⟩,fun i hi V w I0 T0 h hI hT=>by
  refine(leader1 (s:=(recF fs[i]).s) (x:=pla fs i) h.1 h.2.1 hne).mono ?_
  rintro e w' ⟨he,g1,g2,g3⟩
  rw[rcd_at hi] at g1 g2
  have hV:V=(fun j=>j=b1∨j=b2):=funext fun j=>propext (h.2.2 j)
  exact⟨he,(fun j=>j=b1∨j=b2),⟨g1,g2,fun j=>Iff.rfl⟩,by rw[hV];exact g3⟩⟩
set_option maxHeartbeats 1000000 in
theorem Leader_any (h:Lo W w l fs):Calls Tryz.prog 25 #[.pointer (some ⟨l,0,none⟩)] w fun e w'=>e=.returned (.tuple #[.int .i64 (lstM fs ldF (0,0) fs.length).1,.int .i64 (lstM fs ldF (0,0) fs.length).2])/\Dn W w l fs (fun _ _=>True) w':=by
 have hz:∀ w,(zeroValue 3).run Tryz.prog w=.ok (.int .i64 0) w:=fun w=>by kernel_rfl
 have CE:Hid (∀ wx b1 b2,Below w.heap.size w wx->Gm.At wx b1 3 #[.int .i64 0]->Gm.At wx b2 3 #[.int .i64 0]->w.heap.size<=b1->w.heap.size<=b2->b1≠b2->Calls Tryz.prog 44 #[.pointer (some ⟨l,0,none⟩),.int .i64 1,.func (.func 53) #[] #[.pointer (some ⟨b1,0,none⟩),.pointer (some ⟨b2,0,none⟩)]] wx fun e w'=>e=.returned (.tuple #[])/\Dn W w l fs (fun V w=>Gm.At w b1 3 #[.int .i64 (lstM fs ldF (0,0) fs.length).1]/\Gm.At w b2 3 #[.int .i64 (lstM fs ldF (0,0) fs.length).2]/\∀ j,V j↔(j=b1∨j=b2)) w'):=fun wx b1 b2 hB hA hA2 hb hb2 hne=>by
  have:=each_any (i:=0) (tlL (fs:=fs) hne) (h.below hB) (V:=fun j=>j=b1∨j=b2) ⟨hA,hA2,fun j=>Iff.rfl⟩ (fun j hj e=>by have:=h.lt hj;omega) (Nat.zero_le _)
  rw[pla0] at this
  refine this.mono ?_
  rintro e w' ⟨he,ho⟩
  exact⟨he,ho.done hB (fun j hj=>by omega)⟩
 clear h
 obtain⟨z,hz2⟩:∃ z,lstM fs ldF (0,0) fs.length=z:=⟨_,rfl⟩
 rw[hz2] at CE
 rw[hz2]
 obtain⟨zz1,zz2⟩:=z
 dsimp only at CE ⊢
 clear hz2
 go_enter Tryz.func25,Tryz.ntmps25
 go_wp2_with first
  | (have:=N1;refine Gm.wpList_new1 _ hz rfl rfl rfl ?_;intro w2 b2 N2)
  | (refine Gm.wpList_new1 _ hz rfl rfl rfl ?_;intro w1 b1 N1)
  | (have:=P3;refine Gm.wpList_put1 (u:=.int .i64 0) (v:=.int .i64 0) _ rfl _ _ rfl rfl rfl A3.out rfl i1 ?_;intro w4 P4;have B4:Hid (Below w.heap.size w w4):=B3.out.trans ((P4.fr (·=b2) rfl).bel (fun j hj=>by rw[hj,N2.eq];exact N1.bel.size) B3.out.size);have hne:b1≠b2:=(by have:=N1.is.lt;have:=N2.eq;omega);have A4:Hid (Gm.At w4 b1 3 #[.int .i64 0]):=P3.is.keep (P4.off _ hne))
  | (refine Gm.wpList_put1 (u:=.int .i64 0) (v:=.int .i64 0) _ rfl _ _ rfl rfl rfl (N1.is.bel N2.bel) rfl i1 ?_;intro w3 P3;have B3:Hid (Below w.heap.size w w3):=(thn N1.bel N2.bel).trans ((P3.fr (·=b1) rfl).bel (fun j hj=>by rw[hj,N1.eq];exact Nat.le_refl _) (thn N1.bel N2.bel).size);have A3:Hid (Gm.At w3 b2 3 #[.int .i64 0]):=N2.is.keep (P3.off _ (by have:=N1.is.lt;have:=N2.eq;omega)))
  | (go_at_call 44;refine(CE.out _ b1 b2 B4.out A4.out P4.is (by rw[N1.eq];exact Nat.le_refl _) (by rw[N2.eq];exact N1.bel.size) hne).mono ?_;rintro e w5 ⟨rfl,D⟩;obtain⟨W',V',g1,⟨k1,k2,k3⟩,g3,g4,g5⟩:=D.ex;have kb:w5.cell? ⟨b1,0,none⟩=some (.int .i64 zz1):=k1.c 0;have kb2:w5.cell? ⟨b2,0,none⟩=some (.int .i64 zz2):=k2.c 0;have R:Hid (Dn W w l fs (fun _ _=>True) w5.drew):=⟨W',fun _=>False,g1.below (bdr (Below.refl _ _) 1),trivial,fun _ _ h=>h,fun _ h=>h.elim,g5.below (bdr (Below.refl _ _) 1)⟩;clear g1 k1 k2 k3 g3 g4 g5 D)
 go_region
 all_goals go_wp2
 all_goals go_ret2
 all_goals exact⟨rfl,R.out⟩
structure Cm2 (b be:Nat) (en:Int) (L:List Rq.SpL) (V:Nat->Prop) (w:World):Prop where
 ex:∃ V1,Sv2 b 35 40 L V1 w/\(∀ j,V j↔(V1 j∨j=be))
 e:Gm.At w be 3 #[.int .i64 en]
theorem tlM (hf:Fit 200 fs):Tl fs 55 #[.pointer (some ⟨be,0,none⟩),.pointer (some ⟨b,0,none⟩)] (fun i V w=>Cm2 b be en (accM fs (cmF en) i) V w) :=
 Tel.tl2 ⟨enters_of Tryz.func55 (by kernel_rfl) rfl,fun i V w h j hj=>by
  obtain⟨V1,h1,h2⟩:=h.ex
  rcases (h2 j).1 hj with e |e
  ·exact h1.lt e
  ·rw[e];exact h.e.lt,fun i V w w' h hb hs=>by
  obtain⟨V1,h1,h2⟩:=h.ex
  exact⟨⟨V1,h1.keep (fun j hj=>hb j ((h2 j).2 (Or.inl hj))),h2⟩,h.e.keep (hb be ((h2 be).2 (Or.inr rfl)))⟩,fun i hi V w I0 T0 h hI hT=>by
  obtain⟨V1,h1,h2⟩:=h.ex
  have hnb:¬ V1 be:=fun e=>by
   obtain⟨v,k1,k2,k3⟩:=h1.ex
   rcases (k3 be).1 e with e2 |e2
   ·subst e2;have:=k1.tag h.e.blk;exact absurd this (by decide)
   ·exact k2.ne (g:=be) h.e (by decide) e2
  refine(commits1 (s:=(recF fs[i]).s) (x:=pla fs i) h1 h.e (by have:=acc_len (fs:=fs) (cmF_len en) i;have:=fs_len hf;omega) hI hT).mono ?_
  rintro e w' ⟨he,V',g1,g2⟩
  rw[rcd_at hi] at g1
  refine⟨he,(fun j=>V' j∨j=be),⟨⟨V',g1,fun j=>Iff.rfl⟩,h.e.keep (g2.blk be h.e.lt hnb)⟩,g2.os,g2.tape,g2.output,g2.size,fun j hj hn=>g2.blk j hj (fun e=>hn ((h2 j).2 (Or.inl e))),fun j hj=>?_⟩
  rcases hj with hj |hj
  ·exact(g2.sub j hj).imp (fun e=>(h2 j).2 (Or.inl e)) id
  ·exact Or.inl ((h2 j).2 (Or.inr hj))⟩
theorem Commits_any (h:Lo W w l fs) (en:Int):Calls Tryz.prog 27 #[.pointer (some ⟨l,0,none⟩),.int .i64 en] w fun e w'=>∃ v,e=.returned v/\Dn W w l fs (fun V w'=>Gm.Row w' 40 2 v ((accM fs (cmF en) fs.length).map Rq.encS)/\∀ g,v.ownBlock=some g->V g) w':=by
 have hz:∀ w,(zeroValue 35).run Tryz.prog w=.ok (.slice none 0 0) w:=fun w=>by kernel_rfl
 have CE:Hid (∀ wx be b,Below w.heap.size w wx->Gm.At wx be 3 #[.int .i64 en]->Gm.At wx b 35 #[.slice none 0 0]->w.heap.size<=be->w.heap.size<=b->Calls Tryz.prog 44 #[.pointer (some ⟨l,0,none⟩),.int .i64 1,.func (.func 55) #[] #[.pointer (some ⟨be,0,none⟩),.pointer (some ⟨b,0,none⟩)]] wx fun e w'=>e=.returned (.tuple #[])/\Dn W w l fs (fun V w=>Cm2 b be en (accM fs (cmF en) fs.length) V w) w'):=fun wx be b hB hA hA2 hb hb2=>by
  have:=each_any (i:=0) (tlM (b:=b) (be:=be) (en:=en) h.fit) (h.below hB) (V:=fun j=>j=b∨j=be) ⟨⟨_,sv_new hA2,fun j=>Iff.rfl⟩,hA⟩ (fun j hj e=>by have:=h.lt hj;omega) (Nat.zero_le _)
  rw[pla0] at this
  refine this.mono ?_
  rintro e w' ⟨he,ho⟩
  exact⟨he,ho.done hB (fun j hj=>by omega)⟩
 clear h
 go_enter Tryz.func27,Tryz.ntmps27
 go_wp2_with first
  | (refine Gm.wpList_box1 (v:=.int .i64 en) _ rfl _ rfl rfl rfl ?_;intro w3 b3 N3)
  | (refine Gm.wpList_new1 _ hz rfl rfl rfl ?_;intro w1 b1 N1)
  | (go_at_call 44;refine(CE.out _ b3 b1 (thn N3.bel N1.bel) (N3.is.bel N1.bel) N1.is (by rw[N3.eq];exact Nat.le_refl _) (by rw[N1.eq];exact N3.bel.size)).mono ?_;rintro e w2 ⟨rfl,D⟩;obtain⟨W',V',g1,⟨⟨V1,⟨v,k1,k2,k3⟩,k4⟩,_⟩,g3,g4,g5⟩:=D.ex;have kb:w2.cell? ⟨b1,0,none⟩=some v:=k1.c 0;have R:Hid (Dn W w l fs (fun V w'=>Gm.Row w' 40 2 v ((accM fs (cmF en) fs.length).map Rq.encS)/\∀ g,v.ownBlock=some g->V g) w2):=⟨W',V',g1,⟨k2,fun g e=>(k4 g).2 (Or.inl ((k3 g).2 (Or.inr e)))⟩,g3,g4,g5⟩;obtain⟨a9,c9,e9,-⟩:=k2.sl;rw[List.length_map] at e9;subst e9;clear g1 k1 k2 k3 k4 g3 g4 g5 D)
 go_ret
 exact⟨.slice a9 (accM fs (cmF en) fs.length).length c9,rfl,R.out⟩
end
section
variable {H:Type}{enc:TypeId × Value->H}{w:World}
theorem open_imgsL {fuel:Nat} {cs:List Value} {x:DataW H × List MemPlace} (h:DataW.trod enc Tryz.prog w 0 (fun _=>true) true fuel 52 cs=some x) :
  ∃ v l,cs=[v]/\SlI w v l/\l.length<=9223372036854775807/\∀ p∈l,p.2.size<=9223372036854775807:=by
 rcases Go.Deep.open_slice Tryz.underlying52 h with⟨hcs,_⟩ |⟨ad,len,cap,m,n,D,Pl,hcs,_,hl,hm,hmm,_,hall⟩
 ·exact⟨_,[],hcs,SlI.nil w,Nat.zero_le _,fun p hp=>by cases hp⟩
 ·rw[if_pos rfl] at hmm
  subst hmm
  have h2:Tryz.prog.cellsOf 227=2:=by kernel_rfl
  have h3:Tryz.prog.cellsOf 3=1:=by kernel_rfl
  have h9:Tryz.prog.cellsOf 9=1:=by kernel_rfl
  have each:∀ i,i<m->∃ q:Im,(w.cell? (ad.add (i*2))=some (.int .i64 q.1)/\w.cell? (ad.add (i*2+1))=some (.string q.2))/\q.2.size<=9223372036854775807:=by
   intro i hi
   obtain⟨cs',g1,g2⟩:=hall i hi
   rw[h2] at g1
   obtain⟨_,hlen,hcell⟩:=World.cells?_some g1
   obtain⟨xs,k,hk,_,_,hxl,hf⟩:=DataW.trod_struct Tryz.underlying227 g2
   match xs,hxl,cs',hlen with
   | [y0,y1],_,[v0,v1],_ =>
    have e0:=hcell 0 (by omega)
    have e1:=hcell 1 (by omega)
    rw[Go.Deep.add_add] at e0 e1
    have f0:=hf 0 _ rfl
    have f1:=hf 1 _ rfl
    simp[h3,h9] at f0 f1
    obtain⟨n0,i0,_,_⟩:=DataW.trod_int Tryz.underlying3 f0
    obtain⟨s1,i1,_,z1⟩:=DataW.trod_string Tryz.underlying9 f1
    simp at i0 i1
    subst i0 i1
    exact⟨(n0,s1),⟨by simpa using e0,by simpa using e1⟩,z1⟩
  haveI:Inhabited Im:=⟨(0,⟨#[]⟩)⟩
  obtain⟨q,hq⟩:=Go.Deep.choose_lt each
  have hlm:len<=m:=hl
  have hz:((List.range len).map q).length=len:=by simp
  obtain⟨b,off,spot⟩:=ad
  have hsp:0<m->spot=none:=fun hi=>by
   have g0:=(hq 0 hi).1.1
   simpa[Addr.add] using World.cell?_spot g0
  refine⟨_,(List.range len).map q,hcs,⟨some ⟨b,off,spot⟩,m,by rw[hz],?_,(fun e=>by cases e),by rw[hz];exact hl,?_⟩,by rw[hz];exact Nat.le_trans hl hm,?_⟩
  ·refine⟨fun i hi=>?_⟩
   rw[encI_length,hz] at hi
   have:=hsp (by omega)
   subst this
   obtain⟨⟨g1,g2⟩,_⟩:=hq i (by omega)
   have hadd:∀ k,(⟨b,off,none⟩:Addr).add k=⟨b,off+k,none⟩:=fun k=>by unfold Addr.add;split <;> simp_all
   rw[hadd] at g1 g2
   refine⟨b,off,rfl,?_,?_,?_⟩
   ·rcases Nat.lt_or_ge b w.heap.size with h' |h'
    ·exact h'
    ·simp[World.cell?,Array.getElem?_eq_none h'] at g1
   ·simpa[encI] using g1
   ·simpa[encI,Nat.add_assoc] using g2
  ·intro hne ad' e
   cases e
   have:0<len:=by
    rcases Nat.eq_zero_or_pos len with h0 |h0
    ·subst h0;exact absurd rfl hne
    ·exact h0
   exact hsp (by omega)
  ·intro p hp
   obtain⟨i,hi,rfl⟩:=List.mem_map.1 hp
   exact(hq i (by have:=List.mem_range.1 hi;omega)).2
theorem open_tabsL {fuel:Nat} {cs:List Value} {x:DataW H × List MemPlace} (h:DataW.trod enc Tryz.prog w 0 (fun _=>true) true fuel 35 cs=some x) :
  ∃ v l,cs=[v]/\SlT w v l/\l.length<=9223372036854775807:=by
 rcases Go.Deep.open_slice Tryz.underlying35 h with⟨hcs,_⟩ |⟨ad,len,cap,m,n,D,Pl,hcs,_,hl,hm,hmm,_,hall⟩
 ·exact⟨_,[],hcs,SlT.nil w,Nat.zero_le _⟩
 ·rw[if_pos rfl] at hmm
  subst hmm
  have h2:Tryz.prog.cellsOf 40=2:=by kernel_rfl
  have h3:Tryz.prog.cellsOf 3=1:=by kernel_rfl
  have each:∀ i,i<m->∃ q:Tb,w.cell? (ad.add (i*2))=some (.int .i64 q.1)/\w.cell? (ad.add (i*2+1))=some (.int .i64 q.2):=by
   intro i hi
   obtain⟨cs',g1,g2⟩:=hall i hi
   rw[h2] at g1
   obtain⟨_,hlen,hcell⟩:=World.cells?_some g1
   obtain⟨xs,k,hk,_,_,hxl,hf⟩:=DataW.trod_struct Tryz.underlying40 g2
   match xs,hxl,cs',hlen with
   | [y0,y1],_,[v0,v1],_ =>
    have e0:=hcell 0 (by omega)
    have e1:=hcell 1 (by omega)
    rw[Go.Deep.add_add] at e0 e1
    have f0:=hf 0 _ rfl
    have f1:=hf 1 _ rfl
    simp[h3] at f0 f1
    obtain⟨n0,i0,_,_⟩:=DataW.trod_int Tryz.underlying3 f0
    obtain⟨n1,i1,_,_⟩:=DataW.trod_int Tryz.underlying3 f1
    simp at i0 i1
    subst i0 i1
    exact⟨(n0,n1),by simpa using e0,by simpa using e1⟩
  haveI:Inhabited Tb:=⟨(0,0)⟩
  obtain⟨q,hq⟩:=Go.Deep.choose_lt each
  have hlm:len<=m:=hl
  have hz:((List.range len).map q).length=len:=by simp
  obtain⟨b,off,spot⟩:=ad
  have hsp:0<m->spot=none:=fun hi=>by
   have g0:=(hq 0 hi).1
   simpa[Addr.add] using World.cell?_spot g0
  refine⟨_,(List.range len).map q,hcs,⟨some ⟨b,off,spot⟩,m,by rw[hz],?_,(fun e=>by cases e),by rw[hz];exact hl,?_⟩,by rw[hz];exact Nat.le_trans hl hm⟩
  ·refine⟨fun i hi=>?_⟩
   rw[encT_length,hz] at hi
   have:=hsp (by omega)
   subst this
   obtain⟨g1,g2⟩:=hq i (by omega)
   have hadd:∀ k,(⟨b,off,none⟩:Addr).add k=⟨b,off+k,none⟩:=fun k=>by unfold Addr.add;split <;> simp_all
   rw[hadd] at g1 g2
   refine⟨b,off,rfl,?_,?_,?_⟩
   ·rcases Nat.lt_or_ge b w.heap.size with h' |h'
    ·exact h'
    ·simp[World.cell?,Array.getElem?_eq_none h'] at g1
   ·simpa[encT] using g1
   ·simpa[encT,Nat.add_assoc] using g2
  ·intro hne ad' e
   cases e
   have:0<len:=by
    rcases Nat.eq_zero_or_pos len with h0 |h0
    ·subst h0;exact absurd rfl hne
    ·exact h0
   exact hsp (by omega)
theorem open_recL {fuel:Nat} {cs:Array Value} {x:DataW H × List MemPlace} (hcs:cs.size=Tryz.prog.cellsOf 54)
  (h:DataW.trod enc Tryz.prog w 0 (fun _=>true) true fuel 54 cs.toList=some x):∃ m:Rm,RecV w (.agg cs) m/\Held m:=by
 have h13:Tryz.prog.cellsOf 54=13:=by kernel_rfl
 have h3:Tryz.prog.cellsOf 3=1:=by kernel_rfl
 have h9:Tryz.prog.cellsOf 9=1:=by kernel_rfl
 have hi:Tryz.prog.cellsOf 52=1:=by kernel_rfl
 have ht:Tryz.prog.cellsOf 35=1:=by kernel_rfl
 rw[h13] at hcs
 obtain⟨xs,k,hk,hx,_,hxl,hf⟩:=DataW.trod_struct Tryz.underlying54 h
 obtain⟨l⟩:=cs
 match xs,hxl,l,hcs with
 | [y0,y1,y2,y3,y4,y5,y6,y7,y8,y9,y10,y11,y12],_,[v0,v1,v2,v3,v4,v5,v6,v7,v8,v9,v10,v11,v12],_ =>
  have f0:=hf 0 _ rfl
  have f1:=hf 1 _ rfl
  have f2:=hf 2 _ rfl
  have f3:=hf 3 _ rfl
  have f4:=hf 4 _ rfl
  have f5:=hf 5 _ rfl
  have f6:=hf 6 _ rfl
  have f7:=hf 7 _ rfl
  have f8:=hf 8 _ rfl
  have f9:=hf 9 _ rfl
  have f10:=hf 10 _ rfl
  have f11:=hf 11 _ rfl
  have f12:=hf 12 _ rfl
  simp[h3,h9,hi,ht] at f0 f1 f2 f3 f4 f5 f6 f7 f8 f9 f10 f11 f12
  obtain⟨n0,i0,_,_⟩:=DataW.trod_int Tryz.underlying3 f0
  obtain⟨n1,i1,_,_⟩:=DataW.trod_int Tryz.underlying3 f1
  obtain⟨n2,i2,_,_⟩:=DataW.trod_int Tryz.underlying3 f2
  obtain⟨n3,i3,_,_⟩:=DataW.trod_int Tryz.underlying3 f3
  obtain⟨n4,i4,_,_⟩:=DataW.trod_int Tryz.underlying3 f4
  obtain⟨s5,i5,_,z5⟩:=DataW.trod_string Tryz.underlying9 f5
  obtain⟨s6,i6,_,z6⟩:=DataW.trod_string Tryz.underlying9 f6
  obtain⟨s7,i7,_,z7⟩:=DataW.trod_string Tryz.underlying9 f7
  obtain⟨n8,i8,_,_⟩:=DataW.trod_int Tryz.underlying3 f8
  obtain⟨w9,l9,i9,hI,zI,tI⟩:=open_imgsL f9
  obtain⟨w10,l10,i10,hT,zT⟩:=open_tabsL f10
  obtain⟨n11,i11,_,_⟩:=DataW.trod_int Tryz.underlying3 f11
  obtain⟨n12,i12,_,_⟩:=DataW.trod_int Tryz.underlying3 f12
  simp at i0 i1 i2 i3 i4 i5 i6 i7 i8 i9 i10 i11 i12
  subst i0 i1 i2 i3 i4 i5 i6 i7 i8 i9 i10 i11 i12
  exact⟨⟨⟨n0,n1,n2,n3,n4,s5,s6,s7,n8,n11,n12⟩,l9,l10⟩,⟨_,_,rfl,hI,hT⟩,⟨zI,zT,tI,z5,z6,z7⟩⟩
theorem mem_all {t:TypeId}:∀ {L:List (DataW H)} {d:DataW H},d∈L->∀ n∈d.weights Tryz.prog t,n∈DataW.weightsAll Tryz.prog t L
 | a :: L,d,h,n,hn=>by
  simp only[DataW.weightsAll,List.mem_append]
  rcases List.mem_cons.1 h with rfl |h
  ·exact Or.inl hn
  ·exact Or.inr (mem_all h n hn)
 | [],_,h,_,_=>by cases h
theorem im_fit {fuel:Nat} {v:Value} {l:List Im} {x:DataW H × List MemPlace} (h:DataW.trod enc Tryz.prog w 0 (fun _=>true) true fuel 52 [v]=some x) (hv:SlI w v l)
  (hw:∀ n∈x.1.weights Tryz.prog 52,n<=reachBytes):l.length*24<=140737488351232:=by
 obtain⟨a,c,e,-⟩:=hv.ex
 rcases Go.Deep.open_slice Tryz.underlying52 h with⟨hcs,_⟩ |⟨ad,len,cap,m,n,D,Pl,hcs,_,hl,hm,hmm,rfl,hall⟩
 ·rw[e] at hcs
  simp at hcs
  rw[hcs.2.1]
  exact Nat.zero_le _
 ·rw[e] at hcs
  simp at hcs
  obtain⟨_,e2,_⟩:=hcs
  have hb:Tryz.prog.bytesOf 227=24:=by kernel_rfl
  have:=hw ((((List.range len).map D).length+((List.range (m-len)).map fun j=>D (len+j)).length)*Tryz.prog.bytesOf 227) (by simp[DataW.weights,Tryz.underlying52])
  rw[hb,List.length_map,List.length_map,List.length_range,List.length_range] at this
  have h1:(len+(m-len))*24<=140737488351232:=this
  have hh:l.length<=len+(m-len):=by omega
  exact Nat.le_trans (Nat.mul_le_mul_right 24 hh) h1
theorem tb_fit {fuel:Nat} {v:Value} {l:List Tb} {x:DataW H × List MemPlace} (h:DataW.trod enc Tryz.prog w 0 (fun _=>true) true fuel 35 [v]=some x) (hv:SlT w v l)
  (hw:∀ n∈x.1.weights Tryz.prog 35,n<=reachBytes):l.length*16<=140737488351232:=by
 obtain⟨a,c,e,-⟩:=hv.ex
 rcases Go.Deep.open_slice Tryz.underlying35 h with⟨hcs,_⟩ |⟨ad,len,cap,m,n,D,Pl,hcs,_,hl,hm,hmm,rfl,hall⟩
 ·rw[e] at hcs
  simp at hcs
  rw[hcs.2.1]
  exact Nat.zero_le _
 ·rw[e] at hcs
  simp at hcs
  obtain⟨_,e2,_⟩:=hcs
  have hb:Tryz.prog.bytesOf 40=16:=by kernel_rfl
  have:=hw ((((List.range len).map D).length+((List.range (m-len)).map fun j=>D (len+j)).length)*Tryz.prog.bytesOf 40) (by simp[DataW.weights,Tryz.underlying35])
  rw[hb,List.length_map,List.length_map,List.length_range,List.length_range] at this
  have h1:(len+(m-len))*16<=140737488351232:=this
  have hh:l.length<=len+(m-len):=by omega
  exact Nat.le_trans (Nat.mul_le_mul_right 16 hh) h1
theorem rec_fit {fuel:Nat} {cs:Array Value} {m:Rm} {x:DataW H × List MemPlace} (hcs:cs.size=Tryz.prog.cellsOf 54)
  (h:DataW.trod enc Tryz.prog w 0 (fun _=>true) true fuel 54 cs.toList=some x) (hv:RecV w (.agg cs) m) (hh:Held m) (hw:∀ n∈x.1.weights Tryz.prog 54,n<=reachBytes):Small m:=by
 have h13:Tryz.prog.cellsOf 54=13:=by kernel_rfl
 have hi:Tryz.prog.cellsOf 52=1:=by kernel_rfl
 have ht:Tryz.prog.cellsOf 35=1:=by kernel_rfl
 obtain⟨I,T,e,hI,hT⟩:=hv.ex
 injection e with e
 subst e
 obtain⟨xs,k,hk,hx,_,hxl,hf⟩:=DataW.trod_struct Tryz.underlying54 h
 match xs,hxl with
 | [y0,y1,y2,y3,y4,y5,y6,y7,y8,y9,y10,y11,y12],_ =>
  have f9:=hf 9 _ rfl
  have f10:=hf 10 _ rfl
  simp[hi,ht,Sc.A] at f9 f10
  subst hx
  refine⟨im_fit f9 hI fun n hn=>hw n ?_,tb_fit f10 hT fun n hn=>hw n ?_,hh.t,hh.ky,hh.ol,hh.nw⟩
  ·simp only[DataW.weights,Tryz.underlying54]
   exact DataW.weights_mem_each (j:=9) rfl rfl n hn
  ·simp only[DataW.weights,Tryz.underlying54]
   exact DataW.weights_mem_each (j:=10) rfl rfl n hn
theorem open_recS {fuel:Nat} {a0:Option Addr} {n0 c0:Nat} {x:DataW H × List MemPlace} (h:DataW.trod enc Tryz.prog w 0 (fun _=>true) true fuel 43 [.slice a0 n0 c0]=some x)
  (hw:∀ n∈x.1.weights Tryz.prog 43,n<=reachBytes):∃ ms,RsV w a0 n0 ms/\n0<=9223372036854775807/\∀ m∈ms,Small m:=by
 rcases Go.Deep.open_slice Tryz.underlying43 h with⟨hcs,_⟩ |⟨ad,len,cap,m,n,D,Pl,hcs,_,hl,hm,hmm,rfl,hall⟩
 ·simp at hcs
  obtain⟨rfl,rfl,rfl⟩:=hcs
  exact⟨[],⟨rfl,fun i hi=>absurd hi (Nat.not_lt_zero _)⟩,by omega,fun m hm=>by cases hm⟩
 ·simp at hcs
  obtain⟨rfl,rfl,rfl⟩:=hcs
  rw[if_pos rfl] at hmm
  subst hmm
  have h13:Tryz.prog.cellsOf 54=13:=by kernel_rfl
  have each:∀ i,i<m->∃ q:Rm,(∃ I T,(∀ j u,((q.s.A I T).toList)[j]?=some u->w.cell? ((ad.add (i*13)).add j)=some u)/\RecV w (.agg (q.s.A I T)) q)/\Held q/\(i<n0->Small q):=by
   intro i hi
   obtain⟨cs',g1,g2⟩:=hall i hi
   rw[h13] at g1
   obtain⟨_,hlen,hcell⟩:=World.cells?_some g1
   have g0:cs'.toArray.size=Tryz.prog.cellsOf 54:=by rw[h13];simpa using hlen
   have g3:DataW.trod enc Tryz.prog w 0 (fun _=>true) true n 54 cs'.toArray.toList=some (D i,Pl i):=by simpa using g2
   obtain⟨q,hv,hh⟩:=open_recL g0 g3
   have hsm:i<n0->Small q:=fun hi0=>rec_fit g0 g3 hv hh (fun k hk=>hw k (by
    simp only[DataW.weights,Tryz.underlying43]
    refine List.mem_cons_of_mem _ (List.mem_append_left _ (mem_all (d:=D i) (List.mem_map.2 ⟨i,List.mem_range.2 hi0,rfl⟩) k hk))))
   obtain⟨I,T,e,hI,hT⟩:=hv.ex
   refine⟨q,⟨I,T,fun j u hu=>?_,by rw[← e];exact hv⟩,hh,hsm⟩
   injection e with e
   rw[← e] at hu
   have hj:j<cs'.length:=by simpa using (List.getElem?_eq_some_iff.1 hu).1
   have:=hcell j (by omega)
   rw[this]
   simpa using hu
  haveI:Inhabited Rm:=⟨zM⟩
  obtain⟨q,hq⟩:=Go.Deep.choose_lt each
  obtain⟨b,off,spot⟩:=ad
  have hlm:n0<=m:=hl
  refine⟨(List.range n0).map q,⟨by simp,fun i hi=>?_⟩,by have:=hm;unfold maxLen at this;omega,fun m' hm'=>by
   obtain⟨i,hi,rfl⟩:=List.mem_map.1 hm'
   have hi:=List.mem_range.1 hi
   exact(hq i (by omega)).2.2 hi⟩
  have hi':i<n0:=by simpa using hi
  obtain⟨⟨I,T,hc,hv⟩,hh,_⟩:=hq i (by omega)
  have hsp:spot=none:=by
   obtain⟨⟨I0,T0,hc0,_⟩,_⟩:=hq 0 (by omega)
   have:=hc0 0 (.int .i64 (q 0).s.kd) rfl
   simpa[Addr.add] using World.cell?_spot this
  subst hsp
  have hadd:∀ k,(⟨b,off,none⟩:Addr).add k=⟨b,off+k,none⟩:=fun k=>by unfold Addr.add;split <;> simp_all
  have hadd2:∀ k j,(⟨b,k,none⟩:Addr).add j=⟨b,k+j,none⟩:=fun k j=>by unfold Addr.add;split <;> simp_all
  have hget:((List.range n0).map q)[i]=q i:=by simp
  rw[hget]
  refine⟨b,off,I,T,rfl,?_,fun j u hu=>?_,hv,hh⟩
  ·have:=hc 0 (.int .i64 (q i).s.kd) rfl
   rw[hadd,hadd2] at this
   rcases Nat.lt_or_ge b w.heap.size with h' |h'
   ·exact h'
   ·simp[World.cell?,Array.getElem?_eq_none h'] at this
  ·have:=hc j u hu
   rw[hadd,hadd2] at this
   exact this
end
section
variable {w w0 w':World}{ms:List Rm}{a0:Option Addr}{n0 c0 l:Nat}{fs:List ByteArray}{W W':Nat->Prop}
structure Lm (w:World) (l:Nat) (w':World):Prop where
 ex:∃ W fs,Lo W w' l fs/\(∀ j,W j->w.heap.size<=j)/\Below w.heap.size w w'
theorem Lm.bel (h:Lm w l w'):Below w.heap.size w w':=by obtain⟨W,fs,h1,h2,h3⟩:=h.ex;exact h3
theorem ge_sub (h2:∀ j,W j->w.heap.size<=j) (hs:w.heap.size<=w0.heap.size) (hf:Gm.Fr W W' w0 w'):∀ j,W' j->w.heap.size<=j:=fun j hj=>(hf.sub j hj).elim (h2 j) (fun e=>Nat.le_trans hs e)
theorem Lm.append {v:Value} {m:Rm} (h:Lm w l w0) (hv:RecV w0 v m) (hm:Small m):Calls Tryz.prog 23 #[.pointer (some ⟨l,0,none⟩),v] w0 fun e w'=>∃ x y,e=.returned (.tuple #[.int .i64 x,.int .i64 y])/\Lm w l w':=by
 obtain⟨W,fs,h1,h2,h3⟩:=h.ex
 refine(h1.append hv hm).mono ?_
 rintro e w' ⟨x,y,fs',W',he,hl,hf,_⟩
 exact⟨x,y,he,W',fs',hl,ge_sub h2 h3.size hf,h3.trans (hf.bel h2 h3.size)⟩
theorem lm_new (w:World):Calls Tryz.prog 7 #[.int .i64 200] w fun e w'=>∃ db,e=.returned (.tuple #[.pointer (some ⟨db,0,none⟩),.int .i64 0])/\Below w.heap.size w w'/\Hid (Calls Tryz.prog 8 #[.pointer (some ⟨db,0,none⟩),.int .i64 0,.int .i64 200,.int .i64 1] w' fun e w2=>∃ l,e=.returned (.tuple #[.pointer (some ⟨l,0,none⟩),.int .i64 0])/\Lm w l w2):=by
 letI:Inhabited PrSet:=⟨⟨fun _=>none⟩⟩
 refine(Ds.new 200 (by omega) (by omega) w (fun j o e=>by cases e)).mono ?_
 rintro e w' ⟨he,h1,h2⟩
 refine⟨_,he,h2,?_⟩
 refine((new_wt 200 0 200 (by omega)).open_ (run:=1) (fit_nil (by omega) (by omega)) (Nat.le_refl _) h1 (by omega) (by omega) (by omega) (by show 0+200<=200;omega) rfl rfl).mono ?_
 rintro e w2 ⟨j,S',l,he,⟨_,hj,hs,hn⟩,hlv,hK⟩
 obtain⟨W,g1,g2,g3⟩:=lv_sup (q:=⟨w.heap.size,0+200+1,S',w.heap.size+2,0,200,1,j⟩) hlv
 exact⟨l,he,W,_,⟨_,g3,rfl⟩,g3.ge,h2.trans hK.bel⟩
set_option maxHeartbeats 2000000 in
theorem log_any (hr:RsV w a0 n0 ms) (hs:∀ m∈ms,Small m) (hn:n0<=9223372036854775807) (most:Nat) (hm:most<=1000):Calls Tryz.prog 16 #[.slice a0 n0 c0,.int .i64 (most:Int)] w fun e w'=>∃ l,e=.returned (.pointer (some ⟨l,0,none⟩))/\Lm w l w':=by
 have HR:Hid (RsV w a0 n0 ms):=hr
 have HSm:Hid (∀ m∈ms,Small m):=hs
 have HLn:Hid (ms.length=n0):=hr.len
 have CN:=lm_new w
 obtain⟨N,hN⟩:∃ N,min n0 most=N:=⟨_,rfl⟩
 have HN:Hid (min n0 most=N):=hN
 clear hr hs hN
 go_enter Tryz.func16,Tryz.ntmps16
 go_wp2_with first
  | (go_at_call 7;refine CN.mono ?_;rintro e w1 ⟨db,rfl,b1,CO⟩)
  | (go_at_call 8;refine CO.out.mono ?_;rintro e w2 ⟨l,rfl,HM⟩;have HM1:Hid (Lm w l w2):=HM;clear HM CO)
 go_loopw [9] (fun ix wr=>∃ j:Nat,j<=N/\ix=.int .i64 (j:Int)/\Lm w l wr) (fun ix _=>N-(intOf ix).toNat)
 case atStart=>exact⟨0,Nat.zero_le _,rfl,HM1.out⟩
 case round =>
  clear HM1
  obtain⟨j,hj,rfl,hM⟩:=hrel
  rename World=>wo
  have HM:Hid (Lm w l wo):=hM
  clear hM
  have hNe:=HN.out
  by_cases hlt:j<N
  ·have hj1:(j:Int)<(n0:Int):=by omega
   have hj2:(j:Int)<(most:Int):=by omega
   have hjm:j<ms.length:=by have:=HLn.out;omega
   obtain⟨g,o,I,T,ha,hg,hrg,hv,hh⟩:=HR.out.at_ j hjm
   subst ha
   have hbo:Below w.heap.size w wo:=HM.out.bel
   have hr1:wo.rangeAt g (o+j*13) ((ms[j].s.A I T).toList):=rangeAt_below hrg hg hbo
   have CA:Hid (Calls Tryz.prog 23 #[.pointer (some ⟨l,0,none⟩),.agg (ms[j].s.A I T)] wo fun e w'=>∃ x y,e=.returned (.tuple #[.int .i64 x,.int .i64 y])/\Lm w l w'):=HM.out.append (hv.below hbo) (HSm.out _ (List.getElem_mem _))
   clear hrg hv hh hbo hg
   generalize ms[j].s=sm at *
   go_wp2_with first
    | (refine wpList_load_rcs (s:=sm) (I:=I) (T:=T) _ rfl (.tmp 45) rfl rfl hr1 ?_;clear hr1)
    | (go_at_call 23;refine CA.out.mono ?_;rintro e w3 ⟨x,y,rfl,HM3⟩)
   go_roundw
   case rel=>exact⟨j+1,by omega,by go_num,HM3⟩
   case measure=>simp[intOf];omega
  ·have hj3:¬ ((j:Int)<(n0:Int)/\(j:Int)<(most:Int)):=by omega
   by_cases hj1:(j:Int)<(n0:Int)
   ·have hj2:¬ (j:Int)<(most:Int):=by omega
    go_wp2
    go_ret
    exact⟨l,rfl,HM.out⟩
   ·go_wp2
    go_ret
    exact⟨l,rfl,HM.out⟩
end
end Go.Proofs.YtjlhohljkedbbaaGreat.Lg
namespace Go.Proofs.YtjlhohljkedbbaaGreat.Gm
open Go.RowKit
theorem eq_field (w : World) (d : Nat) {A B : Array Value} {a b : Value} {f : Field} {fs : List Field} {r0 r : Bool} (hn : f.name ≠ "_") (hi : (isAgg f.type).run Tryz.prog w = .ok false w) (h1 : A[f.offset]? = some a) (h2 : B[f.offset]? = some b)
  (he:(Op.equalIn (d+1) f.type a b).run Tryz.prog w=.ok r0 w) (h:(Op.eqFields (d+1) A B fs).run Tryz.prog w=.ok r w):(Op.eqFields (d+1) A B (f ::fs)).run Tryz.prog w=.ok (r0&&r) w:=by
 have hp:∀ (C:Array Value) (v:Value),C[f.offset]?=some v->(Go.part f.type C f.offset).run Tryz.prog w=.ok v w:=fun C v hv=>by
  simp[Go.part,Sem.run_bind,hi,Result.andThen,hv]
 rw[Op.eqFields,if_pos hn]
 simp only[Sem.run_bind,hp A a h1,hp B b h2,Result.andThen_ok,he]
 cases r0
 ·simp
 ·simpa using h
theorem eq_none (w:World) (d:Nat) (A B:Array Value):(Op.eqFields d A B []).run Tryz.prog w=.ok true w:=by simp[Op.eqFields]
theorem eql_of {w:World} {t:TypeId} {A B:Array Value} {r:Bool} (hu:Tryz.prog.underlying t=some (.struct (Tryz.prog.fieldsOf t))) (hp:Tryz.prog.stoodInHeld t=false) {fs:List Field} (hf:(Tryz.prog.fieldsOf t).toList=fs) (h:(Op.eqFields 9999 A B fs).run Tryz.prog w=.ok r w) :
  (binOp .eql t (.agg A) (.agg B)).run Tryz.prog w=.ok (.bool r) w/\(binOp .neq t (.agg A) (.agg B)).run Tryz.prog w=.ok (.bool (!r)) w:=by
 have:=run_equalIn_struct (P:=Tryz.prog) w 9999 t A B hu hp
 rw[hf,h] at this
 constructor
 ·rw[run_eql_struct,this];rfl
 ·rw[run_neq_struct,this];rfl
end Go.Proofs.YtjlhohljkedbbaaGreat.Gm
namespace Go.Proofs.YtjlhohljkedbbaaGreat.Lg
open Go.RowKit Go.Maps Go.ChangeMaps
open Gm (thn bl1 bdr)
theorem neqA (w:World) (x y:Int):(binOp .neq 40 (.agg #[.int .i64 x,.int .i64 y]) (.agg #[.int .i64 x,.int .i64 y])).run Tryz.prog w=.ok (.bool false) w:=by
 have := (Gm.eql_of (w := w) (t := 40) (A := #[.int .i64 x, .int .i64 y]) (B := #[.int .i64 x, .int .i64 y]) (by kernel_rfl) (by kernel_rfl) (fs := [⟨ "Txn", 3, 0, false, "", "", 0⟩, ⟨ "Last", 3, 1, false, "", "", 8⟩]) (by kernel_rfl)
  (Gm.eq_field w 9998 (by decide) (by kernel_rfl) rfl rfl (run_equalIn_int w 9998 3 _ _ _ _ Tryz.underlying3) (Gm.eq_field w 9998 (by decide) (by kernel_rfl) rfl rfl (run_equalIn_int w 9998 3 _ _ _ _ Tryz.underlying3) (Gm.eq_none w _ _ _)))).2
 simpa using this
theorem neqS (w:World) (x y:Int):(binOp .neq 62 (.agg #[.int .i64 x,.int .i64 y]) (.agg #[.int .i64 x,.int .i64 y])).run Tryz.prog w=.ok (.bool false) w:=by
 have := (Gm.eql_of (w := w) (t := 62) (A := #[.int .i64 x, .int .i64 y]) (B := #[.int .i64 x, .int .i64 y]) (by kernel_rfl) (by kernel_rfl) (fs := [⟨ "Epoch", 3, 0, false, "", "", 0⟩, ⟨ "Start", 3, 1, false, "", "", 8⟩]) (by kernel_rfl)
  (Gm.eq_field w 9998 (by decide) (by kernel_rfl) rfl rfl (run_equalIn_int w 9998 3 _ _ _ _ Tryz.underlying3) (Gm.eq_field w 9998 (by decide) (by kernel_rfl) rfl rfl (run_equalIn_int w 9998 3 _ _ _ _ Tryz.underlying3) (Gm.eq_none w _ _ _)))).2
 simpa using this
section
variable {w:World}{a a':Option Addr}{n c c':Nat}{L:List Rq.SpL}
set_option maxHeartbeats 1000000 in
theorem same_any (h1:Rq.Sp w (.slice a n c) L) (h2:Rq.Sp w (.slice a' n c') L) (hL:L.length=n) (hn:n<=100000):Calls Tryz.prog 19 #[.slice a n c,.slice a' n c'] w fun e w'=>e=.returned (.bool true)/\Below w.heap.size w w':=by
 have H1:Hid (Rq.Sp w (.slice a n c) L):=h1
 have H2:Hid (Rq.Sp w (.slice a' n c') L):=h2
 have Hm:Hid (L.length=n):=hL
 clear h1 h2 hL
 have mixed:Tryz.prog.follows .mixedOrders=true:=by kernel_rfl
 go_enter Tryz.func19,Tryz.ntmps19
 go_wp2
 go_loopg [5] n (fun k vi wr=>∃ i:Nat,vi=.int .i64 (i:Int)/\n-i<=k/\i<=n/\Below w.heap.size w wr)
 case atStart=>exact⟨0,rfl,by omega,by omega,Below.refl _ _⟩
 case round =>
  obtain⟨i,rfl,hk,him,hB⟩:=hrel
  have HB:Hid (Below w.heap.size w wr):=hB
  by_cases hlt:i<n
  ·have hltI:(i:Int)<(n:Int):=by omega
   have hi1:i<L.length:=by have:=Hm.out;omega
   obtain⟨g,o,rfl,_,c0,c1⟩:=(H1.out.bel HB.out).at_ hi1
   obtain⟨g',o',rfl,_,e0,e1⟩:=(H2.out.bel HB.out).at_ hi1
   have d0:wr.drew.cell? ⟨g,o+i*2,none⟩=some (.int .i64 L[i].1):=c0
   have d1:wr.drew.cell? ⟨g,o+i*2+1,none⟩=some (.int .i64 L[i].2):=c1
   have f0:wr.drew.cell? ⟨g',o'+i*2,none⟩=some (.int .i64 L[i].1):=e0
   have f1:wr.drew.cell? ⟨g',o'+i*2+1,none⟩=some (.int .i64 L[i].2):=e1
   have heq:∀ wx,(binOp .neq 40 (.agg #[.int .i64 L[i].1,.int .i64 L[i].2]) (.agg #[.int .i64 L[i].1,.int .i64 L[i].2])).run Tryz.prog wx=.ok (.bool false) wx:=fun wx=>neqA wx _ _
   generalize L[i].1=ka at *
   generalize L[i].2=kb at *
   clear hB
   go_wp2_with fail
   go_big_region
   all_goals go_wp2
   go_roundg (n-(i+1))
   case measure=>omega
   case rel=>exact⟨i+1,by first |rfl |go_num,Nat.le_refl _,by omega,bdr (HB.out) 1⟩
  ·have hltI:¬ (i:Int)<(n:Int):=by omega
   go_wp2
   go_ret
   exact⟨rfl,HB.out⟩
end
section
variable {w w1 w2 wr w8 w9 w':World}{l:Nat}{fs:List ByteArray}{v v1 v2 v3 v1' v2':Value}{L1 L2 L3:List Rq.SpL}{s:Rq.SpL}{W W':Nat->Prop}{a a':Option Addr}{c c':Nat}{en:Int}
structure Sw (w2 wr:World) (v1 v2:Value) (L1 L2:List Rq.SpL):Prop where
 bel:Below w2.heap.size w2 wr
 r1:Gm.Row wr 62 2 v1 (L1.map Rq.encS)
 r2:Gm.Row wr 40 2 v2 (L2.map Rq.encS)
 o1:∀ g,v1.ownBlock=some g->w2.heap.size<=g
 o2:∀ g,v2.ownBlock=some g->w2.heap.size<=g
theorem rows_ne {L M:List (List Value)} (r1:Gm.Row wr 62 2 v1 L) (r2:Gm.Row wr 40 2 v2 M) {g:Nat} (e:v1.ownBlock=some g):v2.ownBlock≠some g:=fun e2=>by
 obtain⟨k1,h1⟩:=r1.blkAt e
 obtain⟨k2,h2⟩:=r2.blkAt e2
 rw[h1] at h2
 simp at h2
theorem Sw.nil (w2:World):Sw w2 w2 (.slice none 0 0) (.slice none 0 0) [] []:=⟨Below.refl _ _,Gm.Row.nil _ _ _,Gm.Row.nil _ _ _,fun g e=>(by cases e),fun g e=>by cases e⟩
theorem Sw.below (h:Sw w2 wr v1 v2 L1 L2) (hb:Below wr.heap.size wr w'):Sw w2 w' v1 v2 L1 L2:=⟨thn h.bel hb,h.r1.bel hb,h.r2.bel hb,h.o1,h.o2⟩
theorem Sw.push1 (h:Sw w2 w8 v1 v2 L1 L2) (hA:Gm.App w8 w9 62 2 v1 v1' (L1.map Rq.encS++[Rq.encS s])):Sw w2 w9 v1' v2 (L1++[s]) L2:=by
 refine⟨h.bel.trans (hA.bel (fun g e=>h.o1 g e) h.bel.size),by rw[List.map_append];exact hA.row,h.r2.keep fun g e=>hA.grow.block g (h.r2.lt e) (fun e2=>rows_ne h.r1 h.r2 e2.symm e),fun g e=>?_,h.o2⟩
 rcases hA.own with e2 |e2
 ·exact h.o1 g (e2.symm.trans e)
 ·rw[e2] at e;cases e;exact h.bel.size
theorem Sw.push2 (h:Sw w2 w8 v1 v2 L1 L2) (hA:Gm.App w8 w9 40 2 v2 v2' (L2.map Rq.encS++[Rq.encS s])):Sw w2 w9 v1 v2' L1 (L2++[s]):=by
 refine⟨h.bel.trans (hA.bel (fun g e=>h.o2 g e) h.bel.size),h.r1.keep fun g e=>hA.grow.block g (h.r1.lt e) (fun e2=>rows_ne h.r1 h.r2 e e2.symm),by rw[List.map_append];exact hA.row,h.o1,fun g e=>?_⟩
 rcases hA.own with e2 |e2
 ·exact h.o2 g (e2.symm.trans e)
 ·rw[e2] at e;cases e;exact h.bel.size
structure Ew (w wr:World) (l:Nat) (fs:List ByteArray) (v1 v2 v3:Value) (L1 L2 L3:List Rq.SpL):Prop where
 ex:∃ W,Lo W wr l fs/\(∀ j,W j->w.heap.size<=j)/\(∀ g,v1.ownBlock=some g->¬ W g)/\(∀ g,v2.ownBlock=some g->¬ W g)/\(∀ g,v3.ownBlock=some g->¬ W g)
 bel:Below w.heap.size w wr
 r1:Gm.Row wr 62 2 v1 (L1.map Rq.encS)
 r2:Gm.Row wr 40 2 v2 (L2.map Rq.encS)
 r3:Gm.Row wr 62 2 v3 (L3.map Rq.encS)
theorem Sw.ew (h:Sw w2 wr v1 v2 L1 L2) (hl:Lo W w2 l fs) (hW:∀ j,W j->w.heap.size<=j) (hb:Below w.heap.size w w2):Ew w wr l fs v1 v2 (.slice none 0 0) L1 L2 [] :=
 ⟨⟨W,hl.below h.bel,hW,fun g e e2=>(by have:=h.o1 g e;have:=hl.lt e2;omega),fun g e e2=>(by have:=h.o2 g e;have:=hl.lt e2;omega),fun g e=>by cases e⟩,thn hb h.bel,h.r1,h.r2,Gm.Row.nil _ _ _⟩
theorem Ew.below (h:Ew w wr l fs v1 v2 v3 L1 L2 L3) (hb:Below wr.heap.size wr w'):Ew w w' l fs v1 v2 v3 L1 L2 L3:=by
 obtain⟨W,h1,h2,h3,h4,h5⟩:=h.ex
 exact⟨⟨W,h1.below hb,h2,h3,h4,h5⟩,thn h.bel hb,h.r1.bel hb,h.r2.bel hb,h.r3.bel hb⟩
theorem Ew.leader (h:Ew w wr l fs v1 v2 v3 L1 L2 L3):Calls Tryz.prog 25 #[.pointer (some ⟨l,0,none⟩)] wr fun e w'=>e=.returned (.tuple #[.int .i64 (lstM fs ldF (0,0) fs.length).1,.int .i64 (lstM fs ldF (0,0) fs.length).2])/\Ew w w' l fs v1 v2 v3 L1 L2 L3:=by
 obtain⟨W,h1,h2,h3,h4,h5⟩:=h.ex
 refine(Leader_any h1).mono ?_
 rintro e w' ⟨he,W',V',g1,g2,g3,g4,g5⟩
 exact⟨he,⟨W',g1,ge_sub h2 h.bel.size g5,fun g e=>g5.not (h.r1.lt e) (h3 g e),fun g e=>g5.not (h.r2.lt e) (h4 g e),fun g e=>g5.not (h.r3.lt e) (h5 g e)⟩,h.bel.trans (g5.bel h2 h.bel.size),h.r1.fr g5 h3,h.r2.fr g5 h4,h.r3.fr g5 h5⟩
theorem Ew.check (h:Ew w wr l fs v1 v2 v3 L1 L2 L3):Calls Tryz.prog 26 #[.pointer (some ⟨l,0,none⟩)] wr fun e w'=>e=.returned (.int .i64 (lstM fs ckF 0 fs.length))/\Ew w w' l fs v1 v2 v3 L1 L2 L3:=by
 obtain⟨W,h1,h2,h3,h4,h5⟩:=h.ex
 refine(Check_any h1).mono ?_
 rintro e w' ⟨he,W',V',g1,g2,g3,g4,g5⟩
 exact⟨he,⟨W',g1,ge_sub h2 h.bel.size g5,fun g e=>g5.not (h.r1.lt e) (h3 g e),fun g e=>g5.not (h.r2.lt e) (h4 g e),fun g e=>g5.not (h.r3.lt e) (h5 g e)⟩,h.bel.trans (g5.bel h2 h.bel.size),h.r1.fr g5 h3,h.r2.fr g5 h4,h.r3.fr g5 h5⟩
theorem Ew.spans (h:Ew w wr l fs v1 v2 (.slice none 0 0) L1 L2 []):Calls Tryz.prog 24 #[.pointer (some ⟨l,0,none⟩)] wr fun e w'=>∃ a c,e=.returned (.slice a (accM fs spF fs.length).length c)/\Ew w w' l fs v1 v2 (.slice a (accM fs spF fs.length).length c) L1 L2 (accM fs spF fs.length):=by
 obtain⟨W,h1,h2,h3,h4,h5⟩:=h.ex
 refine(Spans_any h1).mono ?_
 rintro e w' ⟨v,he,W',V',g1,⟨k1,k2⟩,g3,g4,g5⟩
 obtain⟨a,c,e2,-⟩:=k1.sl
 rw[List.length_map] at e2
 subst e2
 exact⟨a,c,he,⟨W',g1,ge_sub h2 h.bel.size g5,fun g e=>g5.not (h.r1.lt e) (h3 g e),fun g e=>g5.not (h.r2.lt e) (h4 g e),fun g e e3=>g3 g e3 (k2 g e)⟩,h.bel.trans (g5.bel h2 h.bel.size),h.r1.fr g5 h3,h.r2.fr g5 h4,k1⟩
theorem Ew.commits (h:Ew w wr l fs v1 v2 v3 L1 L2 L3) (en:Int):Calls Tryz.prog 27 #[.pointer (some ⟨l,0,none⟩),.int .i64 en] wr fun e w'=>∃ a c,e=.returned (.slice a (accM fs (cmF en) fs.length).length c)/\Below w.heap.size w w'/\Rq.Sp w' (.slice a (accM fs (cmF en) fs.length).length c) (accM fs (cmF en) fs.length)/\Rq.Sp w' v2 L2:=by
 obtain⟨W,h1,h2,h3,h4,h5⟩:=h.ex
 refine(Commits_any h1 en).mono ?_
 rintro e w' ⟨v,he,W',V',g1,⟨k1,k2⟩,g3,g4,g5⟩
 obtain⟨a,c,e2,-⟩:=k1.sl
 rw[List.length_map] at e2
 subst e2
 exact⟨a,c,he,h.bel.trans (g5.bel h2 h.bel.size),Rq.Sp.of_row k1,Rq.Sp.of_row (h.r2.fr g5 h4)⟩
structure RcX (w w2:World) (l:Nat) (fs:List ByteArray) (a:Option Addr) (c:Nat) (a':Option Addr) (c':Nat):Prop where
 ex:∃ W,Lo W w2 l fs/\∀ j,W j->w.heap.size<=j
 bel:Below w.heap.size w w2
 r:∃ B,Rcs B w2 (.slice a fs.length c) (fs.map recF)
 i:∃ B,OwnI B w2 (.slice a' fs.length c') (plc 1 fs)
theorem Lm.records (h:Lm w l w1):Calls Tryz.prog 17 #[.pointer (some ⟨l,0,none⟩)] w1 fun e w2=>∃ fs a c a' c',e=.returned (.tuple #[.slice a fs.length c,.slice a' fs.length c'])/\RcX w w2 l fs a c a' c':=by
 obtain⟨W,fs,h1,h2,h3⟩:=h.ex
 refine h1.records.mono ?_
 rintro e w' ⟨v,v2,W',he,hr,hi,hl,hf,_,_⟩
 obtain⟨a,c,e1⟩:=hr.slice
 obtain⟨a',c',e2⟩:=hi.ex
 rw[List.length_map] at e1
 rw[plc_length] at e2
 subst e1 e2
 exact⟨fs,a,c,a',c',he,⟨W',hl,ge_sub h2 h3.size hf⟩,h3.trans (hf.bel h2 h3.size),⟨_,hr⟩,⟨_,hi⟩⟩
theorem RcX.len (h:RcX w w2 l fs a c a' c'):fs.length<=11600:=by obtain⟨W,h1,_⟩:=h.ex;exact fs_len h1.fit
structure RcA (wr:World) (fs:List ByteArray) (g g' i:Nat):Prop where
 k:wr.cell? ⟨g,i*13,none⟩=some (.int .i64 (rcd fs i).kd)
 t:wr.cell? ⟨g,i*13+1,none⟩=some (.int .i64 (rcd fs i).tx)
 e:wr.cell? ⟨g,i*13+11,none⟩=some (.int .i64 (rcd fs i).ep)
 n:wr.cell? ⟨g,i*13+12,none⟩=some (.int .i64 (rcd fs i).nd)
 p:wr.cell? ⟨g',i,none⟩=some (.int .i64 (pla fs i))
theorem RcX.at_ (h:RcX w w2 l fs a c a' c') {i:Nat} (hi:i<fs.length):∃ g g',a=some ⟨g,0,none⟩/\a'=some ⟨g',0,none⟩/\∀ wr,Below w2.heap.size w2 wr->RcA wr fs g g' i:=by
 obtain⟨B,hr⟩:=h.r
 obtain⟨B',hI⟩:=h.i
 have hr':=hr
 obtain⟨g,I,T,e1,h1,_⟩:=hr'.at_ (i:=i) (by rw[List.length_map];exact hi)
 obtain⟨g',e2,h2⟩:=hI.at_ (i:=i) (by rw[plc_length];exact hi)
 refine⟨g,g',e1,e2,fun wr hb=>?_⟩
 obtain⟨g9,I9,T9,e9,h9,_⟩:=(hr.below hb).at_ (i:=i) (by rw[List.length_map];exact hi)
 rw[e1] at e9
 cases e9
 rw[List.getElem_map,rcd_at hi] at h9
 refine⟨by have:=h9 0 _ rfl;simpa using this,by have:=h9 1 _ rfl;simpa using this,by have:=h9 11 _ rfl;simpa using this,by have:=h9 12 _ rfl;simpa using this,?_⟩
 have h3:=h2 wr hb
 have h4:=plc_get 1 fs i hi
 rw[List.getElem?_eq_getElem (by rw[plc_length];exact hi)] at h4
 have h5:=Option.some.inj h4
 rw[h3,h5]
 rfl
theorem RcX.ew (h:RcX w w2 l fs a c a' c') (hS:Sw w2 wr v1 v2 L1 L2):Ew w wr l fs v1 v2 (.slice none 0 0) L1 L2 []:=by
 obtain⟨W,h1,h2⟩:=h.ex
 exact hS.ew h1 h2 h.bel
end
end Go.Proofs.YtjlhohljkedbbaaGreat.Lg
