import Derived.Test.YtpcnjncgilmehabGreatMbn
import Derived.Test.YtpcnjncgilmehabGreatMas
set_option linter.unusedVariables false
set_option linter.unusedSimpArgs false
set_option maxRecDepth 100000
namespace Go.Proofs.YtpcnjncgilmehabGreat.Tr
open Go.RowKit Go.Maps Go.ChangeMaps
def C0 (p:Nat):Cf:=⟨0,2000,1,2000,p,1,2000+4*p,[],fun _ _=>⟨Array.replicate 224 0⟩,fun _ _=>none,fun _=>0⟩
theorem C0_ok (p:Nat) (hp:p<=200):(C0 p).Ok:=⟨Or.inl (by show 0+2000<=2000;omega),(by show 2000+4*p<=2000+4*p;omega),(by show 2000+4*p<=8192;omega),(by show 1<=1;omega),(by show 1<=65535;omega),fun _ _=>(by show(Array.replicate 224 (0:UInt8)).size=224;simp)⟩
theorem C0_sp (p:Nat) (S:Dk) (h:∀ i,2000<=i->S.now i=zs64):Sp S (C0 p) 0 (fun _=>none) :=
 ⟨fun id q h1 h2=>Or.inl ⟨rfl,by rw[h _ (by show 2000<=2000+4*id+q;omega),gnS_zero];show(0:Nat)≠1;omega⟩,fun id l h1 h2=>(by cases h2),fun id h1 h2=>⟨_,_,_,rdV_none (fun i hi=>by show gnS (S.now (2000+4*id+i))≠1;rw[h _ (by omega),gnS_zero];omega),Or.inl rfl⟩,fun id l h1 h2=>(by cases h2)⟩
theorem new_pe [Inhabited PrSet] {B k db l n p pb ra cp:Nat} {fb:Nat->Nat} {e:Ending} {w2 w3 w4:World} {S:Dk} (hp:p<=200) (L2:Lv B w2 l k S db 0 2000 1 [] 0) (T3:StIs w3 w2.heap.size db 2000 p 1) (b3:Below w2.heap.size w2 w3) (N4:NwO w3 w4 db w2.heap.size l n e pb ra cp fb) (hs:S.set=false) (hn:S.n=2000+4*p) (hz:∀ i,2000<=i->S.now i=zs64) (hB:B<=w3.heap.size) :
  ∃ W,(∀ j,W j->np j∨j=w2.heap.size)/\Pe W w4 ⟨db,w2.heap.size,l,pb,ra,cp,n,fb⟩ k (C0 p) (fun _=>none) (fun _=>0):=by
 have hv:Pv B w4 ⟨db,w2.heap.size,l,pb,ra,cp,n,fb⟩ k S (C0 p) 0 ⟨0,0,0,fun _=>zF⟩ (fun _=>none) (fun _=>0) (fun _=>none) :=
  ⟨⟨L2.below (thn b3 N4.bel),T3.below N4.bel,N4.po.mono hB,hn,C0_ok p hp⟩,C0_sp p S hz,Iv.new (C0 p) n (fun _=>none) (fun id _ r h=>by cases h)⟩
 obtain⟨W,hnp,hW⟩:=pv_sup hv
 exact⟨_,fun j hj=>hj.imp (hnp j) id,B,_,hW,Nat.le_refl _,rfl,rfl,rfl,hs⟩
structure FrB (B:Nat) (w0 w:World) (W:Nat->Prop):Prop where
 bel:Below B w0 w
 ge:∀ j,W j->B<=j
 le:B<=w.heap.size
theorem FrB.fr {B:Nat} {w0 w w':World} {W W':Nat->Prop} (h:FrB B w0 w W) (f:Fr W W' w w'):FrB B w0 w' W' :=
 ⟨h.bel.trans ⟨f.os,f.tape,f.output,f.size,fun k hk=>f.blk k (Nat.lt_of_lt_of_le hk h.le) (fun e=>by have:=h.ge k e;omega)⟩,fun j hj=>(f.sub j hj).elim (h.ge j) (fun e=>Nat.le_trans h.le e),Nat.le_trans h.le f.size⟩
theorem FrB.below {B:Nat} {w0 w w':World} {W:Nat->Prop} (h:FrB B w0 w W) (b:Below w.heap.size w w'):FrB B w0 w' W:=⟨h.bel.trans (b.mono h.le),h.ge,Nat.le_trans h.le b.size⟩
structure MdT (w0 w:World) (e:Ending) (p k:Nat):Prop where
 ex:∃ wb d s X tb W,e=.returned (.pointer (some ⟨wb,0,none⟩))/\LwB w wb d s X tb/\¬ W wb/\FrB w0.heap.size w0 w W/\Tt W w tb X k (addF (C0 p) (frameM (recI 2 imC)).1 (Ub imC) (fun _=>none)) (stA (fun _=>none) imC 1) 0 (stA (fun _=>none) imC 1)
set_option maxHeartbeats 4000000 in
theorem made_ok (p n:Nat) (hp2:2<=p) (hp:p<=200) (h2:2<=n) (h64:n<=64) (he0:(frameM (recI 2 imC)).2=0) (hz0:(frameM (recI 2 imC)).1.size<=58*2000) (w:World):Calls Tryz.prog 5 #[.int .i64 (p:Int),.int .i64 (n:Int)] w fun e w'=>MdT w w' e p (2001+8006+8006+801*8006):=by
 letI I0:Inhabited PrSet:=⟨⟨fun k=>w.heap[k]?⟩⟩
 have hlp:Ltp w:=fun k o h=>h
 have hnp:Hid (∀ j,np j->w.heap.size<=j):=(fun j hj=>Nat.le_of_not_lt (fun hl=>hj (fun e=>by
  have e2:w.heap[j]?=none:=e
  rw[Array.getElem?_eq_none_iff] at e2
  omega)):∀ j,np j->w.heap.size<=j)
 have CN:Hid (Calls Tryz.prog 24 #[.int .i64 (2000+4*(p:Int))] w fun e w'=>e=.returned (.tuple #[.pointer (some ⟨w.heap.size+2,0,none⟩),.int .i64 0])/\Ds w.heap.size w' (w.heap.size+2) 0 (newDk (2000+4*p))/\Below w.heap.size w w'):=by
  have:=Ds.new (2000+4*p) (by omega) (by omega) w hlp
  have e:((2000+4*p:Nat):Int)=2000+4*(p:Int):=by omega
  rw[e] at this
  exact this
 have CO:Hid (∀ wx,Ds w.heap.size wx (w.heap.size+2) 0 (newDk (2000+4*p))->Calls Tryz.prog 25 #[.pointer (some ⟨w.heap.size+2,0,none⟩),.int .i64 0,.int .i64 2000,.int .i64 1] wx fun e w'=>∃ S' l,e=.returned (.tuple #[.pointer (some ⟨l,0,none⟩),.int .i64 0])/\(S'.set=false/\S'.n=2000+4*p/\∀ i,2000<=i->S'.now i=zs64)/\Lv w.heap.size w' l 2001 S' (w.heap.size+2) 0 2000 1 [] 0/\Kp isA w.heap.size wx w'):=fun wx hd=>by
  refine((new_wt (2000+4*p) 0 2000 (by omega)).open2 (bs:=0) (sc:=2000) (run:=1) (fit_nil (by omega) (by omega)) (by simp) hd (by omega) (by omega) (by omega) (by show 0+2000<=2000+4*p;omega) rfl rfl).mono ?_
  rintro e w' ⟨j,S',l,he,⟨h1,h2,h3,h4⟩,hlv,hK,hO⟩
  have hj:j=0:=by simpa using h2
  subst hj
  refine⟨S',l,he,⟨h3,h4,fun i hi=>?_⟩,hlv,hK⟩
  have hz:(newDk (2000+4*p)).now i=zs64:=rfl
  rcases hO with⟨_,rfl⟩ |⟨h5,hL⟩
  ·exact hz
  ·obtain⟨hu,hw,hsu⟩:=hL.ok rfl
   unfold Dk.now
   rw[hw]
   show S'.sure i=_
   rw[hsu]
   have:nw 0 (cat (List.take 0 [])) 1 ((cat (List.take 0 [])).size / 58) (min ((cat (List.take 0 [])).size / 58+1) 2000) i=none:=by
    unfold nw
    rw[if_neg (by omega)]
   rw[this]
   exact hz
 have CS:Hid (∀ wx S1 k,Ds w.heap.size wx (w.heap.size+2) k S1->S1.n=2000+4*p->Calls Tryz.prog 26 #[.pointer (some ⟨w.heap.size+2,0,none⟩),.int .i64 2000,.int .i64 (p:Int),.int .i64 1] wx fun e w'=>e=.returned (.tuple #[.pointer (some ⟨wx.heap.size,0,none⟩),.int .i64 0])/\StIs w' wx.heap.size (w.heap.size+2) 2000 p 1/\Below wx.heap.size wx w'):=fun wx S1 k hd hn=>by
  obtain⟨lb,mb,m,d1,d2,d3,d4⟩:=hd.dsk
  exact StNew_good 2000 p 1 wx d1 hd.q.ok (by omega) (by omega) (by omega) (by omega) (by rw[hn];omega)
 have CP:Hid (∀ wx sb l,Ltp wx->Calls Tryz.prog 27 #[.pointer (some ⟨sb,0,none⟩),.pointer (some ⟨l,0,none⟩),.int .i64 (n:Int)] wx fun e w'=>∃ pb ra cp fb,NwO wx w' (w.heap.size+2) sb l n e pb ra cp fb):=fun wx sb l hx=>New_po (w.heap.size+2) sb l n h2 (by omega) wx hx
 have CT:Hid (∀ wx W X,Pe W wx X 2001 (C0 p) (fun _=>none) (fun _=>0)->Calls Tryz.prog 23 #[.pointer (some ⟨X.pb,0,none⟩),.pointer (some ⟨X.l,0,none⟩)] wx fun e w'=>e=.returned (.pointer (some ⟨wx.heap.size+1,0,none⟩))/\∃ W',Tt W' w' (wx.heap.size+1) X 2001 (C0 p) (fun _=>none) 0 (fun _=>none)/\Fr W W' wx w'):=fun wx W X hx=>hx.tree hp
 have CB:Hid (∀ wx W X tb,Tt W wx tb X 2001 (C0 p) (fun _=>none) 0 (fun _=>none)->Calls Tryz.prog 18 #[.pointer (some ⟨tb,0,none⟩)] wx fun e w'=>e=.returned (.bool false)/\∃ W',Tt W' w' tb X (2001+8006) (C0 p) (fun _=>none) 0 (fun _=>none)/\Fr W W' wx w'):=fun wx W X tb hx=>hx.born (by omega) (by show 0<p;omega) rfl
 have CC:Hid (∀ wx W X tb,Tt W wx tb X (2001+8006) (C0 p) (fun _=>none) 0 (fun _=>none)->Calls Tryz.prog 6 #[.pointer (some ⟨tb,0,none⟩)] wx fun e w'=>e=.returned (.int .i64 0)/\∃ W',Tt W' w' tb X (2001+8006+8006+801*8006) (addF (C0 p) (frameM (recI 2 imC)).1 (Ub imC) (fun _=>none)) (stA (fun _=>none) imC 1) 0 (stA (fun _=>none) imC 1)/\Fr W W' wx w'):=fun wx W X tb hx=>by
  refine(hx.create (by omega) rfl hp2 (fun d _=>Nat.zero_le _)).mono ?_
  rintro e w' ⟨y,rfl,hy⟩
  obtain⟨W',F,hor⟩:=hy.ex
  rcases hor with⟨rfl,_,_,T⟩ |⟨_,h3,_⟩
  ·exact⟨rfl,W',T,F⟩
  ·rcases h3 with⟨h4,_⟩ |⟨_,_,h4⟩
   ·exact absurd he0 h4
   ·refine absurd ?_ h4
    show(cat []).size+_<=58*2000
    have:(cat []).size=0:=rfl
    omega
 have hw1:IntKind.i64.wrap (4*(p:Int))=4*(p:Int):=by rw[IntKind.wrap_i64];omega
 have hw2:IntKind.i64.wrap (2000+4*(p:Int))=2000+4*(p:Int):=by rw[IntKind.wrap_i64];omega
 generalize hdb:w.heap.size+2=db at *
 have HP:Hid (p<=200):=hp
 clear hdb h2 h64 hlp hp hp2 he0 hz0
 go_enter Tryz.func5,Tryz.ntmps5
 go_wp2_with (first
  | (go_at_call 24;refine CN.out.mono ?_;rintro e w1 ⟨rfl,D1,b1⟩)
  | (go_at_call 25;refine(CO.out _ D1).mono ?_;rintro e w2 ⟨S2,l,rfl,hS2,L2,K2⟩)
  | (go_at_call 26;refine(CS.out _ _ _ L2.lx.d hS2.2.1).mono ?_;rintro e w3 ⟨rfl,T3,b3⟩)
  | (go_at_call 27;refine(CP.out _ _ _ (L2.lx.d.lp.below b3)).mono ?_;rintro e w4 ⟨pb,ra,cp,fb,N4⟩;have he:=N4.e;subst he;obtain⟨W4,G4,P4⟩:=new_pe HP.out L2 T3 b3 N4 hS2.1 hS2.2.1 hS2.2.2 (Nat.le_trans (Nat.le_trans b1.size K2.size) b3.size);have Q4:Hid _:=P4;have FB4:Hid (FrB w.heap.size w w4 W4):=(⟨(b1.trans K2.bel).trans ((b3.mono (Nat.le_trans b1.size K2.size)).trans (N4.bel.mono (Nat.le_trans (Nat.le_trans b1.size K2.size) b3.size))),fun j hj=>(G4 j hj).elim (hnp.out j) (fun e=>by rw[e];exact Nat.le_trans b1.size K2.size),Nat.le_trans (Nat.le_trans (Nat.le_trans b1.size K2.size) b3.size) N4.bel.size⟩:FrB w.heap.size w w4 W4);clear P4 G4)
  | (go_at_call 23;refine(CT.out _ _ _ Q4.out).mono ?_;rintro e w5 ⟨rfl,W5,T5,F5⟩;have Q5:Hid _:=T5;clear T5)
  | (go_at_call 18;refine(CB.out _ _ _ _ Q5.out).mono ?_;rintro e w6 ⟨rfl,W6,T6,F6⟩;have Q6:Hid _:=T6;clear T6)
  | (go_at_call 6;refine(CC.out _ _ _ _ Q6.out).mono ?_;rintro e w7 ⟨rfl,W7,T7,F7⟩;have Q7:Hid _:=T7;clear T7))
 go_ret
 have hb:Below w7.heap.size w7 (w7.alloc (.cells #[.pointer (some ⟨db,0,none⟩),.pointer (some ⟨w2.heap.size,0,none⟩),.pointer (some ⟨l,0,none⟩),.pointer (some ⟨pb,0,none⟩),.pointer (some ⟨w4.heap.size+1,0,none⟩)] 33)):=(Below.refl _ _).alloc (Nat.le_refl _) _
 exact⟨w7.heap.size,_,_,_,_,W7,rfl,⟨(MapKept.heap_alloc w7 _).1⟩,fun e=>by have:=Q7.out.lt e;omega,((((FB4.out.fr F5).fr F6).fr F7).below hb),Q7.out.below hb⟩
open Go.RowKit
theorem lay_im:∀ (im:Ims) (a:ByteArray),(∀ p∈im,p.1<65536/\p.2.size=224)->∃ X,layI (imI im) (a,0)=(X,0)/\X.size=a.size+228*im.length
 | [],a,_=>⟨a,rfl,by simp⟩
 | p :: r,a,h=>by
  obtain⟨h1,h2⟩:=h p (by simp)
  obtain⟨X,e1,e2⟩:=lay_im r (a++Pk.beS p.1 2++Pk.beS p.2.size 2++p.2) (fun q hq=>h q (by simp[hq]))
  refine⟨X,?_,?_⟩
  ·rw[← e1]
   show layI (imI r) (stepT (stepW (a,0) (p.1:Int) 2) p.2)=_
   rw[stepW_good (by omega) (by omega) (by omega) (by rw[Pk.limI_2];omega),stepT_good (by omega)]
   rfl
  ·rw[e2]
   simp only[ByteArray.size_append,Pk.beS_size,List.length_cons]
   omega
theorem frame_im (kd:Int) (im:Ims) (hk:kd=2∨(kd=1/\im.length=1)) (h:∀ p∈im,p.1<65536/\p.2.size=224) (hl:im.length<=17):(frameM (recI kd im)).2=0/\(frameM (recI kd im)).1.size=8+228*im.length:=by
 have hkd:kd=1∨kd=2:=by rcases hk with e |⟨e,_⟩ <;> simp[e]
 have hkk:0<=kd/\kd<=255:=by rcases hkd with e |e <;> omega
 have e:laidM (recI kd im)=layI (imI im) (stepW (stepW (⟨#[]⟩,0) kd 1) ((imI im).length:Int) 1):=by
  unfold laidM laidF
  have e2:(recI kd im).s.kd=kd:=rfl
  rw[e2,if_pos hkd]
  rfl
 obtain⟨X,h1,h2⟩:=lay_im im (⟨#[]⟩++Pk.beS kd.toNat (1:Int).toNat++Pk.beS ((im.length:Int)).toNat (1:Int).toNat) h
 rw[imI_length,stepW_good (by omega) (by omega) (by omega) (by rw[Pk.limI_1];omega),stepW_good (by omega) (by omega) (by omega) (by rw[Pk.limI_1];omega),h1] at e
 have hX:X.size=2+228*im.length:=by
  rw[h2]
  simp only[ByteArray.size_append,Pk.beS_size,Pk.size_nil]
  rfl
 have hc:cleanM (recI kd im)=recI kd im:=by
  rcases hkd with rfl |rfl <;> simp[cleanM,cleanS,recI,zS]
 have hw:whole (imI im)=true:=by
  unfold whole
  rw[List.all_eq_true]
  intro p hp
  simp only[imI,List.mem_map] at hp
  obtain⟨q,hq,rfl⟩:=hp
  simpa using (h q hq).2
 have hr:refM (recI kd im)=0:=by
  rcases hk with rfl |⟨rfl,hl1⟩
  ·simp[refM,formed,recI,zS,Pk.size_nil,hw]
  ·simp[refM,formed,recI,zS,Pk.size_nil,hw,imI_length,hl1]
 unfold frameM
 rw[hc,bodyM_good hr (by rw[e]) (by rw[e];show ¬ 4096<X.size;omega)]
 dsimp only
 rw[if_neg (by simp)]
 refine⟨rfl,?_⟩
 rw[frameB_size,e]
 show 6+X.size=_
 omega
theorem imC_ok:∀ p∈imC,p.1<65536/\p.2.size=224:=by
 have h:(imC.all (fun p=>decide (p.1<65536)&&decide (p.2.size=224)))=true:=by decide +kernel
 intro p hp
 have:=List.all_eq_true.1 h p hp
 simpa using this
theorem imC_frame:(frameM (recI 2 imC)).2=0/\(frameM (recI 2 imC)).1.size=464:=frame_im 2 imC (Or.inl rfl) imC_ok (by decide +kernel)
theorem made (p n:Nat) (hp2:2<=p) (hp:p<=200) (h2:2<=n) (h64:n<=64) (w:World):Calls Tryz.prog 5 #[.int .i64 (p:Int),.int .i64 (n:Int)] w fun e w'=>MdT w w' e p (2001+8006+8006+801*8006) :=
 made_ok p n hp2 hp h2 h64 imC_frame.1 (by rw[imC_frame.2];omega) w
theorem frame_ch (id:Nat) (c:Cl) (hi:id<65536) (hk:c.k.size<=16) (hv:c.v.size<=32):(frameM (recC 3 id c)).2=0/\(frameM (recC 3 id c)).1.size=25+c.k.size+c.v.size:=by
 have e:∃ X,laidM (recC 3 id c)=(X,0)/\X.size=19+c.k.size+c.v.size:=by
  refine⟨((((((⟨#[]⟩++Pk.beS 3 1)++Pk.beS 1 6)++Pk.beS 0 6)++Pk.beS id 2)++Pk.beS c.k.size 2++c.k)++Pk.beS c.v.size 2++c.v),?_,?_⟩
  ·show stepT (stepT (stepW (stepW (stepW (stepW (⟨#[]⟩,0) 3 1) 1 6) 0 6) (id:Int) 2) c.k) c.v=_
   rw[stepW_good (by omega) (by omega) (by omega) (by rw[Pk.limI_1];omega),stepW_good (by omega) (by omega) (by omega) (by rw[Pk.limI_6];omega),stepW_good (by omega) (by omega) (by omega) (by rw[Pk.limI_6];omega),stepW_good (by omega) (by omega) (by omega) (by rw[Pk.limI_2];omega),stepT_good (by omega),stepT_good (by omega)]
   rfl
  ·simp only[ByteArray.size_append,Pk.beS_size,Pk.size_nil]
   omega
 obtain⟨X,e1,e2⟩:=e
 have hc:cleanM (recC 3 id c)=recC 3 id c:=by
  simp[cleanM,cleanS,recC,actOf]
 have hr:refM (recC 3 id c)=0:=by
  have h1:¬ 16<c.k.size:=by omega
  have h2:¬ 32<c.v.size:=by omega
  simp[refM,formed,recC,Pk.size_nil,h1,h2]
 unfold frameM
 rw[hc,bodyM_good hr (by rw[e1]) (by rw[e1];show ¬ 4096<X.size;omega)]
 dsimp only
 rw[if_neg (by simp)]
 refine⟨rfl,?_⟩
 rw[frameB_size,e1]
 show 6+X.size=_
 omega
end Go.Proofs.YtpcnjncgilmehabGreat.Tr
