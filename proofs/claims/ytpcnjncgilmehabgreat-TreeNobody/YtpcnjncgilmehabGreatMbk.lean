import Derived.Test.YtpcnjncgilmehabGreatMbj
import Derived.Deep.LoopGhost
set_option linter.unusedVariables false
set_option linter.unusedSimpArgs false
set_option maxRecDepth 100000
namespace Go.Proofs.YtpcnjncgilmehabGreat.Tr
open Go.RowKit Go.Maps Go.ChangeMaps
section
variable {W W':Nat->Prop}{w w' w2:World}{bb tb:Nat}{v:Value}{X:Ad}{k:Nat}{C:Cf}{st:Nat->Option Nat}{mk:Int}{wh:Nat->Option Nat}{b b2:Bm}{im:Ims}{a:Option Addr}{ns:List Nd}{n:Nd}
set_option maxHeartbeats 2000000 in
theorem Bu.give_ok (h:Bu W w bb tb X k C st mk wh b) (c:Nat) (hlen:ns.length<=900) (hv:Nds W w (.slice a (ns.length+1) c) (ns++[n])) (cl:Cl) (t:ByteArray) (ht:t.size=224) (hn:n.id<C.ps)
  (CI:∀ wx,Calls Tryz.prog 74 #[.string n.tx,.agg #[.string cl.k,.string cl.v]] wx fun e w'=>e=.returned (.tuple #[.string t,.int .i64 0])/\Below wx.heap.size wx w') :
  Calls Tryz.prog 173 #[.pointer (some ⟨bb,0,none⟩),.slice a (ns.length+1) c,.agg #[.string cl.k,.string cl.v]] w fun e w'=>e=.returned (.int .i64 0)/\∃ W',Bu W' w' bb tb X k C st mk wh {b with im:=putI b.im n.id t}/\Fr W W' w w':=by
 have CI':Hid (∀ wx,Calls Tryz.prog 74 #[.string n.tx,.agg #[.string cl.k,.string cl.v]] wx fun e w'=>e=.returned (.tuple #[.string t,.int .i64 0])/\Below wx.heap.size wx w'):=CI
 have C1:Hid (∀ wx,Bu W wx bb tb X k C st mk wh b->Calls Tryz.prog 72 #[.pointer (some ⟨bb,0,none⟩),.int .i64 (n.id:Int),.string t] wx fun e w'=>e=.returned (.tuple #[])/\∃ W',Bu W' w' bb tb X k C st mk wh {b with im:=putI b.im n.id t}/\Fr W W' wx w'):=fun wx hx=>hx.put n.id t hn ht
 obtain⟨g,e,ea,hgW,hrg,hnv⟩:=hv.at_ (i:=ns.length) (by simp)
 subst ea
 have hnv':NdV W w e n:=by simpa using hnv
 have hone:e.sl.oneCell'=true:=hnv'.sl.one
 have hgl:g<w.heap.size:=by
  have:=hrg 0 (.int .i64 e.id) rfl
  exact World.block_lt_of_cell? w _ this
 have HB:Hid (Bu W w bb tb X k C st mk wh b):=h
 have HR:Hid (w.rangeAt g (ns.length*7) e.A.toList):=hrg
 have HLT:Hid (∀ j,W j->j<w.heap.size):=fun j hj=>h.lt hj
 have hei:=hnv'.id
 have het:=hnv'.tx
 obtain⟨M,hM⟩:∃ M,M=ns.length+1:=⟨_,rfl⟩
 rw[← hM]
 have hl3:(M:Int)-1=((ns.length:Nat):Int):=by omega
 have hl4:((ns.length:Nat):Int)<(M:Int):=by omega
 have hM9:M<=1000:=by omega
 clear h hv hnv hnv' hrg CI hM ht
 go_enter Tryz.func173,Tryz.ntmps173
 go_wp2_with (first
  | (refine Pg.wpList_box_cb _ rfl _ rfl rfl ?_;intro w1 b1 n1;have R1:Hid (w1.rangeAt g (ns.length*7) e.A.toList):=(fun j u hu=>(n1.below.cell (p:=⟨g,ns.length*7+j,none⟩) hgl).trans (HR.out j u hu):w1.rangeAt g (ns.length*7) e.A.toList))
  | (refine wpList_load_ndm (n:=e) _ rfl (.tmp 18) rfl rfl R1.out ?_)
  | (refine wpList_new_nd _ rfl rfl ?_;intro w2 b2 N2)
  | (refine wpList_put_nd (s':=e) _ rfl (.tmp 7) (.tmp 19) rfl rfl rfl N2.nd hone ?_;intro w3 P3;have q1:w3.cell? ⟨b2,1,none⟩=some (.string n.tx):=(by rw[P3.nd.c1,het]);have A1:Hid (Pg.Cb w3 b1 cl.k cl.v):=n1.cb.of_block ((P3.off.block b1 (Nat.lt_of_lt_of_le n1.cb.lt N2.below.size) (by have:=N2.eq;have:=n1.cb.lt;omega)).trans (N2.below.block b1 n1.cb.lt));have r0:=A1.out.c0;have r1:=A1.out.c1;have B3:Hid (Below w.heap.size w w3):=(thn n1.below N2.below).trans (P3.below (by rw[N2.eq];exact n1.below.size) (Nat.le_trans n1.below.size N2.below.size)))
  | (go_at_call 74;refine(CI'.out _).mono ?_;rintro e' w4 ⟨rfl,q4⟩;have B4:Hid (Below w.heap.size w w4):=thn B3.out q4;have s0:w4.cell? ⟨b2,0,none⟩=some (.int .i64 (n.id:Int)):=(by rw[(P3.nd.below q4).c0,hei]);have U4:Hid _:=HB.out.below B4.out)
  | (go_at_call 72;refine(C1.out _ U4.out).mono ?_;rintro e' w5 ⟨rfl,W5,u5,f5⟩;have U5:Hid _:=u5;have F5:Hid _:=(Fr.of_below B4.out W).trans f5;clear u5 f5))
 go_ret
 exact⟨rfl,W5,U5.out,F5.out⟩
end
section
variable {W W':Nat->Prop}{w w' w2:World}{bb tb:Nat}{X:Ad}{k k2:Nat}{C:Cf}{st:Nat->Option Nat}{mk:Int}{wh:Nat->Option Nat}{b b2:Bm}{y:Int}{a:Option Addr}{c:Nat}{ns ms:List Nd}{n m:Nd}
set_option maxHeartbeats 2000000 in
theorem Bu.part (h:Bu W w bb tb X k C st mk wh b) (hlen:ns.length<=900) (hv:Nds W w (.slice a (ns.length+1) c) (ns++[n])) (f s key:ByteArray)
  (CH:∀ wx,Calls Tryz.prog 112 #[.string n.tx] wx fun e w'=>e=.returned (.tuple #[.string f,.string s,.string key,.int .i64 0])/\Below wx.heap.size wx w')
  (CS:∀ wx,Bu W wx bb tb X k C st mk wh b->Nds W wx (.slice a (ns.length+1) c) (ns++[n])->Calls Tryz.prog 113 #[.pointer (some ⟨bb,0,none⟩),.slice a (ns.length+1) c,.string f,.string s,.string key] wx fun e w'=>e=.returned (.int .i64 y)/\∃ W',Bu W' w' bb tb X k C st mk wh b2/\Fr W W' wx w') :
  Calls Tryz.prog 71 #[.pointer (some ⟨bb,0,none⟩),.slice a (ns.length+1) c] w fun e w'=>e=.returned (.int .i64 y)/\∃ W',Bu W' w' bb tb X k C st mk wh b2/\Fr W W' w w':=by
 have CH':Hid (∀ wx,Calls Tryz.prog 112 #[.string n.tx] wx fun e w'=>e=.returned (.tuple #[.string f,.string s,.string key,.int .i64 0])/\Below wx.heap.size wx w'):=CH
 have HB:Hid (Bu W w bb tb X k C st mk wh b):=h
 have HV:Hid (Nds W w (.slice a (ns.length+1) c) (ns++[n])):=hv
 obtain⟨M,hM⟩:∃ M,M=ns.length+1:=⟨_,rfl⟩
 have CS':Hid (∀ wx,Bu W wx bb tb X k C st mk wh b->Nds W wx (.slice a M c) (ns++[n])->Calls Tryz.prog 113 #[.pointer (some ⟨bb,0,none⟩),.slice a M c,.string f,.string s,.string key] wx fun e w'=>e=.returned (.int .i64 y)/\∃ W',Bu W' w' bb tb X k C st mk wh b2/\Fr W W' wx w'):=(by rw[hM];exact CS:∀ wx,Bu W wx bb tb X k C st mk wh b->Nds W wx (.slice a M c) (ns++[n])->Calls Tryz.prog 113 #[.pointer (some ⟨bb,0,none⟩),.slice a M c,.string f,.string s,.string key] wx fun e w'=>e=.returned (.int .i64 y)/\∃ W',Bu W' w' bb tb X k C st mk wh b2/\Fr W W' wx w')
 obtain⟨g,e,ea,hgW,hrg,hnv⟩:=hv.at_ (i:=ns.length) (by simp)
 have q1:w.cell? ⟨g,ns.length*7+1,none⟩=some (.string n.tx):=by
  have h1:=hrg 1 (.string e.tx) rfl
  have h2:NdV W w e n:=by simpa using hnv
  rw[h1,h2.tx]
 rw[← hM] at HV ⊢
 have hl3:(M:Int)-1=((ns.length:Nat):Int):=by omega
 have hl4:((ns.length:Nat):Int)<(M:Int):=by omega
 have hM9:M<=1000:=by omega
 clear h hv hnv hrg CH CS hM
 subst ea
 go_enter Tryz.func71,Tryz.ntmps71
 go_wp2_with (first
  | (go_at_call 112;refine(CH'.out _).mono ?_;rintro e' w1 ⟨rfl,q2⟩)
  | (go_at_call 113;refine(CS'.out _ (HB.out.below q2) (HV.out.below q2)).mono ?_;rintro e' w2 ⟨rfl,W2,u2,f2⟩;have U2:Hid _:=u2;have F2:Hid _:=(Fr.of_below q2 W).trans f2;clear u2 f2))
 go_ret
 exact⟨rfl,W2,U2.out,F2.out⟩
structure Wy (W:Nat->Prop) (w:World) (bb tb:Nat) (X:Ad) (k:Nat) (C:Cf) (st:Nat->Option Nat) (mk:Int) (wh:Nat->Option Nat) (b:Bm) (a:Option Addr) (c:Nat) (ns:List Nd):Prop where
 bu:Bu W w bb tb X k C st mk wh b
 nd:Nds W w (.slice a ns.length c) ns
theorem Wy.below (h:Wy W w bb tb X k C st mk wh b a c ns) (hb:Below w.heap.size w w'):Wy W w' bb tb X k C st mk wh b a c ns:=⟨h.bu.below hb,h.nd.below hb⟩
set_option maxHeartbeats 2000000 in
theorem wwr_room (key:ByteArray) (need:Int) (hlen:ns.length<=900)
  (CW:Calls Tryz.prog 47 #[.pointer (some ⟨bb,0,none⟩),.string key] w fun e w'=>∃ a c,e=.returned (.tuple #[.slice a (ns.length+1) c,.int .i64 0])/\∃ W',Wy W' w' bb tb X k C st mk wh b a c (ns++[n])/\Fr W W' w w')
  (r:Nat) (CR:∀ wx,Calls Tryz.prog 70 #[.string n.tx] wx fun e w'=>e=.returned (.int .i64 (r:Int))/\Below wx.heap.size wx w') (hr:need<=(r:Int)) :
  Calls Tryz.prog 39 #[.pointer (some ⟨bb,0,none⟩),.string key,.int .i64 need] w fun e w'=>∃ a c,e=.returned (.tuple #[.slice a (ns.length+1) c,.int .i64 0])/\∃ W',Wy W' w' bb tb X k C st mk wh b a c (ns++[n])/\Fr W W' w w':=by
 have CW':Hid (Calls Tryz.prog 47 #[.pointer (some ⟨bb,0,none⟩),.string key] w fun e w'=>∃ a c,e=.returned (.tuple #[.slice a (ns.length+1) c,.int .i64 0])/\∃ W',Wy W' w' bb tb X k C st mk wh b a c (ns++[n])/\Fr W W' w w'):=CW
 have CR':Hid (∀ wx,Calls Tryz.prog 70 #[.string n.tx] wx fun e w'=>e=.returned (.int .i64 (r:Int))/\Below wx.heap.size wx w'):=CR
 have hrn:¬ (r:Int)<need:=by omega
 clear CW CR
 obtain⟨M,hM⟩:∃ M,M=ns.length+1:=⟨_,rfl⟩
 rw[← hM] at CW' ⊢
 have hl3:(M:Int)-1=((ns.length:Nat):Int):=by omega
 have hl4:((ns.length:Nat):Int)<(M:Int):=by omega
 have hM9:M<=1000:=by omega
 have HM:Hid (M=ns.length+1):=hM
 clear hM
 go_enter Tryz.func39,Tryz.ntmps39
 go_wp2_with (go_at_call 47;refine CW'.out.mono ?_;rintro e w1 ⟨a1,c1,rfl,W1,y1,f1⟩;have Y1:Hid _:=y1;have F1:Hid _:=f1;clear y1 f1)
 have hq:Hid (∃ g,a1=some ⟨g,0,none⟩/\w1.cell? ⟨g,ns.length*7+1,none⟩=some (.string n.tx)):=(by
  obtain⟨g,e,ea,hgW,hrg,hnv⟩:=Y1.out.nd.at_ (i:=ns.length) (by simp)
  have h1:=hrg 1 (.string e.tx) rfl
  have h2:NdV W1 w1 e n:=by simpa using hnv
  exact⟨g,ea,by rw[h1,h2.tx]⟩:∃ g,a1=some ⟨g,0,none⟩/\w1.cell? ⟨g,ns.length*7+1,none⟩=some (.string n.tx))
 obtain⟨g,rfl,q1⟩:=hq.out
 clear hq
 go_loopw [8,9] (fun s8 s9 wr=>s8=.slice (some ⟨g,0,none⟩) M c1/\s9=.int .i64 0/\wr=w1) (fun _ _ _=>0)
 case atStart=>exact⟨rfl,rfl,rfl⟩
 case round =>
  obtain⟨rfl,rfl,rfl⟩:=hrel
  go_wp2_with (go_at_call 70;refine(CR'.out _).mono ?_;rintro e' w2 ⟨rfl,b2⟩)
  go_ret2
  exact⟨_,_,rfl,W1,Y1.out.below b2,F1.out.below b2⟩
set_option maxHeartbeats 4000000 in
theorem wwr_part (key:ByteArray) (need:Int) (hlen:ns.length<=900) (hlen2:ms.length<=900)
  (CW:Calls Tryz.prog 47 #[.pointer (some ⟨bb,0,none⟩),.string key] w fun e w'=>∃ a c,e=.returned (.tuple #[.slice a (ns.length+1) c,.int .i64 0])/\∃ W',Wy W' w' bb tb X k C st mk wh b a c (ns++[n])/\Fr W W' w w')
  (r:Nat) (CR:∀ wx,Calls Tryz.prog 70 #[.string n.tx] wx fun e w'=>e=.returned (.int .i64 (r:Int))/\Below wx.heap.size wx w') (hr:(r:Int)<need)
  (CP:∀ wx Wx a c,Wy Wx wx bb tb X k C st mk wh b a c (ns++[n])->Calls Tryz.prog 71 #[.pointer (some ⟨bb,0,none⟩),.slice a (ns.length+1) c] wx fun e w'=>e=.returned (.int .i64 y)/\∃ W',Bu W' w' bb tb X k C st mk wh b2/\Fr Wx W' wx w') (hy:y=0)
  (CV:∀ wx Wx,Bu Wx wx bb tb X k C st mk wh b2->Calls Tryz.prog 47 #[.pointer (some ⟨bb,0,none⟩),.string key] wx fun e w'=>∃ a c,e=.returned (.tuple #[.slice a (ms.length+1) c,.int .i64 0])/\∃ W',Wy W' w' bb tb X k2 C st mk wh b2 a c (ms++[m])/\Fr Wx W' wx w')
  (r2:Nat) (CQ:∀ wx,Calls Tryz.prog 70 #[.string m.tx] wx fun e w'=>e=.returned (.int .i64 (r2:Int))/\Below wx.heap.size wx w') (hr2:need<=(r2:Int)) :
  Calls Tryz.prog 39 #[.pointer (some ⟨bb,0,none⟩),.string key,.int .i64 need] w fun e w'=>∃ a c,e=.returned (.tuple #[.slice a (ms.length+1) c,.int .i64 0])/\∃ W',Wy W' w' bb tb X k2 C st mk wh b2 a c (ms++[m])/\Fr W W' w w':=by
 have CW':Hid (Calls Tryz.prog 47 #[.pointer (some ⟨bb,0,none⟩),.string key] w fun e w'=>∃ a c,e=.returned (.tuple #[.slice a (ns.length+1) c,.int .i64 0])/\∃ W',Wy W' w' bb tb X k C st mk wh b a c (ns++[n])/\Fr W W' w w'):=CW
 have CR':Hid (∀ wx,Calls Tryz.prog 70 #[.string n.tx] wx fun e w'=>e=.returned (.int .i64 (r:Int))/\Below wx.heap.size wx w'):=CR
 obtain⟨M,hM⟩:∃ M,M=ns.length+1:=⟨_,rfl⟩
 have CP':Hid (∀ wx Wx a c,Wy Wx wx bb tb X k C st mk wh b a c (ns++[n])->Calls Tryz.prog 71 #[.pointer (some ⟨bb,0,none⟩),.slice a M c] wx fun e w'=>e=.returned (.int .i64 y)/\∃ W',Bu W' w' bb tb X k C st mk wh b2/\Fr Wx W' wx w'):=(by rw[hM];exact CP:∀ wx Wx a c,Wy Wx wx bb tb X k C st mk wh b a c (ns++[n])->Calls Tryz.prog 71 #[.pointer (some ⟨bb,0,none⟩),.slice a M c] wx fun e w'=>e=.returned (.int .i64 y)/\∃ W',Bu W' w' bb tb X k C st mk wh b2/\Fr Wx W' wx w')
 rw[← hM] at CW'
 have hl3:(M:Int)-1=((ns.length:Nat):Int):=by omega
 have hl4:((ns.length:Nat):Int)<(M:Int):=by omega
 have hM9:M<=1000:=by omega
 subst hy
 have CQ':Hid (∀ wx,Calls Tryz.prog 70 #[.string m.tx] wx fun e w'=>e=.returned (.int .i64 (r2:Int))/\Below wx.heap.size wx w'):=CQ
 obtain⟨N,hN⟩:∃ N,N=ms.length+1:=⟨_,rfl⟩
 have CV':Hid (∀ wx Wx,Bu Wx wx bb tb X k C st mk wh b2->Calls Tryz.prog 47 #[.pointer (some ⟨bb,0,none⟩),.string key] wx fun e w'=>∃ a c,e=.returned (.tuple #[.slice a N c,.int .i64 0])/\∃ W',Wy W' w' bb tb X k2 C st mk wh b2 a c (ms++[m])/\Fr Wx W' wx w'):=(by rw[hN];exact CV:∀ wx Wx,Bu Wx wx bb tb X k C st mk wh b2->Calls Tryz.prog 47 #[.pointer (some ⟨bb,0,none⟩),.string key] wx fun e w'=>∃ a c,e=.returned (.tuple #[.slice a N c,.int .i64 0])/\∃ W',Wy W' w' bb tb X k2 C st mk wh b2 a c (ms++[m])/\Fr Wx W' wx w')
 rw[← hN]
 have hn3:(N:Int)-1=((ms.length:Nat):Int):=by omega
 have hn4:((ms.length:Nat):Int)<(N:Int):=by omega
 have hN9:N<=1000:=by omega
 have hrn2:¬ (r2:Int)<need:=by omega
 clear CW CR CP hM CV CQ hN
 go_enter Tryz.func39,Tryz.ntmps39
 go_wp2_with (go_at_call 47;refine CW'.out.mono ?_;rintro e w1 ⟨a1,c1,rfl,W1,y1,f1⟩;have Y1:Hid _:=y1;have F1:Hid _:=f1;clear y1 f1)
 have hq:Hid (∃ g,a1=some ⟨g,0,none⟩/\w1.cell? ⟨g,ns.length*7+1,none⟩=some (.string n.tx)):=(by
  obtain⟨g,e,ea,hgW,hrg,hnv⟩:=Y1.out.nd.at_ (i:=ns.length) (by simp)
  have h1:=hrg 1 (.string e.tx) rfl
  have h2:NdV W1 w1 e n:=by simpa using hnv
  exact⟨g,ea,by rw[h1,h2.tx]⟩:∃ g,a1=some ⟨g,0,none⟩/\w1.cell? ⟨g,ns.length*7+1,none⟩=some (.string n.tx))
 obtain⟨g,rfl,q1⟩:=hq.out
 clear hq
 go_loopg [8,9] 1 (fun gg s8 s9 wr=>s9=.int .i64 0/\((gg=1/\s8=.slice (some ⟨g,0,none⟩) M c1/\wr=w1)∨(gg=0/\∃ g2 c2,s8=.slice (some ⟨g2,0,none⟩) N c2/\wr.cell? ⟨g2,ms.length*7+1,none⟩=some (.string m.tx)/\Aside (∃ W',Wy W' wr bb tb X k2 C st mk wh b2 (some ⟨g2,0,none⟩) c2 (ms++[m])/\Fr W W' w wr))))
 case atStart=>exact⟨rfl,Or.inl ⟨rfl,rfl,rfl⟩⟩
 case round =>
  obtain⟨rfl,(⟨rfl,rfl,rfl⟩ |⟨rfl,g2,c2,rfl,q2,hA⟩)⟩:=hrel
  ·go_wp2_with (first
    | (go_at_call 70;refine(CR'.out _).mono ?_;rintro e' w2 ⟨rfl,b2⟩;have Y2:Hid _:=Y1.out.below b2;have F2:Hid _:=F1.out.below b2)
    | (go_at_call 71;refine(CP'.out _ _ _ _ Y2.out).mono ?_;rintro e' w3 ⟨rfl,W3,u3,f3⟩;have U3:Hid _:=u3;have F3:Hid _:=F2.out.trans f3;clear u3 f3)
    | (have:=U3;go_at_call 47;refine(CV'.out _ _ U3.out).mono ?_;rintro e' w4 ⟨a4,c4,rfl,W4,y4,f4⟩;have Y4:Hid _:=y4;have F4:Hid _:=F3.out.trans f4;clear y4 f4))
   obtain⟨g4,e4,ea,hgW,hrg,hnv⟩:=Y4.out.nd.at_ (i:=ms.length) (by simp)
   have h1:=hrg 1 (.string e4.tx) rfl
   have h2:NdV W4 w4 e4 m:=by simpa using hnv
   rw[h2.tx] at h1
   subst ea
   go_roundg 0
   case measure=>omega
   case rel=>exact⟨rfl,Or.inr ⟨rfl,g4,c4,rfl,h1,⟨W4,Y4.out,F4.out⟩⟩⟩
  ·go_wp2_with (go_at_call 70;refine(CQ'.out _).mono ?_;rintro e' w2 ⟨rfl,b2⟩)
   go_ret2
   obtain⟨W',h1,h2⟩:=hA.out
   exact⟨_,_,rfl,W',h1.below b2,h2.below b2⟩
end
section
variable {W W':Nat->Prop}{w w' w2:World}{bb tb:Nat}{X:Ad}{k k2 k3:Nat}{C C3:Cf}{st st3:Nat->Option Nat}{mk:Int}{wh wh3:Nat->Option Nat}{b2:Bm}{a:Option Addr}{c rt:Nat}{us:List UInt8}{ms:List Nd}{m:Nd}{key:ByteArray}{need:Int}
set_option maxHeartbeats 2000000 in
theorem Tt.place_ok (h:Tt W w tb X k C st mk wh) (hk:k<=240000000000) (hp:0<C.ps) (hl:us.length=222) (hr:rt<65536) (hv:Vw C st 0=hdT rt us) (hn:need<=51) (hlen:ms.length<=900)
  (CWW:∀ wx Wx bb,Bu Wx wx bb tb X (k+8006) C st mk wh ⟨rt,us,[]⟩->Calls Tryz.prog 39 #[.pointer (some ⟨bb,0,none⟩),.string key,.int .i64 need] wx fun e w'=>∃ a c,e=.returned (.tuple #[.slice a (ms.length+1) c,.int .i64 0])/\∃ W',Wy W' w' bb tb X k2 C st mk wh b2 a c (ms++[m])/\Fr Wx W' wx w')
  (CLY:∀ wx Wx bb,Bu Wx wx bb tb X k2 C st mk wh b2->Calls Tryz.prog 40 #[.pointer (some ⟨bb,0,none⟩)] wx fun e w'=>e=.returned (.int .i64 0)/\∃ W',Tt W' w' tb X k3 C3 st3 mk wh3/\Fr Wx W' wx w') :
  Calls Tryz.prog 11 #[.pointer (some ⟨tb,0,none⟩),.string key,.int .i64 need] w fun e w'=>e=.returned (.tuple #[.int .i64 (m.id:Int),.int .i64 0])/\∃ W',Tt W' w' tb X k3 C3 st3 mk wh3/\Fr W W' w w':=by
 have CM:Hid (Calls Tryz.prog 28 #[.pointer (some ⟨tb,0,none⟩)] w fun e w'=>e=.returned (.bool true)/\w'=w):=h.made
 have CO:Hid (Calls Tryz.prog 29 #[.pointer (some ⟨tb,0,none⟩)] w fun e w'=>∃ bb,e=.returned (.tuple #[.pointer (some ⟨bb,0,none⟩),.int .i64 0])/\∃ W',Bu W' w' bb tb X (k+8006) C st mk wh ⟨rt,us,[]⟩/\Fr W W' w w'):=h.open_ (by omega) hp rt us hl hr hv
 have hn5:¬ 51<need:=by omega
 obtain⟨M,hM⟩:∃ M,M=ms.length+1:=⟨_,rfl⟩
 have CV:Hid (∀ wx Wx bb,Bu Wx wx bb tb X (k+8006) C st mk wh ⟨rt,us,[]⟩->Calls Tryz.prog 39 #[.pointer (some ⟨bb,0,none⟩),.string key,.int .i64 need] wx fun e w'=>∃ a c,e=.returned (.tuple #[.slice a M c,.int .i64 0])/\∃ W',Wy W' w' bb tb X k2 C st mk wh b2 a c (ms++[m])/\Fr Wx W' wx w'):=(by rw[hM];exact CWW:∀ wx Wx bb,Bu Wx wx bb tb X (k+8006) C st mk wh ⟨rt,us,[]⟩->Calls Tryz.prog 39 #[.pointer (some ⟨bb,0,none⟩),.string key,.int .i64 need] wx fun e w'=>∃ a c,e=.returned (.tuple #[.slice a M c,.int .i64 0])/\∃ W',Wy W' w' bb tb X k2 C st mk wh b2 a c (ms++[m])/\Fr Wx W' wx w')
 have hl3:(M:Int)-1=((ms.length:Nat):Int):=by omega
 have hl4:((ms.length:Nat):Int)<(M:Int):=by omega
 have hM9:M<=1000:=by omega
 have CL:Hid (∀ wx Wx bb,Bu Wx wx bb tb X k2 C st mk wh b2->Calls Tryz.prog 40 #[.pointer (some ⟨bb,0,none⟩)] wx fun e w'=>e=.returned (.int .i64 0)/\∃ W',Tt W' w' tb X k3 C3 st3 mk wh3/\Fr Wx W' wx w'):=CLY
 clear h CWW CLY hv hl hr hM
 go_enter Tryz.func11,Tryz.ntmps11
 go_wp2_with (first
  | (go_at_call 28;refine CM.out.mono ?_;rintro e w1 ⟨rfl,rfl⟩)
  | (go_at_call 29;refine CO.out.mono ?_;rintro e w2 ⟨bb2,rfl,W2,u2,f2⟩;have U2:Hid _:=u2;have F2:Hid _:=f2;clear u2 f2)
  | (go_at_call 39;refine(CV.out _ _ _ U2.out).mono ?_;rintro e w3 ⟨a3,c3,rfl,W3,y3,f3⟩;obtain⟨g,e3,ea,hgW,hrg,hnv⟩:=y3.nd.at_ (i:=ms.length) (by simp);subst ea;have hid3:Hid (w3.cell? ⟨g,ms.length*7,none⟩=some (.int .i64 (m.id:Int))):=(by have h1:=hrg 0 (.int .i64 e3.id) rfl;have h2:NdV W3 w3 e3 m:=(by simpa using hnv);rw[h2.id] at h1;simpa using h1:w3.cell? ⟨g,ms.length*7,none⟩=some (.int .i64 (m.id:Int)));have hgn:Hid (¬ W3 g):=hgW;have Y3:Hid _:=y3;have F3:Hid _:=F2.out.trans f3;clear y3 f3 hrg hnv hgW)
  | (go_at_call 40;refine(CL.out _ _ _ Y3.out.bu).mono ?_;rintro e w4 ⟨rfl,W4,t4,f4⟩;have j0:=(f4.cell (p:=⟨g,ms.length*7,none⟩) (World.block_lt_of_cell? w3 _ hid3.out) hgn.out).trans hid3.out;have T4:Hid _:=t4;have F4:Hid _:=F3.out.trans f4;clear t4 f4))
 go_ret2
 exact⟨rfl,W4,T4.out,F4.out⟩
end
def frM (us:List UInt8) (ps:Nat):Nat:=((List.range ps).filter (fun i=>!uses us i)).length
theorem frM_succ (us:List UInt8) (i:Nat):frM us (i+1)=frM us i+(if uses us i then 0 else 1):=by
 unfold frM
 rw[List.range_succ,List.filter_append,List.length_append]
 congr 1
 cases h:uses us i <;> simp[h]
theorem frM_le (us:List UInt8) (ps:Nat):frM us ps<=ps:=by
 unfold frM
 exact Nat.le_trans (List.length_filter_le _ _) (by simp)
section
variable {W W' Wt:Nat->Prop}{w w' w2:World}{bb tb:Nat}{X:Ad}{k:Nat}{C:Cf}{st:Nat->Option Nat}{mk:Int}{wh:Nat->Option Nat}{rt:Nat}{us:List UInt8}
set_option maxHeartbeats 2000000 in
theorem Tt.free_ (h:Tt W w tb X k C st mk wh) (hk:k<=240000000000) (hp:0<C.ps) (hl:us.length=222) (hr:rt<65536) (hv:Vw C st 0=hdT rt us):Calls Tryz.prog 21 #[.pointer (some ⟨tb,0,none⟩)] w fun e w'=>e=.returned (.int .i64 (frM us C.ps:Nat))/\∃ W',Tt W' w' tb X (k+8006) C st mk wh/\Fr W W' w w':=by
 have CO:Hid (Calls Tryz.prog 29 #[.pointer (some ⟨tb,0,none⟩)] w fun e w'=>∃ bb,e=.returned (.tuple #[.pointer (some ⟨bb,0,none⟩),.int .i64 0])/\∃ W',Bu W' w' bb tb X (k+8006) C st mk wh ⟨rt,us,[]⟩/\Fr W W' w w'):=h.open_ (by omega) hp rt us hl hr hv
 have CP:Hid (∀ wx Wx bb,Bu Wx wx bb tb X (k+8006) C st mk wh ⟨rt,us,[]⟩->Calls Tryz.prog 30 #[.pointer (some ⟨X.pb,0,none⟩)] wx fun e w'=>e=.returned (.int .i64 (C.ps:Int))/\w'=wx):=fun wx Wx bb hx=>hx.pages
 have CU:Hid (∀ wx Wx bb i,i<C.ps->Bu Wx wx bb tb X (k+8006) C st mk wh ⟨rt,us,[]⟩->Calls Tryz.prog 53 #[.pointer (some ⟨bb,1,none⟩),.int .i64 (i:Int)] wx fun e w'=>e=.returned (.bool (uses us i))/\w'=wx):=fun wx Wx bb i hi hx=>hx.uses i hi
 have hp1:=h.p1
 clear h hv hl hr
 generalize C.ps=ps at *
 go_enter Tryz.func21,Tryz.ntmps21
 go_wp2_with (first
  | (go_at_call 29;refine CO.out.mono ?_;rintro e w2 ⟨bb2,rfl,W2,u2,f2⟩;have c0:=u2.cells.2.2.2;have U2:Hid _:=u2;have F2:Hid _:=f2;clear u2 f2)
  | (go_at_call 30;refine(CP.out _ _ _ U2.out).mono ?_;rintro e w3 ⟨rfl,rfl⟩))
 go_loopw [5,6,19] (fun s5 s6 s19 wr=>∃ i:Nat,s19=.int .i64 (i:Int)/\i<=ps/\s5=.int .i64 (frM us i:Nat)/\wr=w3) (fun s5 s6 s19 _=>ps-(intOf s19).toNat)
 case atStart=>exact⟨0,rfl,Nat.zero_le _,rfl,rfl⟩
 case round =>
  obtain⟨i,rfl,hi,rfl,rfl⟩:=hrel
  by_cases hlt:i<ps
  ·have hltI:(i:Int)<(ps:Int):=by omega
   have hfl:=frM_le us i
   have hfs:Hid (frM us (i+1)=frM us i+(if uses us i then 0 else 1)):=frM_succ us i
   have C1:Hid (∀ wx Wx bb,Bu Wx wx bb tb X (k+8006) C st mk wh ⟨rt,us,[]⟩->Calls Tryz.prog 53 #[.pointer (some ⟨bb,1,none⟩),.int .i64 (i:Int)] wx fun e w'=>e=.returned (.bool (uses us i))/\w'=wx):=fun wx Wx bb hx=>CU.out wx Wx bb i hlt hx
   clear CU
   generalize uses us i=u at *
   generalize hf0:frM us i=f0 at *
   have hw1:IntKind.i64.wrap ((f0:Int)+1)=(f0:Int)+1:=by rw[IntKind.wrap_i64];omega
   clear hf0
   cases u
   ·go_wp2_with (go_at_call 53;refine(C1.out _ _ _ U2.out).mono ?_;rintro e w4 ⟨rfl,rfl⟩)
    go_roundw
    case rel=>exact⟨i+1,by rfl,by omega,by rw[hfs.out];simp,by first |rfl |trivial⟩
    case measure=>simp[intOf];omega
   ·go_wp2_with (go_at_call 53;refine(C1.out _ _ _ U2.out).mono ?_;rintro e w4 ⟨rfl,rfl⟩)
    go_roundw
    case rel=>exact⟨i+1,by rfl,by omega,by rw[hfs.out];simp,by first |rfl |trivial⟩
    case measure=>simp[intOf];omega
  ·have hltI:¬ (i:Int)<(ps:Int):=by omega
   obtain rfl:i=ps:=by omega
   go_wp2
   go_ret
   obtain⟨Wt,t3,hsub⟩:=U2.out.tree
   exact⟨rfl,Wt,t3,F2.out.shrink hsub⟩
end
def usA (us:List UInt8) (l:List Nat):List UInt8:=l.foldl Tr.use us
theorem usA_uses (j:Nat) (l:List Nat):∀ us:List UInt8,(∀ i∈l,i / 8<us.length)->uses (usA us l) j=(decide (j∈l)||uses us j):=by
 induction l with
 | nil=>intro us _;simp[usA]
 | cons i l ih =>
  intro us h
  show uses (usA (Tr.use us i) l) j=_
  rw[ih _ (fun x hx=>by rw[use_length];exact h x (List.mem_cons_of_mem _ hx)),uses_use _ _ _ (h i (by simp))]
  rw[Bool.eq_iff_iff]
  simp only[Bool.or_eq_true,decide_eq_true_eq,List.mem_cons]
  constructor
  ·rintro(h1 |h1 |h1)
   ·exact Or.inl (Or.inr h1)
   ·exact Or.inl (Or.inl h1.symm)
   ·exact Or.inr h1
  ·rintro((h1 |h1) |h1)
   ·exact Or.inr (Or.inl h1.symm)
   ·exact Or.inl h1
   ·exact Or.inr (Or.inr h1)
theorem ids_lt {V:Nat->ByteArray} {us:List UInt8} {ps:Nat}:∀ (l id:Nat) (lo hi:ByteArray),Ok V us ps l id lo hi->∀ j∈ids V l id,0<j/\j<ps
 | 0,id,lo,hi,h,j,hj=>by
  simp only[ids,List.mem_singleton] at hj
  subst hj
  exact⟨h.1.i0,h.1.i1⟩
 | l+1,id,lo,hi,h,j,hj=>by
  simp only[ids,List.mem_cons] at hj
  rcases hj with rfl |hj
  ·exact⟨h.1.i0,h.1.i1⟩
  ·obtain⟨x,hx,hjx⟩:=List.mem_flatten.1 hj
   obtain⟨c,hc,rfl⟩:=List.mem_map.1 hx
   obtain⟨i,hi',rfl⟩:=List.getElem_of_mem hc
   exact ids_lt l _ _ _ (h.2.2 i hi') j hjx
theorem ids_pos (V:Nat->ByteArray) (l id:Nat):1<=(ids V l id).length:=by
 cases l <;> simp[ids]
theorem hdA_us (r:Int) (us:List UInt8) (i:Nat) (x:UInt8):(hdA r us).setIfInBounds (1+i) (.int .u8 (x.toNat:Int))=hdA r (us.set i x):=by
 apply Array.toList_inj.1
 rw[Array.toList_setIfInBounds]
 show(Value.int .i64 r ::Lib.byteCells us).set (1+i) _=Value.int .i64 r ::Lib.byteCells (us.set i x)
 rw[Nat.add_comm,List.set_cons_succ,byteCells_set]
structure Mt (W:Nat->Prop) (w:World) (bb tb:Nat) (X:Ad) (k:Nat) (C:Cf) (st:Nat->Option Nat) (mk:Int) (wh:Nat->Option Nat) (b:Bm) (mh:Nat) (r:Int) (um:List UInt8):Prop where
 bu:Bu W w bb tb X k C st mk wh b
 hd:Hd w mh r um
 nm:¬ W mh
abbrev Wm (W:Nat->Prop) (mh:Nat):Nat->Prop:=fun j=>W j∨j=mh
section
variable {W W':Nat->Prop}{w w':World}{bb tb:Nat}{X:Ad}{k k':Nat}{C:Cf}{st:Nat->Option Nat}{mk:Int}{wh:Nat->Option Nat}{b:Bm}{mh:Nat}{r:Int}{um:List UInt8}
theorem Fr.wm (h:Fr W W' w w') (hm:mh<w.heap.size):Fr (Wm W mh) (Wm W' mh) w w' :=
 ⟨h.os,h.tape,h.output,h.size,fun j hj hn=>h.blk j hj (fun e=>hn (Or.inl e)),fun j hj=>by
  rcases hj with e |rfl
  ·exact(h.sub j e).imp Or.inl id
  ·exact Or.inl (Or.inr rfl)⟩
theorem Mt.below (h:Mt W w bb tb X k C st mk wh b mh r um) (hb:Below w.heap.size w w'):Mt W w' bb tb X k C st mk wh b mh r um:=⟨h.bu.below hb,h.hd.below hb,h.nm⟩
theorem Mt.fr (h:Mt W w bb tb X k C st mk wh b mh r um) (hb:Bu W' w' bb tb X k' C st mk wh b) (hf:Fr W W' w w'):Mt W' w' bb tb X k' C st mk wh b mh r um:=⟨hb,h.hd.of_block (hf.blk mh h.hd.lt h.nm),hf.not h.hd.lt h.nm⟩
theorem Mt.off {c:Nat} (h:Mt W w bb tb X k C st mk wh b mh r um) (ho:Pk.Off c w w') (hc:¬ W c) (hm:mh≠c):Mt W w' bb tb X k C st mk wh b mh r um:=⟨h.bu.off ho hc,h.hd.of_block (ho.block mh h.hd.lt hm),h.nm⟩
theorem Mt.mono (h:Mt W w bb tb X k C st mk wh b mh r um) (hk:k<=k'):Mt W w bb tb X k' C st mk wh b mh r um:=⟨h.bu.mono hk,h.hd,h.nm⟩
theorem Mt.lt (h:Mt W w bb tb X k C st mk wh b mh r um) {j:Nat} (hj:Wm W mh j):j<w.heap.size:=by
 rcases hj with e |rfl
 ·exact h.bu.lt e
 ·exact h.hd.lt
theorem Mt.uses_ (h:Mt W w bb tb X k C st mk wh b mh r um) (id:Nat) (hid:id<200):Calls Tryz.prog 53 #[.pointer (some ⟨mh,0,none⟩),.int .i64 (id:Int)] w fun e w'=>e=.returned (.bool (uses um id))/\w'=w :=
 uses_cell w mh 0 id um (by omega) (by rw[Nat.zero_add];exact h.hd.cell (by omega))
theorem Mt.use_ (h:Mt W w bb tb X k C st mk wh b mh r um) (id:Nat) (hid:id<200):Calls Tryz.prog 31 #[.pointer (some ⟨mh,0,none⟩),.int .i64 (id:Int)] w fun e w'=>e=.returned (.tuple #[])/\Mt W w' bb tb X k C st mk wh b mh r (Tr.use um id)/\Fr (Wm W mh) (Wm W mh) w w':=by
 have h8:id % 8<8:=Nat.mod_lt _ (by omega)
 have hz:Pg.g um (id / 8) |||2 ^ (id % 8)<256:=Nat.or_lt_two_pow (n:=8) (Pg.g_lt _ _) (pow_lt8 h8)
 refine(use_cell w mh 0 id (Pg.g um (id / 8)) (Pg.g_lt _ _) (by omega) (by rw[Nat.zero_add];exact h.hd.cell (by omega)) (h.hd.f _)).mono ?_
 rintro e w1 ⟨rfl,rfl⟩
 have ho:=off_cell_drew w mh (0+1+id / 8) (.int .u8 ((Pg.g um (id / 8) |||2 ^ (id % 8):Nat):Int))
 refine⟨rfl,⟨h.bu.off ho h.nm,⟨?_,by rw[use_length];exact h.hd.len⟩,h.nm⟩,⟨ho.os,ho.tape,ho.output,ho.size,fun j hj hn=>ho.block j hj (fun e=>hn (Or.inr e)),fun j hj=>Or.inl hj⟩⟩
 have e1:=hdA_us r um (id / 8) (UInt8.ofNat (Pg.g um (id / 8) |||2 ^ (id % 8)))
 rw[toNat_of _ hz] at e1
 show(w.setCell ⟨mh,0+1+id / 8,none⟩ _).heap[mh]?=_
 rw[show hdA r (Tr.use um id)=_ from e1.symm,Nat.zero_add]
 exact Joins.block_setCell h.hd.blk _
end
end Go.Proofs.YtpcnjncgilmehabGreat.Tr
