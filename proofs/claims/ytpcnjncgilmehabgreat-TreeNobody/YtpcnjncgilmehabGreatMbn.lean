import Derived.Test.YtpcnjncgilmehabGreatMbm
set_option linter.unusedVariables false
set_option linter.unusedSimpArgs false
set_option maxRecDepth 100000
namespace Go.Proofs.YtpcnjncgilmehabGreat.Tr
open Go.RowKit Go.Maps Go.ChangeMaps
def recC (kd:Int) (id:Nat) (c:Cl):Rm:=⟨⟨kd,1,0,(id:Int),0,c.k,⟨#[]⟩,c.v,0,0,0⟩,[],[]⟩
section
variable {W W':Nat->Prop}{w w':World}{tb:Nat}{v:Value}{X:Ad}{k:Nat}{C:Cf}{st:Nat->Option Nat}{mk:Int}{wh:Nat->Option Nat}{m:Rm}{U:Nat->ByteArray}
theorem recC_v (w:World) (kd:Int) (id:Nat) (c:Cl):RecV w (.agg ((recC kd id c).s.A nilV nilV)) (recC kd id c) :=
 ⟨_,_,rfl,⟨none,0,rfl,Cs.nil _ _,(fun _=>rfl),by simp[recC],fun e=>absurd rfl e⟩,⟨none,0,rfl,Cs.nil _ _,(fun _=>rfl),by simp[recC],fun e=>absurd rfl e⟩⟩
theorem recC_small (kd:Int) (id:Nat) (c:Cl) (hk:c.k.size<=1000) (hv:c.v.size<=1000):Small (recC kd id c) :=
 ⟨by simp[recC],by simp[recC],fun p hp=>by simp[recC] at hp,(by show c.k.size<=9223372036854775807;omega),(by show(0:Nat)<=9223372036854775807;omega),(by show c.v.size<=9223372036854775807;omega)⟩
theorem Tt.append_ok (h:Tt W w tb X k C st mk wh) (hv:RecV w v m) (hm:Small m) (he:(frameM m).2=0) (hn:(cat C.fs).size+(frameM m).1.size<=58*C.sc) (hU:∀ id,(U id).size=224) :
  Calls Tryz.prog 67 #[.pointer (some ⟨X.l,0,none⟩),v] w fun e w'=>e=.returned (.tuple #[.int .i64 (nxt C:Nat),.int .i64 0])/\∃ W',Tt W' w' tb X k (addF C (frameM m).1 U st) st mk wh/\Fr W W' w w':=by
 obtain⟨W0,mb,n,h0,hW⟩:=h.ex
 refine(h0.pe.append hv hm U hU).mono ?_
 rintro e w' ⟨x,y,rfl,hor⟩
 rcases hor with⟨rfl,rfl,_,_,W',p1,f1⟩ |⟨h1,_,h3,_⟩
 ·exact⟨rfl,_,⟨W',mb,n,h0.fr p1 f1 (Nat.le_refl _) rfl,fun j=>Iff.rfl⟩,h0.wide hW f1⟩
 ·rcases h3 with⟨h4,_⟩ |⟨_,_,h4⟩
  ·exact absurd he h4
  ·exact absurd hn h4
end
structure LwB (w:World) (wb:Nat) (d s:Value) (X:Ad) (tb:Nat):Prop where
 blk:w.heap[wb]?=some (.cells #[d,s,.pointer (some ⟨X.l,0,none⟩),.pointer (some ⟨X.pb,0,none⟩),.pointer (some ⟨tb,0,none⟩)] 33)
section
variable {W W':Nat->Prop}{w w':World}{tb wb:Nat}{d s:Value}{X:Ad}{k k1:Nat}{C C1:Cf}{st st1:Nat->Option Nat}{mk:Int}{wh wh1:Nat->Option Nat}{U:Nat->ByteArray}
theorem LwB.c2 (h:LwB w wb d s X tb):w.cell? ⟨wb,2,none⟩=some (.pointer (some ⟨X.l,0,none⟩)):=Joins.cell_of_block h.blk 2
theorem LwB.c3 (h:LwB w wb d s X tb):w.cell? ⟨wb,3,none⟩=some (.pointer (some ⟨X.pb,0,none⟩)):=Joins.cell_of_block h.blk 3
theorem LwB.c4 (h:LwB w wb d s X tb):w.cell? ⟨wb,4,none⟩=some (.pointer (some ⟨tb,0,none⟩)):=Joins.cell_of_block h.blk 4
theorem LwB.lt (h:LwB w wb d s X tb):wb<w.heap.size:=lt_of_some h.blk
theorem LwB.fr (h:LwB w wb d s X tb) (hf:Fr W W' w w') (hn:¬ W wb):LwB w' wb d s X tb:=⟨(hf.blk wb h.lt hn).trans h.blk⟩
theorem LwB.below (h:LwB w wb d s X tb) (hb:Below w.heap.size w w'):LwB w' wb d s X tb:=⟨(hb.block wb h.lt).trans h.blk⟩
theorem Vw_addF {id:Nat} (h:∀ r,st id=some r->r<=(cat C.fs).size) (f:ByteArray) (U:Nat->ByteArray) (st0:Nat->Option Nat):Vw (addF C f U st0) st id=Vw C st id:=by
 unfold Vw
 cases hs:st id with
 | none=>rfl
 | some r =>
  show(addF C f U st0).T id r=C.T id r
  simp only[addF]
  rw[if_pos (h r hs)]
theorem cat_addF (C:Cf) (f:ByteArray) (U:Nat->ByteArray) (st0:Nat->Option Nat):(cat (addF C f U st0).fs).size=(cat C.fs).size+f.size:=by
 show(cat (C.fs++[f])).size=_
 rw[cat_snoc,ByteArray.size_append]
set_option maxHeartbeats 1000000 in
theorem turn_ok (h:Tt W w tb X k C st mk wh) (hL:LwB w wb d s X tb) (hn:¬ W wb) (id:Nat) (kd:Int) (hkd:kd=3∨kd=4∨kd=5) (c:Cl) (hck:c.k.size<=1000) (hcv:c.v.size<=1000) (t:ByteArray) (ht:t.size=224) (hk:k1<=270000000000) (hps:id<C1.ps) (hne:(Vw C1 st1 id).size≠0) (hlo:C1.lo id<=nxt C1)
  (he:(frameM (recC kd id c)).2=0) (hf:1<=(frameM (recC kd id c)).1.size) (hr:(cat C1.fs).size+(frameM (recC kd id c)).1.size<=58*C1.sc)
  (CC:∀ wx,Tt W wx tb X k C st mk wh->Calls Tryz.prog 8 #[.pointer (some ⟨tb,0,none⟩),.int .i64 (id:Int)] wx fun e w'=>e=.returned (.int .i64 0)/\∃ W',Tt W' w' tb X k1 C1 st1 mk wh1/\Fr W W' wx w')
  (CT:∀ wx,Calls Tryz.prog 42 #[.string (Vw C1 st1 id),.int .i64 kd,.agg #[.string c.k,.string c.v]] wx fun e w'=>e=.returned (.tuple #[.string t,.int .i64 0])/\Below wx.heap.size wx w') :
  Calls Tryz.prog 80 #[.pointer (some ⟨wb,0,none⟩),.int .i64 (id:Int),.int .i64 kd,.agg #[.string c.k,.string c.v]] w fun e w'=>e=.returned (.int .i64 0)/\∃ W',Tt W' w' tb X (k1+16012) (addF C1 (frameM (recC kd id c)).1 (fun _=>t) st1) (upd st1 id (some (nxt C1))) mk wh1/\Fr W W' w w':=by
 have CC':Hid (∀ wx,Tt W wx tb X k C st mk wh->Calls Tryz.prog 8 #[.pointer (some ⟨tb,0,none⟩),.int .i64 (id:Int)] wx fun e w'=>e=.returned (.int .i64 0)/\∃ W',Tt W' w' tb X k1 C1 st1 mk wh1/\Fr W W' wx w'):=CC
 have CA:Hid (∀ wx Wx,Tt Wx wx tb X k1 C1 st1 mk wh1->Calls Tryz.prog 67 #[.pointer (some ⟨X.l,0,none⟩),.agg #[.int .i64 kd,.int .i64 1,.int .i64 0,.int .i64 (id:Int),.int .i64 0,.string c.k,.string ⟨#[]⟩,.string c.v,.int .i64 0,.slice none 0 0,.slice none 0 0,.int .i64 0,.int .i64 0]] wx fun e w'=>e=.returned (.tuple #[.int .i64 (nxt C1:Nat),.int .i64 0])/\∃ W',Tt W' w' tb X k1 (addF C1 (frameM (recC kd id c)).1 (fun _=>t) st1) st1 mk wh1/\Fr Wx W' wx w'):=fun wx Wx hx=>hx.append_ok (recC_v wx kd id c) (recC_small kd id c hck hcv) he hr (fun _=>ht)
 have CH:Hid (∀ wx Wx,Tt Wx wx tb X k1 (addF C1 (frameM (recC kd id c)).1 (fun _=>t) st1) st1 mk wh1->(∀ r,st1 id=some r->r<=(cat C1.fs).size)->Calls Tryz.prog 12 #[.pointer (some ⟨tb,0,none⟩),.int .i64 (id:Int),.int .i64 (nxt C1:Nat),.int .i64 kd,.agg #[.string c.k,.string c.v]] wx fun e w'=>e=.returned (.int .i64 0)/\∃ W',Tt W' w' tb X (k1+16012) (addF C1 (frameM (recC kd id c)).1 (fun _=>t) st1) (upd st1 id (some (nxt C1))) mk wh1/\Fr Wx W' wx w'):=fun wx Wx hx hsl=>by
  have hv:=Vw_addF (id:=id) (C:=C1) (st:=st1) hsl (frameM (recC kd id c)).1 (fun _=>t) st1
  have:=hx.change hk id hps (by rw[hv];exact hne) kd hkd c (nxt C1) t 0 (by rw[hv];exact CT) (fun _=>⟨?_,⟨?_,?_,hlo⟩,?_,?_⟩)
  ·simpa using this
  ·simp only[addF]
   rw[if_neg (by unfold nxt;omega)]
  ·unfold nxt;omega
  ·rw[cat_addF];unfold nxt;omega
  ·simp only[addF]
   rw[if_neg (by unfold nxt;omega)]
  ·intro r0 h0
   have:=hsl r0 h0
   unfold nxt;omega
 have HS:Hid (∀ wx Wx,Tt Wx wx tb X k1 C1 st1 mk wh1->∀ r,st1 id=some r->r<=(cat C1.fs).size):=fun wx Wx hx r hr=>by
  obtain⟨W0,mb,n,h0,_⟩:=hx.ex
  exact(h0.pe.sl hps hr).2.1
 have H0:Hid (Tt W w tb X k C st mk wh):=h
 have L0:Hid (LwB w wb d s X tb):=hL
 have HLT:Hid (∀ j,W j->j<w.heap.size):=fun j hj=>h.lt hj
 clear CC CT h hL
 generalize (frameM (recC kd id c)).1=fr at *
 generalize nxt C1=r at *
 go_enter Tryz.func80,Tryz.ntmps80
 go_wp2_with (first
  | (refine Pg.wpList_box_cb _ rfl _ rfl rfl ?_;intro w1 b1 n1;have T1:Hid _:=H0.out.below n1.below;have L1:Hid _:=L0.out.below n1.below;have l4:=L1.out.c4)
  | (go_at_call 8;refine(CC'.out _ T1.out).mono ?_;rintro e w2 ⟨rfl,W2,t2,f2⟩;have HB:Hid (¬ W b1):=(fun e=>absurd (HLT.out _ e) (by have:=n1.le;omega):¬ W b1);have T2:Hid _:=t2;have F2:Hid _:=f2;have N2:Hid _:=cb_fr n1.cb f2 HB.out;have L2:Hid _:=L1.out.fr f2 hn;have k0:=N2.out.c0;have k1':=N2.out.c1;have l2:=L2.out.c2;clear t2 f2))
 have d2:Below w2.heap.size w2 w2.drew:=⟨rfl,rfl,rfl,Nat.le_refl _,fun _ _=>rfl⟩
 have D2:Hid _:=T2.out.below d2
 have G2:Hid _:=L2.out.below d2
 have E2:Hid _:=N2.out.below d2
 have FD:Hid _:=F2.out.below d2
 have HB3:Hid (¬ W2 b1):=(F2.out.not n1.cb.lt HB.out:¬ W2 b1)
 have HW3:Hid (¬ W2 wb):=(F2.out.not L1.out.lt hn:¬ W2 wb)
 clear l4 he hf hr hck hcv ht hk hne hlo
 go_region_held3 (fun W=>W.cell? ⟨wb,2,none⟩=some (.pointer (some ⟨X.l,0,none⟩))/\W.cell? ⟨b1,0,none⟩=some (.string c.k)/\W.cell? ⟨b1,1,none⟩=some (.string c.v)) (first |exact keep3 |go_keep) ((go_at_call 67;refine(CA.out _ _ D2.out).mono ?_;rintro e w3 ⟨rfl,W3,t3,f3⟩;have T3:Hid _:=t3;have F3:Hid _:=f3;have N3:Hid _:=cb_fr E2.out f3 HB3.out;have L3:Hid _:=G2.out.fr f3 HW3.out;have keep3:w3.cell? ⟨wb,2,none⟩=some (.pointer (some ⟨X.l,0,none⟩))/\w3.cell? ⟨b1,0,none⟩=some (.string c.k)/\w3.cell? ⟨b1,1,none⟩=some (.string c.v):=⟨L3.out.c2,N3.out.c0,N3.out.c1⟩;clear t3 f3))
 have m4:=L3.out.c4
 have m0:=keep3.2.1
 have m1:=keep3.2.2
 have SL:Hid _:=HS.out _ _ T2.out
 clear keep3 k0 k1' l2 CA CC'
 go_wp2
 have d3:Below w3.heap.size w3 w3.drew:=⟨rfl,rfl,rfl,Nat.le_refl _,fun _ _=>rfl⟩
 have D3:Hid _:=T3.out.below d3
 have G3:Hid _:=L3.out.below d3
 have E3:Hid _:=N3.out.below d3
 have FE:Hid _:=F3.out.below d3
 have HB4:Hid (¬ W3 b1):=(F3.out.not E2.out.lt HB3.out:¬ W3 b1)
 have HW4:Hid (¬ W3 wb):=(F3.out.not G2.out.lt HW3.out:¬ W3 wb)
 go_region_held3 (fun W=>W.cell? ⟨wb,4,none⟩=some (.pointer (some ⟨tb,0,none⟩))/\W.cell? ⟨b1,0,none⟩=some (.string c.k)/\W.cell? ⟨b1,1,none⟩=some (.string c.v)) (first |exact keep4 |go_keep) ((go_at_call 12;refine(CH.out _ _ D3.out SL.out).mono ?_;rintro e w4 ⟨rfl,W4,t4,f4⟩;have T4:Hid _:=t4;have F4:Hid _:=f4;have N4:Hid _:=cb_fr E3.out f4 HB4.out;have L4:Hid _:=G3.out.fr f4 HW4.out;have keep4:w4.cell? ⟨wb,4,none⟩=some (.pointer (some ⟨tb,0,none⟩))/\w4.cell? ⟨b1,0,none⟩=some (.string c.k)/\w4.cell? ⟨b1,1,none⟩=some (.string c.v):=⟨L4.out.c4,N4.out.c0,N4.out.c1⟩;clear t4 f4))
 go_wp2
 go_ret
 exact⟨rfl,W4,T4.out,(Fr.of_below n1.below W).trans (FD.out.trans (FE.out.trans F4.out))⟩
end
section
variable {W W':Nat->Prop}{w w':World}{tb wb:Nat}{d s:Value}{X:Ad}{k k1 k2 k3:Nat}{C C2 C3:Cf}{st st2 st3:Nat->Option Nat}{mk:Int}{wh wh2 wh3:Nat->Option Nat}
set_option maxHeartbeats 1000000 in
theorem lput_ok (h:Tt W w tb X k C st mk wh) (hL:LwB w wb d s X tb) (hn:¬ W wb) (c:Cl) (hck:c.k.size<=1000) (hcv:c.v.size<=1000) (o:ByteArray) (is:Bool) (id:Nat)
  (CG:∀ wx,Tt W wx tb X k C st mk wh->Calls Tryz.prog 14 #[.pointer (some ⟨tb,0,none⟩),.string c.k] wx fun e w'=>e=.returned (.tuple #[.string o,.bool is,.int .i64 0])/\∃ W',Tt W' w' tb X k1 C st mk wh/\Fr W W' wx w')
  (CP:∀ wx Wx,Tt Wx wx tb X k1 C st mk wh->Calls Tryz.prog 11 #[.pointer (some ⟨tb,0,none⟩),.string c.k,.int .i64 (Pg.need c)] wx fun e w'=>e=.returned (.tuple #[.int .i64 (id:Int),.int .i64 0])/\∃ W',Tt W' w' tb X k2 C2 st2 mk wh2/\Fr Wx W' wx w')
  (CT:∀ wx Wx,Tt Wx wx tb X k2 C2 st2 mk wh2->LwB wx wb d s X tb->¬ Wx wb->Calls Tryz.prog 80 #[.pointer (some ⟨wb,0,none⟩),.int .i64 (id:Int),.int .i64 (if is then 5 else 3),.agg #[.string c.k,.string c.v]] wx fun e w'=>e=.returned (.int .i64 0)/\∃ W',Tt W' w' tb X k3 C3 st3 mk wh3/\Fr Wx W' wx w') :
  Calls Tryz.prog 44 #[.pointer (some ⟨wb,0,none⟩),.agg #[.string c.k,.string c.v]] w fun e w'=>e=.returned (.int .i64 0)/\∃ W',Tt W' w' tb X k3 C3 st3 mk wh3/\Fr W W' w w':=by
 have CG':Hid (∀ wx,Tt W wx tb X k C st mk wh->Calls Tryz.prog 14 #[.pointer (some ⟨tb,0,none⟩),.string c.k] wx fun e w'=>e=.returned (.tuple #[.string o,.bool is,.int .i64 0])/\∃ W',Tt W' w' tb X k1 C st mk wh/\Fr W W' wx w'):=CG
 have CN:Hid (∀ wx,Calls Tryz.prog 79 #[.agg #[.string c.k,.string c.v]] wx fun e w'=>e=.returned (.int .i64 (Pg.need c))/\Below wx.heap.size wx w'):=fun wx=>Pg.Need_any wx c (by omega) (by omega)
 have CP':Hid (∀ wx Wx,Tt Wx wx tb X k1 C st mk wh->Calls Tryz.prog 11 #[.pointer (some ⟨tb,0,none⟩),.string c.k,.int .i64 (Pg.need c)] wx fun e w'=>e=.returned (.tuple #[.int .i64 (id:Int),.int .i64 0])/\∃ W',Tt W' w' tb X k2 C2 st2 mk wh2/\Fr Wx W' wx w'):=CP
 have CT':Hid (∀ wx Wx,Tt Wx wx tb X k2 C2 st2 mk wh2->LwB wx wb d s X tb->¬ Wx wb->Calls Tryz.prog 80 #[.pointer (some ⟨wb,0,none⟩),.int .i64 (id:Int),.int .i64 (if is then 5 else 3),.agg #[.string c.k,.string c.v]] wx fun e w'=>e=.returned (.int .i64 0)/\∃ W',Tt W' w' tb X k3 C3 st3 mk wh3/\Fr Wx W' wx w'):=CT
 have H0:Hid (Tt W w tb X k C st mk wh):=h
 have L0:Hid (LwB w wb d s X tb):=hL
 have HLT:Hid (∀ j,W j->j<w.heap.size):=fun j hj=>h.lt hj
 clear CG CP CT h hL hck hcv
 generalize Pg.need c=nd at *
 go_enter Tryz.func44,Tryz.ntmps44
 go_wp2_with (refine Pg.wpList_box_cb _ rfl _ rfl rfl ?_;intro w1 b1 n1)
 have T1:Hid _:=(H0.out.below n1.below).below (Below.refl _ w1).drew
 have L1:Hid _:=(L0.out.below n1.below).below (Below.refl _ w1).drew
 have E1:Hid _:=n1.cb.below (Below.refl _ w1).drew
 have HB:Hid (¬ W b1):=(fun e=>absurd (HLT.out _ e) (by have:=n1.le;omega):¬ W b1)
 have l4:=(L0.out.below n1.below).c4
 have k0:=n1.cb.c0
 have k1':=n1.cb.c1
 go_region_held3 (fun W=>W.cell? ⟨wb,4,none⟩=some (.pointer (some ⟨tb,0,none⟩))/\W.cell? ⟨b1,0,none⟩=some (.string c.k)/\W.cell? ⟨b1,1,none⟩=some (.string c.v)) (first |exact keep2 |go_keep) ((go_at_call 14;refine(CG'.out _ T1.out).mono ?_;rintro e w2 ⟨rfl,W2,t2,f2⟩;have T2:Hid _:=t2;have F2:Hid _:=f2;have N2:Hid _:=cb_fr E1.out f2 HB.out;have L2:Hid _:=L1.out.fr f2 hn;have keep2:w2.cell? ⟨wb,4,none⟩=some (.pointer (some ⟨tb,0,none⟩))/\w2.cell? ⟨b1,0,none⟩=some (.string c.k)/\w2.cell? ⟨b1,1,none⟩=some (.string c.v):=⟨L2.out.c4,N2.out.c0,N2.out.c1⟩;clear t2 f2))
 have HB3:Hid (¬ W2 b1):=(F2.out.not E1.out.lt HB.out:¬ W2 b1)
 have HW3:Hid (¬ W2 wb):=(F2.out.not L1.out.lt hn:¬ W2 wb)
 have m4:=keep2.1
 have m0:=keep2.2.1
 have m1:=keep2.2.2
 clear keep2 l4 k0 k1' CG'
 go_wp2
 go_region_held3 (fun W=>W.cell? ⟨wb,4,none⟩=some (.pointer (some ⟨tb,0,none⟩))/\W.cell? ⟨b1,0,none⟩=some (.string c.k)/\W.cell? ⟨b1,1,none⟩=some (.string c.v)) (first |exact keep5 |exact keep4 |go_keep) (first
  | (go_at_call 79;refine(CN.out _).mono ?_;rintro e w4 ⟨rfl,b4⟩;have B4:Hid (Below w2.heap.size w2 w4):=(((Below.refl _ _).drew).trans b4:Below w2.heap.size w2 w4);have T4:Hid _:=T2.out.below B4.out;have L4:Hid _:=L2.out.below B4.out;have N4:Hid _:=N2.out.below B4.out;have keep4:w4.cell? ⟨wb,4,none⟩=some (.pointer (some ⟨tb,0,none⟩))/\w4.cell? ⟨b1,0,none⟩=some (.string c.k)/\w4.cell? ⟨b1,1,none⟩=some (.string c.v):=⟨L4.out.c4,N4.out.c0,N4.out.c1⟩)
  | (go_at_call 11;refine(CP'.out _ _ T4.out).mono ?_;rintro e w5 ⟨rfl,W5,t5,f5⟩;have T5:Hid _:=t5;have F5:Hid _:=f5;have N5:Hid _:=cb_fr N4.out f5 HB3.out;have L5:Hid _:=L4.out.fr f5 HW3.out;have HW5:Hid (¬ W5 wb):=(f5.not L4.out.lt HW3.out:¬ W5 wb);have keep5:w5.cell? ⟨wb,4,none⟩=some (.pointer (some ⟨tb,0,none⟩))/\w5.cell? ⟨b1,0,none⟩=some (.string c.k)/\w5.cell? ⟨b1,1,none⟩=some (.string c.v):=⟨L5.out.c4,N5.out.c0,N5.out.c1⟩;clear t5 f5))
 have q0:=keep5.2.1
 have q1:=keep5.2.2
 clear keep5 keep4 m4 m0 m1 CP' CN
 cases is
 all_goals
  go_wp2_with (go_at_call 80;refine(CT'.out _ _ T5.out L5.out HW5.out).mono ?_;rintro e w6 ⟨rfl,W6,t6,f6⟩;have T6:Hid _:=t6;have F6:Hid _:=f6;clear t6 f6)
  go_ret
  exact⟨rfl,W6,T6.out,(Fr.of_below (n1.below.trans ((Below.refl _ w1).drew.mono n1.below.size)) W).trans ((F2.out.below B4.out).trans (F5.out.trans F6.out))⟩
end
end Go.Proofs.YtpcnjncgilmehabGreat.Tr
