import Derived.Test.YtpcnjncgilmehabGreatMbi
set_option linter.unusedVariables false
set_option linter.unusedSimpArgs false
set_option maxRecDepth 100000
namespace Go.Proofs.YtpcnjncgilmehabGreat.Tr
open Go.RowKit Go.Maps Go.ChangeMaps
section
variable {W W':Nat->Prop}{w w' w2:World}{bb tb:Nat}{X:Ad}{k:Nat}{C:Cf}{st:Nat->Option Nat}{mk:Int}{wh:Nat->Option Nat}{b:Bm}{im:Ims}
theorem nd_fr {c:Nat} {v:Nv} (h:NdAt w c v) (hf:Fr W W' w w') (hn:¬ W c):NdAt w' c v:=h.of_block (hf.blk c h.lt hn)
theorem cs_two (w:World) (c1 c2:Cl):Pg.Cs (w.alloc (.cells #[.string c1.k,.string c1.v,.string c2.k,.string c2.v] 23)) (some ⟨w.heap.size,0,none⟩) [c1,c2]:=by
 have hb:=(MapKept.heap_alloc w (.cells #[.string c1.k,.string c1.v,.string c2.k,.string c2.v] 23)).1
 refine⟨fun i hi=>?_⟩
 refine⟨_,_,rfl,by simp,?_⟩
 have:i=0∨i=1:=by simp at hi;omega
 rcases this with rfl |rfl
 ·exact⟨Joins.cell_of_block hb 0,Joins.cell_of_block hb 1⟩
 ·exact⟨Joins.cell_of_block hb 2,Joins.cell_of_block hb 3⟩
def crM (b:Bm) (rid lv:Nat) (c:Cl) (id:Nat):Bm:=⟨id,Tr.use b.us id,putI b.im id (Pg.tx (Pg.packS 2 (lv+1) [cellOf eb rid,c]))⟩
set_option maxHeartbeats 2000000 in
theorem Bu.crown (h:Bu W w bb tb X k C st mk wh b) (v:Nv) (rid lv:Nat) (hid:v.id=(rid:Int)) (hlv:v.lv=(lv:Int)) (hrid:rid<65536) (hlv2:lv<=1000) (c:Cl) (id:Nat) (hF:Fst b.us C.ps id) (hP:Pg.CanPack 2 (lv+1) [cellOf eb rid,c]) :
  Calls Tryz.prog 171 #[.pointer (some ⟨bb,0,none⟩),.agg v.A,.agg #[.string c.k,.string c.v]] w fun e w'=>e=.returned (.int .i64 0)/\∃ W',Bu W' w' bb tb X k C st mk wh (crM b rid lv c id)/\Fr W W' w w':=by
 have hp1:=h.p1
 have CT:Hid (∀ wx,Bu W wx bb tb X k C st mk wh b->Calls Tryz.prog 63 #[.pointer (some ⟨bb,0,none⟩)] wx fun e w'=>e=.returned (.tuple #[.int .i64 (id:Int),.int .i64 0])/\Bu W w' bb tb X k C st mk wh {b with us:=Tr.use b.us id}/\Fr W W wx w'):=fun wx hx=>hx.take id hF
 have CC:Hid (∀ wx,Calls Tryz.prog 172 #[.string ⟨#[]⟩,.int .i64 (rid:Int)] wx fun e w'=>e=.returned (.agg #[.string (cellOf eb rid).k,.string (cellOf eb rid).v])/\Below wx.heap.size wx w'):=fun wx=>cellOf_any wx eb rid hrid
 have CP:Hid (∀ wx Wx,Bu Wx wx bb tb X k C st mk wh {b with rt:=id,us:=Tr.use b.us id}->∀ wy,wy=wx.alloc (.cells #[.string (cellOf eb rid).k,.string (cellOf eb rid).v,.string c.k,.string c.v] 23)->Calls Tryz.prog 64 #[.pointer (some ⟨bb,0,none⟩),.int .i64 (id:Int),.int .i64 2,.int .i64 ((lv:Int)+1),.slice (some ⟨wx.heap.size,0,none⟩) 2 2] wy fun e w'=>e=.returned (.int .i64 0)/\∃ W',Bu W' w' bb tb X k C st mk wh (crM b rid lv c id)/\Fr Wx W' wx w'):=fun wx Wx hx wy hy=>by
  subst hy
  have hb:Below wx.heap.size wx (wx.alloc (.cells #[.string (cellOf eb rid).k,.string (cellOf eb rid).v,.string c.k,.string c.v] 23)):=(Below.refl _ _).alloc (Nat.le_refl _) _
  refine((hx.below hb).putCells id 2 (lv+1) hF.l (L:=[cellOf eb rid,c]) 2 (cs_two wx _ _) hP).mono ?_
  rintro e w' ⟨he,W',q1,q2⟩
  exact⟨he,W',q1,(Fr.of_below hb Wx).trans q2⟩
 have hid6:id<65536:=by have:=hF.l;omega
 have H0:Hid (Bu W w bb tb X k C st mk wh b):=h
 have HLT:Hid (∀ j,W j->j<w.heap.size):=fun j hj=>h.lt hj
 have hwl:IntKind.i64.wrap ((lv:Int)+1)=(lv:Int)+1:=by rw[IntKind.wrap_i64];omega
 clear h hF hP
 generalize crM b rid lv c id=b2 at *
 generalize (cellOf eb rid).k=s1 at *
 generalize (cellOf eb rid).v=s2 at *
 go_enter Tryz.func171,Tryz.ntmps171
 go_wp2_with (first
  | (refine wpList_box_nd (n:=v) _ rfl _ rfl rfl ?_;intro w1 b4 N1)
  | (refine Pg.wpList_box_cb _ rfl _ rfl rfl ?_;intro w2 b5 n2;have B2:Hid (Below w.heap.size w w2):=thn N1.below n2.below;have U2:Hid _:=H0.out.below B2.out;have A4:Hid _:=N1.nd.below n2.below;have G4:Hid (¬ W b4):=(fun e=>absurd (HLT.out _ e) (by rw[N1.eq];omega):¬ W b4);have G5:Hid (¬ W b5):=(fun e=>absurd (HLT.out _ e) (by have:=n2.le;have:=N1.below.size;omega):¬ W b5))
  | (go_at_call 63;refine(CT.out _ U2.out).mono ?_;rintro e w3 ⟨rfl,u3,f3⟩;have k1:=u3.cells.2.1;have z1:=u3.cells.2.2.1 1;have U4:Hid _:=u3.rooted id hid6;have F3:Hid _:=f3;have A5:Hid _:=nd_fr A4.out f3 G4.out;have A6:Hid _:=cb_fr n2.cb f3 G5.out;clear u3 f3))
 have A7:Hid _:=nd_fr A5.out U4.out.2 G4.out
 have A8:Hid _:=cb_fr A6.out U4.out.2 G5.out
 have p0:(w3.setCell ⟨bb,1,none⟩ (.int .i64 (id:Int))).cell? ⟨b4,0,none⟩=some (.int .i64 (rid:Int)):=by rw[A7.out.c0,hid]
 have p2:(w3.setCell ⟨bb,1,none⟩ (.int .i64 (id:Int))).cell? ⟨b4,2,none⟩=some (.int .i64 (lv:Int)):=by rw[A7.out.c2,hlv]
 have r0:=A8.out.c0
 have r1:=A8.out.c1
 have U5:Hid _:=U4.out.1
 have F5:Hid _:=U4.out.2
 clear U4
 generalize w3.setCell ⟨bb,1,none⟩ (.int .i64 (id:Int))=w5 at *
 have hbd:Hid (Below w5.heap.size w5 w5.drew):=(⟨rfl,rfl,rfl,Nat.le_refl _,fun _ _=>rfl⟩:Below w5.heap.size w5 w5.drew)
 have HKp:Hid (∀ Wd:World,Below w5.heap.size w5 Wd->(Wd.cell? ⟨b4,0,none⟩=some (.int .i64 (rid:Int))/\Wd.cell? ⟨b4,2,none⟩=some (.int .i64 (lv:Int))/\Wd.cell? ⟨b5,0,none⟩=some (.string c.k)/\Wd.cell? ⟨b5,1,none⟩=some (.string c.v))):=fun Wd hb=>⟨by rw[(A7.out.below hb).c0,hid],by rw[(A7.out.below hb).c2,hlv],(A8.out.of_block (hb.block b5 A8.out.lt)).c0,(A8.out.of_block (hb.block b5 A8.out.lt)).c1⟩
 go_region_held_law (fun Wd=>(Wd.cell? ⟨b4,0,none⟩=some (.int .i64 (rid:Int))/\Wd.cell? ⟨b4,2,none⟩=some (.int .i64 (lv:Int))/\Wd.cell? ⟨b5,0,none⟩=some (.string c.k)/\Wd.cell? ⟨b5,1,none⟩=some (.string c.v))) (first |exact HKp.out _ hbd.out |exact HKp.out _ Q6.out |exact HKp.out _ (thn Q6.out ((Below.refl _ _).alloc (Nat.le_refl _) _)) |exact keep7) (first
  | (go_at_call 172;refine(CC.out _).mono ?_;rintro e w6 ⟨rfl,q6⟩;have Q6:Hid (Below w5.heap.size w5 w6):=thn hbd.out q6;have U6:Hid _:=U5.out.below Q6.out)
  | (go_at_call 64;refine(CP.out w6 _ U6.out _ rfl).mono ?_;rintro e w7 ⟨rfl,W7,u7,f7⟩;have U7:Hid _:=u7;have F7:Hid _:=f7;have F8:Hid _:=(Fr.of_below Q6.out W).trans f7;have keep7:(w7.cell? ⟨b4,0,none⟩=some (.int .i64 (rid:Int))/\w7.cell? ⟨b4,2,none⟩=some (.int .i64 (lv:Int))/\w7.cell? ⟨b5,0,none⟩=some (.string c.k)/\w7.cell? ⟨b5,1,none⟩=some (.string c.v)):=⟨(by rw[(nd_fr A7.out F8.out G4.out).c0,hid]),(by rw[(nd_fr A7.out F8.out G4.out).c2,hlv]),(cb_fr A8.out F8.out G5.out).c0,(cb_fr A8.out F8.out G5.out).c1⟩;clear u7 f7))
 all_goals
  go_wp2
  go_ret
  exact⟨rfl,W7,U7.out,(((Fr.of_below B2.out W).trans F3.out).trans F5.out).trans ((Fr.of_below Q6.out W).trans F7.out)⟩
end
section
variable {W:Nat->Prop}{w:World}{b:Bm}{im:Ims}{a:Option Addr}{ns:List Nd}
theorem flatN_take (es:List Nv):∀ i,i<=es.length->flatN (es.take i)=(flatN es).take (i*7):=by
 induction es with
 | nil=>intro i hi;simp[flatN]
 | cons e l ih =>
  intro i hi
  cases i with
  | zero=>simp[flatN]
  | succ i =>
   rw[List.take_succ_cons,flatN,flatN,ih i (by simpa using hi),List.take_append,nvl]
   rw[List.take_of_length_le (l:=e.A.toList) (by rw[nvl];omega)]
   congr 2
   omega
theorem Nds.take {n' c:Nat} (h:Nds W w (.slice a n' c) ns) {i:Nat} (hi:i<=ns.length):Nds W w (.slice a i c) (ns.take i):=by
 obtain⟨es,h1,⟨h2,h3⟩,h4,h5⟩:=h.ex
 have hl:(ns.take i).length=i:=by rw[List.length_take];omega
 have hown:(Value.slice a i c).ownBlock=(Value.slice a n' c).ownBlock:=by cases a <;> rfl
 refine⟨es.take i,by rw[hl,List.length_take];omega,⟨?_,?_⟩,fun j q1 q2=>?_,fun g e=>h5 g (by rw[← hown];exact e)⟩
 ·rw[hl,flatN_length,List.length_take];omega
 ·rw[hl]
  rcases h3 with⟨e,h3⟩ |⟨g,cap,cur,e,hB,hg,h6,h7,h8,h9⟩
  ·injection e with e1 e2 e3
   subst e1 e3
   obtain rfl:i=0:=by omega
   exact Or.inl ⟨rfl,rfl⟩
  ·injection e with e1 e2 e3
   subst e1 e3
   refine Or.inr ⟨g,c,cur,rfl,hB,hg,by omega,h7,h8,?_⟩
   rw[flatN_take es i (by omega),← h9,List.take_take]
   congr 1
   omega
 ·rw[List.length_take] at q1
  rw[List.getElem_take,List.getElem_take,hown]
  exact h4 j (by omega) (by omega)
def spB (b:Bm) (nid:Nat) (f:ByteArray) (id:Nat) (s:ByteArray):Bm:={b with us:=Tr.use b.us id,im:=putI (putI b.im nid f) id s}
end
section
variable {W W':Nat->Prop}{w w' w2:World}{bb tb:Nat}{v:Value}{X:Ad}{k:Nat}{C:Cf}{st:Nat->Option Nat}{mk:Int}{wh:Nat->Option Nat}{b b2:Bm}{im:Ims}{y:Int}{a:Option Addr}{ns:List Nd}{n:Nd}
set_option maxHeartbeats 2000000 in
theorem Bu.split_root (h:Bu W w bb tb X k C st mk wh b) (c:Nat) (hv:Nds W w (.slice a 1 c) [n]) (f s key:ByteArray) (hf:f.size=224) (hs:s.size=224) (hn:n.id<C.ps) (id id2:Nat) (hF:Fst b.us C.ps id) (hF2:Fst (Tr.use b.us id) C.ps id2) (hlv:n.lv<=1000) (hP:Pg.CanPack 2 (n.lv+1) [cellOf eb n.id,cellOf key id]) :
  Calls Tryz.prog 113 #[.pointer (some ⟨bb,0,none⟩),.slice a 1 c,.string f,.string s,.string key] w fun e w'=>e=.returned (.int .i64 0)/\∃ W',Bu W' w' bb tb X k C st mk wh (crM (spB b n.id f id s) n.id n.lv (cellOf key id) id2)/\Fr W W' w w':=by
 have hp1:=h.p1
 have CT:Hid (Calls Tryz.prog 63 #[.pointer (some ⟨bb,0,none⟩)] w fun e w'=>e=.returned (.tuple #[.int .i64 (id:Int),.int .i64 0])/\Bu W w' bb tb X k C st mk wh {b with us:=Tr.use b.us id}/\Fr W W w w'):=h.take id hF
 have C1:Hid (∀ wx,Bu W wx bb tb X k C st mk wh {b with us:=Tr.use b.us id}->Calls Tryz.prog 72 #[.pointer (some ⟨bb,0,none⟩),.int .i64 (n.id:Int),.string f] wx fun e w'=>e=.returned (.tuple #[])/\∃ W',Bu W' w' bb tb X k C st mk wh {b with us:=Tr.use b.us id,im:=putI b.im n.id f}/\Fr W W' wx w'):=fun wx hx=>hx.put n.id f hn hf
 have C2:Hid (∀ wx Wx,Bu Wx wx bb tb X k C st mk wh {b with us:=Tr.use b.us id,im:=putI b.im n.id f}->Calls Tryz.prog 72 #[.pointer (some ⟨bb,0,none⟩),.int .i64 (id:Int),.string s] wx fun e w'=>e=.returned (.tuple #[])/\∃ W',Bu W' w' bb tb X k C st mk wh (spB b n.id f id s)/\Fr Wx W' wx w'):=fun wx Wx hx=>hx.put id s hF.l hs
 have CC:Hid (∀ wx,Calls Tryz.prog 172 #[.string key,.int .i64 (id:Int)] wx fun e w'=>e=.returned (.agg #[.string (cellOf key id).k,.string (cellOf key id).v])/\Below wx.heap.size wx w'):=fun wx=>cellOf_any wx key id (by have:=hF.l;omega)
 obtain⟨g,e,ea,hgW,hrg,hnv⟩:=hv.at_ (i:=0) (by simp)
 subst ea
 have hnv':NdV W w e n:=hnv
 have CR:Hid (∀ wx Wx,Bu Wx wx bb tb X k C st mk wh (spB b n.id f id s)->Calls Tryz.prog 171 #[.pointer (some ⟨bb,0,none⟩),.agg e.A,.agg #[.string (cellOf key id).k,.string (cellOf key id).v]] wx fun e w'=>e=.returned (.int .i64 0)/\∃ W',Bu W' w' bb tb X k C st mk wh (crM (spB b n.id f id s) n.id n.lv (cellOf key id) id2)/\Fr Wx W' wx w'):=fun wx Wx hx=>hx.crown e n.id n.lv hnv'.id hnv'.lv (by omega) hlv (cellOf key id) id2 hF2 hP
 have hgl:g<w.heap.size:=by
  have:=hrg 0 (.int .i64 e.id) rfl
  exact World.block_lt_of_cell? w _ this
 have RG:Hid (∀ wx Wx,Fr W Wx w wx->wx.cell? ⟨g,0,none⟩=some (.int .i64 (n.id:Int))/\(wx.cell? ⟨g,0,none⟩=some (.int .i64 e.id)/\wx.cell? ⟨g,1,none⟩=some (.string e.tx)/\wx.cell? ⟨g,2,none⟩=some (.int .i64 e.lv)/\wx.cell? ⟨g,3,none⟩=some (e.sl)/\wx.cell? ⟨g,4,none⟩=some (.string e.lo)/\wx.cell? ⟨g,5,none⟩=some (.string e.hi)/\wx.cell? ⟨g,6,none⟩=some (.int .i64 e.nx))):=fun wx Wx hfr=>by
  have hc:∀ j,wx.cell? ⟨g,j,none⟩=w.cell? ⟨g,j,none⟩:=fun j=>hfr.cell (p:=⟨g,j,none⟩) hgl hgW
  have q0:w.cell? ⟨g,0,none⟩=some (.int .i64 e.id):=by have:=hrg 0 (.int .i64 e.id) rfl;simpa using this
  refine⟨by rw[hc,q0,hnv'.id],by rw[hc];exact q0,?_⟩
  refine⟨by rw[hc];simpa using hrg 1 _ rfl,by rw[hc];simpa using hrg 2 _ rfl,by rw[hc];simpa using hrg 3 _ rfl,by rw[hc];simpa using hrg 4 _ rfl,by rw[hc];simpa using hrg 5 _ rfl,by rw[hc];simpa using hrg 6 _ rfl⟩
 clear h hv hnv hnv' hrg hF hF2 hP hf hs
 generalize crM (spB b n.id f id s) n.id n.lv (cellOf key id) id2=b3 at *
 generalize spB b n.id f id s=b1 at *
 generalize (cellOf key id).k=s1 at *
 generalize (cellOf key id).v=s2 at *
 go_enter Tryz.func113,Tryz.ntmps113
 go_wp2_with (first
  | (go_at_call 63;refine CT.out.mono ?_;rintro e w1 ⟨rfl,u1,f1⟩;have U1:Hid _:=u1;have F1:Hid _:=f1;have k1:=(RG.out _ _ f1).1;clear u1 f1)
  | (have:=F2;go_at_call 72;refine(C2.out _ _ U2.out).mono ?_;rintro e w3 ⟨rfl,W3,u3,f3⟩;have U3:Hid _:=u3;have F3:Hid _:=(F1.out.trans F2.out).trans f3;clear u3 f3)
  | (go_at_call 72;refine(C1.out _ U1.out).mono ?_;rintro e w2 ⟨rfl,W2,u2,f2⟩;have U2:Hid _:=u2;have F2:Hid _:=f2;clear u2 f2))
 have hbd:Hid (Below w3.heap.size w3 w3.drew):=(⟨rfl,rfl,rfl,Nat.le_refl _,fun _ _=>rfl⟩:Below w3.heap.size w3 w3.drew)
 obtain⟨m0,m1,m2,m3,m4,m5,m6⟩:=(RG.out _ _ F3.out).2
 go_region_held_law (fun Wd=>Wd.cell? ⟨g,0,none⟩=some (.int .i64 e.id)/\Wd.cell? ⟨g,1,none⟩=some (.string e.tx)/\Wd.cell? ⟨g,2,none⟩=some (.int .i64 e.lv)/\Wd.cell? ⟨g,3,none⟩=some (e.sl)/\Wd.cell? ⟨g,4,none⟩=some (.string e.lo)/\Wd.cell? ⟨g,5,none⟩=some (.string e.hi)/\Wd.cell? ⟨g,6,none⟩=some (.int .i64 e.nx)) (first |exact(RG.out _ _ F3.out).2 |exact(RG.out _ _ (F3.out.below hbd.out)).2 |exact(RG.out _ _ (F3.out.below Q6.out)).2 |exact keep7) (first
  | (go_at_call 172;refine(CC.out _).mono ?_;rintro e w6 ⟨rfl,q6⟩;have Q6:Hid (Below w3.heap.size w3 w6):=thn hbd.out q6;have U6:Hid _:=U3.out.below Q6.out)
  | (go_at_call 171;refine(CR.out w6 _ U6.out).mono ?_;rintro e w7 ⟨rfl,W7,u7,f7⟩;have U7:Hid _:=u7;have F8:Hid _:=(F3.out.below Q6.out).trans f7;have keep7:=(RG.out _ _ F8.out).2;clear u7 f7))
 all_goals
  go_wp2
  go_ret
  exact⟨rfl,W7,U7.out,F8.out⟩
set_option maxHeartbeats 2000000 in
theorem Bu.split_up (h:Bu W w bb tb X k C st mk wh b) (c:Nat) (hne:ns≠[]) (hlen:ns.length<=900) (hv:Nds W w (.slice a (ns.length+1) c) (ns++[n])) (f s key:ByteArray) (hf:f.size=224) (hs:s.size=224) (hn:n.id<C.ps) (id:Nat) (hF:Fst b.us C.ps id)
  (CG:∀ wx Wx,Bu Wx wx bb tb X k C st mk wh (spB b n.id f id s)->Nds Wx wx (.slice a ns.length c) ns->Calls Tryz.prog 173 #[.pointer (some ⟨bb,0,none⟩),.slice a ns.length c,.agg #[.string (cellOf key id).k,.string (cellOf key id).v]] wx fun e w'=>e=.returned (.int .i64 y)/\∃ W',Bu W' w' bb tb X k C st mk wh b2/\Fr Wx W' wx w') :
  Calls Tryz.prog 113 #[.pointer (some ⟨bb,0,none⟩),.slice a (ns.length+1) c,.string f,.string s,.string key] w fun e w'=>e=.returned (.int .i64 y)/\∃ W',Bu W' w' bb tb X k C st mk wh b2/\Fr W W' w w':=by
 have hp1:=h.p1
 have CT:Hid (Calls Tryz.prog 63 #[.pointer (some ⟨bb,0,none⟩)] w fun e w'=>e=.returned (.tuple #[.int .i64 (id:Int),.int .i64 0])/\Bu W w' bb tb X k C st mk wh {b with us:=Tr.use b.us id}/\Fr W W w w'):=h.take id hF
 have C1:Hid (∀ wx,Bu W wx bb tb X k C st mk wh {b with us:=Tr.use b.us id}->Calls Tryz.prog 72 #[.pointer (some ⟨bb,0,none⟩),.int .i64 (n.id:Int),.string f] wx fun e w'=>e=.returned (.tuple #[])/\∃ W',Bu W' w' bb tb X k C st mk wh {b with us:=Tr.use b.us id,im:=putI b.im n.id f}/\Fr W W' wx w'):=fun wx hx=>hx.put n.id f hn hf
 have C2:Hid (∀ wx Wx,Bu Wx wx bb tb X k C st mk wh {b with us:=Tr.use b.us id,im:=putI b.im n.id f}->Calls Tryz.prog 72 #[.pointer (some ⟨bb,0,none⟩),.int .i64 (id:Int),.string s] wx fun e w'=>e=.returned (.tuple #[])/\∃ W',Bu W' w' bb tb X k C st mk wh (spB b n.id f id s)/\Fr Wx W' wx w'):=fun wx Wx hx=>hx.put id s hF.l hs
 have CC:Hid (∀ wx,Calls Tryz.prog 172 #[.string key,.int .i64 (id:Int)] wx fun e w'=>e=.returned (.agg #[.string (cellOf key id).k,.string (cellOf key id).v])/\Below wx.heap.size wx w'):=fun wx=>cellOf_any wx key id (by have:=hF.l;omega)
 have CG':Hid (∀ wx Wx,Bu Wx wx bb tb X k C st mk wh (spB b n.id f id s)->Nds Wx wx (.slice a ns.length c) ns->Calls Tryz.prog 173 #[.pointer (some ⟨bb,0,none⟩),.slice a ns.length c,.agg #[.string (cellOf key id).k,.string (cellOf key id).v]] wx fun e w'=>e=.returned (.int .i64 y)/\∃ W',Bu W' w' bb tb X k C st mk wh b2/\Fr Wx W' wx w'):=CG
 obtain⟨a0,c0,ev,hnil,hsome⟩:=hv.slice
 injection ev with ev1 ev2 ev3
 subst ev1 ev3
 obtain⟨g,e,ea,hgW,hrg,hnv⟩:=hv.at_ (i:=ns.length) (by simp)
 subst ea
 obtain⟨g',eg',hcap⟩:=hsome _ rfl
 have hcap':ns.length+1<=c:=by simpa using hcap
 have hcapI:((ns.length:Nat):Int)<=(c:Int):=by omega
 have hnv':NdV W w e n:=by simpa using hnv
 have HT:Hid (Nds W w (.slice (some ⟨g,0,none⟩) ns.length c) ns):=(by have:=hv.take (i:=ns.length) (by simp);simpa using this:Nds W w (.slice (some ⟨g,0,none⟩) ns.length c) ns)
 have hgl:g<w.heap.size:=by
  have:=hrg 0 (.int .i64 e.id) rfl
  exact World.block_lt_of_cell? w _ this
 have RG:Hid (∀ wx Wx,Fr W Wx w wx->wx.cell? ⟨g,ns.length*7,none⟩=some (.int .i64 (n.id:Int))/\True):=fun wx Wx hfr=>by
  have q0:w.cell? ⟨g,ns.length*7,none⟩=some (.int .i64 e.id):=by have:=hrg 0 (.int .i64 e.id) rfl;simpa using this
  exact⟨by rw[hfr.cell (p:=⟨g,ns.length*7,none⟩) hgl hgW,q0,hnv'.id],trivial⟩
 have hpos:0<ns.length:=List.length_pos_iff.2 hne
 have hz0:(((ns.length:Nat):Int)==0)=false:=by simp;omega
 obtain⟨M,hM⟩:∃ M,M=ns.length+1:=⟨_,rfl⟩
 rw[← hM]
 have hl3:(M:Int)-1=((ns.length:Nat):Int):=by omega
 have hl4:((ns.length:Nat):Int)<(M:Int):=by omega
 have hMm:Hid (M=ns.length+1):=hM
 have hM9:M<=1000:=by omega
 clear h hv hnv hnv' hrg hF hf hs hnil hsome hcap eg' CG hM hne
 generalize spB b n.id f id s=b1 at *
 generalize (cellOf key id).k=s1 at *
 generalize (cellOf key id).v=s2 at *
 go_enter Tryz.func113,Tryz.ntmps113
 go_wp2_with (first
  | (go_at_call 63;refine CT.out.mono ?_;rintro e w1 ⟨rfl,u1,f1⟩;have U1:Hid _:=u1;have F1:Hid _:=f1;have k1:=(RG.out _ _ f1).1;clear u1 f1)
  | (have:=F2;go_at_call 72;refine(C2.out _ _ U2.out).mono ?_;rintro e w3 ⟨rfl,W3,u3,f3⟩;have U3:Hid _:=u3;have F3:Hid _:=(F1.out.trans F2.out).trans f3;clear u3 f3)
  | (go_at_call 72;refine(C1.out _ U1.out).mono ?_;rintro e w2 ⟨rfl,W2,u2,f2⟩;have U2:Hid _:=u2;have F2:Hid _:=f2;clear u2 f2))
 have hbd:Hid (Below w3.heap.size w3 w3.drew):=(⟨rfl,rfl,rfl,Nat.le_refl _,fun _ _=>rfl⟩:Below w3.heap.size w3 w3.drew)
 go_region_held_law (fun _=>True) (trivial) (first
  | (go_at_call 172;refine(CC.out _).mono ?_;rintro e w6 ⟨rfl,q6⟩;have Q6:Hid (Below w3.heap.size w3 w6):=thn hbd.out q6;have U6:Hid _:=U3.out.below Q6.out;have D6:Hid _:=HT.out.fr (F3.out.below Q6.out))
  | (go_at_call 173;refine(CG'.out w6 _ U6.out D6.out).mono ?_;rintro e w7 ⟨rfl,W7,u7,f7⟩;have U7:Hid _:=u7;have F8:Hid _:=(F3.out.below Q6.out).trans f7;clear u7 f7))
 all_goals
  go_wp2
  go_ret
  exact⟨rfl,W7,U7.out,F8.out⟩
end
end Go.Proofs.YtpcnjncgilmehabGreat.Tr
