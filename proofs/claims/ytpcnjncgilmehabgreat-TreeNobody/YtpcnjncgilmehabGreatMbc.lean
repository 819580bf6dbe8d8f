import Derived.Test.YtpcnjncgilmehabGreatMbb
set_option linter.unusedVariables false
set_option linter.unusedSimpArgs false
set_option maxRecDepth 100000
namespace Go.Proofs.YtpcnjncgilmehabGreat.Tr
open Go.RowKit Go.Maps Go.ChangeMaps
theorem fr_cell {W W':Nat->Prop} {w w':World} {b i:Nat} {u:Value} (h:w.cell? ⟨b,i,none⟩=some u) (hf:Fr W W' w w') (hn:¬ W b):w'.cell? ⟨b,i,none⟩=some u:=(hf.cell (by exact lt_of_cell h) hn).trans h
theorem SlW.less {W V:Nat->Prop} {w:World} {v:Value} {L:List Cl} (h:SlW W w v L) (hV:∀ j,V j->W j):SlW V w v L:=by
 obtain⟨a,c,h0,h1,h2⟩:=h.ex;exact⟨a,c,h0,h1,fun b o e hn e2=>h2 b o e hn (hV b e2)⟩
theorem NdV.less {W V:Nat->Prop} {w:World} {v:Nv} {n:Nd} (h:NdV W w v n) (hV:∀ j,V j->W j):NdV V w v n:=⟨h.id,h.tx,h.lv,h.lo,h.hi,h.nx,h.sl.less hV⟩
section
variable {W W':Nat->Prop}{w w':World}{bb tb:Nat}{X:Ad}{k:Nat}{C:Cf}{st:Nat->Option Nat}{mk:Int}{wh:Nat->Option Nat}{b:Bm}
set_option maxHeartbeats 1000000 in
theorem Bu.root (h:Bu W w bb tb X k C st mk wh b) (hk:k<=260000000000) (lv:Nat) (hO:Ok0 (bv C st b.im) b.us C.ps lv b.rt eb eb) :
  Calls Tryz.prog 50 #[.pointer (some ⟨bb,0,none⟩)] w fun e w'=>∃ n W',e=.returned (.tuple #[.agg n.A,.int .i64 0])/\Bu W' w' bb tb X (k+8006) C st mk wh b/\Fr W W' w w'/\NdV (fun j=>W' j∨j<w.heap.size) w' n (nodeOf b.rt (bv C st b.im b.rt) eb eb):=by
 have CN:Hid (∀ wx,Below w.heap.size w wx->Calls Tryz.prog 90 #[.pointer (some ⟨bb,0,none⟩),.int .i64 (b.rt:Int),.int .i64 (-1),.agg #[.string eb,.string eb]] wx fun e w'=>∃ n W',e=.returned (.tuple #[.agg n.A,.int .i64 0])/\Bu W' w' bb tb X (k+8006) C st mk wh b/\Fr W W' wx w'/\NdV (fun j=>W' j∨j<wx.heap.size) w' n (nodeOf b.rt (bv C st b.im b.rt) eb eb)):=fun wx hb=>(h.below hb).node hk b.rt lv (-1) eb eb hO (Or.inl rfl)
 have HC:Hid (∀ wx,Below w.heap.size w wx->wx.cell? ⟨bb,1,none⟩=some (.int .i64 (b.rt:Int))):=fun wx hb=>(h.below hb).c1
 have HLT:Hid (∀ j,W j->j<w.heap.size):=fun j hj=>h.lt hj
 clear h
 go_enter Tryz.func50,Tryz.ntmps50
 go_wp2_with (first
  | (refine wpList_new_nd _ rfl rfl ?_;intro w1 b1 N1;have f1:=HC.out _ N1.below)
  | (go_at_call 90;refine(CN.out _ N1.below).mono ?_;rintro e w2 ⟨n2,W2,rfl,B2,F2,V2⟩;have n0:NdAt w2 b1 zN:=N1.nd.of_block (F2.blk _ N1.nd.lt (fun e=>by have h1:=HLT.out _ e;have h2:=N1.eq;omega));have hq:=V2.sl.one)
  | (refine wpList_put_nd _ rfl (.tmp 2) (.tmp 12) rfl rfl rfl n0 hq ?_;intro w3 P3))
 refine bodyPost_ret (results_nd2 rfl _ _ rfl P3.nd) rfl ?_
 have e1:=N1.eq
 have z1:=N1.below.size
 have l1:=N1.nd.lt
 have hn1:¬ W2 b1:=F2.not N1.nd.lt (fun e=>by have h1:=HLT.out _ e;omega)
 refine⟨n2,W2,rfl,B2.off P3.off hn1,((Fr.of_below N1.below W).trans F2).off P3.off (by omega),V2.id,V2.tx,V2.lv,V2.lo,V2.hi,V2.nx,?_⟩
 obtain⟨a,c,h0,h1,h2⟩:=V2.sl.ex
 refine⟨a,c,h0,⟨⟨fun i hi=>?_⟩,h1.room,h1.nil,h1.form⟩,fun x o e hne e2=>h2 x o e hne (e2.imp (fun q=>q) (fun q=>by omega))⟩
 obtain⟨x,off,e,hx,q1,q2⟩:=h1.cs.at_ i hi
 have hne:(nodeOf b.rt (bv C st b.im b.rt) eb eb).cl≠[]:=fun e=>by rw[e] at hi;exact absurd hi (Nat.not_lt_zero _)
 have hxb:x≠b1:=fun e2=>h2 x off e hne (Or.inr (by omega))
 exact⟨x,off,e,Nat.lt_of_lt_of_le hx P3.off.size,off_cell q1 P3.off hxb,off_cell q2 P3.off hxb⟩
set_option maxHeartbeats 2000000 in
theorem Bu.below_ (h:Bu W w bb tb X k C st mk wh b) (hk:k<=260000000000) (n:Nv) (nd:Nd) (hn:NdV W w n nd) (i:Nat) (hi:i<nd.cl.length) (hlen:nd.cl.length<=1000) (hvs:nd.cl[i].v.size<=32) (lv:Nat) (hlv:nd.lv=lv+1) (hl2:nd.lv<256) (hO:Ok0 (bv C st b.im) b.us C.ps lv (pgOf nd.cl[i]) (bLo nd.cl nd.lo i) (bHi nd.cl nd.hi i)) :
  Calls Tryz.prog 84 #[.pointer (some ⟨bb,0,none⟩),.agg n.A,.int .i64 (i:Int)] w fun e w'=>∃ n' W',e=.returned (.tuple #[.agg n'.A,.int .i64 0])/\Bu W' w' bb tb X (k+8006) C st mk wh b/\Fr W W' w w'/\NdV (fun j=>W' j∨j<w.heap.size) w' n' (nodeOf (pgOf nd.cl[i]) (bv C st b.im (pgOf nd.cl[i])) (bLo nd.cl nd.lo i) (bHi nd.cl nd.hi i)):=by
 have CN:Hid (∀ wx,Below w.heap.size w wx->Calls Tryz.prog 90 #[.pointer (some ⟨bb,0,none⟩),.int .i64 (pgOf nd.cl[i]:Nat),.int .i64 (n.lv-1),.agg #[.string (bLo nd.cl nd.lo i),.string (bHi nd.cl nd.hi i)]] wx fun e w'=>∃ n' W',e=.returned (.tuple #[.agg n'.A,.int .i64 0])/\Bu W' w' bb tb X (k+8006) C st mk wh b/\Fr W W' wx w'/\NdV (fun j=>W' j∨j<wx.heap.size) w' n' (nodeOf (pgOf nd.cl[i]) (bv C st b.im (pgOf nd.cl[i])) (bLo nd.cl nd.lo i) (bHi nd.cl nd.hi i))):=fun wx hb=>(h.below hb).node hk _ lv (n.lv-1) _ _ hO (Or.inr (by rw[hn.lv,hlv];omega))
 have CP:Hid (∀ wx,Calls Tryz.prog 132 #[.agg #[.string nd.cl[i].k,.string nd.cl[i].v]] wx fun e w'=>e=.returned (.int .i64 (pgOf nd.cl[i]:Nat))/\Below wx.heap.size wx w'):=fun wx=>pageOf_any wx _ hvs
 have CB:Hid (∀ wx b4,Below w.heap.size w wx->NdAt wx b4 n->Calls Tryz.prog 133 #[.pointer (some ⟨b4,0,none⟩),.int .i64 (i:Int)] wx fun e w'=>e=.returned (.agg #[.string (bLo nd.cl nd.lo i),.string (bHi nd.cl nd.hi i)])/\Below wx.heap.size wx w'):=fun wx b4 hb h4=>by
  have:=below_any wx b4 n h4 nd.cl (hn.below hb).sl i hi hlen
  rw[hn.lo,hn.hi] at this
  exact this
 have HLT:Hid (∀ j,W j->j<w.heap.size):=fun j hj=>h.lt hj
 obtain⟨a,cap,hsl,hcs,hout⟩:=hn.sl.ex
 obtain⟨bk,off,rfl,hbk,k0,k1⟩:=hcs.cs.at_ i hi
 have hbw:¬ W bk:=hout bk off rfl (fun e=>by rw[e] at hi;exact absurd hi (Nat.not_lt_zero _))
 have hcap:=hcs.room
 have hlvI:n.lv=((lv+1:Nat):Int):=by rw[hn.lv,hlv]
 have hlv1:(0:Int)<=n.lv:=by omega
 have hlv2:n.lv<=300:=by rw[hn.lv];omega
 have HLV:Hid (n.lv=((lv+1:Nat):Int)):=hlvI
 have hwr:IntKind.i64.wrap (n.lv-1)=n.lv-1:=by rw[IntKind.wrap_i64];omega
 have hiI:(i:Int)<(nd.cl.length:Int):=by omega
 have hsl1:n.sl.oneCell'=true:=hn.sl.one
 have HSL:Hid (n.sl=.slice (some ⟨bk,off,none⟩) nd.cl.length cap):=hsl
 clear h hO hn hcs hout hlvI hlv hl2 hsl
 generalize pgOf nd.cl[i]=pg at *
 generalize bLo nd.cl nd.lo i=lo at *
 generalize bHi nd.cl nd.hi i=hi' at *
 go_enter Tryz.func84,Tryz.ntmps84
 go_wp2_with (first
  | (refine wpList_box_nd (n:=n) _ rfl _ rfl rfl ?_;intro w1 b4 N4)
  | (refine wpList_new_nd _ rfl rfl ?_;intro w2 b6 N6))
 have e4:=N4.eq
 have e6:=N6.eq
 have z1:=N4.below.size
 have z2:=N6.below.size
 have l4:=N4.nd.lt
 have l6:=N6.nd.lt
 have hb2:Below w.heap.size w w2:=thn N4.below N6.below
 have n4:=N4.nd.below N6.below
 have HN4:Hid (NdAt w2 b4 n):=n4
 have HN6:Hid (NdAt w2 b6 zN):=N6.nd
 have HB2:Hid (Below w.heap.size w w2):=hb2
 have q2:w2.drew.cell? ⟨b4,2,none⟩=some (.int .i64 n.lv):=n4.c2
 have q3:w2.drew.cell? ⟨b4,3,none⟩=some (.slice (some ⟨bk,off,none⟩) nd.cl.length cap):=by have:=n4.c3;rw[HSL.out] at this;exact this
 have q4:w2.drew.cell? ⟨bk,off+i*2,none⟩=some (.string nd.cl[i].k):=below_cell k0 (hb2.trans ((Below.refl _ _).drew))
 have q5:w2.drew.cell? ⟨bk,off+i*2+1,none⟩=some (.string nd.cl[i].v):=below_cell k1 (hb2.trans ((Below.refl _ _).drew))
 have hn4:¬ W b4:=fun e=>by have:=HLT.out _ e;omega
 have hn6:¬ W b6:=fun e=>by have:=HLT.out _ e;omega
 have h46:b4≠b6:=by omega
 have hk6:bk≠b6:=by omega
 have hw6:w.heap.size<=b6:=by omega
 have h26:b6<w2.heap.size:=l6
 clear N4 N6 hb2 n4 e4 e6 z1 z2 l4 l6 k0 k1
 refine wp_region_held_drew (S:=fun Wd=>Wd.cell? ⟨b4,2,none⟩=some (.int .i64 n.lv)/\Wd.cell? ⟨b4,3,none⟩=some (.slice (some ⟨bk,off,none⟩) nd.cl.length cap)/\Wd.cell? ⟨bk,off+i*2,none⟩=some (.string nd.cl[i].k)/\Wd.cell? ⟨bk,off+i*2+1,none⟩=some (.string nd.cl[i].v)) (by kernel_rfl) ⟨q2,q3,q4,q5⟩ (fun hHeld=>?_)
 refine wpAnyH_take (i:=0) (oi:=_) (v:=?_) rfl (by kernel_rfl) (by kernel_rfl) (by kernel_rfl) (fun _ _ _ h=>h) (Or.inl ⟨by rfl,?_⟩) hHeld ?_
 rotate_left
 ·(intro w hSw;(try dsimp only at hSw);go_simp;(try with_reducible rfl))
 try simp only[Act.put,List.setIfInBounds_toArray,List.set_cons_zero,List.set_cons_succ,List.getElem_toArray,List.getElem_cons_succ,List.getElem_cons_zero]
 refine wpAnyH_take (i:=1) (oi:=_) (v:=?_) rfl (by kernel_rfl) (by kernel_rfl) (by kernel_rfl) (fun _ _ _ h=>h) (Or.inl ⟨by rfl,?_⟩) hHeld ?_
 rotate_left
 ·(intro w hSw;(try dsimp only at hSw);go_simp;(try with_reducible rfl))
 try simp only[Act.put,List.setIfInBounds_toArray,List.set_cons_zero,List.set_cons_succ,List.getElem_toArray,List.getElem_cons_succ,List.getElem_cons_zero]
 refine wpAnyH_take (i:=2) (oi:=_) (v:=?_) rfl (by kernel_rfl) (by kernel_rfl) (by kernel_rfl) (fun _ _ _ h=>h) (Or.inl ⟨by rfl,?_⟩) hHeld ?_
 rotate_left
 ·(intro w hSw;(try dsimp only at hSw);go_simp;(try with_reducible rfl))
 try simp only[Act.put,List.setIfInBounds_toArray,List.set_cons_zero,List.set_cons_succ,List.getElem_toArray,List.getElem_cons_succ,List.getElem_cons_zero]
 refine wpAnyH_take (i:=3) (oi:=_) (v:=?_) rfl (by kernel_rfl) (by kernel_rfl) (by kernel_rfl) (fun _ _ _ h=>h) (Or.inl ⟨by rfl,?_⟩) hHeld ?_
 rotate_left
 ·(intro w hSw;(try dsimp only at hSw);go_simp;(try with_reducible rfl))
 try simp only[Act.put,List.setIfInBounds_toArray,List.set_cons_zero,List.set_cons_succ,List.getElem_toArray,List.getElem_cons_succ,List.getElem_cons_zero]
 refine wpAnyH_take (i:=4) (oi:=_) (v:=?_) rfl (by kernel_rfl) (by kernel_rfl) (by kernel_rfl) (fun _ _ _ h=>h) (Or.inl ⟨by rfl,?_⟩) hHeld ?_
 rotate_left
 ·(intro w hSw;(try dsimp only at hSw);go_simp;(try with_reducible rfl))
 try simp only[Act.put,List.setIfInBounds_toArray,List.set_cons_zero,List.set_cons_succ,List.getElem_toArray,List.getElem_cons_succ,List.getElem_cons_zero]
 refine wpAnyH_take (i:=5) (oi:=_) (v:=?_) rfl (by kernel_rfl) (by kernel_rfl) (by kernel_rfl) (fun _ _ _ h=>h) (Or.inl ⟨by rfl,?_⟩) hHeld ?_
 rotate_left
 ·(intro w hSw;(try dsimp only at hSw);go_simp;(try with_reducible rfl))
 try simp only[Act.put,List.setIfInBounds_toArray,List.set_cons_zero,List.set_cons_succ,List.getElem_toArray,List.getElem_cons_succ,List.getElem_cons_zero]
 refine wpAnyH_take (i:=7) (oi:=_) (v:=?_) rfl (by kernel_rfl) (by kernel_rfl) (by kernel_rfl) (fun _ _ _ h=>h) (Or.inl ⟨by rfl,?_⟩) hHeld ?_
 rotate_left
 ·(intro w hSw;(try dsimp only at hSw);go_simp;(try with_reducible rfl))
 try simp only[Act.put,List.setIfInBounds_toArray,List.set_cons_zero,List.set_cons_succ,List.getElem_toArray,List.getElem_cons_succ,List.getElem_cons_zero]
 refine wpAnyH_take (i:=8) (oi:=_) (v:=?_) rfl (by kernel_rfl) (by kernel_rfl) (by kernel_rfl) (fun _ _ _ h=>h) (Or.inl ⟨by rfl,?_⟩) hHeld ?_
 rotate_left
 ·(intro w hSw;(try dsimp only at hSw);go_simp;(try with_reducible rfl))
 try simp only[Act.put,List.setIfInBounds_toArray,List.set_cons_zero,List.set_cons_succ,List.getElem_toArray,List.getElem_cons_succ,List.getElem_cons_zero]
 refine wpAnyH_take (i:=9) (oi:=_) (v:=?_) rfl (by kernel_rfl) (by kernel_rfl) (by kernel_rfl) (fun _ _ _ h=>h) (Or.inl ⟨by rfl,?_⟩) hHeld ?_
 rotate_left
 ·(intro w hSw;(try dsimp only at hSw);go_simp;(try with_reducible rfl))
 try simp only[Act.put,List.setIfInBounds_toArray,List.set_cons_zero,List.set_cons_succ,List.getElem_toArray,List.getElem_cons_succ,List.getElem_cons_zero]
 refine wpAnyH_take (i:=10) (oi:=_) (v:=?_) rfl (by kernel_rfl) (by kernel_rfl) (by kernel_rfl) (fun _ _ _ h=>h) (Or.inl ⟨by rfl,?_⟩) hHeld ?_
 rotate_left
 ·(intro w hSw;(try dsimp only at hSw);go_simp;(try with_reducible rfl))
 try simp only[Act.put,List.setIfInBounds_toArray,List.set_cons_zero,List.set_cons_succ,List.getElem_toArray,List.getElem_cons_succ,List.getElem_cons_zero]
 refine wpAnyH_ready (rs:=[6]) (by kernel_rfl) (by simp) ?_
 refine AllReadyH.cons (o:=_) rfl (fun K hK=>?_) AllReadyH.nil
 go_simp
 refine(CP.out _).mono ?_
 rintro e w7 ⟨rfl,b7⟩
 go_wp2_with fail
 refine hK.out _ _ ⟨below_cell hHeld.1 b7,below_cell hHeld.2.1 b7,below_cell hHeld.2.2.1 b7,below_cell hHeld.2.2.2 b7⟩ (fun hHeld=>?_)
 clear hK K
 try simp only[Act.put,List.setIfInBounds_toArray,List.set_cons_zero,List.set_cons_succ,List.getElem_toArray,List.getElem_cons_succ,List.getElem_cons_zero]
 refine wpAnyH_ready (rs:=[11]) (by kernel_rfl) (by simp) ?_
 refine AllReadyH.cons (o:=_) rfl (fun K hK=>?_) AllReadyH.nil
 go_simp
 refine(CB.out _ _ (thn HB2.out (thn ((Below.refl _ _).drew) b7)) (HN4.out.below (thn ((Below.refl _ _).drew) b7))).mono ?_
 rintro e w8 ⟨rfl,b8⟩
 go_wp2_with fail
 refine hK.out _ _ ⟨below_cell hHeld.1 b8,below_cell hHeld.2.1 b8,below_cell hHeld.2.2.1 b8,below_cell hHeld.2.2.2 b8⟩ (fun hHeld=>?_)
 clear hK K
 try simp only[Act.put,List.setIfInBounds_toArray,List.set_cons_zero,List.set_cons_succ,List.getElem_toArray,List.getElem_cons_succ,List.getElem_cons_zero]
 refine wpAnyH_ready (rs:=[12]) (by kernel_rfl) (by simp) ?_
 refine AllReadyH.cons (o:=_) rfl (fun K hK=>?_) AllReadyH.nil
 go_simp
 refine(CN.out _ (thn HB2.out (thn (thn ((Below.refl _ _).drew) b7) b8))).mono ?_
 rintro e w9 ⟨n9,W9,rfl,B9,F9,V9⟩
 have HZ8:Hid (w2.heap.size<=w8.heap.size):=(thn (thn ((Below.refl w2.heap.size w2).drew) b7) b8).size
 have hb28:Below w2.heap.size w2 w8:=thn (thn ((Below.refl _ _).drew) b7) b8
 have HM6:Hid (NdAt w9 b6 zN):=(HN6.out.below hb28).of_block (F9.blk _ (by have:=hb28.size;omega) hn6)
 have HQ9:Hid (n9.sl.oneCell'=true):=V9.sl.one
 have HN9:Hid (¬ W9 b6):=F9.not (by have:=hb28.size;omega) hn6
 have HB9:Hid (Bu W9 w9 bb tb X (k+8006) C st mk wh b):=B9
 have HF9:Hid (Fr W W9 w w9):=(Fr.of_below (thn HB2.out hb28) W).trans F9
 have HV9:Hid (NdV (fun j=>W9 j∨j<w8.heap.size) w9 n9 (nodeOf pg (bv C st b.im pg) lo hi')):=V9
 clear B9 V9 hb28
 go_wp2_with fail
 refine hK.out _ _ ⟨fr_cell hHeld.1 F9 hn4,fr_cell hHeld.2.1 F9 hn4,fr_cell hHeld.2.2.1 F9 hbw,fr_cell hHeld.2.2.2 F9 hbw⟩ (fun hHeld=>?_)
 clear hK K
 try simp only[Act.put,List.setIfInBounds_toArray,List.set_cons_zero,List.set_cons_succ,List.getElem_toArray,List.getElem_cons_succ,List.getElem_cons_zero]
 refine wpAnyH_take (i:=13) (oi:=_) (v:=?_) rfl (by kernel_rfl) (by kernel_rfl) (by kernel_rfl) (fun _ _ _ h=>h) (Or.inl ⟨by rfl,?_⟩) hHeld ?_
 rotate_left
 ·(intro w hSw;(try dsimp only at hSw);go_simp;(try with_reducible rfl))
 try simp only[Act.put,List.setIfInBounds_toArray,List.set_cons_zero,List.set_cons_succ,List.getElem_toArray,List.getElem_cons_succ,List.getElem_cons_zero]
 refine wpAnyH_take (i:=14) (oi:=_) (v:=?_) rfl (by kernel_rfl) (by kernel_rfl) (by kernel_rfl) (fun _ _ _ h=>h) (Or.inl ⟨by rfl,?_⟩) hHeld ?_
 rotate_left
 ·(intro w hSw;(try dsimp only at hSw);go_simp;(try with_reducible rfl))
 try simp only[Act.put,List.setIfInBounds_toArray,List.set_cons_zero,List.set_cons_succ,List.getElem_toArray,List.getElem_cons_succ,List.getElem_cons_zero]
 refine wpAnyH_ready (rs:=[15]) (by kernel_rfl) (by simp) ?_
 refine AllReadyH.cons (o:=_) rfl (fun K hK=>?_) AllReadyH.nil
 rw[if_pos (by rfl)]
 refine wp_put_nd (s':=n9) _ (.tmp 6) (.tmp 21) rfl rfl rfl HM6.out HQ9.out ?_
 intro w10 P10
 refine hK.out _ _ ⟨off_cell hHeld.1 P10.off h46,off_cell hHeld.2.1 P10.off h46,off_cell hHeld.2.2.1 P10.off hk6,off_cell hHeld.2.2.2 P10.off hk6⟩ (fun hHeld=>?_)
 clear hK K
 try simp only[Act.put,List.setIfInBounds_toArray,List.set_cons_zero,List.set_cons_succ,List.getElem_toArray,List.getElem_cons_succ,List.getElem_cons_zero]
 refine wpAnyH_take (i:=16) (oi:=_) (v:=?_) rfl (by kernel_rfl) (by kernel_rfl) (by kernel_rfl) (fun _ _ _ h=>h) (Or.inl ⟨by rfl,?_⟩) hHeld ?_
 rotate_left
 ·(intro w hSw;(try dsimp only at hSw);go_simp;(try with_reducible rfl))
 try simp only[Act.put,List.setIfInBounds_toArray,List.set_cons_zero,List.set_cons_succ,List.getElem_toArray,List.getElem_cons_succ,List.getElem_cons_zero]
 refine wpAnyH_done (by kernel_rfl) ?_ _
 clear hHeld
 go_wp2_with fail
 refine bodyPost_ret (results_nd2 rfl _ _ rfl P10.nd) rfl ?_
 have B9:=HB9.out
 have F9:=HF9.out
 have V9:=HV9.out
 have hlt8:=HZ8.out
 refine⟨n9,W9,rfl,B9.off P10.off HN9.out,F9.off P10.off hw6,V9.id,V9.tx,V9.lv,V9.lo,V9.hi,V9.nx,?_⟩
 obtain⟨a,c,h0,h1,h2⟩:=V9.sl.ex
 refine⟨a,c,h0,⟨⟨fun t ht=>?_⟩,h1.room,h1.nil,h1.form⟩,fun x o e hne e2=>h2 x o e hne (e2.imp (fun q=>q) (fun q=>by have:=HB2.out.size;omega))⟩
 obtain⟨x,of,e,hx,r1,r2⟩:=h1.cs.at_ t ht
 have hne:(nodeOf pg (bv C st b.im pg) lo hi').cl≠[]:=fun e=>by rw[e] at ht;exact absurd ht (Nat.not_lt_zero _)
 have hxb:x≠b6:=fun e2=>h2 x of e hne (Or.inr (by omega))
 exact⟨x,of,e,Nat.lt_of_lt_of_le hx P10.off.size,off_cell r1 P10.off hxb,off_cell r2 P10.off hxb⟩
end
def flatN:List Nv->List Value
 | []=>[]
 | e :: l=>e.A.toList++flatN l
theorem flatN_append (l m:List Nv):flatN (l++m)=flatN l++flatN m:=by
 induction l with
 | nil=>rfl
 | cons e l ih=>simp only[List.cons_append,flatN,ih,List.append_assoc]
theorem nvl (e:Nv):e.A.toList.length=7:=rfl
theorem flatN_length (l:List Nv):(flatN l).length=l.length*7:=by
 induction l with
 | nil=>rfl
 | cons e l ih=>simp only[flatN,List.length_append,nvl,ih,List.length_cons];omega
theorem flatN_get (l:List Nv):∀ (i:Nat) (hi:i<l.length) (j:Nat),j<7->(flatN l)[i*7+j]?=(l[i].A.toList)[j]?:=by
 induction l with
 | nil=>intro i hi;exact absurd hi (Nat.not_lt_zero _)
 | cons e l ih =>
  intro i hi j hj
  cases i with
  | zero=>rw[flatN,Nat.zero_mul,Nat.zero_add,List.getElem?_append_left (by rw[nvl];exact hj)];rfl
  | succ i =>
   have:=ih i (by simpa using hi) j hj
   rw[flatN,List.getElem?_append_right (by rw[nvl];omega),nvl,show(i+1)*7+j-7=i*7+j by omega,this]
   rfl
theorem elN:El 92 98 7 (.agg zN.A) :=
 ⟨Tryz.underlying92,by
  obtain⟨i,h1,h2,h3,h4⟩:=info_parts (show(Tryz.prog.info? 98).map (fun i=>(i.zero,i.size,i.bytes))=some (some (.agg zN.A),7,96) by kernel_rfl)
  exact⟨i,h1,h2,h3,by omega⟩,rfl,by omega⟩
theorem run_build_nd (n:Nv) (w:World):(Instr.buildSlice 92 1 #[(0,.agg n.A)]).run Tryz.prog w=.ok (.slice (some ⟨w.heap.size,0,none⟩) 1 1) (w.alloc (.cells n.A 98)):=by kernel_rfl
theorem wpList_build_nd {ops:Array Oper} {rest:List Oper} {o:Oper} {act:Act} {Q:Exit->Act->World->Prop} {n:Nv} (w:World) (hg:o.guard=none) (x:Operand) (hop:o.op=Op.buildSlice 92 1 #[(0,x)]) (hx:act.eval x=.agg n.A)
  (h:∀ w' b,NewN w w' b n->wpList Tryz.prog ops Q rest (act.put o.dst (.slice (some ⟨b,0,none⟩) 1 1)) w'):wpList Tryz.prog ops Q (o ::rest) act w:=by
 refine wpList_plain hg fun K' hK'=>?_
 have hr:=run_build_nd n w
 unfold Oper.wp execOp
 simp only[hop,List.map_toArray,List.map_cons,List.map_nil,hx,Sem.run_bind,Sem.run_pure,Result.andThen_ok,hr]
 exact hK' _ _ (h _ _ ⟨⟨(MapKept.heap_alloc w _).1⟩,(Below.refl _ _).alloc (Nat.le_refl _) _,rfl⟩)
theorem wpList_fput_nd {ops:Array Oper} {rest:List Oper} {o:Oper} {a:Act} {Q:Exit->Act->World->Prop} {b:Nat} {s:Nv} {x:Int} (w:World) (hg:o.guard=none) (p y:Operand) (hop:o.op=Op.store 3 p y)
  (hx:a.eval p=.pointer (some ⟨b,6,none⟩)) (hy:a.eval y=.int .i64 x) (hs:NdAt w b s)
  (h:∀ w',PutN w w' b {s with nx:=x}->wpList Tryz.prog ops Q rest (a.put o.dst undef) w'):wpList Tryz.prog ops Q (o ::rest) a w:=by
 have hf:=hs.f 6
 have hu:=hs.c6
 refine wpList_plain hg fun K' hK'=>?_
 unfold Oper.wp
 have hrun:(Instr.storeAt 3 (.pointer (some ⟨b,6,none⟩)) (.int .i64 x)).run Tryz.prog w=.ok () (w.setCell ⟨b,6,none⟩ (.int .i64 x)):=by
  have g1:∀ j,j<[Value.int .i64 x].length->(w.cell? ⟨b,6+0+j,none⟩).isSome=true:=by
   intro j hj
   obtain rfl:j=0:=by simpa using hj
   simp[hu]
  have g2:∀ j,j<[Value.int .i64 x].length->w.frozen? ⟨b,6+0+j,none⟩=false:=by
   intro j hj
   obtain rfl:j=0:=by simpa using hj
   simpa using hf
  have:=run_storeCells_cells (P:=Tryz.prog) b 6 [.int .i64 x] 0 w g1 g2 (fun y hy=>by simp at hy;subst hy;rfl)
  have hq:(Tryz.prog.info? 3).map (·.size)=some 1:=by kernel_rfl
  cases hi:Tryz.prog.info? 3 with
  | none=>simp[hi] at hq
  | some i =>
   have hs:i.size=1:=by simpa[hi] using hq
   simp only[Nat.add_zero] at this
   simp[Instr.storeAt,Instr.sureAddr,storeVar,sizeOf,typeInfo,hi,Value.cells,hs,this,World.setCells]
 simp[execOp,hop,hx,hy,hrun,Result.andThen]
 exact hK' _ _ (h _ ⟨hs.set rfl,(Pk.Off.refl _ _).setCell _ _⟩)
theorem SlW.keep {U U':Nat->Prop} {w w':World} {v:Value} {L:List Cl} (h:SlW U w v L) (hb:∀ j,j<w.heap.size->¬ U j->w'.heap[j]?=w.heap[j]?) (hn:∀ j,j<w.heap.size->¬ U j->¬ U' j) (hs:w.heap.size<=w'.heap.size):SlW U' w' v L:=by
 obtain⟨a,c,h0,h1,h2⟩:=h.ex
 refine⟨a,c,h0,⟨⟨fun i hi=>?_⟩,h1.room,h1.nil,h1.form⟩,fun b o e hne e2=>?_⟩
 ·obtain⟨b,off,e,hl,q1,q2⟩:=h1.cs.at_ i hi
  have hu:=h2 b off e (fun e=>by subst e;exact absurd hi (Nat.not_lt_zero _))
  have hk:=hb b hl hu
  exact⟨b,off,e,Nat.lt_of_lt_of_le hl hs,(World.cell?_of_block (by exact hk)).trans q1,(World.cell?_of_block (by exact hk)).trans q2⟩
 ·have hu:=h2 b o e hne
  obtain⟨b',off,e',hl,_⟩:=h1.cs.at_ 0 (List.length_pos_iff.2 hne)
  rw[e] at e';cases e'
  exact hn b hl hu e2
theorem NdV.keep {U U':Nat->Prop} {w w':World} {v:Nv} {n:Nd} (h:NdV U w v n) (hb:∀ j,j<w.heap.size->¬ U j->w'.heap[j]?=w.heap[j]?) (hn:∀ j,j<w.heap.size->¬ U j->¬ U' j) (hs:w.heap.size<=w'.heap.size):NdV U' w' v n:=⟨h.id,h.tx,h.lv,h.lo,h.hi,h.nx,h.sl.keep hb hn hs⟩
structure Nds (W:Nat->Prop) (w:World) (v:Value) (ns:List Nd):Prop where
 ex:∃ es:List Nv,es.length=ns.length/\w.ownsRow 0 98 7 v ns.length (flatN es)/\(∀ i,(h1:i<es.length)->(h2:i<ns.length)->NdV (fun j=>W j∨v.ownBlock=some j) w es[i] ns[i])/\∀ g,v.ownBlock=some g->¬ W g
section
variable {W W' U U':Nat->Prop}{w w':World}{v:Value}{ns:List Nd}
theorem Nds.nil (W:Nat->Prop) (w:World):Nds W w (.slice none 0 0) []:=⟨[],rfl,⟨rfl,Or.inl ⟨rfl,rfl⟩⟩,fun i h=>absurd h (Nat.not_lt_zero _),fun g e=>by cases e⟩
theorem Nds.keep (h:Nds U w v ns) (hb:∀ j,j<w.heap.size->¬ U j->w'.heap[j]?=w.heap[j]?) (hn:∀ j,j<w.heap.size->¬ U j->¬ U' j) (hs:w.heap.size<=w'.heap.size):Nds U' w' v ns:=by
 obtain⟨es,h1,h2,h3,h4⟩:=h.ex
 refine⟨es,h1,row_own_at h2 (fun g e=>hb g (row_own_lt h2 e) (h4 g e)),fun i a b=>(h3 i a b).keep (fun j hj hu=>hb j hj (fun e=>hu (Or.inl e))) (fun j hj hu hu2=>?_) hs,fun g e=>hn g (row_own_lt h2 e) (h4 g e)⟩
 rcases hu2 with e |e
 ·exact hn j hj (fun e2=>hu (Or.inl e2)) e
 ·exact hu (Or.inr e)
theorem Nds.fr (h:Nds W w v ns) (hf:Fr W W' w w'):Nds W' w' v ns:=h.keep hf.blk (fun j hj hn=>hf.not hj hn) hf.size
theorem Nds.below (h:Nds W w v ns) (hb:Below w.heap.size w w'):Nds W w' v ns:=h.keep (fun j hj _=>hb.block j hj) (fun j _ hn=>hn) hb.size
theorem Nds.less (h:Nds W w v ns) (hV:∀ j,U j->W j):Nds U w v ns:=h.keep (fun _ _ _=>rfl) (fun j _ hn e=>hn (hV j e)) (Nat.le_refl _) |> fun q=>q
theorem Nds.slice (h:Nds W w v ns):∃ a c,v=.slice a ns.length c/\(a=none->ns=[]/\c=0)/\(∀ ad,a=some ad->∃ g,ad=⟨g,0,none⟩/\ns.length<=c):=by
 obtain⟨es,h1,⟨h2,h3⟩,h4⟩:=h.ex
 rcases h3 with⟨rfl,h3⟩ |⟨g,cap,cur,e,hB,hg,h5,_⟩
 ·exact⟨none,0,by rw[h3],fun _=>⟨List.eq_nil_of_length_eq_zero h3,rfl⟩,fun _ e=>by cases e⟩
 ·exact⟨_,_,e,(fun e=>by cases e),(fun ad e=>by cases e;exact⟨g,rfl,h5⟩)⟩
theorem Nds.at_ {a:Option Addr} {n c:Nat} (h:Nds W w (.slice a n c) ns) {i:Nat} (hi:i<ns.length):∃ g e,a=some ⟨g,0,none⟩/\¬ W g/\w.rangeAt g (i*7) e.A.toList/\NdV W w e ns[i]:=by
 obtain⟨es,h1,⟨h2,h3⟩,h4,h5⟩:=h.ex
 rcases h3 with⟨_,h3⟩ |⟨g,cap,cur,e,hB,hg,h6,h7,h8,h9⟩
 ·omega
 ·cases e
  have hi1:i<es.length:=by omega
  refine⟨g,es[i],rfl,h5 g rfl,?_,(h4 i hi1 hi).less (fun j hj=>Or.inl hj)⟩
  intro j u hu
  have hj:j<7:=(List.getElem?_eq_some_iff.1 hu).1
  rw[Lib.cell_of_heap hg]
  have:=flatN_get es i hi1 j hj
  rw[← h9,List.getElem?_take,if_pos (by have:=flatN_length es;have:=h2;omega)] at this
  rw[← Array.getElem?_toList,this,← hu]
theorem wpList_append_nd {ops:Array Oper} {rest:List Oper} {o:Oper} {act:Act} {Q:Exit->Act->World->Prop} (hgd:o.guard=none) (s x:Operand)
  (ho:o.op=.call {callee:=.builtin .append,args:=#[s,x],argTypes:=#[92,92]}) (hs:act.eval s=v) (h:Nds W w v ns)
  {g:Nat} {n:Nv} {nd:Nd} (hx:act.eval x=.slice (some ⟨g,0,none⟩) 1 1) (hg:NdAt w g n) (hn:NdV (fun j=>W j∨v.ownBlock=some j) w n nd) (hl:ns.length<=1000) (hW:∀ j,W j->j<w.heap.size)
  (K:∀ v' w',Nds W w' v' (ns++[nd])->w.grownBy w' v.ownBlock->(v'.ownBlock=v.ownBlock∨v'.ownBlock=some w.heap.size)->wpList Tryz.prog ops Q rest (act.put o.dst v') w'):wpList Tryz.prog ops Q (o ::rest) act w:=by
 obtain⟨es,h1,h2,h3,h4⟩:=h.ex
 have hnews:∀ j u,(n.A.toList)[j]?=some u->w.cell? ((⟨g,0,none⟩:Addr).add j)=some u:=by
  intro j u hu
  have hadd:(⟨g,0,none⟩:Addr).add j=⟨g,j,none⟩:=by unfold Addr.add;split <;> simp_all
  rw[hadd,Joins.cell_of_block hg.blk,← Array.getElem?_toList]
  exact hu
 refine wpList_append_gen elN hgd s x ho hs h2 hx rfl (news:=n.A.toList) rfl hnews (nd_one hn.sl.one) (by omega) (by omega) ?_
 intro v' w' r1 r2 r3
 refine K v' w' ⟨es++[n],by simp[h1],?_,fun i a b=>?_,fun g' e=>?_⟩ r2 r3
 ·rw[List.length_append,List.length_singleton,flatN_append,show flatN [n]=n.A.toList from by simp[flatN]]
  exact r1
 ·have kp:∀ {e:Nv} {d:Nd},NdV (fun j=>W j∨v.ownBlock=some j) w e d->NdV (fun j=>W j∨v'.ownBlock=some j) w' e d:=fun hv=>hv.keep (fun j hj hu=>r2.block j hj (fun e=>hu (Or.inr e.symm))) (fun j hj hu hu2=>by
   rcases hu2 with e |e
   ·exact hu (Or.inl e)
   ·rcases r3 with q |q
    ·exact hu (Or.inr (q ▸ e))
    ·rw[q] at e;cases e;exact absurd hj (Nat.lt_irrefl _)) r2.size
  rcases Nat.lt_or_ge i ns.length with hi |hi
  ·rw[List.getElem_append_left (by omega),List.getElem_append_left hi]
   exact kp (h3 i (by omega) hi)
  ·have hi2:i=ns.length:=by rw[List.length_append,List.length_singleton] at b;omega
   subst hi2
   rw[List.getElem_append_right (by omega),List.getElem_append_right (Nat.le_refl _)]
   simp only[h1,Nat.sub_self,List.getElem_singleton]
   exact kp hn
 ·rcases r3 with q |q
  ·exact h4 g' (q ▸ e)
  ·rw[q] at e;cases e
   exact fun e=>absurd (hW _ e) (Nat.lt_irrefl _)
end
end Go.Proofs.YtpcnjncgilmehabGreat.Tr
