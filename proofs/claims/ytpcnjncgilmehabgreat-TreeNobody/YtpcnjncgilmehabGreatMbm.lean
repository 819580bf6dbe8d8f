import Derived.Test.YtpcnjncgilmehabGreatMbl
import Derived.Test.YtpcnjncgilmehabGreatMbi
set_option linter.unusedVariables false
set_option linter.unusedSimpArgs false
set_option maxRecDepth 100000
namespace Go.Proofs.YtpcnjncgilmehabGreat.Tr
open Go.RowKit Go.Maps Go.ChangeMaps
theorem uses_zus (j:Nat):uses zus j=false:=by
 unfold uses
 have:Pg.g zus (j / 8)=0:=by
  unfold Pg.g zus
  rw[List.getElem?_replicate]
  split <;> rfl
 rw[this]
 exact Nat.zero_testBit _
theorem wpAnyH_imp2 {P:Program} {ops:Array Oper} {Q:Exit->Act->World->Prop} {md:Region.Mode} {S T:World->Prop} (h:∀ w,T w->S w):∀ (fuel:Nat) (listed:Array Bool) (a:Act) (w:World),wpAnyH P md ops Q T fuel listed a w->wpAnyH P md ops Q S fuel listed a w
 | 0,_,_,_,hh=>hh
 | fuel+1,_,_,_,hh=>⟨hh.1,fun i hi=>wpOp_mono (fun a' w' h'=>⟨h _ h'.1,wpAnyH_imp2 h fuel _ a' w' h'.2⟩) (hh.2 i hi)⟩
theorem nd_range {w:World} {b:Nat} {n:Nv} (h:NdAt w b n):w.rangeAt b 0 n.A.toList:=by
 intro j u hu
 rw[Nat.zero_add,cell_of_row w b j _ 98 (0,0) h.blk]
 simpa using hu
section
variable {W W':Nat->Prop}{w w':World}{bb tb:Nat}{v:Value}{X:Ad}{k:Nat}{C:Cf}{st:Nat->Option Nat}{mk:Int}{wh:Nat->Option Nat}{b:Bm}{rt L:Nat}{us:List UInt8}
theorem bv_none (C:Cf) (st:Nat->Option Nat):bv C st []=Vw C st:=by
 funext id
 unfold bv
 rw[if_neg (by simp[inn])]
theorem Bu.range (h:Bu W w bb tb X k C st mk wh b):w.rangeAt bb 1 (hdL (b.rt:Int) b.us):=by
 obtain⟨Wt,v,h0,hW⟩:=h.ex
 intro j u hu
 rw[h0.cell,Nat.add_comm]
 show(hdL (b.rt:Int) b.us++[v])[j]?=_
 rw[List.getElem?_append_left (List.getElem?_eq_some_iff.1 hu).1]
 exact hu
structure Just (C:Cf) (st:Nat->Option Nat) (rt:Nat) (us:List UInt8) (L:Nat):Prop where
 ok:Ok (Vw C st) us C.ps L rt eb eb
 nd:(ids (Vw C st) L rt).Nodup
 us:us=usA (Tr.use zus 0) (ids (Vw C st) L rt)
 l:L<=255
set_option maxHeartbeats 4000000 in
theorem Tt.check (h:Tt W w tb X k C st mk wh) (hp:0<C.ps) (hl:us.length=222) (hr:rt<65536) (hv:Vw C st 0=hdT rt us) (hJ:Just C st rt us L) (hk:k+8006*((ids (Vw C st) L rt).length+2)<=240000000000):Calls Tryz.prog 19 #[.pointer (some ⟨tb,0,none⟩)] w fun e w'=>e=.returned (.bool true)/\∃ W',Tt W' w' tb X (k+8006*((ids (Vw C st) L rt).length+2)) C st mk wh/\Fr W W' w w':=by
 have hp1:=h.p1
 have CO:Hid (Calls Tryz.prog 29 #[.pointer (some ⟨tb,0,none⟩)] w fun e w'=>∃ bb,e=.returned (.tuple #[.pointer (some ⟨bb,0,none⟩),.int .i64 0])/\∃ W',Bu W' w' bb tb X (k+8006) C st mk wh ⟨rt,us,[]⟩/\Fr W W' w w'):=h.open_ (by omega) hp rt us hl hr hv
 have CR:Hid (∀ wx Wx bb,Bu Wx wx bb tb X (k+8006) C st mk wh ⟨rt,us,[]⟩->Calls Tryz.prog 50 #[.pointer (some ⟨bb,0,none⟩)] wx fun e w'=>∃ n W',e=.returned (.tuple #[.agg n.A,.int .i64 0])/\Bu W' w' bb tb X (k+8006+8006) C st mk wh ⟨rt,us,[]⟩/\Fr Wx W' wx w'/\NdV (fun j=>W' j∨j<wx.heap.size) w' n (nodeOf rt (Vw C st rt) eb eb)):=fun wx Wx bb hx=>by
  have:=hx.root (by omega) L (by rw[bv_none];exact hJ.ok.o0)
  rw[bv_none] at this
  exact this
 have CU:Hid (∀ wx Wx bb mh,Mt Wx wx bb tb X (k+8006+8006) C st mk wh ⟨rt,us,[]⟩ mh (rt:Int) zus->Calls Tryz.prog 31 #[.pointer (some ⟨mh,0,none⟩),.int .i64 0] wx fun e w'=>e=.returned (.tuple #[])/\Mt Wx w' bb tb X (k+8006+8006) C st mk wh ⟨rt,us,[]⟩ mh (rt:Int) (Tr.use zus 0)/\Fr (Wm Wx mh) (Wm Wx mh) wx w'):=fun wx Wx bb mh hx=>hx.use_ 0 (by omega)
 have CM:Hid (∀ wx Wx bb mh n,Mt Wx wx bb tb X (k+8006+8006) C st mk wh ⟨rt,us,[]⟩ mh (rt:Int) (Tr.use zus 0)->NdV (Wm Wx mh) wx n (nodeOf rt (Vw C st rt) eb eb)->Calls Tryz.prog 51 #[.pointer (some ⟨bb,0,none⟩),.agg (Nv.A n),.pointer (some ⟨mh,0,none⟩)] wx fun e w'=>e=.returned (.bool true)/\∃ W',Mt W' w' bb tb X (k+8006*((ids (Vw C st) L rt).length+2)) C st mk wh ⟨rt,us,[]⟩ mh (rt:Int) us/\Fr (Wm Wx mh) (Wm W' mh) wx w'):=fun wx Wx bb mh n hm hn=>by
  have:=meet_all (bb:=bb) (tb:=tb) (X:=X) (C:=C) (st:=st) (mk:=mk) (wh:=wh) (b:=⟨rt,us,[]⟩) (mh:=mh) (r:=(rt:Int)) L hJ.l Wx wx _ _ n rt eb eb hm
  rw[bv_none] at this
  refine(this (by omega) hn hJ.ok (fun j hj=>?_) hJ.nd).mono ?_
  ·have:=(ids_lt L rt eb eb hJ.ok j hj).1
   rw[uses_use _ _ _ (by rw[zus_length];omega),uses_zus]
   simp;omega
  ·rintro e w' ⟨he,W',m,f⟩
   rw[← hJ.us] at m
   exact⟨he,W',m.mono (by omega),f⟩
 have hEQ:∀ wx:World,(binOp .eql 76 (.agg (hdL (rt:Int) us).toArray) (.agg (hdL (rt:Int) us).toArray)).run Tryz.prog wx=.ok (.bool true) wx:=fun wx=>eql_head wx (rt:Int) us hl
 have hGU:∀ (wx:World) (x y:Operand),(eqGuard .eql 76 x y (.agg (hdL (rt:Int) us).toArray) (.agg (hdL (rt:Int) us).toArray)).run Tryz.prog wx=.ok () wx:=fun wx x y=>run_eqGuard_agg wx .eql 76 x y _ _ (by kernel_rfl)
 have hUH:=Tryz.underlying76
 have hIH:(Tryz.prog.info? 76).map (·.size)=some (hdL (rt:Int) us).length:=by rw[hdL_length,hl];exact info_head
 have HLEN:Hid (us.length=222):=hl
 clear h hv hJ hk
 generalize k+8006*((ids (Vw C st) L rt).length+2)=k9 at *
 generalize nodeOf rt (Vw C st rt) eb eb=ndR at *
 go_enter Tryz.func19,Tryz.ntmps19
 go_wp2_with (first
  | (go_at_call 29;refine CO.out.mono ?_;rintro e w2 ⟨bb2,rfl,W2,u2,f2⟩;have U2:Hid _:=u2;have F2:Hid _:=f2;clear u2 f2)
  | (go_at_call 50;refine(CR.out _ _ _ U2.out).mono ?_;rintro e w3 ⟨n3,W3,rfl,u3,f3,v3⟩;have hone:=v3.sl.one;have U3:Hid _:=u3;have F3:Hid _:=F2.out.trans f3;have V3:Hid _:=v3;have Z3:Hid _:=f3.size;clear u3 f3 v3)
  | (refine wpList_new_nd _ rfl rfl ?_;intro w4 b5 N4)
  | (refine wpList_put_nd (s':=n3) _ rfl (.tmp 5) (.tmp 17) rfl rfl rfl N4.nd hone ?_;intro w5 P5;have hn5:¬ W3 b5:=(fun e=>by have:=U3.out.lt e;have:=N4.eq;omega);have U5:Hid _:=(U3.out.below N4.below).off P5.off hn5;have k1:=U5.out.cells.2.1)
  | (refine wpList_build_hd _ rfl _ rfl rfl ?_)
  | (refine wpList_new_hd _ rfl rfl ?_;intro w6 mh N6)
  | (refine wpList_put_hd (r':=(rt:Int)) (us':=zus) _ rfl (.tmp 6) (.tmp 26) rfl rfl rfl rfl N6.hd zus_length ?_;intro w7 P7;have e4:=N4.eq;have e6:=N6.le;have z4:=N4.below.size;have z5:=P5.off.size;have z6:=N6.below.size;have l5:=P5.nd.lt;have hnm:¬ W3 mh:=(fun e=>by have:=U3.out.lt e;omega);have hb5m:b5≠mh:=(by omega);have M7:Hid (Mt W3 w7 bb2 tb X (k+8006+8006) C st mk wh ⟨rt,us,[]⟩ mh (rt:Int) zus):=⟨(U5.out.below N6.below).off P7.off hnm,P7.hd,hnm⟩;have A7:Hid (NdAt w7 b5 n3):=(P5.nd.below N6.below).of_block (P7.off.block b5 (by omega) hb5m);have G7:Hid (¬ Wm W3 mh b5):=(fun e=>e.elim hn5 hb5m:¬ Wm W3 mh b5);have V7:Hid (NdV (Wm W3 mh) w7 n3 ndR):=V3.out.keep (fun j hj hu=>((P7.off.block j (by omega) (by omega)).trans (N6.below.block j (by omega))).trans ((P5.off.block j (by omega) (by omega)).trans (N4.below.block j hj))) (fun j hj hu hu2=>hu2.elim (fun e=>hu (Or.inl e)) (fun e=>by omega)) (by have:=P7.off.size;omega);have F7:Hid (Fr W W3 w w7):=(((F3.out.below N4.below).off P5.off (by have:=F3.out.size;omega)).below N6.below).off P7.off (by have:=F3.out.size;omega);have hmw:Hid (w.heap.size<=mh):=(by have:=F3.out.size;omega:w.heap.size<=mh);clear e4 e6 z4 z5 z6 l5 hb5m hnm)
  | (go_at_call 31;refine(CU.out _ _ _ _ M7.out).mono ?_;rintro e w8 ⟨rfl,m8,f8⟩;have M8:Hid _:=m8;have A8:Hid _:=nd_fr A7.out f8 G7.out;have V8:Hid _:=V7.out.fr f8;have F8:Hid _:=f8;clear m8 f8))
 have hbd:Hid (Below w8.heap.size w8 w8.drew):=(⟨rfl,rfl,rfl,Nat.le_refl _,fun _ _=>rfl⟩:Below w8.heap.size w8 w8.drew)
 have keep0:w8.drew.rangeAt b5 0 n3.A.toList:=nd_range (A8.out.below hbd.out)
 refine wp_region_held_drew (S:=fun Wd=>Wd.rangeAt b5 0 n3.A.toList) (by kernel_rfl) keep0 (fun hHeld=>?_)
 refine wpAnyH_take (i:=0) (oi:=_) (v:=?_) rfl (by kernel_rfl) (by kernel_rfl) (by kernel_rfl) (fun _ _ _ h=>h) (Or.inl ⟨by rfl,?_⟩) hHeld ?_
 rotate_left
 ·(intro w hSw;(try dsimp only at hSw);go_simp;(try with_reducible rfl))
 try simp only[Act.put,List.setIfInBounds_toArray,List.set_cons_zero,List.set_cons_succ,List.getElem_toArray,List.getElem_cons_succ,List.getElem_cons_zero]
 refine wpAnyH_take (i:=1) (oi:=_) (v:=.agg n3.A) rfl (by kernel_rfl) (by kernel_rfl) (by kernel_rfl) (fun _ _ _ h=>h) (yieldsIf_load_mid (by rfl) 98 (.tmp 5) rfl b5 0 rfl n3.A.toList _ (fun _ h=>h) Tryz.underlying98 rfl (info_nd n3)) hHeld ?_
 try simp only[Act.put,List.setIfInBounds_toArray,List.set_cons_zero,List.set_cons_succ,List.getElem_toArray,List.getElem_cons_succ,List.getElem_cons_zero]
 refine wpAnyH_ready (rs:=[2]) (by kernel_rfl) (by simp) ?_
 refine AllReadyH.cons (o:=_) rfl (fun K hK=>?_) AllReadyH.nil
 go_simp
 refine(CM.out _ _ _ _ n3 (M8.out.below hbd.out) (V8.out.below hbd.out)).mono ?_
 rintro e w9 ⟨rfl,W9,m9,f9⟩
 have F9:Hid (Fr (Wm W3 mh) (Wm W9 mh) w8 w9):=(Fr.of_below hbd.out (Wm W3 mh)).trans f9
 have A9:=nd_fr A8.out F9.out G7.out
 have hm1:w9.rangeAt mh 0 (hdL (rt:Int) us):=m9.hd.range
 have hm2:w9.rangeAt bb2 1 (hdL (rt:Int) us):=m9.bu.range
 have M9:Hid _:=m9
 clear m9 f9
 go_wp2_with fail
 refine hK.out _ _ (nd_range A9) (fun hHeld=>?_)
 clear hK K
 try simp only[Act.put,List.setIfInBounds_toArray,List.set_cons_zero,List.set_cons_succ,List.getElem_toArray,List.getElem_cons_succ,List.getElem_cons_zero]
 clear hHeld
 refine wpAnyH_imp2 (T:=fun Wd=>Wd.rangeAt b5 0 n3.A.toList/\Wd.rangeAt mh 0 (hdL (rt:Int) us)/\Wd.rangeAt bb2 1 (hdL (rt:Int) us)) (fun _ h=>h.1) _ _ _ _ ?_
 have hHeld:(fun Wd:World=>Wd.rangeAt b5 0 n3.A.toList/\Wd.rangeAt mh 0 (hdL (rt:Int) us)/\Wd.rangeAt bb2 1 (hdL (rt:Int) us)) w9:=⟨nd_range A9,hm1,hm2⟩
 refine wpAnyH_take (i:=3) (oi:=_) (v:=?_) rfl (by kernel_rfl) (by kernel_rfl) (by kernel_rfl) (fun _ _ _ h=>h) (Or.inl ⟨by rfl,?_⟩) hHeld ?_
 rotate_left
 ·(intro w hSw;(try dsimp only at hSw);go_simp;(try with_reducible rfl))
 try simp only[Act.put,List.setIfInBounds_toArray,List.set_cons_zero,List.set_cons_succ,List.getElem_toArray,List.getElem_cons_succ,List.getElem_cons_zero]
 refine wpAnyH_take (i:=4) (oi:=_) (v:=.agg (hdL (rt:Int) us).toArray) rfl (by kernel_rfl) (by kernel_rfl) (by kernel_rfl) (fun _ _ _ h=>h) (yieldsIf_load_mid (by rfl) 76 (.tmp 6) rfl mh 0 rfl (hdL (rt:Int) us) _ (fun _ h=>h.2.1) Tryz.underlying76 rfl hIH) hHeld ?_
 try simp only[Act.put,List.setIfInBounds_toArray,List.set_cons_zero,List.set_cons_succ,List.getElem_toArray,List.getElem_cons_succ,List.getElem_cons_zero]
 refine wpAnyH_take (i:=5) (oi:=_) (v:=?_) rfl (by kernel_rfl) (by kernel_rfl) (by kernel_rfl) (fun _ _ _ h=>h) (Or.inl ⟨by rfl,?_⟩) hHeld ?_
 rotate_left
 ·(intro w hSw;(try dsimp only at hSw);go_simp;(try with_reducible rfl))
 try simp only[Act.put,List.setIfInBounds_toArray,List.set_cons_zero,List.set_cons_succ,List.getElem_toArray,List.getElem_cons_succ,List.getElem_cons_zero]
 refine wpAnyH_take (i:=6) (oi:=_) (v:=?_) rfl (by kernel_rfl) (by kernel_rfl) (by kernel_rfl) (fun _ _ _ h=>h) (Or.inl ⟨by rfl,?_⟩) hHeld ?_
 rotate_left
 ·(intro w hSw;(try dsimp only at hSw);go_simp;(try with_reducible rfl))
 try simp only[Act.put,List.setIfInBounds_toArray,List.set_cons_zero,List.set_cons_succ,List.getElem_toArray,List.getElem_cons_succ,List.getElem_cons_zero]
 refine wpAnyH_take (i:=7) (oi:=_) (v:=?_) rfl (by kernel_rfl) (by kernel_rfl) (by kernel_rfl) (fun _ _ _ h=>h) (Or.inl ⟨by rfl,?_⟩) hHeld ?_
 rotate_left
 ·(intro w hSw;(try dsimp only at hSw);go_simp;(try with_reducible rfl))
 try simp only[Act.put,List.setIfInBounds_toArray,List.set_cons_zero,List.set_cons_succ,List.getElem_toArray,List.getElem_cons_succ,List.getElem_cons_zero]
 refine wpAnyH_take (i:=8) (oi:=_) (v:=.agg (hdL (rt:Int) us).toArray) rfl (by kernel_rfl) (by kernel_rfl) (by kernel_rfl) (fun _ _ _ h=>h) (yieldsIf_load_mid (by rfl) 76 (.tmp 35) rfl bb2 1 rfl (hdL (rt:Int) us) _ (fun _ h=>h.2.2) Tryz.underlying76 rfl hIH) hHeld ?_
 try simp only[Act.put,List.setIfInBounds_toArray,List.set_cons_zero,List.set_cons_succ,List.getElem_toArray,List.getElem_cons_succ,List.getElem_cons_zero]
 refine wpAnyH_take (i:=9) (oi:=_) (v:=?_) rfl (by kernel_rfl) (by kernel_rfl) (by kernel_rfl) (fun _ _ _ h=>h) (Or.inl ⟨by rfl,?_⟩) hHeld ?_
 rotate_left
 ·(intro w hSw;(try dsimp only at hSw);go_simp;(try with_reducible rfl))
 try simp only[Act.put,List.setIfInBounds_toArray,List.set_cons_zero,List.set_cons_succ,List.getElem_toArray,List.getElem_cons_succ,List.getElem_cons_zero]
 refine wpAnyH_take (i:=10) (oi:=_) (v:=?_) rfl (by kernel_rfl) (by kernel_rfl) (by kernel_rfl) (fun _ _ _ h=>h) (Or.inl ⟨by rfl,?_⟩) hHeld ?_
 rotate_left
 ·(intro w hSw;(try dsimp only at hSw);go_simp;(try with_reducible rfl))
 try simp only[Act.put,List.setIfInBounds_toArray,List.set_cons_zero,List.set_cons_succ,List.getElem_toArray,List.getElem_cons_succ,List.getElem_cons_zero]
 refine wpAnyH_take (i:=11) (oi:=_) (v:=?_) rfl (by kernel_rfl) (by kernel_rfl) (by kernel_rfl) (fun _ _ _ h=>h) (Or.inl ⟨by rfl,?_⟩) hHeld ?_
 rotate_left
 ·(intro w hSw;(try dsimp only at hSw);go_simp;(try with_reducible rfl))
 try simp only[Act.put,List.setIfInBounds_toArray,List.set_cons_zero,List.set_cons_succ,List.getElem_toArray,List.getElem_cons_succ,List.getElem_cons_zero]
 refine wpAnyH_done (by kernel_rfl) ?_ _
 go_wp2
 go_ret
 obtain⟨Wt,t9,hsub⟩:=M9.out.bu.tree
 refine⟨rfl,Wt,t9,?_⟩
 have F10:Fr (Wm W3 mh) (Wm W9 mh) w7 w9:=F8.out.trans F9.out
 refine⟨F10.os.trans F7.out.os,F10.tape.trans F7.out.tape,F10.output.trans F7.out.output,Nat.le_trans F7.out.size F10.size,fun j hj hn=>?_,fun j hj=>?_⟩
 ·have hj7:=Nat.lt_of_lt_of_le hj F7.out.size
  have hm:=hmw.out
  refine(F10.blk j hj7 (fun e=>e.elim (F7.out.not hj hn) (fun e=>by omega))).trans (F7.out.blk j hj hn)
 ·have hm:=hmw.out
  rcases F10.sub j (Or.inl (hsub j hj)) with(e |e) |e
  ·exact F7.out.sub j e
  ·exact Or.inr (by omega)
  ·exact Or.inr (Nat.le_trans F7.out.size e)
end
section
variable {w:World}{p:Option Addr}
structure NoT (w:World) (p:Option Addr):Prop where
 m:Calls Tryz.prog 28 #[.pointer p] w fun e w'=>e=.returned (.bool false)/\w'=w
theorem noT_nil (w:World):NoT w none:=⟨by
 go_enter Tryz.func28,Tryz.ntmps28
 go_wp2
 go_ret
 exact⟨rfl,rfl⟩⟩
theorem noT_zero {b:Nat} (h:w.cell? ⟨b,0,none⟩=some (.pointer none)):NoT w (some ⟨b,0,none⟩):=⟨by
 go_enter Tryz.func28,Tryz.ntmps28
 go_wp2
 go_ret
 exact⟨rfl,rfl⟩⟩
theorem nOpen (h:NoT w p):Calls Tryz.prog 29 #[.pointer p] w fun e w'=>e=.returned (.tuple #[.pointer none,.int .i64 11])/\w'=w:=by
 have C0:Hid (Calls Tryz.prog 28 #[.pointer p] w fun e w'=>e=.returned (.bool false)/\w'=w):=h.m
 clear h
 go_enter Tryz.func29,Tryz.ntmps29
 go_wp2_with (go_at_call 28;refine C0.out.mono ?_;rintro e w1 ⟨rfl,rfl⟩)
 go_ret2
 exact⟨rfl,rfl⟩
theorem nMark (h:NoT w p) (n:Int):Calls Tryz.prog 9 #[.pointer p,.int .i64 n] w fun e w'=>e=.returned (.tuple #[])/\w'=w:=by
 have C0:Hid (Calls Tryz.prog 28 #[.pointer p] w fun e w'=>e=.returned (.bool false)/\w'=w):=h.m
 clear h
 go_enter Tryz.func9,Tryz.ntmps9
 go_wp2_with (go_at_call 28;refine C0.out.mono ?_;rintro e w1 ⟨rfl,rfl⟩)
 go_end0
 exact⟨rfl,rfl⟩
theorem nPlace (h:NoT w p) (key:ByteArray) (n:Int):Calls Tryz.prog 11 #[.pointer p,.string key,.int .i64 n] w fun e w'=>e=.returned (.tuple #[.int .i64 0,.int .i64 11])/\w'=w:=by
 have C0:Hid (Calls Tryz.prog 28 #[.pointer p] w fun e w'=>e=.returned (.bool false)/\w'=w):=h.m
 clear h
 go_enter Tryz.func11,Tryz.ntmps11
 go_wp2_with (go_at_call 28;refine C0.out.mono ?_;rintro e w1 ⟨rfl,rfl⟩)
 go_ret2
 exact⟨rfl,rfl⟩
theorem nCreate (h:NoT w p):Calls Tryz.prog 6 #[.pointer p] w fun e w'=>e=.returned (.int .i64 11)/\w'=w:=by
 have C0:Hid (Calls Tryz.prog 28 #[.pointer p] w fun e w'=>e=.returned (.bool false)/\w'=w):=h.m
 clear h
 go_enter Tryz.func6,Tryz.ntmps6
 go_wp2_with (go_at_call 28;refine C0.out.mono ?_;rintro e w1 ⟨rfl,rfl⟩)
 go_ret
 exact⟨rfl,rfl⟩
theorem nCover (h:NoT w p) (n:Int):Calls Tryz.prog 8 #[.pointer p,.int .i64 n] w fun e w'=>e=.returned (.int .i64 11)/\w'=w:=by
 have C0:Hid (Calls Tryz.prog 28 #[.pointer p] w fun e w'=>e=.returned (.bool false)/\w'=w):=h.m
 clear h
 go_enter Tryz.func8,Tryz.ntmps8
 go_wp2_with (go_at_call 28;refine C0.out.mono ?_;rintro e w1 ⟨rfl,rfl⟩)
 go_ret
 exact⟨rfl,rfl⟩
theorem nBorn (h:NoT w p):Calls Tryz.prog 18 #[.pointer p] w fun e w'=>e=.returned (.bool false)/\w'=w:=by
 have C0:Hid (Calls Tryz.prog 29 #[.pointer p] w fun e w'=>e=.returned (.tuple #[.pointer none,.int .i64 11])/\w'=w):=nOpen h
 clear h
 go_enter Tryz.func18,Tryz.ntmps18
 go_wp2_with (go_at_call 29;refine C0.out.mono ?_;rintro e w1 ⟨rfl,rfl⟩)
 go_ret
 exact⟨rfl,rfl⟩
theorem nCheck (h:NoT w p):Calls Tryz.prog 19 #[.pointer p] w fun e w'=>e=.returned (.bool false)/\w'=w:=by
 have C0:Hid (Calls Tryz.prog 29 #[.pointer p] w fun e w'=>e=.returned (.tuple #[.pointer none,.int .i64 11])/\w'=w):=nOpen h
 clear h
 go_enter Tryz.func19,Tryz.ntmps19
 go_wp2_with (go_at_call 29;refine C0.out.mono ?_;rintro e w1 ⟨rfl,rfl⟩)
 go_ret
 exact⟨rfl,rfl⟩
theorem nFree (h:NoT w p):Calls Tryz.prog 21 #[.pointer p] w fun e w'=>e=.returned (.int .i64 0)/\w'=w:=by
 have C0:Hid (Calls Tryz.prog 29 #[.pointer p] w fun e w'=>e=.returned (.tuple #[.pointer none,.int .i64 11])/\w'=w):=nOpen h
 clear h
 go_enter Tryz.func21,Tryz.ntmps21
 go_wp2_with (go_at_call 29;refine C0.out.mono ?_;rintro e w1 ⟨rfl,rfl⟩)
 go_ret
 exact⟨rfl,rfl⟩
theorem nHeight (h:NoT w p):Calls Tryz.prog 22 #[.pointer p] w fun e w'=>e=.returned (.int .i64 0)/\w'=w:=by
 have C0:Hid (Calls Tryz.prog 29 #[.pointer p] w fun e w'=>e=.returned (.tuple #[.pointer none,.int .i64 11])/\w'=w):=nOpen h
 clear h
 go_enter Tryz.func22,Tryz.ntmps22
 go_wp2_with (go_at_call 29;refine C0.out.mono ?_;rintro e w1 ⟨rfl,rfl⟩)
 go_ret
 exact⟨rfl,rfl⟩
theorem nTidy (h:NoT w p) (key:ByteArray):Calls Tryz.prog 17 #[.pointer p,.string key] w fun e w'=>e=.returned (.int .i64 11)/\w'=w:=by
 have C0:Hid (Calls Tryz.prog 29 #[.pointer p] w fun e w'=>e=.returned (.tuple #[.pointer none,.int .i64 11])/\w'=w):=nOpen h
 clear h
 go_enter Tryz.func17,Tryz.ntmps17
 go_wp2_with (go_at_call 29;refine C0.out.mono ?_;rintro e w1 ⟨rfl,rfl⟩)
 go_ret
 exact⟨rfl,rfl⟩
theorem nScan (h:NoT w p) (lo hi:ByteArray) (n:Int):Calls Tryz.prog 15 #[.pointer p,.string lo,.string hi,.int .i64 n] w fun e w'=>e=.returned (.tuple #[.slice none 0 0,.int .i64 11])/\w'=w:=by
 have C0:Hid (Calls Tryz.prog 29 #[.pointer p] w fun e w'=>e=.returned (.tuple #[.pointer none,.int .i64 11])/\w'=w):=nOpen h
 clear h
 go_enter Tryz.func15,Tryz.ntmps15
 go_wp2_with (go_at_call 29;refine C0.out.mono ?_;rintro e w1 ⟨rfl,rfl⟩)
 go_ret2
 exact⟨rfl,rfl⟩
theorem nRedo (h:NoT w p):Calls Tryz.prog 20 #[.pointer p] w fun e w'=>e=.returned (.int .i64 0)/\w'=w:=by
 have C0:Hid (Calls Tryz.prog 28 #[.pointer p] w fun e w'=>e=.returned (.bool false)/\w'=w):=h.m
 clear h
 go_enter Tryz.func20,Tryz.ntmps20
 go_wp2_with (go_at_call 28;refine C0.out.mono ?_;rintro e w1 ⟨rfl,rfl⟩)
 go_ret
 exact⟨rfl,rfl⟩
theorem New_noP (w:World) (q:Option Addr):Calls Tryz.prog 23 #[.pointer none,.pointer q] w fun e w'=>e=.returned (.pointer none)/\w'=w:=by
 go_enter Tryz.func23,Tryz.ntmps23
 go_wp2
 all_goals go_ret
 all_goals exact⟨rfl,rfl⟩
theorem New_noL (w:World) (b:Nat):Calls Tryz.prog 23 #[.pointer (some ⟨b,0,none⟩),.pointer none] w fun e w'=>e=.returned (.pointer none)/\w'=w:=by
 go_enter Tryz.func23,Tryz.ntmps23
 go_wp2
 all_goals go_ret
 all_goals exact⟨rfl,rfl⟩
end
section
variable {w:World}{p:Option Addr}
structure NoL (w:World) (p:Option Addr):Prop where
 b:∀ w',Below w.heap.size w w'->NoT w' p
theorem noL_nil (w:World):NoL w none:=⟨fun w' _=>noT_nil w'⟩
theorem noL_zero {b:Nat} (h:w.cell? ⟨b,0,none⟩=some (.pointer none)) (hb:b<w.heap.size):NoL w (some ⟨b,0,none⟩):=⟨fun w' k=>noT_zero ((Below.cell k hb).trans h)⟩
theorem NoL.t (h:NoL w p):NoT w p:=h.b w (Below.refl _ _)
theorem nChange (hb:NoL w p) (a b c:Int) (ck cv:ByteArray):Calls Tryz.prog 12 #[.pointer p,.int .i64 a,.int .i64 b,.int .i64 c,.agg #[.string ck,.string cv]] w fun e w'=>e=.returned (.int .i64 11)/\Below w.heap.size w w':=by
 have C0:Hid (∀ wx,Below w.heap.size w wx->Calls Tryz.prog 28 #[.pointer p] wx fun e w'=>e=.returned (.bool false)/\w'=wx):=fun wx h1=>(hb.b wx h1).m
 clear hb
 go_enter Tryz.func12,Tryz.ntmps12
 go_wp2_with (go_at_call 28;refine(C0.out _ ((Below.refl _ _).alloc (Nat.le_refl _) _)).mono ?_;rintro e w1 ⟨rfl,rfl⟩)
 all_goals go_ret
 all_goals exact⟨rfl,(Below.refl _ _).alloc (Nat.le_refl _) _⟩
theorem nleaf (hb:NoL w p) (key:ByteArray):Calls Tryz.prog 45 #[.pointer p,.string key] w fun e w'=>e=.returned (.tuple #[.agg zN.A,.int .i64 11])/\Below w.heap.size w w':=by
 have CO:Hid (∀ wx,Below w.heap.size w wx->Calls Tryz.prog 29 #[.pointer p] wx fun e w'=>e=.returned (.tuple #[.pointer none,.int .i64 11])/\w'=wx):=fun wx h1=>nOpen (hb.b wx h1)
 clear hb
 go_enter Tryz.func45,Tryz.ntmps45
 go_wp2_with (first
  | (refine wpList_new_nd _ rfl rfl ?_;intro w1 b1 N1)
  | (go_at_call 29;refine(CO.out _ N1.below).mono ?_;rintro e w2 ⟨rfl,rfl⟩;have n13:=N1.nd)
  | (refine wpList_put_nd (s':=zN) _ rfl (.tmp 4) (.tmp 16) rfl rfl rfl n13 rfl ?_;intro w4 P4))
 all_goals refine bodyPost_ret (results_nd2 rfl _ _ rfl P4.nd) rfl ?_
 all_goals exact⟨rfl,N1.below.trans (P4.below (by rw[N1.eq];exact Nat.le_refl _) N1.below.size)⟩
theorem nLeaf (hb:NoL w p) (key:ByteArray):Calls Tryz.prog 16 #[.pointer p,.string key] w fun e w'=>e=.returned (.tuple #[.int .i64 0,.int .i64 11])/\Below w.heap.size w w':=by
 have CO:Hid (Calls Tryz.prog 45 #[.pointer p,.string key] w fun e w'=>e=.returned (.tuple #[.agg zN.A,.int .i64 11])/\Below w.heap.size w w'):=nleaf hb key
 clear hb
 go_enter Tryz.func16,Tryz.ntmps16
 go_wp2_with (first
  | (go_at_call 45;refine CO.out.mono ?_;rintro e w2 ⟨rfl,K2⟩)
  | (refine wpList_new_nd _ rfl rfl ?_;intro w1 b1 N1;have n13:=N1.nd)
  | (refine wpList_put_nd (s':=zN) _ rfl (.tmp 6) (.tmp 12) rfl rfl rfl n13 rfl ?_;intro w4 P4;have d0:=P4.nd.c0;have df:=P4.nd.f 0))
 all_goals go_ret2
 all_goals exact⟨rfl,(K2.trans (N1.below.mono K2.size)).trans (P4.below (by rw[N1.eq];exact K2.size) (Nat.le_trans K2.size N1.below.size))⟩
theorem nGet (hb:NoL w p) (key:ByteArray):Calls Tryz.prog 14 #[.pointer p,.string key] w fun e w'=>e=.returned (.tuple #[.string eb,.bool false,.int .i64 11])/\Below w.heap.size w w':=by
 have CO:Hid (Calls Tryz.prog 45 #[.pointer p,.string key] w fun e w'=>e=.returned (.tuple #[.agg zN.A,.int .i64 11])/\Below w.heap.size w w'):=nleaf hb key
 clear hb
 go_enter Tryz.func14,Tryz.ntmps14
 go_wp2_with (first
  | (go_at_call 45;refine CO.out.mono ?_;rintro e w2 ⟨rfl,K2⟩)
  | (refine wpList_new_nd _ rfl rfl ?_;intro w1 b1 N1;have n13:=N1.nd)
  | (refine wpList_put_nd (s':=zN) _ rfl (.tmp 7) (.tmp 15) rfl rfl rfl n13 rfl ?_;intro w4 P4))
 all_goals go_ret3
 all_goals exact⟨rfl,(K2.trans (N1.below.mono K2.size)).trans (P4.below (by rw[N1.eq];exact K2.size) (Nat.le_trans K2.size N1.below.size))⟩
theorem New_ok (w:World) (b l:Nat):Calls Tryz.prog 23 #[.pointer (some ⟨b,0,none⟩),.pointer (some ⟨l,0,none⟩)] w fun e w'=>e=.returned (.pointer (some ⟨w.heap.size+1,0,none⟩))/\Below w.heap.size w w'/\MiIs w' w.heap.size 0 (fun _=>none)/\w'.heap[w.heap.size+1]?=some (.cells #[.pointer (some ⟨b,0,none⟩),.pointer (some ⟨l,0,none⟩),.int .i64 0,.map (some w.heap.size),.slice none 0 0] 53):=by
 have hmm:=@run_makeMap Tryz.prog
 have hm:MiIs (w.alloc (.map #[] 0)) w.heap.size 0 (fun _=>none):=MiIs.made w
 go_enter Tryz.func23,Tryz.ntmps23
 go_wp2
 go_ret
 have z1:(w.alloc (.map #[] 0)).heap.size=w.heap.size+1:=by simp
 refine⟨rfl,((Below.refl _ _).alloc (Nat.le_refl _) _).alloc (by omega) _,hm.of_block (Below.heap_alloc _ _ _ (by omega)),?_⟩
 rw[← z1]
 exact(MapKept.heap_alloc _ _).1
theorem Pe.tree {W:Nat->Prop} {X:Ad} {k:Nat} {C:Cf} {st:Nat->Option Nat} (h:Pe W w X k C st (fun _=>0)) (hp:C.ps<=200):Calls Tryz.prog 23 #[.pointer (some ⟨X.pb,0,none⟩),.pointer (some ⟨X.l,0,none⟩)] w fun e w'=>e=.returned (.pointer (some ⟨w.heap.size+1,0,none⟩))/\∃ W',Tt W' w' (w.heap.size+1) X k C st 0 (fun _=>none)/\Fr W W' w w':=by
 refine(New_ok w X.pb X.l).mono ?_
 rintro e w' ⟨rfl,hb,hm,ht⟩
 have hz:w.heap.size+1<w'.heap.size:=lt_of_some ht
 refine⟨rfl,fun j=>W j∨j=w.heap.size+1∨j=w.heap.size,⟨W,w.heap.size,0,⟨h.below hb,ht,hm,fun e=>?_,fun e=>?_,by omega,Nat.zero_le _,hp⟩,fun j=>Iff.rfl⟩,?_⟩
 ·have:=h.lt e;omega
 ·have:=h.lt e;omega
 ·exact⟨hb.os,hb.tape,hb.output,hb.size,fun j hj _=>hb.block j hj,fun j hj=>by
  rcases hj with e |e |e
  ·exact Or.inl e
  ·exact Or.inr (by omega)
  ·exact Or.inr (by omega)⟩
end
end Go.Proofs.YtpcnjncgilmehabGreat.Tr
