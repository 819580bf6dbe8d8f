import Derived.Test.YtpcnjncgilmehabGreatMbe
import Derived.Test.YtpcnjncgilmehabGreatMbh
set_option linter.unusedVariables false
set_option linter.unusedSimpArgs false
set_option maxRecDepth 100000
namespace Go.Proofs.YtpcnjncgilmehabGreat.Tr
open Go.RowKit Go.Maps Go.ChangeMaps
def lfN (V:Nat->ByteArray) (k:ByteArray):Nat->Nat->ByteArray->ByteArray->Nd
 | 0,id,lo,hi=>nodeOf id (V id) lo hi
 | l+1,id,lo,hi=>lfN V k l (pgOf ((cs (V id)).getD (tow (cs (V id)) k) ⟨eb,eb⟩)) (bLo (cs (V id)) lo (tow (cs (V id)) k)) (bHi (cs (V id)) hi (tow (cs (V id)) k))
theorem way_last (V:Nat->ByteArray) (k:ByteArray):∀ (l id:Nat) (lo hi:ByteArray),(way V k l id lo hi)[l]?=some (lfN V k l id lo hi)
 | 0,_,_,_=>rfl
 | l+1,id,lo,hi=>by simp only[way,lfN,List.getElem?_cons_succ];exact way_last V k l _ _ _
theorem lfN_ok {V:Nat->ByteArray} {us:List UInt8} {ps:Nat} (k:ByteArray):∀ {l id:Nat} {lo hi:ByteArray},Ok V us ps l id lo hi->∃ i lo' hi',lfN V k l id lo hi=nodeOf i (V i) lo' hi'/\Ok V us ps 0 i lo' hi'
 | 0,id,lo,hi,h=>⟨id,lo,hi,rfl,h⟩
 | l+1,id,lo,hi,h=>by
  have hne:cs (V id)≠[]:=by
   rcases h.1.good.kind with q |q
   ·have:=h.2.1;omega
   ·exact q.2.2.1
  have ht:=tow_lt (k:=k) hne
  have h2:=h.2.2 _ ht
  simp only[lfN]
  rw[show(cs (V id)).getD (tow (cs (V id)) k) ⟨eb,eb⟩=(cs (V id))[tow (cs (V id)) k] by simp[ht]]
  exact lfN_ok k h2
theorem bv_nil (C:Cf) (st:Nat->Option Nat):bv C st []=Vw C st:=by
 funext id
 unfold bv
 rw[if_neg]
 simp[inn]
structure Tre (C:Cf) (st:Nat->Option Nat) (rt:Nat) (us:List UInt8) (L:Nat):Prop where
 hd:Vw C st 0=hdT rt us
 ul:us.length=222
 rl:rt<65536
 ll:L<256
 p0:0<C.ps
 ok:Ok (Vw C st) us C.ps L rt eb eb
section
variable {W W':Nat->Prop}{w w':World}{bb tb:Nat}{X:Ad}{k:Nat}{C:Cf}{st:Nat->Option Nat}{mk:Int}{wh:Nat->Option Nat}{rt L:Nat}{us:List UInt8}
theorem Bu.way_nil (h:Bu W w bb tb X k C st mk wh ⟨rt,us,[]⟩) (hk:k<=250000000000) (hT:Tre C st rt us L) (key:ByteArray) :
  Calls Tryz.prog 47 #[.pointer (some ⟨bb,0,none⟩),.string key] w fun e w'=>∃ v,e=.returned (.tuple #[v,.int .i64 0])/\∃ W',Bu W' w' bb tb X (k+8006*(L+1)) C st mk wh ⟨rt,us,[]⟩/\Fr W W' w w'/\Nds (fun j=>W' j∨j<w.heap.size) w' v (Tr.way (Vw C st) key L rt eb eb):=by
 have:=h.way hk L hT.ll (by show Ok (bv C st []) us C.ps L rt eb eb;rw[bv_nil];exact hT.ok) key
 show Calls _ _ _ _ _
 have e:bv C st (⟨rt,us,[]⟩:Bm).im=Vw C st:=bv_nil C st
 rw[e] at this
 exact this
set_option maxHeartbeats 1000000 in
theorem Tt.leaf (h:Tt W w tb X k C st mk wh) (hk:k<=240000000000) (hT:Tre C st rt us L) (key:ByteArray):Calls Tryz.prog 45 #[.pointer (some ⟨tb,0,none⟩),.string key] w fun e w'=>∃ n W',e=.returned (.tuple #[.agg n.A,.int .i64 0])/\Tt W' w' tb X (k+8006*(L+2)) C st mk wh/\Fr W W' w w'/\NdV W' w' n (lfN (Vw C st) key L rt eb eb):=by
 have CO:Hid (∀ wx,Below w.heap.size w wx->Calls Tryz.prog 29 #[.pointer (some ⟨tb,0,none⟩)] wx fun e w'=>∃ bb,e=.returned (.tuple #[.pointer (some ⟨bb,0,none⟩),.int .i64 0])/\∃ W',Bu W' w' bb tb X (k+8006) C st mk wh ⟨rt,us,[]⟩/\Fr W W' wx w'):=fun wx hb=>(h.below hb).open_ (by omega) hT.p0 rt us hT.ul hT.rl hT.hd
 have CW:Hid (∀ W2 wx bb,Bu W2 wx bb tb X (k+8006) C st mk wh ⟨rt,us,[]⟩->Calls Tryz.prog 47 #[.pointer (some ⟨bb,0,none⟩),.string key] wx fun e w'=>∃ v,e=.returned (.tuple #[v,.int .i64 0])/\∃ W',Bu W' w' bb tb X (k+8006+8006*(L+1)) C st mk wh ⟨rt,us,[]⟩/\Fr W2 W' wx w'/\Nds (fun j=>W' j∨j<wx.heap.size) w' v (Tr.way (Vw C st) key L rt eb eb)):=fun W2 wx bb hb=>hb.way_nil (by omega) hT key
 have hln:=way_length (Vw C st) key L rt eb eb
 have hla:=way_last (Vw C st) key L rt eb eb
 have HLT:Hid (∀ j,W j->j<w.heap.size):=fun j hj=>h.lt hj
 have hLL:=hT.ll
 clear h hT
 generalize Tr.way (Vw C st) key L rt eb eb=ns at *
 generalize hlf:lfN (Vw C st) key L rt eb eb=lf at *
 have hNL:Hid (ns[L]?=some lf):=hla
 have hLn:Hid (ns.length=L+1):=hln
 clear hln hla hlf
 go_enter Tryz.func45,Tryz.ntmps45
 go_wp2_with (first
  | (refine wpList_new_nd _ rfl rfl ?_;intro w1 b1 N1)
  | (go_at_call 29;refine(CO.out _ N1.below).mono ?_;rintro e w2 ⟨bb2,rfl,W2,B2,F2⟩)
  | (go_at_call 47;refine(CW.out _ _ _ B2).mono ?_;rintro e w3 ⟨v3,rfl,W3,B3,F3,D3⟩;obtain⟨a3,c3,hv3,hn3,hs3⟩:=D3.slice;subst hv3;obtain⟨g3,e3,hag,hwg,hra,hnv⟩:=D3.at_ (i:=L) (by rw[hLn.out];omega);subst hag;have hl3:(ns.length:Int)-1=(L:Int):=(by rw[hLn.out];omega);have hl4:(L:Int)<(ns.length:Int):=(by rw[hLn.out];omega);have hl5:ns.length=L+1:=hLn.out;have HRA:Hid (w3.rangeAt g3 (L*7) e3.A.toList):=hra;have HNV:Hid (NdV (fun j=>W3 j∨j<w2.heap.size) w3 e3 (ns[L]'(by rw[hLn.out];omega))):=hnv;have n13:NdAt w3 b1 zN:=(N1.nd.of_block (F2.blk _ N1.nd.lt (fun e=>by have h1:=HLT.out _ e;have h2:=N1.eq;omega))).of_block (F3.blk _ (Nat.lt_of_lt_of_le N1.nd.lt F2.size) (F2.not N1.nd.lt (fun e=>by have h1:=HLT.out _ e;have h2:=N1.eq;omega)));have hq3:=hnv.sl.one;clear hra hnv hn3 hs3 D3)
  | (refine wpList_load_ndm (n:=e3) _ rfl (.tmp 32) rfl rfl HRA.out ?_)
  | (refine wpList_put_nd (s':=e3) _ rfl (.tmp 4) (.tmp 33) rfl rfl rfl n13 hq3 ?_;intro w4 P4))
 refine bodyPost_ret (results_nd2 rfl _ _ rfl P4.nd) rfl ?_
 obtain⟨Wt,T3,hsub⟩:=B3.tree
 have e1:=N1.eq
 have z1:=N1.below.size
 have l1:=N1.nd.lt
 have z2:=F2.size
 have hn1:¬ W b1:=fun e=>by have:=HLT.out _ e;omega
 have hn2:¬ W2 b1:=F2.not l1 hn1
 have hn3:¬ W3 b1:=F3.not (by omega) hn2
 have hlf:ns[L]'(by rw[hLn.out];omega)=lf:=by
  have:=hNL.out
  rw[List.getElem?_eq_getElem (by rw[hLn.out];omega)] at this
  exact Option.some.inj this
 have hv:=HNV.out
 rw[hlf] at hv
 refine⟨e3,Wt,rfl,?_,?_,?_⟩
 ·have:k+8006+8006*(L+1)=k+8006*(L+2):=by omega
  rw[this] at T3
  exact T3.turn (fun j hj=>P4.off.block j (T3.lt hj) (fun e=>by subst e;exact hn3 (hsub _ hj))) P4.off.size
 ·exact(((((Fr.of_below N1.below W).trans F2).trans F3).shrink hsub).off P4.off (by omega))
 ·exact hv.keep (fun j hj hu=>P4.off.block j hj (fun e=>hu (Or.inr (by omega)))) (fun j hj hu e=>hu (Or.inl (hsub _ e))) P4.off.size
end
def gtV (L:List Cl) (k:ByteArray):ByteArray × Bool:=if Pg.isAt L k then((L.getD (Pg.plc L k) ⟨eb,eb⟩).v,true) else(eb,false)
section
variable {W W':Nat->Prop}{w w':World}{tb:Nat}{X:Ad}{k:Nat}{C:Cf}{st:Nat->Option Nat}{mk:Int}{wh:Nat->Option Nat}{rt L:Nat}{us:List UInt8}
set_option maxHeartbeats 1000000 in
theorem Tt.get (h:Tt W w tb X k C st mk wh) (hk:k<=240000000000) (hT:Tre C st rt us L) (key:ByteArray):Calls Tryz.prog 14 #[.pointer (some ⟨tb,0,none⟩),.string key] w fun e w'=>e=.returned (.tuple #[.string (gtV (lfN (Vw C st) key L rt eb eb).cl key).1,.bool (gtV (lfN (Vw C st) key L rt eb eb).cl key).2,.int .i64 0])/\∃ W',Tt W' w' tb X (k+8006*(L+2)) C st mk wh/\Fr W W' w w':=by
 have CL:Hid (Calls Tryz.prog 45 #[.pointer (some ⟨tb,0,none⟩),.string key] w fun e w'=>∃ n W',e=.returned (.tuple #[.agg n.A,.int .i64 0])/\Tt W' w' tb X (k+8006*(L+2)) C st mk wh/\Fr W W' w w'/\NdV W' w' n (lfN (Vw C st) key L rt eb eb)):=h.leaf hk hT key
 obtain⟨i,lo,hi,e1,o1⟩:=lfN_ok key hT.ok
 rw[e1] at CL ⊢
 have hR:=o1.1.good.right
 have CF:Hid (∀ wx,Calls Tryz.prog 46 #[.string (Vw C st i),.string key] wx fun e w'=>e=.returned (.tuple #[.int .i64 (Pg.plc (cs (Vw C st i)) key:Nat),.bool (Pg.isAt (cs (Vw C st i)) key)])/\Below wx.heap.size wx w'):=fun wx=>Pg.Find_right wx _ key hR
 have hl1:=Right.l1000 hR
 have hcl:(nodeOf i (Vw C st i) lo hi).cl=cs (Vw C st i):=rfl
 rw[hcl]
 clear hT e1 o1 h hcl hR
 unfold gtV
 cases ha:Pg.isAt (cs (Vw C st i)) key with
 | true =>
  have hp:Pg.plc (cs (Vw C st i)) key<(cs (Vw C st i)).length:=by
   unfold Pg.isAt at ha
   rcases Nat.lt_or_ge (Pg.plc (cs (Vw C st i)) key) (cs (Vw C st i)).length with h |h
   ·exact h
   ·rw[List.getElem?_eq_none h] at ha;cases ha
  have hpI:((Pg.plc (cs (Vw C st i)) key:Nat):Int)<((cs (Vw C st i)).length:Int):=by omega
  rw[ha] at CF
  rw[if_pos rfl,show(cs (Vw C st i)).getD (Pg.plc (cs (Vw C st i)) key) ⟨eb,eb⟩=(cs (Vw C st i))[Pg.plc (cs (Vw C st i)) key] by simp[hp]]
  dsimp only
  go_enter Tryz.func14,Tryz.ntmps14
  go_wp2_with (first
   | (go_at_call 45;refine CL.out.mono ?_;rintro e w1 ⟨n1,W1,rfl,T1,F1,V1⟩;have hq:=V1.sl.one)
   | (refine wpList_new_nd _ rfl rfl ?_;intro w2 b2 N2)
   | (refine wpList_put_nd (s':=n1) _ rfl (.tmp 7) (.tmp 15) rfl rfl rfl N2.nd hq ?_;intro w3 P3;have hb3:Below w1.heap.size w1 w3:=N2.below.trans (P3.off.below (by have:=N2.eq;omega) N2.below.size);have d1:w3.cell? ⟨b2,1,none⟩=some (.string (Vw C st i)):=(by have:=P3.nd.c1;rw[V1.tx] at this;exact this);obtain⟨a1,c1,hs1,hsl,_⟩:=(V1.below hb3).sl.ex)
   | (go_at_call 46;refine(CF.out _).mono ?_;rintro e w4 ⟨rfl,b4⟩;obtain⟨bk,off,hae,hbk,k0,k1⟩:=hsl.cs.at' b4 hp;subst hae;have d3:w4.cell? ⟨b2,3,none⟩=some (.slice (some ⟨bk,off,none⟩) (cs (Vw C st i)).length c1):=(by have:=(P3.nd.below b4).c3;rw[hs1] at this;exact this)))
  refine bodyPost_ret (results_tmp3 rfl _ _ _) rfl ?_
  exact⟨rfl,W1,T1.below (thn hb3 b4),F1.below (thn hb3 b4)⟩
 | false =>
  rw[ha] at CF
  rw[if_neg (by simp)]
  dsimp only
  go_enter Tryz.func14,Tryz.ntmps14
  go_wp2_with (first
   | (go_at_call 45;refine CL.out.mono ?_;rintro e w1 ⟨n1,W1,rfl,T1,F1,V1⟩;have hq:=V1.sl.one)
   | (refine wpList_new_nd _ rfl rfl ?_;intro w2 b2 N2)
   | (refine wpList_put_nd (s':=n1) _ rfl (.tmp 7) (.tmp 15) rfl rfl rfl N2.nd hq ?_;intro w3 P3;have hb3:Below w1.heap.size w1 w3:=N2.below.trans (P3.off.below (by have:=N2.eq;omega) N2.below.size);have d1:w3.cell? ⟨b2,1,none⟩=some (.string (Vw C st i)):=(by have:=P3.nd.c1;rw[V1.tx] at this;exact this))
   | (go_at_call 46;refine(CF.out _).mono ?_;rintro e w4 ⟨rfl,b4⟩))
  refine bodyPost_ret (results_tmp3 rfl _ _ _) rfl ?_
  exact⟨rfl,W1,T1.below (thn hb3 b4),F1.below (thn hb3 b4)⟩
end
section
variable {W W':Nat->Prop}{w w':World}{bb tb:Nat}{X:Ad}{k:Nat}{C:Cf}{st:Nat->Option Nat}{mk:Int}{wh:Nat->Option Nat}{rt L:Nat}{us:List UInt8}
set_option maxHeartbeats 1000000 in
theorem Tt.height (h:Tt W w tb X k C st mk wh) (hk:k<=240000000000) (hT:Tre C st rt us L):Calls Tryz.prog 22 #[.pointer (some ⟨tb,0,none⟩)] w fun e w'=>e=.returned (.int .i64 ((L+1:Nat):Int))/\∃ W',Tt W' w' tb X (k+8006*(L+2)) C st mk wh/\Fr W W' w w':=by
 have CO:Hid (Calls Tryz.prog 29 #[.pointer (some ⟨tb,0,none⟩)] w fun e w'=>∃ bb,e=.returned (.tuple #[.pointer (some ⟨bb,0,none⟩),.int .i64 0])/\∃ W',Bu W' w' bb tb X (k+8006) C st mk wh ⟨rt,us,[]⟩/\Fr W W' w w'):=h.open_ (by omega) hT.p0 rt us hT.ul hT.rl hT.hd
 have CW:Hid (∀ W2 wx bb,Bu W2 wx bb tb X (k+8006) C st mk wh ⟨rt,us,[]⟩->Calls Tryz.prog 47 #[.pointer (some ⟨bb,0,none⟩),.string eb] wx fun e w'=>∃ v,e=.returned (.tuple #[v,.int .i64 0])/\∃ W',Bu W' w' bb tb X (k+8006+8006*(L+1)) C st mk wh ⟨rt,us,[]⟩/\Fr W2 W' wx w'/\Nds (fun j=>W' j∨j<wx.heap.size) w' v (Tr.way (Vw C st) eb L rt eb eb)):=fun W2 wx bb hb=>hb.way_nil (by omega) hT eb
 have hln:Hid ((Tr.way (Vw C st) eb L rt eb eb).length=L+1):=way_length (Vw C st) eb L rt eb eb
 clear h hT
 generalize Tr.way (Vw C st) eb L rt eb eb=ns at *
 go_enter Tryz.func22,Tryz.ntmps22
 go_wp2_with (first
  | (go_at_call 29;refine CO.out.mono ?_;rintro e w2 ⟨bb2,rfl,W2,B2,F2⟩)
  | (go_at_call 47;refine(CW.out _ _ _ B2).mono ?_;rintro e w3 ⟨v3,rfl,W3,B3,F3,D3⟩;obtain⟨a3,c3,hv3,hn3,hs3⟩:=D3.slice;subst hv3))
 go_ret
 obtain⟨Wt,T3,hsub⟩:=B3.tree
 refine⟨by rw[← hln.out];rfl,Wt,?_,(F2.trans F3).shrink hsub⟩
 have:k+8006+8006*(L+1)=k+8006*(L+2):=by omega
 rw[this] at T3
 exact T3
theorem Tt.open_none (h:Tt W w tb X k C st mk wh) (hk:k<=270000000000) (hp:0<C.ps) (hv:Vw C st 0=eb):Calls Tryz.prog 29 #[.pointer (some ⟨tb,0,none⟩)] w fun e w'=>e=.returned (.tuple #[.pointer none,.int .i64 8])/\∃ W',Tt W' w' tb X (k+8006) C st mk wh/\Fr W W' w w':=by
 obtain⟨W0,mb,m,h0⟩:=h.t0
 have CM:Hid (Calls Tryz.prog 28 #[.pointer (some ⟨tb,0,none⟩)] w fun e w'=>e=.returned (.bool true)/\w'=w):=isMade_tt h0
 have CP:Hid (Calls Tryz.prog 59 #[.pointer (some ⟨tb,0,none⟩),.int .i64 0] w fun e w'=>e=.returned (.tuple #[.string eb,.int .i64 0])/\∃ W',Tt W' w' tb X (k+8006) C st mk wh/\Fr W W' w w'):=by
  have:=h.page (by omega) 0 hp
  rw[hv] at this
  exact this
 clear h h0 hv
 go_enter Tryz.func29,Tryz.ntmps29
 go_wp2_with (first
  | (go_at_call 28;refine CM.out.mono ?_;rintro e w1 ⟨rfl,rfl⟩)
  | (go_at_call 59;refine CP.out.mono ?_;rintro e w2 ⟨rfl,W2,T2,F2⟩))
 go_ret2
 exact⟨rfl,W2,T2,F2⟩
theorem Tt.born (h:Tt W w tb X k C st mk wh) (hk:k<=270000000000) (hp:0<C.ps) (hv:Vw C st 0=eb):Calls Tryz.prog 18 #[.pointer (some ⟨tb,0,none⟩)] w fun e w'=>e=.returned (.bool false)/\∃ W',Tt W' w' tb X (k+8006) C st mk wh/\Fr W W' w w':=by
 have CO:Hid (Calls Tryz.prog 29 #[.pointer (some ⟨tb,0,none⟩)] w fun e w'=>e=.returned (.tuple #[.pointer none,.int .i64 8])/\∃ W',Tt W' w' tb X (k+8006) C st mk wh/\Fr W W' w w'):=h.open_none hk hp hv
 clear h hv
 go_enter Tryz.func18,Tryz.ntmps18
 go_wp2_with (go_at_call 29;refine CO.out.mono ?_;rintro e w2 ⟨rfl,W2,T2,F2⟩)
 go_ret
 exact⟨rfl,W2,T2,F2⟩
end
section
variable {W W':Nat->Prop}{w w' w2:World}{bb tb:Nat}{X:Ad}{k:Nat}{C:Cf}{st:Nat->Option Nat}{mk:Int}{wh:Nat->Option Nat}{b:Bm}{im:Ims}{y:Int}
theorem putI_ne (im:Ims) (id:Nat) (t:ByteArray) (hr:Rise im):putI im id t≠[]:=fun e=>by
 have:(id,t)∈putI im id t:=(putI_mem hr).2 (Or.inl rfl)
 rw[e] at this
 cases this
def imP (b:Bm) (id:Nat):Ims:=putI (putI b.im id (blk 1)) 0 (hdT id (Tr.use b.us id))
set_option maxHeartbeats 2000000 in
theorem Bu.plant (h:Bu W w bb tb X k C st mk wh b) (hk:k<=250000000000) (id:Nat) (hF:Fst b.us C.ps id) (hlo:∀ d,d<C.ps->C.lo d<=nxt C):Calls Tryz.prog 32 #[.pointer (some ⟨bb,0,none⟩)] w fun e w'=>∃ y,e=.returned (.int .i64 y)/\LyO W w w' tb X k C st mk wh (recI 2 (imP b id)) (imP b id) (Ub (imP b id)) y:=by
 have hso:=h.so
 have hp1:=h.p1
 have CT:Hid (Calls Tryz.prog 63 #[.pointer (some ⟨bb,0,none⟩)] w fun e w'=>e=.returned (.tuple #[.int .i64 (id:Int),.int .i64 0])/\Bu W w' bb tb X k C st mk wh {b with us:=Tr.use b.us id}/\Fr W W w w'):=h.take id hF
 have CP:Hid (∀ wx,Bu W wx bb tb X k C st mk wh {b with us:=Tr.use b.us id}->Calls Tryz.prog 64 #[.pointer (some ⟨bb,0,none⟩),.int .i64 (id:Int),.int .i64 1,.int .i64 0,.slice none 0 0] wx fun e w'=>e=.returned (.int .i64 0)/\∃ W',Bu W' w' bb tb X k C st mk wh {b with us:=Tr.use b.us id,im:=putI b.im id (blk 1)}/\Fr W W' wx w'):=fun wx hx=>hx.putCells id 1 0 hF.l (a:=none) (L:=[]) 0 (Pg.Cs.nil _ _) (can_nil 1 (by omega))
 have CL:Hid (∀ wx Wx,Bu Wx wx bb tb X k C st mk wh {b with rt:=id,us:=Tr.use b.us id,im:=putI b.im id (blk 1)}->Calls Tryz.prog 40 #[.pointer (some ⟨bb,0,none⟩)] wx fun e w'=>∃ y,e=.returned (.int .i64 y)/\LyO Wx wx w' tb X k C st mk wh (recI 2 (imP b id)) (imP b id) (Ub (imP b id)) y):=fun wx Wx hx=>hx.lay hk (putI_ne _ _ _ hso) (by have:=hF.l;omega) hlo
 have hid:id<65536:=by have:=hF.l;omega
 clear h hF hlo hso
 generalize imP b id=im' at *
 go_enter Tryz.func32,Tryz.ntmps32
 go_wp2_with (first
  | (go_at_call 63;refine CT.out.mono ?_;rintro e w1 ⟨rfl,u1,f1⟩;have U1:Hid _:=u1;have F1:Hid _:=f1;clear u1 f1)
  | (go_at_call 64;refine(CP.out _ U1.out).mono ?_;rintro e w2 ⟨rfl,W2,u2,f2⟩;have k1:=u2.cells.2.1;have z1:=u2.cells.2.2.1 1;have U3:Hid _:=u2.rooted id hid;have F2:Hid _:=f2;clear u2 f2)
  | (go_at_call 40;refine(CL.out _ W2 U3.out.1).mono ?_;rintro e w4 ⟨y,rfl,hl4⟩;have L4:Hid _:=hl4;clear hl4))
 go_ret
 exact⟨y,rfl,L4.out.pre ((F1.out.trans F2.out).trans U3.out.2)⟩
theorem build_bu (tb:Nat):Tryz.zeroCells78.setIfInBounds 0 (.pointer (some ⟨tb,0,none⟩))=buA tb 0 zus (.slice none 0 0):=by
 apply Array.toList_inj.1
 rw[zero_bu2]
 simp[buA,buL]
theorem fst_zus {ps:Nat} (h:2<=ps):Fst (Tr.use zus 0) ps 1:=⟨by omega,by omega,by rw[uses_use _ _ _ (by rw[zus_length];omega)];kernel_rfl,fun j h1 h2=>by omega⟩
def imC:Ims:=imP ⟨0,Tr.use zus 0,[]⟩ 1
set_option maxHeartbeats 2000000 in
theorem Tt.create (h:Tt W w tb X k C st mk wh) (hk:k<=240000000000) (hv:Vw C st 0=eb) (hps:2<=C.ps) (hlo:∀ d,d<C.ps->C.lo d<=nxt C):Calls Tryz.prog 6 #[.pointer (some ⟨tb,0,none⟩)] w fun e w'=>∃ y,e=.returned (.int .i64 y)/\LyO W w w' tb X (k+8006) C st mk wh (recI 2 imC) imC (Ub imC) y:=by
 have CM:Hid (Calls Tryz.prog 28 #[.pointer (some ⟨tb,0,none⟩)] w fun e w'=>e=.returned (.bool true)/\w'=w):=h.made
 have CO:Hid (Calls Tryz.prog 29 #[.pointer (some ⟨tb,0,none⟩)] w fun e w'=>e=.returned (.tuple #[.pointer none,.int .i64 8])/\∃ W',Tt W' w' tb X (k+8006) C st mk wh/\Fr W W' w w'):=h.open_none (by omega) (by omega) hv
 have CG:Hid (∀ wx Wx,Tt Wx wx tb X (k+8006) C st mk wh->Calls Tryz.prog 30 #[.pointer (some ⟨X.pb,0,none⟩)] wx fun e w'=>e=.returned (.int .i64 (C.ps:Int))/\w'=wx):=fun wx Wx hx=>by
  obtain⟨W0,mb,m,h0,_⟩:=hx.ex
  exact h0.pe.pages
 have CU:Hid (∀ wx Wx,Tt Wx wx tb X (k+8006) C st mk wh->Calls Tryz.prog 31 #[.pointer (some ⟨wx.heap.size,1,none⟩),.int .i64 0] (wx.alloc (.cells (buA tb 0 zus (.slice none 0 0)) 78)) fun e w'=>e=.returned (.tuple #[])/\Bu (fun j=>Wx j∨j=wx.heap.size) w' wx.heap.size tb X (k+8006) C st mk wh ⟨0,Tr.use zus 0,[]⟩/\Fr Wx (fun j=>Wx j∨j=wx.heap.size) wx w'):=fun wx Wx hx=>by
  have hb:=Bu.new hx 0 zus zus_length (by omega)
  refine(hb.use 0 (by omega)).mono ?_
  rintro e w' ⟨he,hu,hf⟩
  exact⟨he,hu,Fr.trans (⟨rfl,rfl,rfl,by simp,fun j hj _=>heap_alloc_old wx _ hj,fun j hj=>hj.imp (fun e=>e) (fun e=>by omega)⟩:Fr Wx (fun j=>Wx j∨j=wx.heap.size) wx (wx.alloc (.cells (buA tb 0 zus (.slice none 0 0)) 78))) hf⟩
 have CL:Hid (∀ wx Wx bb,Bu Wx wx bb tb X (k+8006) C st mk wh ⟨0,Tr.use zus 0,[]⟩->Calls Tryz.prog 32 #[.pointer (some ⟨bb,0,none⟩)] wx fun e w'=>∃ y,e=.returned (.int .i64 y)/\LyO Wx wx w' tb X (k+8006) C st mk wh (recI 2 imC) imC (Ub imC) y):=fun wx Wx bb hx=>hx.plant (by omega) 1 (fst_zus hps) hlo
 have hpI:¬ (C.ps:Int)<2:=by omega
 have hbu:=build_bu tb
 clear h hlo hv
 generalize imC=im' at *
 generalize buA tb 0 zus (.slice none 0 0)=A at *
 go_enter Tryz.func6,Tryz.ntmps6
 go_wp2_with (first
  | (go_at_call 28;refine CM.out.mono ?_;rintro e w1 ⟨rfl,rfl⟩)
  | (go_at_call 29;refine CO.out.mono ?_;rintro e w2 ⟨rfl,W2,t2,f2⟩;have T2:Hid _:=t2;have F2:Hid _:=f2;have c0:=t2.c0;clear t2 f2)
  | (go_at_call 30;refine(CG.out _ _ T2.out).mono ?_;rintro e w3 ⟨rfl,rfl⟩)
  | (go_at_call 31;refine(CU.out _ _ T2.out).mono ?_;rintro e w4 ⟨rfl,u4,f4⟩;have U4:Hid _:=u4;have F4:Hid _:=f4;clear u4 f4)
  | (go_at_call 32;refine(CL.out _ _ _ U4.out).mono ?_;rintro e w5 ⟨y,rfl,hl5⟩;have L5:Hid _:=hl5;clear hl5))
 go_ret
 exact⟨y,rfl,L5.out.pre (F2.out.trans F4.out)⟩
end
end Go.Proofs.YtpcnjncgilmehabGreat.Tr
