import Derived.Test.YtpcnjncgilmehabGreatMbc
import Derived.Test.YtpcnjncgilmehabGreatMbd
set_option linter.unusedVariables false
set_option linter.unusedSimpArgs false
set_option maxRecDepth 100000
namespace Go.Proofs.YtpcnjncgilmehabGreat.Tr
open Go.RowKit Go.Maps Go.ChangeMaps
theorem tow_lt {L:List Cl} {k:ByteArray} (hne:L≠[]):tow L k<L.length:=by
 have h1:=Pg.plc_le L k
 have h2:=List.length_pos_iff.2 hne
 unfold tow
 split
 ·rename_i h
  unfold Pg.isAt at h
  rcases Nat.lt_or_ge (Pg.plc L k) L.length with h3 |h3
  ·exact h3
  ·rw[List.getElem?_eq_none h3] at h;cases h
 ·omega
theorem eb_list:(eb:ByteArray).toList=[]:=by rw[Lib.toList_data]
theorem lt_eb (k:ByteArray) (h:Pg.lt eb k=false):k=eb:=by
 apply Pg.toList_inj
 unfold Pg.lt at h
 rw[eb_list] at h ⊢
 cases hk:k.toList with
 | nil=>rfl
 | cons a l=>rw[hk] at h;simp[Op.bytesLess] at h
theorem plc_pos {L:List Cl} {k:ByteArray} (hne:L≠[]) (h0:(L.getD 0 ⟨eb,eb⟩).k=eb) (ha:Pg.isAt L k=false):0<Pg.plc L k:=by
 rcases Nat.eq_zero_or_pos (Pg.plc L k) with h |h
 ·exfalso
  have hl:0<L.length:=List.length_pos_iff.2 hne
  have h1:Pg.lt (L[Pg.plc L k]'(by omega)).k k=false:=Pg.plc_at (by omega)
  have h2:L[Pg.plc L k]?=some (L[0]):=by rw[h];exact List.getElem?_eq_getElem hl
  have h3:(L[0]).k=eb:=by rw[← h0];simp[hl]
  have h4:(L[Pg.plc L k]'(by omega))=L[0]:=by
   have:=List.getElem?_eq_getElem (show Pg.plc L k<L.length by omega)
   rw[h2] at this
   exact(Option.some.inj this).symm
  rw[h4,h3] at h1
  have hk:=lt_eb k h1
  unfold Pg.isAt at ha
  rw[h2,hk] at ha
  have:((L[0]).k.toList==eb.toList)=false:=ha
  rw[h3] at this
  simp at this
 ·exact h
theorem Right.v32 {t:ByteArray} (h:Pg.Right (Pg.bts t)) {i:Nat} (hi:i<(cs t).length):(cs t)[i].v.size<=32:=h.small.v _ (List.getElem_mem hi)
theorem Right.l1000 {t:ByteArray} (h:Pg.Right (Pg.bts t)):(cs t).length<=1000:=h.small.len
structure Ws (W:Nat->Prop) (w wr:World) (bb tb:Nat) (X:Ad) (k:Nat) (C:Cf) (st:Nat->Option Nat) (mk:Int) (wh:Nat->Option Nat) (b:Bm) (key:ByteArray) (L b7:Nat) (v:Value) (l:Nat):Prop where
 ex:∃ W' ns id lo hi n,Bu W' wr bb tb X (k+8006*(L+1-l)) C st mk wh b/\Nds (fun j=>(W' j∨j<w.heap.size)∨j=b7) wr v ns/\NdAt wr b7 n/\NdV (fun j=>((W' j∨j<w.heap.size)∨j=b7)∨v.ownBlock=some j) wr n (nodeOf id (bv C st b.im id) lo hi)/\Ok (bv C st b.im) b.us C.ps l id lo hi/\ns++way (bv C st b.im) key l id lo hi=way (bv C st b.im) key L b.rt eb eb/\Fr W W' w wr/\¬ W' b7/\ns.length+l=L
 g7:w.heap.size<=b7
 t7:b7<wr.heap.size
 row:∀ g,v.ownBlock=some g->w.heap.size<=g/\g≠b7
def lvAt (b7:Nat) (wr:World):Nat:=(intOf ((wr.cell? ⟨b7,2,none⟩).getD (.int .i64 0))).toNat
section
variable {W W':Nat->Prop}{w w' wr:World}{bb tb:Nat}{X:Ad}{k:Nat}{C:Cf}{st:Nat->Option Nat}{mk:Int}{wh:Nat->Option Nat}{b:Bm}
set_option maxHeartbeats 4000000 in
theorem Bu.way (h:Bu W w bb tb X k C st mk wh b) (hk:k<=250000000000) (L:Nat) (hL:L<256) (hO:Ok (bv C st b.im) b.us C.ps L b.rt eb eb) (key:ByteArray) :
  Calls Tryz.prog 47 #[.pointer (some ⟨bb,0,none⟩),.string key] w fun e w'=>∃ v,e=.returned (.tuple #[v,.int .i64 0])/\∃ W',Bu W' w' bb tb X (k+8006*(L+1)) C st mk wh b/\Fr W W' w w'/\Nds (fun j=>W' j∨j<w.heap.size) w' v (Tr.way (bv C st b.im) key L b.rt eb eb):=by
 have CR:Hid (Calls Tryz.prog 50 #[.pointer (some ⟨bb,0,none⟩)] w fun e w'=>∃ n W',e=.returned (.tuple #[.agg n.A,.int .i64 0])/\Bu W' w' bb tb X (k+8006) C st mk wh b/\Fr W W' w w'/\NdV (fun j=>W' j∨j<w.heap.size) w' n (nodeOf b.rt (bv C st b.im b.rt) eb eb)):=h.root (by omega) L hO.o0
 have HLT:Hid (∀ j,W j->j<w.heap.size):=fun j hj=>h.lt hj
 have HO:Hid (Ok (bv C st b.im) b.us C.ps L b.rt eb eb):=hO
 clear h hO
 go_enter Tryz.func47,Tryz.ntmps47
 go_wp2_with (first
  | (go_at_call 50;refine CR.out.mono ?_;rintro e w1 ⟨n1,W1,rfl,B1,F1,V1⟩;have hq:=V1.sl.one)
  | (refine wpList_new_nd _ rfl rfl ?_;intro w2 b7 N2)
  | (refine wpList_put_nd _ rfl (.tmp 7) (.tmp 12) rfl rfl rfl N2.nd hq ?_;intro w3 P3))
 have e2:=N2.eq
 have z1:=F1.size
 have z2:=N2.below.size
 have l2:=N2.nd.lt
 have hn7:¬ W1 b7:=fun e=>by have:=B1.lt e;omega
 have hS:Ws W w w3 bb tb X k C st mk wh b key L b7 (.slice none 0 0) L:=by
  refine⟨⟨W1,[],b.rt,eb,eb,n1,?_,Nds.nil _ _,P3.nd,?_,HO.out,rfl,((F1.below N2.below).off P3.off (by omega)),hn7,by simp⟩,by omega,?_,fun g e=>by cases e⟩
  ·rw[show L+1-L=1 by omega,Nat.mul_one]
   exact(B1.below N2.below).off P3.off hn7
  ·refine V1.keep (fun j hj hu=>(P3.off.block j (by omega) (by omega)).trans (N2.below.block j hj)) (fun j hj hu hu2=>?_) (Nat.le_trans z2 P3.off.size)
   rcases hu2 with((e |e) |e) |e
   ·exact hu (Or.inl e)
   ·exact hu (Or.inr e)
   ·omega
   ·cases e
  ·have:=P3.off.size;omega
 have HS:Hid (Ws W w w3 bb tb X k C st mk wh b key L b7 (.slice none 0 0) L):=hS
 clear hS HO CR B1 F1 V1 N2 P3 e2 z1 z2 l2 hn7 hq
 go_loopw [6,8] (fun s6 s8 wr=>s8=.int .i64 0/\∃ l,Ws W w wr bb tb X k C st mk wh b key L b7 s6 l) (fun _ _ wr=>lvAt b7 wr)
 case atStart=>exact⟨rfl,L,HS.out⟩
 case round =>
  obtain⟨rfl,l,hW⟩:=hrel
  clear HS
  obtain⟨W',ns,id,lo,hi,n,B,N,A,V,O,E,F,hn7,hlen⟩:=hW.ex
  have g7:=hW.g7
  have t7:=hW.t7
  have hrow:=hW.row
  clear hW
  have hlvn:n.lv=(l:Int):=by
   have:=V.lv
   rw[this]
   show((lvl (bv C st b.im id):Nat):Int)=_
   rw[O.o0.lv]
  have HB:Hid (Bu W' wr bb tb X (k+8006*(L+1-l)) C st mk wh b):=B
  have HN:Hid (Nds (fun j=>(W' j∨j<w.heap.size)∨j=b7) wr u6 ns):=N
  have HA:Hid (NdAt wr b7 n):=A
  have HV:Hid (NdV (fun j=>((W' j∨j<w.heap.size)∨j=b7)∨u6.ownBlock=some j) wr n (nodeOf id (bv C st b.im id) lo hi)):=V
  have HO:Hid (Ok (bv C st b.im) b.us C.ps l id lo hi):=O
  have HE:Hid (ns++Tr.way (bv C st b.im) key l id lo hi=Tr.way (bv C st b.im) key L b.rt eb eb):=E
  have HF:Hid (Fr W W' w wr):=F
  have HR:Hid (∀ g,u6.ownBlock=some g->w.heap.size<=g/\g≠b7):=hrow
  have HW7:Hid (∀ j,((W' j∨j<w.heap.size)∨j=b7)->j<wr.heap.size):=fun j hj=>by rcases hj with(e |e) |rfl;exact B.lt e;exact Nat.lt_of_lt_of_le e F.size;exact t7
  obtain⟨ra,rc,hru,_,_⟩:=N.slice
  have HRU:Hid (u6=.slice ra ns.length rc):=hru
  clear B N A V O E F hrow hru
  cases l with
  | zero =>
   have c2:wr.cell? ⟨b7,2,none⟩=some (.int .i64 0):=by have:=HA.out.c2;rw[hlvn] at this;exact this
   clear hlvn
   go_wp2_with (first
    | (refine wpList_load_nd _ rfl (.tmp 7) rfl rfl HA.out ?_)
    | (refine wpList_build_nd (n:=n) _ rfl (.tmp 40) rfl rfl ?_;intro w5 b5 N5)
    | (refine wpList_append_nd rfl (.tmp 39) (.tmp 41) rfl rfl (HN.out.below N5.below) rfl N5.nd (HV.out.below N5.below) (by omega) (fun j hj=>Nat.lt_of_lt_of_le (HW7.out j hj) N5.below.size) ?_;intro v6 w6 D6 G6 R6))
   go_ret2
   have z5:=N5.below.size
   have hgr:∀ j,j<wr.heap.size->u6.ownBlock≠some j->w6.heap[j]?=wr.heap[j]?:=fun j hj hne=>(G6.block j (by omega) (fun e=>hne e.symm)).trans (N5.below.block j hj)
   have hown:∀ g,u6.ownBlock=some g->¬ ((W' g∨g<w.heap.size)∨g=b7):=by
    obtain⟨es,_,_,_,q⟩:=HN.out.ex
    exact q
   refine⟨v6,rfl,W',?_,?_,?_⟩
   ·have:=HB.out
    rw[show L+1-0=L+1 by omega] at this
    exact this.turn (fun j hj=>hgr j (this.lt hj) (fun e=>hown j e (Or.inl (Or.inl hj)))) (Nat.le_trans z5 G6.size)
   ·have F:=HF.out
    exact⟨(G6.os.trans N5.below.os).trans F.os,(G6.tape.trans N5.below.tape).trans F.tape,(G6.output.trans N5.below.output).trans F.output,Nat.le_trans F.size (Nat.le_trans z5 G6.size),fun j hj hn=>(hgr j (Nat.lt_of_lt_of_le hj F.size) (fun e=>by have:=(HR.out j e).1;omega)).trans (F.blk j hj hn),F.sub⟩
   ·have:=D6.less (U:=fun j=>W' j∨j<w.heap.size) (fun j hj=>Or.inl hj)
    rw[← HE.out]
    exact this
  | succ l =>
   obtain⟨lz,hlz⟩:∃ z:Int,z=((l+1:Nat):Int):=⟨_,rfl⟩
   have c2:wr.cell? ⟨b7,2,none⟩=some (.int .i64 lz):=by have:=HA.out.c2;rw[hlvn,← hlz] at this;exact this
   have hlp:0<lz:=by omega
   have HLZ:Hid (lz=((l+1:Nat):Int)):=hlz
   clear hlz
   have hg:=HO.out.1.good
   have hkd:=HO.out.2.1
   have htx:n.tx=bv C st b.im id:=HV.out.tx
   have hin:cs (bv C st b.im id)≠[]/\((cs (bv C st b.im id)).getD 0 ⟨eb,eb⟩).k=eb:=by
    rcases hg.kind with h |h
    ·omega
    ·exact⟨h.2.2.1,h.2.2.2⟩
   have hti:tow (cs (bv C st b.im id)) key<(cs (bv C st b.im id)).length:=tow_lt hin.1
   have CT:Hid (Calls Tryz.prog 83 #[.pointer (some ⟨b7,0,none⟩),.string key] wr fun e w'=>e=.returned (.int .i64 (tow (cs (bv C st b.im id)) key:Nat))/\Below wr.heap.size wr w'):=by
    have:=toward_any wr b7 n HA.out key (by rw[htx];exact hg.right) (fun ha=>by rw[htx] at ha ⊢;exact plc_pos hin.1 hin.2 ha)
    rw[htx] at this
    exact this
   have hl1:=Right.l1000 hg.right
   have hv32:=Right.v32 hg.right hti
   have hO2:=HO.out.2.2 _ hti
   have HG:Hid (Ok (bv C st b.im) b.us C.ps l (pgOf (cs (bv C st b.im id))[tow (cs (bv C st b.im id)) key]) (bLo (cs (bv C st b.im id)) lo (tow (cs (bv C st b.im id)) key)) (bHi (cs (bv C st b.im id)) hi (tow (cs (bv C st b.im id)) key))):=hO2
   have HWy:Hid (Tr.way (bv C st b.im) key (l+1) id lo hi={nodeOf id (bv C st b.im id) lo hi with nx:=tow (cs (bv C st b.im id)) key} ::Tr.way (bv C st b.im) key l (pgOf (cs (bv C st b.im id))[tow (cs (bv C st b.im id)) key]) (bLo (cs (bv C st b.im id)) lo (tow (cs (bv C st b.im id)) key)) (bHi (cs (bv C st b.im id)) hi (tow (cs (bv C st b.im id)) key))):=by
    show _ ::_=_ ::_
    rw[show(cs (bv C st b.im id)).getD (tow (cs (bv C st b.im id)) key) ⟨eb,eb⟩=(cs (bv C st b.im id))[tow (cs (bv C st b.im id)) key] by simp[hti]]
   have hlen2:L+1-(l+1)+1=L+1-l:=by omega
   have CB:Hid (∀ wx (m:Nv),Bu W' wx bb tb X (k+8006*(L+1-(l+1))) C st mk wh b->NdV W' wx m {nodeOf id (bv C st b.im id) lo hi with nx:=tow (cs (bv C st b.im id)) key}->Calls Tryz.prog 84 #[.pointer (some ⟨bb,0,none⟩),.agg m.A,.int .i64 (tow (cs (bv C st b.im id)) key:Nat)] wx fun e w'=>∃ n' W5,e=.returned (.tuple #[.agg n'.A,.int .i64 0])/\Bu W5 w' bb tb X (k+8006*(L+1-(l+1))+8006) C st mk wh b/\Fr W' W5 wx w'/\NdV (fun j=>W5 j∨j<wx.heap.size) w' n' (nodeOf (pgOf (cs (bv C st b.im id))[tow (cs (bv C st b.im id)) key]) (bv C st b.im (pgOf (cs (bv C st b.im id))[tow (cs (bv C st b.im id)) key])) (bLo (cs (bv C st b.im id)) lo (tow (cs (bv C st b.im id)) key)) (bHi (cs (bv C st b.im id)) hi (tow (cs (bv C st b.im id)) key)))):=fun wx m hb hm=>by
    refine hb.below_ (by omega) m _ hm _ hti hl1 hv32 l ?_ ?_ hO2.o0
    ·exact HO.out.1.lv
    ·show lvl (bv C st b.im id)<256
     exact Pg.g_lt _ _
   have hown:∀ g,u6.ownBlock=some g->¬ ((W' g∨g<w.heap.size)∨g=b7):=by
    obtain⟨es,_,_,_,q⟩:=HN.out.ex
    exact q
   have HOwn:Hid (∀ g,u6.ownBlock=some g->¬ ((W' g∨g<w.heap.size)∨g=b7)):=hown
   clear hlvn hg hkd htx hin hl1 hv32 hO2 HO hown
   generalize pgOf (cs (bv C st b.im id))[tow (cs (bv C st b.im id)) key]=id5 at *
   generalize bLo (cs (bv C st b.im id)) lo (tow (cs (bv C st b.im id)) key)=lo5 at *
   generalize bHi (cs (bv C st b.im id)) hi (tow (cs (bv C st b.im id)) key)=hi5 at *
   clear hti
   generalize tow (cs (bv C st b.im id)) key=i at *
   go_wp2_with (first
    | (go_at_call 83;refine CT.out.mono ?_;rintro e w4 ⟨rfl,b4⟩;have A4:=HA.out.below b4)
    | (refine wpList_fput_nd (x:=((i:Nat):Int)) _ rfl (.tmp 23) (.tmp 22) rfl rfl rfl A4 ?_;intro w5 P5;have z5:=P5.off.size;have z4:=b4.size;have B5:Bu W' w5 bb tb X (k+8006*(L+1-(l+1))) C st mk wh b:=(HB.out.below b4).off P5.off hn7;have V5:NdV (fun j=>((W' j∨j<w.heap.size)∨j=b7)∨u6.ownBlock=some j) w5 { n with nx:=((i:Nat):Int)} { nodeOf id (bv C st b.im id) lo hi with nx:=i}:=(⟨HV.out.id,HV.out.tx,HV.out.lv,HV.out.lo,HV.out.hi,rfl,(HV.out.below b4).sl.keep (fun j hj hu=>P5.off.block j hj (fun e=>hu (Or.inl (Or.inr e)))) (fun j hj hu=>hu) P5.off.size⟩);have N5:Nds (fun j=>(W' j∨j<w.heap.size)∨j=b7) w5 u6 ns:=(HN.out.below b4).keep (fun j hj hu=>P5.off.block j hj (fun e=>hu (Or.inr e))) (fun j hj hu=>hu) P5.off.size;have HP5:Hid (NdAt w5 b7 { n with nx:=((i:Nat):Int)}):=P5.nd;have HB5:Hid (Bu W' w5 bb tb X (k+8006*(L+1-(l+1))) C st mk wh b):=B5;have HV5:Hid (NdV (fun j=>((W' j∨j<w.heap.size)∨j=b7)∨u6.ownBlock=some j) w5 { n with nx:=((i:Nat):Int)} { nodeOf id (bv C st b.im id) lo hi with nx:=i}):=V5;have HN5:Hid (Nds (fun j=>(W' j∨j<w.heap.size)∨j=b7) w5 u6 ns):=N5;have HF5:Hid (Fr W W' w w5):=(HF.out.below b4).off P5.off g7;clear B5 V5 N5 P5 A4 b4 z4 z5)
    | (have:=HP5;refine wpList_load_nd (n:={ n with nx:=((i:Nat):Int)}) _ rfl (.tmp 7) rfl rfl HP5.out ?_)
    | (refine wpList_build_nd (n:={ n with nx:=((i:Nat):Int)}) _ rfl (.tmp 25) rfl rfl ?_;intro w6 b6 N6)
    | (refine wpList_append_nd rfl (.tmp 24) (.tmp 26) rfl rfl (HN5.out.below N6.below) rfl N6.nd (HV5.out.below N6.below) (by omega) (fun j hj=>by have h1:=N6.below.size;rcases hj with(e | e) | rfl;exact Nat.lt_of_lt_of_le (HB5.out.lt e) h1;exact Nat.lt_of_lt_of_le e (Nat.le_trans HF5.out.size h1);exact Nat.lt_of_lt_of_le HP5.out.lt h1) ?_;intro v8 w8 D8 G8 R8;have z6:=N6.below.size;have z8:=G8.size;have hgr:∀ j,j<w5.heap.size->u6.ownBlock≠some j->w8.heap[j]?=w5.heap[j]?:=(fun j hj hne=>(G8.block j (by omega) (fun e=>hne e.symm)).trans (N6.below.block j hj));have A8:NdAt w8 b7 { n with nx:=((i:Nat):Int)}:=HP5.out.of_block (hgr b7 HP5.out.lt (fun e=>HOwn.out b7 e (Or.inr rfl)));have B8:Bu W' w8 bb tb X (k+8006*(L+1-(l+1))) C st mk wh b:=HB5.out.turn (fun j hj=>hgr j (HB5.out.lt hj) (fun e=>HOwn.out j e (Or.inl (Or.inl hj)))) (by omega);have V8:NdV W' w8 { n with nx:=((i:Nat):Int)} { nodeOf id (bv C st b.im id) lo hi with nx:=i}:=HV5.out.keep (fun j hj hu=>hgr j hj (fun e=>hu (Or.inr e))) (fun j hj hu e=>hu (Or.inl (Or.inl (Or.inl e)))) (by omega);have F8:Fr W W' w w8:=(⟨(G8.os.trans N6.below.os).trans HF5.out.os,(G8.tape.trans N6.below.tape).trans HF5.out.tape,(G8.output.trans N6.below.output).trans HF5.out.output,Nat.le_trans HF5.out.size (by omega),fun j hj hn=>(hgr j (Nat.lt_of_lt_of_le hj HF5.out.size) (fun e=>by have:=(HR.out j e).1;omega)).trans (HF5.out.blk j hj hn),HF5.out.sub⟩);have HR8:Hid (∀ g,v8.ownBlock=some g->w.heap.size<=g/\g≠b7):=(fun g e=>by rcases R8 with q | q;exact HR.out g (q ▸ e);rw[q] at e;cases e;have h1:=HF5.out.size;have h2:=HP5.out.lt;exact⟨by omega,by omega⟩);have d6:=A8.c6;have HA8:Hid (NdAt w8 b7 { n with nx:=((i:Nat):Int)}):=A8;have HB8:Hid (Bu W' w8 bb tb X (k+8006*(L+1-(l+1))) C st mk wh b):=B8;have HV8:Hid (NdV W' w8 { n with nx:=((i:Nat):Int)} { nodeOf id (bv C st b.im id) lo hi with nx:=i}):=V8;have HF8:Hid (Fr W W' w w8):=F8;have HD8:Hid (Nds (fun j=>(W' j∨j<w.heap.size)∨j=b7) w8 v8 (ns++[{ nodeOf id (bv C st b.im id) lo hi with nx:=i}])):=D8;have h78:b7<w8.heap.size:=A8.lt;clear A8 B8 V8 F8 D8 G8 R8 N6 z6 z8 hgr HP5 HB5 HV5 HN5 HF5)
    | (refine wpList_load_nd (n:={ n with nx:=((i:Nat):Int)}) _ rfl (.tmp 7) rfl rfl HA8.out ?_)
    | (go_at_call 84;refine(CB.out _ { n with nx:=((i:Nat):Int)} HB8.out HV8.out).mono ?_;rintro e w9 ⟨n9,W9,rfl,B9,F9,V9⟩;have A9:NdAt w9 b7 { n with nx:=((i:Nat):Int)}:=HA8.out.of_block (F9.blk _ HA8.out.lt hn7);have hq9:=V9.sl.one)
    | (refine wpList_put_nd (s':=n9) _ rfl (.tmp 7) (.tmp 34) rfl rfl rfl A9 hq9 ?_;intro w10 P10))
   go_roundw
   case rel =>
    have z9:=F9.size
    have z10:=P10.off.size
    refine⟨rfl,l,⟨⟨W9,ns++[{nodeOf id (bv C st b.im id) lo hi with nx:=i}],id5,lo5,hi5,n9,?_,?_,P10.nd,?_,HG.out,?_,(HF8.out.trans F9).off P10.off g7,F9.not h78 hn7,?_⟩,g7,by omega,HR8.out⟩⟩
    ·have:=B9.off P10.off (F9.not h78 hn7)
     rw[show k+8006*(L+1-(l+1))+8006=k+8006*(L+1-l) by rw[← hlen2];omega] at this
     exact this
    ·refine HD8.out.keep (fun j hj hu=>(P10.off.block j (by omega) (fun e=>hu (Or.inr e))).trans (F9.blk j hj (fun e=>hu (Or.inl (Or.inl e))))) (fun j hj hu hu2=>?_) (by omega)
     rcases hu2 with(e |e) |e
     ·exact F9.not hj (fun e2=>hu (Or.inl (Or.inl e2))) e
     ·exact hu (Or.inl (Or.inr e))
     ·exact hu (Or.inr e)
    ·refine V9.keep (fun j hj hu=>P10.off.block j hj (fun e=>hu (Or.inr (by omega)))) (fun j hj hu hu2=>?_) P10.off.size
     rcases hu2 with((e |e) |e) |e
     ·exact hu (Or.inl e)
     ·exact hu (Or.inr (Nat.lt_of_lt_of_le e HF8.out.size))
     ·exact hu (Or.inr (by omega))
     ·have:j<w8.heap.size:=by
       obtain⟨es,_,q,_⟩:=HD8.out.ex
       exact row_own_lt q e
      exact hu (Or.inr this)
    ·rw[List.append_assoc,← HE.out,HWy.out];rfl
    ·rw[List.length_append,List.length_singleton];omega
   case measure =>
    have e1:lvAt b7 w10=l:=by
     have h1:=P10.nd.c2
     have h2:n9.lv=(l:Int):=by
      rw[V9.lv]
      show((lvl (bv C st b.im id5):Nat):Int)=_
      rw[HG.out.o0.lv]
     unfold lvAt
     rw[h1,h2]
     simp[intOf]
    have e2:lvAt b7 wr=l+1:=by
     unfold lvAt
     rw[c2,HLZ.out]
     simp[intOf]
    rw[e1,e2]
    omega
end
theorem fold_set (off:Nat):∀ (l:List Value) (n:Nat) (cs:Array Value),off+n+l.length<=cs.size->((l.zipIdx n).foldl (fun cs p=>cs.setIfInBounds (off+p.2) p.1) cs).toList=cs.toList.take (off+n)++l++cs.toList.drop (off+n+l.length)
 | [],n,cs,h=>by simp
 | v :: l,n,cs,h=>by
  rw[List.zipIdx_cons,List.foldl_cons,fold_set off l (n+1) _ (by simp at h ⊢;omega)]
  simp only[Array.toList_setIfInBounds,List.length_cons]
  have hl:off+n<cs.toList.length:=by simp at h ⊢;omega
  rw[show off+(n+1)=off+n+1 by omega,List.take_succ_eq_append_getElem (by simpa using hl),List.take_set_of_le (Nat.le_refl _),List.getElem_set_self,List.drop_set_of_lt (by omega)]
  simp only[List.append_assoc,List.singleton_append,List.cons_append,List.nil_append]
  rw[show off+n+1+l.length=off+n+(l.length+1) by omega]
theorem zero_bu2 (tb:Nat):(Tryz.zeroCells78.setIfInBounds 0 (.pointer (some ⟨tb,0,none⟩))).toList=.pointer (some ⟨tb,0,none⟩) ::(hdL 0 zus++[.slice none 0 0]):=by kernel_rfl
theorem fold_bu (tb:Nat) (r:Int) (us:List UInt8) (hl:us.length=222):Array.foldl (fun cs x=>cs.setIfInBounds (1+x.snd) x.fst) (Tryz.zeroCells78.setIfInBounds 0 (.pointer (some ⟨tb,0,none⟩))) (hdA r us).zipIdx 0 (hdA r us).size=buA tb r us (.slice none 0 0):=by
 have h:=zero_bu2 tb
 generalize Tryz.zeroCells78.setIfInBounds 0 (.pointer (some ⟨tb,0,none⟩))=z2 at *
 have hz2:z2.size=225:=by rw[← Array.length_toList,h];simp[hdL_length,zus]
 apply Array.toList_inj.1
 have:=fold_set 1 (hdL r us) 0 z2 (by rw[hdL_length,hl,hz2];omega)
 have e0:(hdA r us).size=(hdA r us).zipIdx.size:=by simp
 rw[e0]
 rw[← Array.foldl_toList,Array.toList_zipIdx]
 show(((hdL r us).zipIdx 0).foldl _ z2).toList=_
 rw[this,h,hdL_length,hl]
 show [_]++hdL r us++(hdL 0 zus++[Value.slice none 0 0]).drop 223=_
 rw[List.drop_append_of_le_length (by rw[hdL_length,zus_length];omega),List.drop_of_length_le (by rw[hdL_length,zus_length];omega)]
 simp[buA,buL]
section
variable {W W' W0:Nat->Prop}{w w':World}{bb tb mb m:Nat}{X:Ad}{k:Nat}{C:Cf}{st:Nat->Option Nat}{mk:Int}{wh:Nat->Option Nat}{b:Bm}
theorem Bu.new (h:Tt W w tb X k C st mk wh) (rt:Nat) (us:List UInt8) (hl:us.length=222) (hr:rt<65536):Bu (fun j=>W j∨j=w.heap.size) (w.alloc (.cells (buA tb (rt:Int) us (.slice none 0 0)) 78)) w.heap.size tb X k C st mk wh ⟨rt,us,[]⟩:=by
 refine⟨W,.slice none 0 0,⟨h.below ((Below.refl _ _).alloc (Nat.le_refl _) _),(MapKept.heap_alloc w _).1,⟨rfl,Or.inl ⟨rfl,rfl⟩⟩,fun e=>absurd (h.lt e) (Nat.lt_irrefl _),(fun g e=>by cases e),hl,List.Pairwise.nil,by simp,(fun p hp=>by cases hp),hr⟩,fun j=>?_⟩
 constructor
 ·rintro(e |e)
  ·exact Or.inl e
  ·exact Or.inr (Or.inl e)
 ·rintro(e |e |e)
  ·exact Or.inl e
  ·exact Or.inr e
  ·cases e
theorem Bu.tree (h:Bu W w bb tb X k C st mk wh b):∃ Wt,Tt Wt w tb X k C st mk wh/\(∀ j,Wt j->W j):=by
 obtain⟨Wt,v,h0,hW⟩:=h.ex;exact⟨Wt,h0.tt,fun j hj=>(hW j).2 (Or.inl hj)⟩
theorem Fr.shrink {W W' V:Nat->Prop} {w w':World} (h:Fr W W' w w') (hV:∀ j,V j->W' j):Fr W V w w':=⟨h.os,h.tape,h.output,h.size,h.blk,fun j hj=>h.sub j (hV j hj)⟩
theorem Tt.t0 (h:Tt W w tb X k C st mk wh):∃ W0 mb m,T0 W0 mb m (.slice none 0 0) w tb X k C st (fun _=>0) mk wh:=by obtain⟨W0,mb,m,q,_⟩:=h.ex;exact⟨W0,mb,m,q⟩
set_option maxHeartbeats 1000000 in
theorem Tt.open_ (h:Tt W w tb X k C st mk wh) (hk:k<=270000000000) (hp:0<C.ps) (rt:Nat) (us:List UInt8) (hl:us.length=222) (hr:rt<65536) (hv:Vw C st 0=hdT rt us):Calls Tryz.prog 29 #[.pointer (some ⟨tb,0,none⟩)] w fun e w'=>∃ bb,e=.returned (.tuple #[.pointer (some ⟨bb,0,none⟩),.int .i64 0])/\∃ W',Bu W' w' bb tb X (k+8006) C st mk wh ⟨rt,us,[]⟩/\Fr W W' w w':=by
 obtain⟨W0,mb,m,h0⟩:=h.t0
 have CM:Hid (Calls Tryz.prog 28 #[.pointer (some ⟨tb,0,none⟩)] w fun e w'=>e=.returned (.bool true)/\w'=w):=isMade_tt h0
 have CP:Hid (Calls Tryz.prog 59 #[.pointer (some ⟨tb,0,none⟩),.int .i64 0] w fun e w'=>e=.returned (.tuple #[.string (hdT rt us),.int .i64 0])/\∃ W',Tt W' w' tb X (k+8006) C st mk wh/\Fr W W' w w'):=by
  have:=h.page (by omega) 0 hp
  rw[hv] at this
  exact this
 have CH:Hid (∀ wx,Calls Tryz.prog 60 #[.string (hdT rt us)] wx fun e w'=>e=.returned (.agg (hdA (rt:Int) us))/\Below wx.heap.size wx w'):=fun wx=>headOf_any wx rt us hr hl
 have hfb:Hid _:=fold_bu tb (rt:Int) us hl
 have hasz:(hdA (rt:Int) us).size=223:=by rw[hdA_size,hl]
 have hne:¬ (hdT rt us).toList=[]:=fun e=>by
  have hz:=hdT_size rt hl
  have:=Lib.toList_data (hdT rt us)
  rw[e] at this
  have h3:(hdT rt us).size=0:=by
   show(hdT rt us).data.size=0
   rw[← Array.length_toList,← this];rfl
  omega
 have hne2:(hdT rt us).toList.isEmpty=false:=by simpa using hne
 clear h h0 hv hne
 generalize hdT rt us=t at *
 generalize hdA (rt:Int) us=A at *
 go_enter Tryz.func29,Tryz.ntmps29
 go_wp2_with (first
  | (go_at_call 28;refine CM.out.mono ?_;rintro e w1 ⟨rfl,rfl⟩)
  | (go_at_call 59;refine CP.out.mono ?_;rintro e w2 ⟨rfl,W2,T2,F2⟩)
  | (go_at_call 60;refine(CH.out _).mono ?_;rintro e w3 ⟨rfl,b3⟩))
 go_ret2
 have hfb2:=hfb.out
 rw[hasz] at hfb2
 refine⟨_,rfl,(fun j=>W2 j∨j=w3.heap.size),?_,?_⟩
 ·rw[hfb2]
  exact Bu.new (T2.below b3) rt us hl hr
 ·exact(F2.below b3).trans ⟨rfl,rfl,rfl,by simp,fun j hj _=>heap_alloc_old w3 _ hj,fun j hj=>hj.imp (fun e=>e) (fun e=>by omega)⟩
end
section
variable {W W' Wt:Nat->Prop}{w w':World}{bb tb:Nat}{v v':Value}{X:Ad}{k:Nat}{C:Cf}{st:Nat->Option Nat}{mk:Int}{wh:Nat->Option Nat}{b:Bm}
theorem buA_last (tb:Nat) (r:Int) (us:List UInt8) (hl:us.length=222) (v v':Value):(buA tb r us v).setIfInBounds 224 v'=buA tb r us v':=by
 apply Array.toList_inj.1
 rw[Array.toList_setIfInBounds]
 show(Value.pointer (some ⟨tb,0,none⟩) ::(hdL r us++[v])).set 224 v'=Value.pointer (some ⟨tb,0,none⟩) ::(hdL r us++[v'])
 rw[show 224=223+1 from rfl,List.set_cons_succ,List.set_append_right _ _ (by rw[hdL_length,hl];omega),hdL_length,hl]
 rfl
theorem Bu.rowed (h0:B0 Wt v w bb tb X k C st mk wh b) (hW:∀ j,W j↔(Wt j∨j=bb∨v.ownBlock=some j)) {w2 w3:World} {im:Ims} (hb:Below w.heap.size w w') (hN:Inew w' w2 v v' im.length (prs (encI (imI im))))
  (h3:w3.heap[bb]?=some (.cells (buA tb (b.rt:Int) b.us v') 78)) (ho:Pk.Off bb w2 w3) (hr:Rise im) (hp:∀ p∈im,p.1<C.ps/\p.2.size=224):∃ W',Bu W' w3 bb tb X k C st mk wh {b with im:=im}/\Fr W W' w w3:=by
 have hown:∀ j,v'.ownBlock=some j->v.ownBlock=some j∨w.heap.size<=j:=fun j e=>by
  rcases hN.own with q |⟨g,q,hg⟩
  ·exact Or.inl (by rw[← q];exact e)
  ·rw[q] at e
   injection e with e
   subst e
   exact Or.inr (Nat.le_trans hb.size hg)
 have hne:v'.ownBlock≠some bb:=fun e=>by
  rcases hown bb e with q |q
  ·exact(h0.nr bb q).2 rfl
  ·have:=h0.lt_;omega
 have kp:∀ j,j<w.heap.size->v.ownBlock≠some j->j≠bb->w3.heap[j]?=w.heap[j]?:=fun j hj hn hb'=>(ho.block j (Nat.lt_of_lt_of_le hj (Nat.le_trans hb.size hN.gr.size)) hb').trans ((hN.gr.block j (Nat.lt_of_lt_of_le hj hb.size) (fun e=>hn e.symm)).trans (hb.block j hj))
 have hsz:w.heap.size<=w3.heap.size:=Nat.le_trans hb.size (Nat.le_trans hN.gr.size ho.size)
 have hlen:im.length<=200:=by
  have:=rise_len C.ps (im.map (·.1)) (rise_map.1 hr) (fun x hx=>by obtain⟨q,hq,rfl⟩:=List.mem_map.1 hx;exact(hp q hq).1)
  have h2:=h0.tt.p1
  rw[List.length_map] at this
  omega
 refine⟨fun j=>Wt j∨j=bb∨v'.ownBlock=some j,⟨Wt,v',⟨h0.tt.turn (fun j hj=>kp j (h0.tt.lt hj) (fun e=>(h0.nr j e).1 hj) (fun e=>by subst e;exact h0.nb hj)) hsz,h3,row_own_at hN.row (fun g e=>ho.block g (row_own_lt hN.row e) (fun e2=>by subst e2;exact hne e)),h0.nb,fun g e=>⟨fun hw=>?_,fun e2=>by subst e2;exact hne e⟩,h0.ul,hr,hlen,hp,h0.rl⟩,fun j=>Iff.rfl⟩,?_⟩
 ·rcases hown g e with q |q
  ·exact(h0.nr g q).1 hw
  ·have:=h0.tt.lt hw;omega
 ·refine⟨ho.os.trans (hN.gr.os.trans hb.os),ho.tape.trans (hN.gr.tape.trans hb.tape),ho.output.trans (hN.gr.output.trans hb.output),hsz,fun j hj hn=>kp j hj (fun e=>hn ((hW j).2 (Or.inr (Or.inr e)))) (fun e=>hn ((hW j).2 (Or.inr (Or.inl e)))),fun j hj=>?_⟩
  rcases hj with e |e |e
  ·exact Or.inl ((hW j).2 (Or.inl e))
  ·exact Or.inl ((hW j).2 (Or.inr (Or.inl e)))
  ·exact(hown j e).imp (fun q=>(hW j).2 (Or.inr (Or.inr q))) id
set_option maxHeartbeats 1000000 in
theorem Bu.put (h:Bu W w bb tb X k C st mk wh b) (id:Nat) (t:ByteArray) (hid:id<C.ps) (ht:t.size=224):Calls Tryz.prog 72 #[.pointer (some ⟨bb,0,none⟩),.int .i64 (id:Int),.string t] w fun e w'=>e=.returned (.tuple #[])/\∃ W',Bu W' w' bb tb X k C st mk wh {b with im:=putI b.im id t}/\Fr W W' w w':=by
 obtain⟨Wt,v,h0,hW⟩:=h.ex
 have CF:Hid (Calls Tryz.prog 114 #[.pointer (some ⟨bb,0,none⟩),.int .i64 (id:Int)] w fun e w'=>e=.returned (.tuple #[.int .i64 (pos b.im id:Nat),.bool (inn b.im id)])/\Below w.heap.size w w'):=find_b0 h0 id
 have hall:∀ p∈putI b.im id t,p.1<C.ps/\p.2.size=224:=fun p hp=>by
  rcases (putI_mem h0.so).1 hp with rfl |e
  ·exact⟨hid,ht⟩
  ·exact h0.ip p e.2
 have hri:=putI_rise h0.so id t
 have H0:Hid (B0 Wt v w bb tb X k C st mk wh b):=h0
 have HW:Hid (∀ j,W j↔(Wt j∨j=bb∨v.ownBlock=some j)):=hW
 have HA:Hid (∀ p∈putI b.im id t,p.1<C.ps/\p.2.size=224):=hall
 have HI:Hid (Rise (putI b.im id t)):=hri
 cases hin:inn b.im id with
 | true =>
  obtain⟨hp,hpe⟩:=inn_at hin
  have hrow:=h0.row
  have e1:putI b.im id t=b.im.set (pos b.im id) (id,t):=by unfold putI;rw[if_pos hin]
  have hrv:∃ g cap,v=.slice (some ⟨g,0,none⟩) b.im.length cap/\b.im.length<=cap:=by
   rcases hrow.2 with⟨rfl,hn0⟩ |⟨g,cap,cur,rfl,hb,hg,q1,q2⟩
   ·omega
   ·exact⟨g,cap,rfl,q1⟩
  obtain⟨g,cap,rfl,hcap⟩:=hrv
  have hsp:(prs (encI (imI b.im))).set (pos b.im id*2+1) (.string t)=prs (encI (imI (putI b.im id t))):=by
   rw[e1,encI_set]
   refine set_prs _ _ _ _ (fun q hq=>?_)
   simp[encI,imI,hp] at hq
   rw[← hq]
   exact congrArg (fun x:Nat=>Value.int .i64 (x:Int)) hpe
  have hgb:g≠bb:=(h0.nr g rfl).2
  have HC:Hid (∀ w',Below w.heap.size w w'->w'.cell? ⟨bb,224,none⟩=some (.slice (some ⟨g,0,none⟩) b.im.length cap)/\w'.frozen? ⟨g,pos b.im id*2+1,none⟩=false/\(∃ u,w'.cell? ⟨g,pos b.im id*2+1,none⟩=some u)/\∃ W',Bu W' (w'.setCell ⟨g,pos b.im id*2+1,none⟩ (.string t)) bb tb X k C st mk wh {b with im:=putI b.im id t}/\Fr W W' w (w'.setCell ⟨g,pos b.im id*2+1,none⟩ (.string t))):=fun w' hb=>by
   have q:=h0.below hb
   have hrw:=q.row
   refine⟨q.ci,hrw.frozenAt _,?_,?_⟩
   ·rcases hrw.2 with⟨h',_⟩ |⟨g',cap',cur,h',_,hg,q1,q2,q3,q4⟩
    ·cases h'
    ·simp only[Value.slice.injEq,Option.some.injEq,Addr.mk.injEq,and_true,true_and] at h'
     obtain⟨rfl,rfl⟩:=h'
     rw[cell_of_row w' g _ cur _ (0,0) hg]
     exact⟨cur[pos b.im id*2+1]'(by omega),Array.getElem?_eq_getElem _⟩
   ·obtain⟨r1,g1⟩:=hrw.stored (pos b.im id*2+1) (.string t)
    rw[hsp] at r1
    have hlen:(putI b.im id t).length=b.im.length:=by rw[e1,List.length_set]
    rw[← hlen] at r1
    refine Bu.rowed h0 hW (w':=w') (w2:=w'.setCell ⟨g,pos b.im id*2+1,none⟩ (.string t)) hb ⟨by rw[← hlen];exact r1,g1,Or.inl rfl⟩ ?_ (Pk.Off.refl _ _) hri hall
    rw[g1.block bb q.lt_ (fun e=>hgb (by injection e with e;exact e.symm))]
    exact q.blk
  rw[hin] at CF
  have hpI:((pos b.im id:Nat):Int)<(b.im.length:Int):=by omega
  have hl:=h0.il
  clear h0 hW h hin hrow hpe e1 hsp hall hri
  generalize putI b.im id t=im' at *
  generalize pos b.im id=x at *
  generalize b.im.length=n at *
  go_enter Tryz.func72,Tryz.ntmps72
  go_wp2_with (go_at_call 114;refine CF.out.mono ?_;rintro e w1 ⟨rfl,b1⟩;obtain⟨k0,k1,⟨u,k2⟩,k3⟩:=HC.out _ b1;have K3:Hid _:=k3;clear k3)
  refine bodyPost_ret (results_none rfl _ _ _) rfl ?_
  exact⟨rfl,K3.out⟩
 | false =>
  have hrow:=h0.row
  have e1:putI b.im id t=b.im.take (pos b.im id)++[(id,t)]++b.im.drop (pos b.im id):=by unfold putI;rw[if_neg (by rw[hin];simp)]
  have hpl:=pos_le b.im id
  have hlen:(putI b.im id t).length=b.im.length+1:=by
   rw[e1]
   simp only[List.length_append,List.length_take,List.length_drop,List.length_cons,List.length_nil]
   omega
  have hsp:ins2 (prs (encI (imI b.im))) (pos b.im id) (.int .i64 (id:Int)) (.string t)=prs (encI (imI (putI b.im id t))):=by
   rw[e1,encI_ins,ins2_prs]
  have hrv:∃ a cap,v=.slice a b.im.length cap:=by
   rcases hrow.2 with⟨rfl,hn0⟩ |⟨g,cap,cur,rfl,hb,hg,q1,q2⟩
   ·exact⟨none,0,by rw[hn0]⟩
   ·exact⟨_,cap,rfl⟩
  obtain⟨a,cap,rfl⟩:=hrv
  have hl:=h0.il
  have HC:Hid (∀ w',Below w.heap.size w w'->w'.cell? ⟨bb,224,none⟩=some (.slice a b.im.length cap)):=fun w' hb=>(h0.below hb).ci
  have CI:Hid (∀ w',Below w.heap.size w w'->Calls Tryz.prog 115 #[.slice a b.im.length cap,.int .i64 (pos b.im id:Nat),.slice (some ⟨w'.heap.size,0,none⟩) 1 1] (w'.alloc (.cells #[.int .i64 (id:Int),.string t] 45)) fun e w2=>∃ a2 n2 c2,e=.returned (.slice a2 n2 c2)/\w2.cell? ⟨bb,224,none⟩=some (.slice a b.im.length cap)/\w2.frozen? ⟨bb,224,none⟩=false/\∃ W',Bu W' (w2.setCell ⟨bb,224,none⟩ (.slice a2 n2 c2)) bb tb X k C st mk wh {b with im:=putI b.im id t}/\Fr W W' w (w2.setCell ⟨bb,224,none⟩ (.slice a2 n2 c2))):=fun w' hb=>by
   have hb2:Below w.heap.size w (w'.alloc (.cells #[.int .i64 (id:Int),.string t] 45)):=hb.alloc hb.size _
   have q:=h0.below hb
   have q2:=h0.below hb2
   refine(Insert_im q2.row (prs_one _ (encI_ones _)) hpl (by omega) w'.heap.size (id:Int) t (MapKept.heap_alloc w' _).1 (fun e=>absurd (row_own_lt q.row e) (Nat.lt_irrefl _))).mono ?_
   rintro e w2 ⟨v',rfl,hN⟩
   have hbk:w2.heap[bb]?=some (.cells (buA tb (b.rt:Int) b.us (.slice a b.im.length cap)) 78):=by
    rw[hN.gr.block bb q2.lt_ (fun e=>(h0.nr bb e.symm).2 rfl)];exact q2.blk
   have hcell:w2.cell? ⟨bb,224,none⟩=some (.slice a b.im.length cap):=by
    rw[World.cell?_of_block (w:=w'.alloc (.cells #[.int .i64 (id:Int),.string t] 45)) (hN.gr.block bb q2.lt_ (fun e=>(h0.nr bb e.symm).2 rfl))]
    exact q2.ci
   have hv2:∃ a2 n2 c2,v'=.slice a2 n2 c2:=by
    rcases hN.row.2 with⟨rfl,_⟩ |⟨_,_,_,rfl,_⟩
    ·exact⟨_,_,_,rfl⟩
    ·exact⟨_,_,_,rfl⟩
   obtain⟨a2,n2,c2,rfl⟩:=hv2
   refine⟨a2,n2,c2,rfl,hcell,Joins.unfrozen_of_block hbk 224,?_⟩
   rw[hsp,← hlen] at hN
   have hlast:=buA_last tb (b.rt:Int) b.us h0.ul (.slice a b.im.length cap) (.slice a2 n2 c2)
   exact Bu.rowed h0 hW hb2 hN (by rw[← hlast];exact Joins.block_setCell hbk _) ((Pk.Off.refl bb w2).setCell _ _) hri hall
  rw[hin] at CF
  clear h0 hW h hin hrow e1 hsp hall hri hlen hpl
  generalize putI b.im id t=im' at *
  generalize pos b.im id=x at *
  generalize b.im.length=n at *
  go_enter Tryz.func72,Tryz.ntmps72
  go_wp2_with (first
   | (go_at_call 114;refine CF.out.mono ?_;rintro e w1 ⟨rfl,b1⟩;have k0:=HC.out _ b1)
   | (go_at_call 115;refine(CI.out _ b1).mono ?_;rintro e w2 ⟨a2,n2,c2,rfl,k1,k2,k3⟩;have K3:Hid _:=k3;clear k3))
  go_end0
  exact⟨rfl,K3.out⟩
end
section
variable {W Wt:Nat->Prop}{w w':World}{bb tb:Nat}{v:Value}{X:Ad}{k:Nat}{C:Cf}{st:Nat->Option Nat}{mk:Int}{wh:Nat->Option Nat}{b:Bm}
theorem byteCells_set (us:List UInt8) (i:Nat) (x:UInt8):(Lib.byteCells us).set i (.int .u8 (x.toNat:Int))=Lib.byteCells (us.set i x):=by simp[Lib.byteCells,List.map_set]
theorem buA_us (tb:Nat) (r:Int) (us:List UInt8) (v:Value) (i:Nat) (x:UInt8) (hi:i<us.length):(buA tb r us v).setIfInBounds (1+1+i) (.int .u8 (x.toNat:Int))=buA tb r (us.set i x) v:=by
 apply Array.toList_inj.1
 rw[Array.toList_setIfInBounds]
 show(Value.pointer (some ⟨tb,0,none⟩) ::(hdL r us++[v])).set (1+1+i) _=Value.pointer (some ⟨tb,0,none⟩) ::(hdL r (us.set i x)++[v])
 rw[show 1+1+i=(i+1)+1 by omega,List.set_cons_succ,List.set_append_left _ _ (by rw[hdL_length];omega)]
 show _ ::((Value.int .i64 r ::Lib.byteCells us).set (i+1) _++[v])=_
 rw[List.set_cons_succ,byteCells_set]
 rfl
theorem buA_rt (tb:Nat) (r r':Int) (us:List UInt8) (v:Value):(buA tb r us v).setIfInBounds 1 (.int .i64 r')=buA tb r' us v:=by
 apply Array.toList_inj.1
 rw[Array.toList_setIfInBounds]
 rfl
theorem Bu.headed (h:Bu W w bb tb X k C st mk wh b) (rt:Nat) (us:List UInt8) (hr:rt<65536) (hu:us.length=222) (hb:∀ v,w.heap[bb]?=some (.cells (buA tb (b.rt:Int) b.us v) 78)->w'.heap[bb]?=some (.cells (buA tb (rt:Int) us v) 78)) (ho:Pk.Off bb w w'):Bu W w' bb tb X k C st mk wh {b with rt:=rt,us:=us}/\Fr W W w w':=by
 obtain⟨Wt,v,h0,hW⟩:=h.ex
 refine⟨⟨Wt,v,⟨h0.tt.turn (fun j hj=>ho.block j (h0.tt.lt hj) (fun e=>by subst e;exact h0.nb hj)) ho.size,hb v h0.blk,row_own_at h0.row (fun g e=>ho.block g (row_own_lt h0.row e) (h0.nr g e).2),h0.nb,h0.nr,hu,h0.so,h0.il,h0.ip,hr⟩,hW⟩,?_⟩
 exact⟨ho.os,ho.tape,ho.output,ho.size,fun j hj hn=>ho.block j hj (fun e=>hn ((hW j).2 (Or.inr (Or.inl e)))),fun j hj=>Or.inl hj⟩
theorem off_cell_drew (w:World) (b i:Nat) (v:Value):Pk.Off b w (w.setCell ⟨b,i,none⟩ v).drew:=by
 have h:=(Pk.Off.refl b w).setCell i v
 exact⟨h.os,h.tape,h.output,h.size,h.block⟩
theorem Bu.use (h:Bu W w bb tb X k C st mk wh b) (id:Nat) (hid:id<C.ps):Calls Tryz.prog 31 #[.pointer (some ⟨bb,1,none⟩),.int .i64 (id:Int)] w fun e w'=>e=.returned (.tuple #[])/\Bu W w' bb tb X k C st mk wh {b with us:=Tr.use b.us id}/\Fr W W w w':=by
 have hp:=h.p1
 have hu:=h.ul
 obtain⟨Wt,v,h0,hW⟩:=h.ex
 have h8:id % 8<8:=Nat.mod_lt _ (by omega)
 have hz:Pg.g b.us (id / 8) |||2 ^ (id % 8)<256:=Nat.or_lt_two_pow (n:=8) (Pg.g_lt _ _) (pow_lt8 h8)
 refine(use_cell w bb 1 id (Pg.g b.us (id / 8)) (Pg.g_lt _ _) (by omega) (h0.cu (by omega)) (h0.z _)).mono ?_
 rintro e w1 ⟨rfl,rfl⟩
 refine⟨rfl,h.headed b.rt (Tr.use b.us id) h0.rl (by rw[use_length];exact hu) (fun v hv=>?_) (off_cell_drew _ _ _ _)⟩
 have e1:=buA_us tb (b.rt:Int) b.us v (id / 8) (UInt8.ofNat (Pg.g b.us (id / 8) |||2 ^ (id % 8))) (by omega)
 rw[toNat_of _ hz] at e1
 show(w.setCell ⟨bb,1+1+id / 8,none⟩ _).heap[bb]?=_
 rw[show buA tb (b.rt:Int) (Tr.use b.us id) v=_ from e1.symm]
 exact Joins.block_setCell hv _
theorem Bu.rooted (h:Bu W w bb tb X k C st mk wh b) (id:Nat) (hid:id<65536):Bu W (w.setCell ⟨bb,1,none⟩ (.int .i64 (id:Int))) bb tb X k C st mk wh {b with rt:=id}/\Fr W W w (w.setCell ⟨bb,1,none⟩ (.int .i64 (id:Int))) :=
 h.headed id b.us hid h.ul (fun v hv=>by rw[← buA_rt tb (b.rt:Int) (id:Int) b.us v];exact Joins.block_setCell hv _) ((Pk.Off.refl bb w).setCell _ _)
theorem Bu.cells (h:Bu W w bb tb X k C st mk wh b):w.cell? ⟨bb,0,none⟩=some (.pointer (some ⟨tb,0,none⟩))/\w.cell? ⟨bb,1,none⟩=some (.int .i64 (b.rt:Int))/\(∀ i,w.frozen? ⟨bb,i,none⟩=false)/\w.cell? ⟨tb,0,none⟩=some (.pointer (some ⟨X.pb,0,none⟩)):=by
 obtain⟨Wt,v,h0,hW⟩:=h.ex
 obtain⟨W0,mb,m,q,_⟩:=h0.tt.ex
 exact⟨h0.c0,h0.c1,h0.z,q.c0⟩
structure Fst (us:List UInt8) (ps id:Nat):Prop where
 p:0<id
 l:id<ps
 no:uses us id=false
 all:∀ j,0<j->j<id->uses us j=true
set_option maxHeartbeats 1000000 in
theorem Bu.take (h:Bu W w bb tb X k C st mk wh b) (id:Nat) (hF:Fst b.us C.ps id):Calls Tryz.prog 63 #[.pointer (some ⟨bb,0,none⟩)] w fun e w'=>e=.returned (.tuple #[.int .i64 (id:Int),.int .i64 0])/\Bu W w' bb tb X k C st mk wh {b with us:=Tr.use b.us id}/\Fr W W w w':=by
 have hp:=h.p1
 obtain⟨k0,k1,k2,k3⟩:=h.cells
 have CP:Hid (Calls Tryz.prog 30 #[.pointer (some ⟨X.pb,0,none⟩)] w fun e w'=>e=.returned (.int .i64 (C.ps:Int))/\w'=w):=h.pages
 have CU:Hid (∀ i:Nat,0<i->i<id->Calls Tryz.prog 53 #[.pointer (some ⟨bb,1,none⟩),.int .i64 (i:Int)] w fun e w'=>e=.returned (.bool true)/\w'=w):=fun i h0 hi=>by
  have:=h.uses i (by have:=hF.l;omega)
  rw[hF.all i h0 hi] at this
  exact this
 have CV:Hid (Calls Tryz.prog 53 #[.pointer (some ⟨bb,1,none⟩),.int .i64 (id:Int)] w fun e w'=>e=.returned (.bool false)/\w'=w):=by
  have:=h.uses id hF.l
  rw[hF.no] at this
  exact this
 have CT:Hid (Calls Tryz.prog 31 #[.pointer (some ⟨bb,1,none⟩),.int .i64 (id:Int)] w fun e w'=>e=.returned (.tuple #[])/\Bu W w' bb tb X k C st mk wh {b with us:=Tr.use b.us id}/\Fr W W w w'):=h.use id hF.l
 obtain⟨f1,f2,f3,f4⟩:=hF
 clear h k2 f4 f3
 generalize C.ps=ps at *
 go_enter Tryz.func63,Tryz.ntmps63
 go_wp2_with (go_at_call 30;refine CP.out.mono ?_;rintro e w1 ⟨rfl,rfl⟩)
 go_loopw [13] (fun s wr=>∃ i:Nat,s=.int .i64 (i:Int)/\i<=id/\wr=w1) (fun s _=>id-(intOf s).toNat)
 case atStart=>exact⟨0,rfl,Nat.zero_le _,rfl⟩
 case round =>
  obtain⟨i,rfl,hi,rfl⟩:=hrel
  have hlt:i<ps:=by omega
  have hltI:(i:Int)<(ps:Int):=by omega
  by_cases e0:i=0
  ·subst e0
   go_wp2_with fail
   go_roundw
   case rel=>exact⟨1,rfl,by omega,by first |rfl |trivial⟩
   case measure=>simp[intOf];omega
  ·have hI:¬ ((i:Int)=0):=by omega
   by_cases e1:i=id
   ·subst e1
    clear CU
    go_wp2_with (first
     | (go_at_call 53;refine CV.out.mono ?_;rintro e w2 ⟨rfl,rfl⟩)
     | (go_at_call 31;refine CT.out.mono ?_;rintro e w2 ⟨rfl,k4⟩;have K4:Hid _:=k4;clear k4))
    go_ret2
    exact⟨rfl,K4.out⟩
   ·have h0:0<i:=by omega
    have h1:i<id:=by omega
    clear CV CT
    go_wp2_with (go_at_call 53;refine(CU.out _ h0 h1).mono ?_;rintro e w2 ⟨rfl,rfl⟩)
    go_roundw
    case rel=>exact⟨i+1,rfl,by omega,by first |rfl |trivial⟩
    case measure=>simp[intOf];omega
end
end Go.Proofs.YtpcnjncgilmehabGreat.Tr
