import Derived.Test.YtpcnjncgilmehabGreatMbk
import Derived.Laws.StructEq
set_option linter.unusedVariables false
set_option linter.unusedSimpArgs false
set_option maxRecDepth 100000
namespace Go.Proofs.YtpcnjncgilmehabGreat.Tr
open Go.RowKit Go.Maps Go.ChangeMaps
section
variable {W W':Nat->Prop}{w w':World}{bb tb:Nat}{X:Ad}{k:Nat}{C:Cf}{st:Nat->Option Nat}{mk:Int}{wh:Nat->Option Nat}{b:Bm}{mh:Nat}{r:Int}{um:List UInt8}
def MeetC (bb tb:Nat) (X:Ad) (C:Cf) (st:Nat->Option Nat) (mk:Int) (wh:Nat->Option Nat) (b:Bm) (mh:Nat) (r:Int) (l:Nat):Prop :=
 ∀ (W:Nat->Prop) (w:World) (k:Nat) (um:List UInt8) (n:Nv) (id:Nat) (lo hi:ByteArray),Mt W w bb tb X k C st mk wh b mh r um->k+8006*(ids (bv C st b.im) l id).length<=250000000000->NdV (Wm W mh) w n (nodeOf id (bv C st b.im id) lo hi)->Ok (bv C st b.im) b.us C.ps l id lo hi->(∀ j∈ids (bv C st b.im) l id,uses um j=false)->(ids (bv C st b.im) l id).Nodup ->
  Calls Tryz.prog 51 #[.pointer (some ⟨bb,0,none⟩),.agg n.A,.pointer (some ⟨mh,0,none⟩)] w fun e w'=>e=.returned (.bool true)/\∃ W',Mt W' w' bb tb X (k+8006*((ids (bv C st b.im) l id).length-1)) C st mk wh b mh r (usA um (ids (bv C st b.im) l id))/\Fr (Wm W mh) (Wm W' mh) w w'
set_option maxHeartbeats 2000000 in
theorem meet_zero:MeetC bb tb X C st mk wh b mh r 0:=by
 intro W w k um n id lo hi hM hk hn hO hfr hnd
 have hp1:=hM.bu.p1
 have hid:=hO.1.i1
 have hlv:n.lv=0:=by rw[hn.lv];show((lvl (bv C st b.im id):Nat):Int)=0;rw[hO.1.lv];rfl
 have hni:n.id=(id:Int):=hn.id
 have CU:Hid (∀ wx,Mt W wx bb tb X k C st mk wh b mh r um->Calls Tryz.prog 53 #[.pointer (some ⟨mh,0,none⟩),.int .i64 (id:Int)] wx fun e w'=>e=.returned (.bool false)/\w'=wx):=fun wx hx=>by
  have:=hx.uses_ id (by omega)
  rw[hfr id (by simp[ids])] at this
  exact this
 have CE:Hid (∀ wx,Mt W wx bb tb X k C st mk wh b mh r um->Calls Tryz.prog 31 #[.pointer (some ⟨mh,0,none⟩),.int .i64 (id:Int)] wx fun e w'=>e=.returned (.tuple #[])/\Mt W w' bb tb X k C st mk wh b mh r (Tr.use um id)/\Fr (Wm W mh) (Wm W mh) wx w'):=fun wx hx=>hx.use_ id (by omega)
 have HM:Hid (Mt W w bb tb X k C st mk wh b mh r um):=hM
 have HLT:Hid (∀ j,Wm W mh j->j<w.heap.size):=fun j hj=>hM.lt hj
 clear hM hn hO hfr hnd hk
 go_enter Tryz.func51,Tryz.ntmps51
 go_wp2_with (first
  | (refine wpList_box_nd (n:=n) _ rfl _ rfl rfl ?_;intro w1 b4 N1;have M1:Hid _:=HM.out.below N1.below;have G4:Hid (¬ Wm W mh b4):=(fun e=>absurd (HLT.out _ e) (by rw[N1.eq];omega):¬ Wm W mh b4);have c0:w1.cell? ⟨b4,0,none⟩=some (.int .i64 (id:Int)):=(by rw[N1.nd.c0,hni]))
  | (go_at_call 53;refine(CU.out _ M1.out).mono ?_;rintro e w2 ⟨rfl,rfl⟩)
  | (go_at_call 31;refine(CE.out _ M1.out).mono ?_;rintro e w3 ⟨rfl,m3,f3⟩;have d2:w3.cell? ⟨b4,2,none⟩=some (.int .i64 0):=(by rw[(nd_fr N1.nd f3 G4.out).c2,hlv]);have M3:Hid _:=m3;have F3:Hid _:=(Fr.of_below N1.below (Wm W mh)).trans f3;clear m3 f3))
 go_ret
 exact⟨rfl,W,M3.out,F3.out⟩
set_option maxHeartbeats 4000000 in
theorem meet_succ (l:Nat) (hl:l<255) (IH:MeetC bb tb X C st mk wh b mh r l):MeetC bb tb X C st mk wh b mh r (l+1):=by
 intro W w k um n id lo hi hM hk hn hO hfr hnd
 have hp1:=hM.bu.p1
 have hid:=hO.1.i1
 have hlv:n.lv=((l+1:Nat):Int):=by rw[hn.lv];show((lvl (bv C st b.im id):Nat):Int)=_;rw[hO.1.lv]
 have hni:n.id=(id:Int):=hn.id
 have CU:Hid (∀ wx,Mt W wx bb tb X k C st mk wh b mh r um->Calls Tryz.prog 53 #[.pointer (some ⟨mh,0,none⟩),.int .i64 (id:Int)] wx fun e w'=>e=.returned (.bool false)/\w'=wx):=fun wx hx=>by
  have:=hx.uses_ id (by omega)
  rw[hfr id (by simp[ids])] at this
  exact this
 have CE:Hid (∀ wx,Mt W wx bb tb X k C st mk wh b mh r um->Calls Tryz.prog 31 #[.pointer (some ⟨mh,0,none⟩),.int .i64 (id:Int)] wx fun e w'=>e=.returned (.tuple #[])/\Mt W w' bb tb X k C st mk wh b mh r (Tr.use um id)/\Fr (Wm W mh) (Wm W mh) wx w'):=fun wx hx=>hx.use_ id (by omega)
 have HM:Hid (Mt W w bb tb X k C st mk wh b mh r um):=hM
 have HLT:Hid (∀ j,Wm W mh j->j<w.heap.size):=fun j hj=>hM.lt hj
 obtain⟨ch,hch⟩:∃ ch:List (List Nat),ch=(cs (bv C st b.im id)).map (fun c=>ids (bv C st b.im) l (pgOf c)):=⟨_,rfl⟩
 have hids:ids (bv C st b.im) (l+1) id=id ::ch.flatten:=by rw[hch];rfl
 have hcl:ch.length=(cs (bv C st b.im id)).length:=by rw[hch,List.length_map]
 have hnl:(cs (bv C st b.im id)).length<=1000:=Right.l1000 hO.1.good.right
 have hum:um.length=222:=hM.hd.len
 have hlt8:∀ j∈id ::ch.flatten,j / 8<222:=fun j hj=>by
  have:=(ids_lt (l+1) id lo hi hO j (by rw[hids];exact hj)).2
  omega
 have HNV:Hid (NdV (Wm W mh) w n (nodeOf id (bv C st b.im id) lo hi)):=hn
 obtain⟨sa,scap,hse,_⟩:=hn.sl.ex
 have hse':n.sl=.slice sa (cs (bv C st b.im id)).length scap:=hse
 -- a child:below,then meet
 have CB:Hid (∀ (i:Nat) (hi':i<(cs (bv C st b.im id)).length) wx Wx kx,kx<=250000000000->Bu Wx wx bb tb X kx C st mk wh b->NdV Wx wx n (nodeOf id (bv C st b.im id) lo hi)->Calls Tryz.prog 84 #[.pointer (some ⟨bb,0,none⟩),.agg n.A,.int .i64 (i:Int)] wx fun e w'=>∃ n' W',e=.returned (.tuple #[.agg n'.A,.int .i64 0])/\Bu W' w' bb tb X (kx+8006) C st mk wh b/\Fr Wx W' wx w'/\NdV (fun j=>W' j∨j<wx.heap.size) w' n' (nodeOf (pgOf (cs (bv C st b.im id))[i]) (bv C st b.im (pgOf (cs (bv C st b.im id))[i])) (bLo (cs (bv C st b.im id)) lo i) (bHi (cs (bv C st b.im id)) hi i))):=fun i hi' wx Wx kx hkx hbx hnx=>hbx.below_ (by omega) n (nodeOf id (bv C st b.im id) lo hi) hnx i hi' (by show(cs (bv C st b.im id)).length<=1000;omega) (Right.v32 hO.1.good.right hi') l (show lvl (bv C st b.im id)=l+1 from hO.1.lv) (show lvl (bv C st b.im id)<256 by rw[hO.1.lv];omega) (hO.2.2 i hi').o0
 have hpart:∀ i,(hi':i<ch.length)->(ch.take (i+1)).flatten=(ch.take i).flatten++ch[i]:=fun i hi'=>by
  rw[List.take_succ_eq_append_getElem hi',List.flatten_append];simp
 have hsub:∀ i,((ch.take i).flatten).length<=ch.flatten.length:=fun i=>by
  have:ch.flatten=(ch.take i).flatten++(ch.drop i).flatten:=by rw[← List.flatten_append,List.take_append_drop]
  rw[this,List.length_append];omega
 have CM:Hid (∀ (i:Nat) (hi':i<(cs (bv C st b.im id)).length) wx Wx n',Mt Wx wx bb tb X (k+8006*((ch.take i).flatten).length+8006) C st mk wh b mh r (usA (Tr.use um id) (ch.take i).flatten)->NdV (Wm Wx mh) wx n' (nodeOf (pgOf (cs (bv C st b.im id))[i]) (bv C st b.im (pgOf (cs (bv C st b.im id))[i])) (bLo (cs (bv C st b.im id)) lo i) (bHi (cs (bv C st b.im id)) hi i))->Calls Tryz.prog 51 #[.pointer (some ⟨bb,0,none⟩),.agg (Nv.A n'),.pointer (some ⟨mh,0,none⟩)] wx fun e w'=>e=.returned (.bool true)/\∃ W',Mt W' w' bb tb X (k+8006*((ch.take (i+1)).flatten).length) C st mk wh b mh r (usA (Tr.use um id) (ch.take (i+1)).flatten)/\Fr (Wm Wx mh) (Wm W' mh) wx w'):=fun i hi' wx Wx n' hm hn'=>by
  have hi2:i<ch.length:=by omega
  have hci:ch[i]=ids (bv C st b.im) l (pgOf (cs (bv C st b.im id))[i]):=by simp[hch]
  have e1:=hpart i hi2
  have hle:=hsub (i+1)
  rw[e1,List.length_append] at hle
  have hpos:=ids_pos (bv C st b.im) l (pgOf (cs (bv C st b.im id))[i])
  rw[hids] at hk hnd hfr
  rw[List.length_cons] at hk
  have hflat:ch.flatten=(ch.take (i+1)).flatten++(ch.drop (i+1)).flatten:=by rw[← List.flatten_append,List.take_append_drop]
  have hnd2:(id ::((ch.take i).flatten++ch[i])).Nodup:=by
   refine List.Nodup.sublist ?_ hnd
   rw[hflat,e1]
   exact List.Sublist.cons_cons _ (List.sublist_append_left _ _)
  have hnd3:=List.nodup_append.1 (List.nodup_cons.1 hnd2).2
  have hmem:∀ j∈ch[i],j∈ch.flatten:=fun j hj=>List.mem_flatten.2 ⟨_,List.getElem_mem hi2,hj⟩
  refine(IH Wx wx _ _ n' _ _ _ hm (by rw[← hci];omega) hn' (hO.2.2 i hi') (fun j hj=>?_) (by rw[← hci];exact hnd3.2.1)).mono ?_
  ·rw[← hci] at hj
   rw[usA_uses j _ _ (fun x hx=>by rw[use_length,hum];refine hlt8 x (List.mem_cons_of_mem _ ?_);rw[hflat,e1];exact List.mem_append_left _ (List.mem_append_left _ hx)),uses_use _ _ _ (by rw[hum];exact hlt8 id (by simp))]
   have h1:j ∉ (ch.take i).flatten:=fun h=>hnd3.2.2 j h j hj rfl
   have h2:¬ id=j:=fun e=>(List.nodup_cons.1 hnd2).1 (by rw[e];exact List.mem_append_right _ hj)
   rw[hfr j (List.mem_cons_of_mem _ (hmem j hj))]
   simp[h1,h2]
  ·rintro e w' ⟨he,W',hm',hf'⟩
   refine⟨he,W',?_,hf'⟩
   rw[← hci] at hm' hpos
   have e2:k+8006*((ch.take i).flatten).length+8006+8006*(ch[i].length-1)=k+8006*((ch.take (i+1)).flatten).length:=by rw[e1,List.length_append];omega
   have e3:usA (usA (Tr.use um id) (ch.take i).flatten) ch[i]=usA (Tr.use um id) (ch.take (i+1)).flatten:=by rw[e1];unfold usA;rw[List.foldl_append]
   rw[e2,e3] at hm'
   exact hm'
 have hkk:∀ i,k+8006*((ch.take i).flatten).length<=250000000000:=fun i=>by have:=hsub i;rw[hids,List.length_cons] at hk;omega
 have HKK:Hid (∀ i,k+8006*((ch.take i).flatten).length<=250000000000):=hkk
 have HEND:Hid ((ch.take (cs (bv C st b.im id)).length).flatten=ch.flatten):=(by rw[← hcl,List.take_length]:(ch.take (cs (bv C st b.im id)).length).flatten=ch.flatten)
 rw[hids]
 have hlen1:(id ::ch.flatten).length-1=ch.flatten.length:=by simp
 have husA:usA um (id ::ch.flatten)=usA (Tr.use um id) ch.flatten:=rfl
 rw[hlen1,husA]
 have hlz:¬ ((l+1:Nat):Int)=0:=by omega
 clear hM hn hO hfr hnd hk IH hids hcl hse hpart hsub hkk hlt8 hch hlen1 husA
 generalize (cs (bv C st b.im id))=cl at *
 generalize ((l+1:Nat):Int)=lI at *
 have hlzb:(lI==0)=false:=by simpa using hlz
 go_enter Tryz.func51,Tryz.ntmps51
 go_wp2_with (first
  | (refine wpList_box_nd (n:=n) _ rfl _ rfl rfl ?_;intro w1 b4 N1;have M1:Hid _:=HM.out.below N1.below;have G4:Hid (¬ Wm W mh b4):=(fun e=>absurd (HLT.out _ e) (by rw[N1.eq];omega):¬ Wm W mh b4);have c0:w1.cell? ⟨b4,0,none⟩=some (.int .i64 (id:Int)):=(by rw[N1.nd.c0,hni]))
  | (go_at_call 53;refine(CU.out _ M1.out).mono ?_;rintro e w2 ⟨rfl,rfl⟩)
  | (go_at_call 31;refine(CE.out _ M1.out).mono ?_;rintro e w3 ⟨rfl,m3,f3⟩;have A3:Hid _:=nd_fr N1.nd f3 G4.out;have d2:w3.cell? ⟨b4,2,none⟩=some (.int .i64 lI):=(by rw[A3.out.c2,hlv]);have d3:w3.cell? ⟨b4,3,none⟩=some (.slice sa cl.length scap):=(by rw[A3.out.c3,hse']);have M3:Hid _:=m3;have F3:Hid _:=(Fr.of_below N1.below (Wm W mh)).trans f3;have V3:Hid _:=HNV.out.fr F3.out;have G5:Hid (¬ Wm W mh b4):=G4.out;have L3:Hid (b4<w3.heap.size):=A3.out.lt;clear m3 f3))
 have hbel:Hid (w.heap.size<=b4):=(by rw[N1.eq];exact Nat.le_refl _:w.heap.size<=b4)
 clear CU CE N1 M1 c0 d2 d3 HLT HM
 go_loopw [7,8,9,24] (fun s7 s8 s9 s24 wr=>∃ (i:Nat) (Wi:Nat->Prop),s24=.int .i64 (i:Int)/\i<=cl.length/\NdAt wr b4 n/\¬ Wm Wi mh b4/\NdV (Wm Wi mh) wr n (nodeOf id (bv C st b.im id) lo hi)/\Mt Wi wr bb tb X (k+8006*((ch.take i).flatten).length) C st mk wh b mh r (usA (Tr.use um id) (ch.take i).flatten)/\Fr (Wm W mh) (Wm Wi mh) w wr) (fun s7 s8 s9 s24 _=>cl.length-(intOf s24).toNat)
 case atStart=>exact⟨0,W,rfl,Nat.zero_le _,A3.out,G5.out,V3.out,by simpa[usA] using M3.out,F3.out⟩
 case round =>
  obtain⟨i,Wi,rfl,hi',A,G,V,M,F⟩:=hrel
  have A4:Hid _:=A
  have G4':Hid (¬ Wm Wi mh b4):=G
  have V4:Hid _:=V
  have M4:Hid _:=M
  have F4:Hid _:=F
  clear A G V M F A3 G5 V3 M3 F3
  by_cases hlt:i<cl.length
  ·have hltI:(i:Int)<(cl.length:Int):=by omega
   have CB1:=CB.out i hlt
   have CM1:=CM.out i hlt
   have hki:=HKK.out i
   generalize nodeOf (pgOf cl[i]) (bv C st b.im (pgOf cl[i])) (bLo cl lo i) (bHi cl hi i)=nd6 at *
   have CB2:Hid (∀ wx Wx kx,kx<=250000000000->Bu Wx wx bb tb X kx C st mk wh b->NdV Wx wx n (nodeOf id (bv C st b.im id) lo hi)->Calls Tryz.prog 84 #[.pointer (some ⟨bb,0,none⟩),.agg n.A,.int .i64 (i:Int)] wx fun e w'=>∃ n' W',e=.returned (.tuple #[.agg n'.A,.int .i64 0])/\Bu W' w' bb tb X (kx+8006) C st mk wh b/\Fr Wx W' wx w'/\NdV (fun j=>W' j∨j<wx.heap.size) w' n' nd6):=CB1
   have CM2:Hid (∀ wx Wx n',Mt Wx wx bb tb X (k+8006*((ch.take i).flatten).length+8006) C st mk wh b mh r (usA (Tr.use um id) (ch.take i).flatten)->NdV (Wm Wx mh) wx n' nd6->Calls Tryz.prog 51 #[.pointer (some ⟨bb,0,none⟩),.agg (Nv.A n'),.pointer (some ⟨mh,0,none⟩)] wx fun e w'=>e=.returned (.bool true)/\∃ W',Mt W' w' bb tb X (k+8006*((ch.take (i+1)).flatten).length) C st mk wh b mh r (usA (Tr.use um id) (ch.take (i+1)).flatten)/\Fr (Wm Wx mh) (Wm W' mh) wx w'):=CM1
   clear CB1 CM1 CB CM
   go_wp2_with (first
    | (refine wpList_load_nd (n:=n) _ rfl (.tmp 4) rfl rfl A4.out ?_)
    | (go_at_call 84;refine(CB2.out _ _ _ hki M4.out.bu (V4.out.keep (fun _ _ _=>rfl) (fun j _ hn e=>hn (Or.inl e)) (Nat.le_refl _))).mono ?_;rintro e w5 ⟨n6,W5,rfl,b5,f5,v5⟩;have B5:Hid _:=b5;have F5:Hid _:=f5;have V5:Hid _:=v5;have hone:=v5.sl.one;clear b5 f5 v5)
    | (refine wpList_new_nd _ rfl rfl ?_;intro w6 b8 N6)
    | (refine wpList_put_nd (s':=n6) _ rfl (.tmp 8) (.tmp 32) rfl rfl rfl N6.nd hone ?_;intro w7 P7;have p0:w7.cell? ⟨b8,0,none⟩=some (.int .i64 n6.id):=P7.nd.c0;have p1:w7.cell? ⟨b8,1,none⟩=some (.string n6.tx):=P7.nd.c1;have p2:w7.cell? ⟨b8,2,none⟩=some (.int .i64 n6.lv):=P7.nd.c2;have p3:w7.cell? ⟨b8,3,none⟩=some (n6.sl):=P7.nd.c3;have p4:w7.cell? ⟨b8,4,none⟩=some (.string n6.lo):=P7.nd.c4;have p5:w7.cell? ⟨b8,5,none⟩=some (.string n6.hi):=P7.nd.c5;have p6:w7.cell? ⟨b8,6,none⟩=some (.int .i64 n6.nx):=P7.nd.c6;have e8:=N6.eq;have z5:=F5.out.size;have z6:=N6.below.size;have hmw:=M4.out.hd.lt;have hb4:=A4.out.lt;have hn8:¬ W5 b8:=(fun e=>by have:=B5.out.lt e;omega);have M7:Hid _:=((M4.out.fr B5.out F5.out).below N6.below).off P7.off hn8 (by omega);have F7:Hid _:=((F5.out.wm hmw).below N6.below).off P7.off (by omega);have V7:Hid (NdV (Wm W5 mh) w7 n6 nd6):=V5.out.keep (fun j hj hu=>(P7.off.block j (by omega) (by omega)).trans (N6.below.block j hj)) (fun j hj hu hu2=>hu2.elim (fun e=>hu (Or.inl e)) (fun e=>hu (Or.inr (by rw[e];exact hmw)))) (Nat.le_trans z6 P7.off.size);have A7:Hid _:=nd_fr A4.out F7.out G4'.out;have G7:Hid _:=F7.out.not hb4 G4'.out;have N7:Hid _:=V4.out.fr F7.out;clear e8 z5 z6 hmw hb4 hn8)
    | (go_at_call 51;refine(CM2.out _ _ n6 M7.out V7.out).mono ?_;rintro e w9 ⟨rfl,W9,m9,f9⟩;have M9:Hid _:=m9;have F9:Hid _:=f9;clear m9 f9))
   go_roundw
   case rel=>exact⟨i+1,W9,by rfl,by omega,nd_fr A7.out F9.out G7.out,F9.out.not A7.out.lt G7.out,N7.out.fr F9.out,M9.out,(F4.out.trans F7.out).trans F9.out⟩
   case measure=>simp[intOf];omega
  ·have hltI:¬ (i:Int)<(cl.length:Int):=by omega
   obtain rfl:i=cl.length:=by omega
   have m4:=M4.out
   rw[HEND.out] at m4
   have M5:Hid _:=m4
   clear m4
   go_wp2
   go_ret
   exact⟨rfl,Wi,by have:=M5.out;first |exact this |(rwa [List.length_flatten] at this),F4.out⟩
theorem meet_all:∀ l,l<=255->MeetC bb tb X C st mk wh b mh r l
 | 0,_=>meet_zero
 | l+1,h=>meet_succ l (by omega) (meet_all l (by omega))
end
theorem part_cell (w:World) (t:TypeId) (A:Array Value) (i:Nat) (v:Value) (hi:(isAgg t).run Tryz.prog w=.ok false w) (h:A[i]?=some v):(Go.part t A i).run Tryz.prog w=.ok v w:=by
 simp[Go.part,Sem.run_bind,hi,Result.andThen,h]
theorem equalIn_row (w:World) (d:Nat) (A:Array Value) (hA:∀ i,i<222->∃ x:Int,A[i]?=some (.int .u8 x)):(Op.equalIn (d+2) 74 (.agg A) (.agg A)).run Tryz.prog w=.ok true w:=by
 have hu:Tryz.prog.underlying 74=some (.array 222 5):=Tryz.underlying74
 have hs:(Go.sizeOf 5).run Tryz.prog w=.ok 1 w:=by kernel_rfl
 have ha:(isAgg 5).run Tryz.prog w=.ok false w:=by kernel_rfl
 rw[Op.equalIn]
 simp only[Sem.run_bind,run_underlying hu,Result.andThen_ok,hs]
 rw[Std.Legacy.Range.forIn_eq_forIn_range']
 have key:∀ (l:List Nat),(∀ i∈l,i<222)->∀ w':World,w'=w->(forIn (m:=Sem) l (none,PUnit.unit) (fun i r=>do
   let a←Go.part 5 A (i*1)
   let b←Go.part 5 A (i*1)
   let q←Op.equalIn (d+1) 5 a b
   if(!q)=true then pure (ForInStep.done (some false,PUnit.unit)) else pure (ForInStep.yield (none,PUnit.unit)))).run Tryz.prog w'=.ok (none,PUnit.unit) w:=by
  intro l
  induction l with
  | nil=>intro _ w' hw;subst hw;simp
  | cons i l ih =>
   intro hl w' hw
   subst hw
   obtain⟨x,hx⟩:=hA i (hl i (by simp))
   have hp:=part_cell w' 5 A (i*1) (.int .u8 x) ha (by rw[Nat.mul_one];exact hx)
   have he:=run_equalIn_int (P:=Tryz.prog) w' d 5 .u8 .u8 x x Tryz.underlying5
   simp only[List.forIn_cons,Sem.run_bind,hp,he,Result.andThen_ok,beq_self_eq_true,Bool.not_true,Bool.false_eq_true,if_false,Sem.run_pure]
   exact ih (fun j hj=>hl j (List.mem_cons_of_mem _ hj)) w' rfl
 rw[key _ (fun i hi=>by
  have:=List.mem_range'.1 hi
  obtain⟨j,hj,e⟩:=this
  simp[Std.Legacy.Range.size] at hj e
  omega) w rfl]
 rfl
theorem part_agg (w:World) (r:Int) (us:List UInt8) (hl:us.length=222):(Go.part 74 (hdA r us) 1).run Tryz.prog w=.ok (.agg (Lib.byteCells us).toArray) w:=by
 have ha:(isAgg 74).run Tryz.prog w=.ok true w:=by kernel_rfl
 have hs:(Go.sizeOf 74).run Tryz.prog w=.ok 222 w:=by kernel_rfl
 simp only[Go.part,Sem.run_bind,ha,hs,Result.andThen_ok,if_true,Sem.run_pure]
 congr 2
 apply Array.toList_inj.1
 simp[hdA,hdL,Lib.byteCells,hl]
 exact List.take_of_length_le (by simp[hl])
theorem eql_head (w:World) (r:Int) (us:List UInt8) (hl:us.length=222):(binOp .eql 76 (.agg (hdA r us)) (.agg (hdA r us))).run Tryz.prog w=.ok (.bool true) w:=by
 rw[run_eql_struct]
 have h1:(Op.equalIn 10000 76 (.agg (hdA r us)) (.agg (hdA r us))).run Tryz.prog w=.ok true w:=by
  rw[run_equalIn_struct w 9999 76 (hdA r us) (hdA r us) (by kernel_rfl) (by kernel_rfl)]
  have hf : (Tryz.prog.fieldsOf 76).toList = [⟨ "root", 3, 0, false, "", "gharry/tree", 0⟩, ⟨ "used", 74, 1, false, "", "gharry/tree", 8⟩] := by kernel_rfl
  rw[hf]
  have hi:(isAgg 3).run Tryz.prog w=.ok false w:=by kernel_rfl
  have p0:=part_cell w 3 (hdA r us) 0 (.int .i64 r) hi rfl
  have p1:=part_agg w r us hl
  have e0:(Op.equalIn 9999 3 (.int .i64 r) (.int .i64 r)).run Tryz.prog w=.ok (r==r) w:=run_equalIn_int (P:=Tryz.prog) w 9998 3 .i64 .i64 r r Tryz.underlying3
  have e1:(Op.equalIn 9999 74 (.agg (Lib.byteCells us).toArray) (.agg (Lib.byteCells us).toArray)).run Tryz.prog w=.ok true w:=equalIn_row w 9997 (Lib.byteCells us).toArray (fun i hi=>⟨(Pg.g us i:Nat),by
   have:=hdL_get r us i (by rw[hl];exact hi)
   simpa[hdL] using this⟩)
  clear hf hi
  generalize hdA r us=A at *
  generalize (Lib.byteCells us).toArray=B at *
  rw[Op.eqFields,if_pos (by decide),Sem.run_bind,p0,Result.andThen_ok,Sem.run_bind,p0,Result.andThen_ok,Sem.run_bind,e0,Result.andThen_ok,beq_self_eq_true]
  rw[if_neg (by decide),Op.eqFields,if_pos (by decide),Sem.run_bind,p1,Result.andThen_ok,Sem.run_bind,p1,Result.andThen_ok,Sem.run_bind,e1,Result.andThen_ok]
  rw[if_neg (by decide),Op.eqFields]
  rfl
 rw[h1]
 rfl
end Go.Proofs.YtpcnjncgilmehabGreat.Tr
