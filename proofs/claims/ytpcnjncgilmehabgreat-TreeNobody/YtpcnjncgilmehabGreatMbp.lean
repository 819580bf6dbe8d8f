import Derived.Test.YtpcnjncgilmehabGreatMbo
set_option linter.unusedVariables false
set_option linter.unusedSimpArgs false
set_option maxRecDepth 100000
namespace Go.Proofs.YtpcnjncgilmehabGreat.Tr
open Go.RowKit
section
def us1:List UInt8:=Tr.use (Tr.use zus 0) 1
theorem us1_free:frM us1 20=18:=by decide +kernel
def C1 (p:Nat):Cf:=addF (C0 p) (frameM (recI 2 imC)).1 (Ub imC) (fun _=>none)
def st1:Nat->Option Nat:=stA (fun _=>none) imC 1
theorem C1_nxt (p:Nat):nxt (C1 p)=465:=by
 have h:=cat_addF (C0 p) (frameM (recI 2 imC)).1 (Ub imC) (fun _=>none)
 have h0:(cat (C0 p).fs).size=0:=rfl
 rw[h0,imC_frame.2] at h
 show(cat (addF (C0 p) (frameM (recI 2 imC)).1 (Ub imC) (fun _=>none)).fs).size+1=_
 omega
theorem st1_0:st1 0=some 1:=by decide +kernel
theorem st1_1:st1 1=some 1:=by decide +kernel
theorem C1_T (p id:Nat):(C1 p).T id 1=Ub imC id:=by
 unfold C1
 simp only[addF]
 rw[if_neg (by show ¬ 1<=0;omega)]
theorem V1_0 (p:Nat):Vw (C1 p) st1 0=hdT 1 us1:=by
 unfold Vw
 rw[st1_0]
 show(C1 p).T 0 1=_
 rw[C1_T]
 rfl
theorem V1_1 (p:Nat):Vw (C1 p) st1 1=blk 1:=by
 unfold Vw
 rw[st1_1]
 show(C1 p).T 1 1=_
 rw[C1_T]
 rfl
end
open Go.RowKit Go.Maps Go.ChangeMaps
structure Pt (t:ByteArray) (kk l:Nat) (M:List Cl):Prop where
 right:Pg.Right (Pg.bts t)
 fk:kd t=kk
 fl:lvl t=l
 fc:cs t=M
theorem Pt.size {t:ByteArray} {kk l:Nat} {M:List Cl} (h:Pt t kk l M):t.size=224:=by
 have:=h.right.head.len
 rw[← Pg.tx_bts t,Pg.tx_size]
 exact this
theorem Pt.pack {kk l:Nat} {M:List Cl} (h:Pg.CanPack kk l M):Pt (Pg.tx (Pg.packS kk l M)) kk l M:=by
 have p:=Pg.packed_all M h
 exact⟨by rw[Pg.bts_tx];exact p.right,by unfold kd;rw[Pg.bts_tx];exact p.gk,by unfold lvl;rw[Pg.bts_tx];exact p.gl,by unfold cs;rw[Pg.bts_tx];exact p.cells⟩
theorem Pt.ins {t:ByteArray} {kk l:Nat} {M:List Cl} (h:Pt t kk l M) (hk:kk≠0) (c:Cl) (hck:c.k.size<=16) (hcv:c.v.size<=32) (ha:Pg.isAt M c.k=false) (hf:Pg.needs M+Pg.need c<=220) :
  ∃ t',Pt t' kk l (Pg.ins M (Pg.plc M c.k) c)/\∀ wx,Calls Tryz.prog 74 #[.string t,.agg #[.string c.k,.string c.v]] wx fun e w'=>e=.returned (.tuple #[.string t',.int .i64 0])/\Below wx.heap.size wx w':=by
 obtain⟨hr,rfl,rfl,rfl⟩:=h
 have hT:Pg.Turns (Pg.bts t):=⟨hr,hk⟩
 have hl:Pg.long c=0:=by unfold Pg.long;rw[if_neg (by omega),if_neg (by omega)]
 have hpl:=Pg.plc_le (Pg.cells (Pg.bts t)) c.k
 rw[Pg.cells_length] at hpl
 have hC:Pg.CanLay (Pg.bts t) (Pg.plc (cs t) c.k) c:=⟨hr,hk,hpl,hck,hcv,hf⟩
 refine⟨Pg.tx (Pg.layS (Pg.bts t) (Pg.plc (cs t) c.k) c),⟨?_,?_,?_,?_⟩,fun wx=>Pg.Insert_ok wx t c hT hl ha hf⟩
 ·rw[Pg.bts_tx];exact hC.done Pg.plc_take (Pg.plc_drop hr.ris ha)
 ·unfold kd;rw[Pg.bts_tx];exact hC.low (by omega)
 ·unfold lvl;rw[Pg.bts_tx];exact hC.low (by omega)
 ·unfold cs;rw[Pg.bts_tx];exact hC.cells
theorem Pt.room {t:ByteArray} {kk l:Nat} {M:List Cl} (h:Pt t kk l M) (hk:kk≠0):∀ wx,Calls Tryz.prog 70 #[.string t] wx fun e w'=>e=.returned (.int .i64 ((220-Pg.needs M:Nat):Int))/\Below wx.heap.size wx w':=by
 obtain⟨hr,rfl,rfl,rfl⟩:=h
 intro wx
 have:=Pg.Room_right wx t hr
 rw[Pg.rm_turns ⟨hr,hk⟩] at this
 exact this
theorem way_split (V:Nat->ByteArray) (k:ByteArray):∀ (l id:Nat) (lo hi:ByteArray),Tr.way V k l id lo hi=(Tr.way V k l id lo hi).take l++[lfN V k l id lo hi]
 | 0,_,_,_=>rfl
 | l+1,id,lo,hi=>by
  have ih:=way_split V k l (pgOf ((cs (V id)).getD (tow (cs (V id)) k) ⟨eb,eb⟩)) (bLo (cs (V id)) lo (tow (cs (V id)) k)) (bHi (cs (V id)) hi (tow (cs (V id)) k))
  simp only[Tr.way,lfN,List.take_succ_cons,List.cons_append]
  rw[← ih]
structure Sd (C:Cf) (st wh:Nat->Option Nat) (ps n:Nat):Prop where
 eps:C.ps=ps
 sc:C.sc=2000
 lo:∀ d,C.lo d=0
 no:∀ d,ps<=d->st d=none
 en:(cat C.fs).size=n
 cov:∀ d,(Vw C st d).size≠0->∃ r,wh d=some r
 sl:∀ d r,st d=some r->r<=(cat C.fs).size
structure Tv (W:Nat->Prop) (w:World) (tb:Nat) (X:Ad) (k ps:Nat) (V:Nat->ByteArray) (n:Nat):Prop where
 ex:∃ C st wh,Tt W w tb X k C st 0 wh/\Sd C st wh ps n/\Vw C st=V
section
variable {W W':Nat->Prop}{w w':World}{bb tb wb:Nat}{d s:Value}{X:Ad}{k k2:Nat}{C C2:Cf}{st st2:Nat->Option Nat}{mk:Int}{wh wh2:Nat->Option Nat}{b b2:Bm}{rt L L2 ps n n2:Nat}{us:List UInt8}{M:List Cl}
theorem Sd.turned (h:Sd C st wh ps n) (id:Nat) (hid:id<ps) (hne:(Vw C st id).size≠0) (f t:ByteArray) (hf:1<=f.size):Sd (addF C f (fun _=>t) st) (upd st id (some (nxt C))) wh ps (n+f.size)/\Vw (addF C f (fun _=>t) st) (upd st id (some (nxt C)))=upd (Vw C st) id t:=by
 have hV:Vw (addF C f (fun _=>t) st) (upd st id (some (nxt C)))=upd (Vw C st) id t:=by
  funext d
  by_cases e:d=id
  ·subst e
   rw[upd_same]
   unfold Vw
   rw[upd_same]
   show(if nxt C<=(cat C.fs).size then C.T d (nxt C) else t)=t
   rw[if_neg (by unfold nxt;omega)]
  ·rw[upd_other _ _ e,← Vw_addF (C:=C) (st:=st) (id:=d) (h.sl d) f (fun _=>t) st]
   unfold Vw
   rw[upd_other _ _ e]
 refine⟨⟨h.eps,h.sc,h.lo,fun d hd=>?_,by rw[cat_addF,h.en],fun d hd=>?_,fun d r hr=>?_⟩,hV⟩
 ·rw[upd_other _ _ (by omega)];exact h.no d hd
 ·by_cases e:d=id
  ·subst e;exact h.cov d hne
  ·rw[hV,upd_other _ _ e] at hd
   exact h.cov d hd
 ·rw[cat_addF]
  by_cases e:d=id
  ·rw[e,upd_same,Option.some.injEq] at hr
   unfold nxt at hr
   omega
  ·rw[upd_other _ _ e] at hr
   have:=h.sl d r hr
   omega
theorem Sd.laid (h:Sd C st wh ps n) (im:Ims) (hr:Rise im) (hp:∀ p∈im,p.1<ps) (f:ByteArray) (hf:1<=f.size):Sd (addF C f (Ub im) st) (stA st im (nxt C)) (stA wh im (nxt C)) ps (n+f.size)/\Vw (addF C f (Ub im) st) (stA st im (nxt C))=bv C st im:=by
 have hV:Vw (addF C f (Ub im) st) (stA st im (nxt C))=bv C st im:=by
  funext d
  by_cases e:d∈im.map (·.1)
  ·obtain⟨p,hp1,rfl⟩:=List.mem_map.1 e
   have h1:=inn_mem hr hp1
   unfold Vw bv stA
   rw[if_pos e,if_pos h1.1,h1.2]
   show(if nxt C<=(cat C.fs).size then C.T p.1 (nxt C) else Ub im p.1)=p.2
   rw[if_neg (by unfold nxt;omega)]
   exact(Ub_mem hr hp1).symm
  ·rw[bv_not (fun t ht=>e (List.mem_map.2 ⟨_,ht,rfl⟩)),← Vw_addF (C:=C) (st:=st) (id:=d) (h.sl d) f (Ub im) st]
   unfold Vw
   rw[stA_not e]
 refine⟨⟨h.eps,h.sc,h.lo,fun d hd=>?_,by rw[cat_addF,h.en],fun d hd=>?_,fun d r hr'=>?_⟩,hV⟩
 ·rw[stA_not (fun e=>by obtain⟨p,hp1,rfl⟩:=List.mem_map.1 e;have:=hp p hp1;omega)]
  exact h.no d hd
 ·by_cases e:d∈im.map (·.1)
  ·exact⟨nxt C,by unfold stA;rw[if_pos e]⟩
  ·rw[hV,bv_not (fun t ht=>e (List.mem_map.2 ⟨_,ht,rfl⟩))] at hd
   rw[stA_not e]
   exact h.cov d hd
 ·rw[cat_addF]
  by_cases e:d∈im.map (·.1)
  ·unfold stA at hr'
   rw[if_pos e,Option.some.injEq] at hr'
   unfold nxt at hr'
   omega
  ·rw[stA_not e] at hr'
   have:=h.sl d r hr'
   omega
theorem way_wy {key:ByteArray} {ns:List Nd} {m:Nd} {Vb:Nat->ByteArray} {lo hi:ByteArray} (he:Tr.way Vb key L rt lo hi=ns++[m])
  (CW:Calls Tryz.prog 47 #[.pointer (some ⟨bb,0,none⟩),.string key] w fun e w'=>∃ v,e=.returned (.tuple #[v,.int .i64 0])/\∃ W',Bu W' w' bb tb X k C st mk wh b/\Fr W W' w w'/\Nds (fun j=>W' j∨j<w.heap.size) w' v (Tr.way Vb key L rt lo hi)) :
  Calls Tryz.prog 47 #[.pointer (some ⟨bb,0,none⟩),.string key] w fun e w'=>∃ a c,e=.returned (.tuple #[.slice a (ns.length+1) c,.int .i64 0])/\∃ W',Wy W' w' bb tb X k C st mk wh b a c (ns++[m])/\Fr W W' w w':=by
 refine CW.mono ?_
 rintro e w' ⟨v,rfl,W',hB,hF,hN⟩
 rw[he] at hN
 obtain⟨a,c,rfl,_⟩:=hN.slice
 refine⟨a,c,by rw[List.length_append];rfl,W',⟨hB,hN.less (fun j hj=>Or.inl hj)⟩,hF⟩
theorem Tt.place_room (h:Tt W w tb X k C st mk wh) (hk:k<=230000000000) (hT:Tre C st rt us L) (hL:L<=20) (key:ByteArray) (need:Int) (hn:need<=51) (hP:Pt (lfN (Vw C st) key L rt eb eb).tx 1 0 M) (hr:need<=((220-Pg.needs M:Nat):Int)) :
  Calls Tryz.prog 11 #[.pointer (some ⟨tb,0,none⟩),.string key,.int .i64 need] w fun e w'=>e=.returned (.tuple #[.int .i64 ((lfN (Vw C st) key L rt eb eb).id:Int),.int .i64 0])/\∃ W',Tt W' w' tb X (k+8006+8006*(L+1)) C st mk wh/\Fr W W' w w':=by
 have hw:=way_split (Vw C st) key L rt eb eb
 have hlen:((Tr.way (Vw C st) key L rt eb eb).take L).length<=900:=by rw[List.length_take];omega
 refine h.place_ok (m:=lfN (Vw C st) key L rt eb eb) (ms:=(Tr.way (Vw C st) key L rt eb eb).take L) (b2:=⟨rt,us,[]⟩) (k2:=k+8006+8006*(L+1)) (by omega) hT.p0 hT.ul hT.rl hT.hd hn hlen ?_ ?_
 ·intro wx Wx bb hB
  exact wwr_room key need hlen (way_wy hw (hB.way_nil (by omega) hT key)) _ (hP.room (by omega)) hr
 ·intro wx Wx bb hB
  refine(hB.lay0 rfl).mono ?_
  rintro e w' ⟨rfl,rfl⟩
  obtain⟨Wt,hTt,hsub⟩:=hB.tree
  exact⟨rfl,Wt,hTt,(Fr.refl Wx _).shrink hsub⟩
theorem Tt.place_part (h:Tt W w tb X k C st mk wh) (hk:k<=230000000000) (hT:Tre C st rt us L) (hs:C.sc=2000) (hlo:∀ d,C.lo d=0) (hL:L<=20) (hL2:L2<=20) (key:ByteArray) (need:Int) (hn:need<=51) (hP:Pt (lfN (Vw C st) key L rt eb eb).tx 1 0 M) (hr:((220-Pg.needs M:Nat):Int)<need)
  (CP:∀ wx Wx bb a c,Wy Wx wx bb tb X (k+8006+8006*(L+1)) C st mk wh ⟨rt,us,[]⟩ a c ((Tr.way (Vw C st) key L rt eb eb).take L++[lfN (Vw C st) key L rt eb eb])->Calls Tryz.prog 71 #[.pointer (some ⟨bb,0,none⟩),.slice a (((Tr.way (Vw C st) key L rt eb eb).take L).length+1) c] wx fun e w'=>e=.returned (.int .i64 0)/\∃ W',Bu W' w' bb tb X (k+8006+8006*(L+1)) C st mk wh b2/\Fr Wx W' wx w')
  (hO:Ok (bv C st b2.im) b2.us C.ps L2 b2.rt eb eb) {M2:List Cl} (hP2:Pt (lfN (bv C st b2.im) key L2 b2.rt eb eb).tx 1 0 M2) (hr2:need<=((220-Pg.needs M2:Nat):Int)) (hne:b2.im≠[]) (hlen17:(putI b2.im 0 (hdT b2.rt b2.us)).length<=17) (him:∀ p∈putI b2.im 0 (hdT b2.rt b2.us),p.1<65536/\p.2.size=224) (hlog:(cat C.fs).size+(8+228*(putI b2.im 0 (hdT b2.rt b2.us)).length)<=116000) :
  Calls Tryz.prog 11 #[.pointer (some ⟨tb,0,none⟩),.string key,.int .i64 need] w fun e w'=>e=.returned (.tuple #[.int .i64 ((lfN (bv C st b2.im) key L2 b2.rt eb eb).id:Int),.int .i64 0])/\∃ W',Tt W' w' tb X (k+8006+8006*(L+1)+8006*(L2+1)+801*8006) (addF C (frameM (recI 2 (putI b2.im 0 (hdT b2.rt b2.us)))).1 (Ub (putI b2.im 0 (hdT b2.rt b2.us))) st) (stA st (putI b2.im 0 (hdT b2.rt b2.us)) (nxt C)) mk (stA wh (putI b2.im 0 (hdT b2.rt b2.us)) (nxt C))/\Fr W W' w w':=by
 have hw:=way_split (Vw C st) key L rt eb eb
 have hw2:=way_split (bv C st b2.im) key L2 b2.rt eb eb
 have hlen:((Tr.way (Vw C st) key L rt eb eb).take L).length<=900:=by rw[List.length_take];omega
 have hlen2:((Tr.way (bv C st b2.im) key L2 b2.rt eb eb).take L2).length<=900:=by rw[List.length_take];omega
 have hfr:=frame_im 2 (putI b2.im 0 (hdT b2.rt b2.us)) (Or.inl rfl) him hlen17
 refine h.place_ok (m:=lfN (bv C st b2.im) key L2 b2.rt eb eb) (ms:=(Tr.way (bv C st b2.im) key L2 b2.rt eb eb).take L2) (b2:=b2) (k2:=k+8006+8006*(L+1)+8006*(L2+1)) (by omega) hT.p0 hT.ul hT.rl hT.hd hn hlen2 ?_ ?_
 ·intro wx Wx bb hB
  exact wwr_part key need hlen hlen2 (way_wy hw (hB.way_nil (by omega) hT key)) _ (hP.room (by omega)) hr (fun wy Wy' a c hy=>CP wy Wy' bb a c hy) rfl (fun wy Wy' hy=>way_wy hw2 (hy.way (by omega) L2 (by omega) hO key)) _ (hP2.room (by omega)) hr2
 ·intro wx Wx bb hB
  refine(hB.lay (by omega) hne hT.p0 (fun d _=>by rw[hlo];omega)).mono ?_
  rintro e w' ⟨y,rfl,hy⟩
  obtain⟨W',F,hor⟩:=hy.ex
  rcases hor with⟨rfl,_,_,T⟩ |⟨_,h3,_⟩
  ·exact⟨rfl,W',T,F⟩
  ·rcases h3 with⟨h4,_⟩ |⟨_,_,h4⟩
   ·exact absurd hfr.1 h4
   ·exact absurd (by rw[hfr.2,hs];omega) h4
set_option maxHeartbeats 1000000 in
theorem put_gen (h:Tt W w tb X k C st 0 wh) (hL:LwB w wb d s X tb) (hn:¬ W wb) (hk:k<=200000000000) (hT:Tre C st rt us L) (hL2:L<=20) (c:Cl) (hck:c.k.size<=16) (hcv:c.v.size<=32) (hnot:Pg.isAt (lfN (Vw C st) c.k L rt eb eb).cl c.k=false) (id:Nat)
  (CP:∀ wx Wx,Tt Wx wx tb X (k+8006*(L+2)) C st 0 wh->Calls Tryz.prog 11 #[.pointer (some ⟨tb,0,none⟩),.string c.k,.int .i64 (Pg.need c)] wx fun e w'=>e=.returned (.tuple #[.int .i64 (id:Int),.int .i64 0])/\∃ W',Tt W' w' tb X k2 C2 st2 0 wh2/\Fr Wx W' wx w') (hk2:k2<=k+6900000)
  (hs2:Sd C2 st2 wh2 ps n2) (hps:ps<=200) (hid:id<ps) (hP:Pt (Vw C2 st2 id) 1 0 M) (ha:Pg.isAt M c.k=false) (hf:Pg.needs M+Pg.need c<=220) (hlog:n2+(25+c.k.size+c.v.size)<=116000) :
  ∃ t',Pt t' 1 0 (Pg.ins M (Pg.plc M c.k) c)/\Calls Tryz.prog 44 #[.pointer (some ⟨wb,0,none⟩),.agg #[.string c.k,.string c.v]] w fun e w'=>e=.returned (.int .i64 0)/\∃ W',Tv W' w' tb X (k+7000000) ps (upd (Vw C2 st2) id t') (n2+(25+c.k.size+c.v.size))/\Fr W W' w w':=by
 obtain⟨t',hP',CI⟩:=hP.ins (by omega) c hck hcv ha hf
 have hfc:=frame_ch id c (by omega) hck hcv
 refine⟨t',hP',?_⟩
 have hne:(Vw C2 st2 id).size≠0:=by rw[hP.size];omega
 obtain⟨r,hr⟩:=hs2.cov id hne
 have hget:∀ wx,Tt W wx tb X k C st 0 wh->Calls Tryz.prog 14 #[.pointer (some ⟨tb,0,none⟩),.string c.k] wx fun e w'=>e=.returned (.tuple #[.string eb,.bool false,.int .i64 0])/\∃ W',Tt W' w' tb X (k+8006*(L+2)) C st 0 wh/\Fr W W' wx w':=fun wx hx=>by
  have:=hx.get (by omega) hT c.k
  unfold gtV at this
  rw[if_neg (by rw[hnot];simp)] at this
  exact this
 obtain⟨sd,hv⟩:=hs2.turned id hid hne (frameM (recC 3 id c)).1 t' (by rw[hfc.2];omega)
 refine(lput_ok h hL hn c (by omega) (by omega) eb false id hget CP (C3:=addF C2 (frameM (recC 3 id c)).1 (fun _=>t') st2) (st3:=upd st2 id (some (nxt C2))) (wh3:=wh2) (k3:=k2+16012) ?_).mono ?_
 ·intro wx Wx hx hLx hnx
  exact turn_ok hx hLx hnx id 3 (Or.inl rfl) c (by omega) (by omega) t' hP'.size (by omega) (by rw[hs2.eps];exact hid) hne (by rw[hs2.lo];omega) hfc.1 (by rw[hfc.2];omega) (by rw[hfc.2,hs2.sc,hs2.en];omega) (fun wy hy=>(hy.cover0 id r (by rw[hs2.eps];exact hid) hr (by omega)).mono (by rintro e w' ⟨rfl,rfl⟩;exact⟨rfl,_,hy,Fr.refl _ _⟩)) (fun wy=>turn_ins wy _ c t' 0 CI)
 ·rintro e w' ⟨rfl,W',T',F'⟩
  rw[hfc.2] at sd
  exact⟨rfl,W',⟨_,_,_,T'.mono (by omega),sd,hv⟩,F'⟩
end
theorem getD_at {α:Type} {l:List α} {i:Nat} (d:α) (h:i<l.length):l.getD i d=l[i]:=by simp[List.getD,h]
def cI (i:Nat):Cl:=⟨⟨#[UInt8.ofNat (97+i)]⟩,⟨Array.replicate 32 0⟩⟩
def sg (a b:Nat):List Cl:=(List.range' a (b-a)).map cI
def usN:Nat->List UInt8
 | 0=>Tr.use zus 0
 | j+1=>Tr.use (usN j) (j+1)
def kOf (i:Nat):ByteArray:=(cI i).k
def R1:List Cl:=[cellOf eb 1,cellOf (kOf 3) 2]
def R2:List Cl:=[cellOf eb 1,cellOf (kOf 3) 2,cellOf (kOf 6) 4]
theorem usN_len (j:Nat) (h:j<10):(usN j).length=222:=by
 have:∀ j:Nat,j<10->(usN j).length=222:=by decide +kernel
 exact this j h
theorem pg1:pgOf (cellOf eb 1)=1:=by decide +kernel
theorem pg2:pgOf (cellOf (kOf 3) 2)=2:=by decide +kernel
theorem pg4:pgOf (cellOf (kOf 6) 4)=4:=by decide +kernel
theorem sg_can (a b:Nat) (ha:a<=b) (hb:b<=10) (h6:b-a<=6):Pg.CanPack 1 0 (sg a b):=by
 have h1:∀ b:Nat,b<11->∀ a:Nat,a<11->b-a<=6->((sg a b).all (fun c=>decide (c.k.size<=16)&&decide (c.v.size<=32))&&decide (Pg.needs (sg a b)<=220))=true:=by decide +kernel
 have h2:∀ b:Nat,b<11->∀ a:Nat,a<11->b-a<=6->(List.range (sg a b).length).all (fun i=>(List.range (sg a b).length).all (fun j=>decide (j<=i)||Pg.lt ((sg a b).getD i ⟨eb,eb⟩).k ((sg a b).getD j ⟨eb,eb⟩).k))=true:=by decide +kernel
 have e1:=h1 b (by omega) a (by omega) h6
 have e2:=h2 b (by omega) a (by omega) h6
 rw[Bool.and_eq_true,List.all_eq_true,decide_eq_true_eq] at e1
 refine⟨by omega,by omega,Or.inr rfl,fun e=>by omega,fun c hc=>?_,fun c hc=>?_,?_,e1.2⟩
 ·have:=e1.1 c hc;simp at this;exact this.1
 ·have:=e1.1 c hc;simp at this;exact this.2
 ·show List.Pairwise _ _
  rw[List.pairwise_iff_getElem]
  intro i j hi hj hij
  rw[List.all_eq_true] at e2
  have:=e2 i (List.mem_range.2 hi)
  rw[List.all_eq_true] at this
  have:=this j (List.mem_range.2 hj)
  rw[Bool.or_eq_true,decide_eq_true_eq] at this
  rcases this with h |h
  ·omega
  ·rw[getD_at _ hi,getD_at _ hj] at h
   exact h
def inB (a b:Nat) (lo hi:ByteArray):Bool:=(sg a b).all (fun c=>has lo hi c.k)
theorem leaf_ok {V:Nat->ByteArray} {us:List UInt8} {ps id a b:Nat} {lo hi:ByteArray} (h0:0<id) (h1:id<ps) (hu:uses us id=true) (hP:Pt (V id) 1 0 (sg a b)) (hi':inB a b lo hi=true):Ok V us ps 0 id lo hi:=by
 refine⟨⟨h0,h1,hu,⟨hP.right,Or.inl hP.fk,fun c hc=>?_⟩,hP.fl⟩,hP.fk⟩
 unfold told at hc
 rw[if_pos hP.fk,hP.fc] at hc
 exact List.all_eq_true.1 hi' c hc
structure S0 (V:Nat->ByteArray) (i:Nat):Prop where
 p1:Pt (V 1) 1 0 (sg 0 i)
structure S1 (V:Nat->ByteArray) (i:Nat):Prop where
 p1:Pt (V 1) 1 0 (sg 0 3)
 p2:Pt (V 2) 1 0 (sg 3 i)
 p3:Pt (V 3) 2 1 R1
structure S2 (V:Nat->ByteArray) (i:Nat):Prop where
 p1:Pt (V 1) 1 0 (sg 0 3)
 p2:Pt (V 2) 1 0 (sg 3 6)
 p3:Pt (V 3) 2 1 R2
 p4:Pt (V 4) 1 0 (sg 6 i)
theorem S0.ok {V:Nat->ByteArray} {i:Nat} (h:S0 V i) (hi:i<=10):Ok V (usN 1) 20 0 1 eb eb:=by
 have hb:∀ i:Nat,i<11->inB 0 i eb eb=true:=by decide +kernel
 exact leaf_ok (by omega) (by omega) (by decide +kernel) h.p1 (hb i (by omega))
theorem inner_good {t:ByteArray} {R:List Cl} (hP:Pt t 2 1 R) (hne:R≠[]) (h0:(R.getD 0 ⟨eb,eb⟩).k=eb) (hk:R.tail.all (fun c=>has eb eb c.k)=true):Good t eb eb:=by
 refine⟨hP.right,Or.inr ⟨hP.fk,by rw[hP.fl];omega,by rw[hP.fc];exact hne,by rw[hP.fc];exact h0⟩,fun c hc=>?_⟩
 unfold told at hc
 rw[if_neg (by rw[hP.fk];omega),hP.fc] at hc
 exact List.all_eq_true.1 hk c hc
theorem S1.ok {V:Nat->ByteArray} {i:Nat} (h:S1 V i) (hi:i<=10):Ok V (usN 3) 20 1 3 eb eb:=by
 have hb:∀ i:Nat,i<11->inB 3 i (kOf 3) eb=true:=by decide +kernel
 refine⟨⟨by omega,by omega,by decide +kernel,inner_good h.p3 (by simp[R1]) rfl (by decide +kernel),h.p3.fl⟩,h.p3.fk,?_⟩
 rw[h.p3.fc]
 intro j hj
 have:j=0∨j=1:=by simp[R1] at hj;omega
 rcases this with rfl |rfl
 ·show Ok V (usN 3) 20 0 (pgOf (cellOf eb 1)) eb (kOf 3)
  rw[pg1]
  exact leaf_ok (by omega) (by omega) (by decide +kernel) h.p1 (by decide +kernel)
 ·show Ok V (usN 3) 20 0 (pgOf (cellOf (kOf 3) 2)) (kOf 3) eb
  rw[pg2]
  exact leaf_ok (by omega) (by omega) (by decide +kernel) h.p2 (hb i (by omega))
theorem S2.ok {V:Nat->ByteArray} {i:Nat} (h:S2 V i) (hi:i<=10):Ok V (usN 4) 20 1 3 eb eb:=by
 have hb:∀ i:Nat,i<11->inB 6 i (kOf 6) eb=true:=by decide +kernel
 refine⟨⟨by omega,by omega,by decide +kernel,inner_good h.p3 (by simp[R2]) rfl (by decide +kernel),h.p3.fl⟩,h.p3.fk,?_⟩
 rw[h.p3.fc]
 intro j hj
 have:j=0∨j=1∨j=2:=by simp[R2] at hj;omega
 rcases this with rfl |rfl |rfl
 ·show Ok V (usN 4) 20 0 (pgOf (cellOf eb 1)) eb (kOf 3)
  rw[pg1]
  exact leaf_ok (by omega) (by omega) (by decide +kernel) h.p1 (by decide +kernel)
 ·show Ok V (usN 4) 20 0 (pgOf (cellOf (kOf 3) 2)) (kOf 3) (kOf 6)
  rw[pg2]
  exact leaf_ok (by omega) (by omega) (by decide +kernel) h.p2 (by decide +kernel)
 ·show Ok V (usN 4) 20 0 (pgOf (cellOf (kOf 6) 4)) (kOf 6) eb
  rw[pg4]
  exact leaf_ok (by omega) (by omega) (by decide +kernel) h.p4 (hb i (by omega))
theorem S1.lf {V:Nat->ByteArray} {i:Nat} (h:S1 V i) (j:Nat) (hj:6<=j) (hj2:j<10):lfN V (kOf j) 1 3 eb eb=nodeOf 2 (V 2) (kOf 3) eb:=by
 have ht:∀ j:Nat,j<10->6<=j->tow R1 (kOf j)=1:=by decide +kernel
 simp only[lfN]
 rw[h.p3.fc,ht j hj2 hj]
 show nodeOf (pgOf (cellOf (kOf 3) 2)) (V (pgOf (cellOf (kOf 3) 2))) (kOf 3) eb=_
 rw[pg2]
theorem S2.lf {V:Nat->ByteArray} {i:Nat} (h:S2 V i):lfN V (kOf 9) 1 3 eb eb=nodeOf 4 (V 4) (kOf 6) eb:=by
 have ht:tow R2 (kOf 9)=2:=by decide +kernel
 simp only[lfN]
 rw[h.p3.fc,ht]
 show nodeOf (pgOf (cellOf (kOf 6) 4)) (V (pgOf (cellOf (kOf 6) 4))) (kOf 6) eb=_
 rw[pg4]
theorem sg_at (a b:Nat) (ha:a<=b) (hb:b<10):Pg.isAt (sg a b) (kOf b)=false/\Pg.ins (sg a b) (Pg.plc (sg a b) (kOf b)) (cI b)=sg a (b+1)/\Pg.needs (sg a b)=36*(b-a):=by
 have h1:∀ b:Nat,b<10->∀ a:Nat,a<10->a<=b->Pg.isAt (sg a b) (kOf b)=false/\Pg.plc (sg a b) (kOf b)=(sg a b).length/\Pg.needs (sg a b)=36*(b-a):=by decide +kernel
 obtain⟨e1,e2,e3⟩:=h1 b hb a (by omega) ha
 refine⟨e1,?_,e3⟩
 rw[e2]
 unfold Pg.ins
 rw[List.take_length,List.drop_length]
 unfold sg
 rw[show b+1-a=(b-a)+1 by omega,List.range'_1_concat,List.map_append]
 show _=_++[cI (a+(b-a))]
 rw[show a+(b-a)=b by omega]
theorem sg_need (i:Nat):Pg.need (cI i)=36:=by
 show 3+1+(Array.replicate 32 (0:UInt8)).size=36
 simp
theorem Pt.halves {t:ByteArray} {kk l:Nat} {M:List Cl} (h:Pt t kk l M) (hk:kk≠0) (h2:2<=M.length) (j:Nat) (hH:Pg.IsH M j):∀ wx,Calls Tryz.prog 112 #[.string t] wx fun e w'=>e=.returned (.tuple #[.string (Pg.tx (Pg.packS kk l (M.take j))),.string (Pg.tx (Pg.packS kk l (M.drop j))),.string (M.getD j ⟨eb,eb⟩).k,.int .i64 0])/\Below wx.heap.size wx w':=by
 obtain⟨hr,rfl,rfl,rfl⟩:=h
 intro wx
 have h3:2<=Pg.cnt (Pg.bts t):=by rw[← Pg.cells_length];exact h2
 have:=Pg.Halves_ok wx t ⟨hr,hk⟩ h3 j hH
 have e:((cs t).getD j ⟨eb,eb⟩).k=Pg.key (Pg.bts t) j:=by
  have hj:=hH.lt
  rw[getD_at _ hj]
  simp[cs,Pg.cells,Pg.key]
 rw[e]
 exact this
section
variable {W W':Nat->Prop}{w w':World}{bb tb wb:Nat}{d s:Value}{X:Ad}{k k2:Nat}{C:Cf}{st:Nat->Option Nat}{mk:Int}{wh:Nat->Option Nat}{b b2:Bm}{rt L n:Nat}{us:List UInt8}{V:Nat->ByteArray}{M:List Cl}
theorem Wy.part {a:Option Addr} {c:Nat} {ns:List Nd} {nd:Nd} {kk l:Nat} {y:Int} (h:Wy W w bb tb X k C st mk wh b a c (ns++[nd])) (hlen:ns.length<=900) (hP:Pt nd.tx kk l M) (hk:kk≠0) (h2:2<=M.length) (j:Nat) (hH:Pg.IsH M j)
  (CS:∀ wx,Bu W wx bb tb X k C st mk wh b->Nds W wx (.slice a (ns.length+1) c) (ns++[nd])->Calls Tryz.prog 113 #[.pointer (some ⟨bb,0,none⟩),.slice a (ns.length+1) c,.string (Pg.tx (Pg.packS kk l (M.take j))),.string (Pg.tx (Pg.packS kk l (M.drop j))),.string (M.getD j ⟨eb,eb⟩).k] wx fun e w'=>e=.returned (.int .i64 y)/\∃ W',Bu W' w' bb tb X k C st mk wh b2/\Fr W W' wx w') :
  Calls Tryz.prog 71 #[.pointer (some ⟨bb,0,none⟩),.slice a (ns.length+1) c] w fun e w'=>e=.returned (.int .i64 y)/\∃ W',Bu W' w' bb tb X k C st mk wh b2/\Fr W W' w w':=by
 have hn:=h.nd
 rw[List.length_append] at hn
 exact h.bu.part hlen hn _ _ _ (hP.halves hk h2 j hH) CS
structure Sh (V:Nat->ByteArray) (i:Nat):Prop where
 or:(i<=6/\V 0=hdT 1 (usN 1)/\S0 V i)∨(7<=i/\i<=9/\V 0=hdT 3 (usN 3)/\S1 V i)∨(i=10/\V 0=hdT 3 (usN 4)/\S2 V i)
structure Pd (W:Nat->Prop) (w w':World) (tb:Nat) (X:Ad) (k n i:Nat):Prop where
 ex:∃ V W' n',Sh V i/\n'<=n/\Tv W' w' tb X k 20 V n'/\Fr W W' w w'
theorem ck (i:Nat):(cI i).k.size<=16/\(cI i).v.size<=32/\(cI i).k.size+(cI i).v.size=33:=by
 have h1:(cI i).k.size=1:=rfl
 have h2:(cI i).v.size=32:=by show(Array.replicate 32 (0:UInt8)).size=32;simp
 omega
theorem step_room (h:Tv W w tb X k 20 V n) (hL:LwB w wb d s X tb) (hn:¬ W wb) (hk:k<=100000000000) (hlog:n+2000<=116000) (hd:V 0=hdT rt us) (hu:us.length=222) (hr:rt<65536) (hO:Ok V us 20 L rt eb eb) (hL2:L<=20) (id a i:Nat) {lo hh:ByteArray} (hlf:lfN V (kOf i) L rt eb eb=nodeOf id (V id) lo hh) (hid:id<20) (hP:Pt (V id) 1 0 (sg a i)) (ha:a<=i) (hi:i<10) (h5:i-a<=5) :
  ∃ t',Pt t' 1 0 (sg a (i+1))/\Calls Tryz.prog 44 #[.pointer (some ⟨wb,0,none⟩),.agg #[.string (cI i).k,.string (cI i).v]] w fun e w'=>e=.returned (.int .i64 0)/\∃ W',Tv W' w' tb X (k+7000000) 20 (upd V id t') (n+(25+(cI i).k.size+(cI i).v.size))/\Fr W W' w w':=by
 obtain⟨C,st,wh,hT,hs,rfl⟩:=h.ex
 obtain⟨e1,e2,e3⟩:=sg_at a i ha hi
 have hck:=ck i
 have hTr:Tre C st rt us L:=⟨hd,hu,hr,by omega,by rw[hs.eps];omega,by rw[hs.eps];exact hO⟩
 have hne:=sg_need i
 have:=put_gen (M:=sg a i) (k2:=k+8006*(L+2)+8006+8006*(L+1)) hT hL hn (by omega) hTr hL2 (cI i) hck.1 hck.2.1 (by
   show Pg.isAt (lfN (Vw C st) (kOf i) L rt eb eb).cl (kOf i)=false
   rw[hlf]
   show Pg.isAt (cs (Vw C st id)) (kOf i)=false
   rw[hP.fc];exact e1) id (fun wx Wx hx=>by
   have hq:Pt (lfN (Vw C st) (cI i).k L rt eb eb).tx 1 0 (sg a i):=by
    show Pt (lfN (Vw C st) (kOf i) L rt eb eb).tx 1 0 (sg a i)
    rw[hlf];exact hP
   have hc:=hx.place_room (by omega) hTr hL2 (cI i).k (Pg.need (cI i)) (by rw[hne];omega) hq (by rw[hne,e3];omega)
   have hlf':lfN (Vw C st) (cI i).k L rt eb eb=nodeOf id (Vw C st id) lo hh:=hlf
   rw[hlf'] at hc
   exact hc) (by omega) hs (by omega) hid hP e1 (by rw[e3,hne];omega) (by omega)
 obtain⟨t',p,c⟩:=this
 have p':Pt t' 1 0 (Pg.ins (sg a i) (Pg.plc (sg a i) (kOf i)) (cI i)):=p
 rw[e2] at p'
 exact⟨t',p',c⟩
end
theorem putI_len (im:Ims) (id:Nat) (t:ByteArray):(putI im id t).length<=im.length+1:=by
 unfold putI
 split
 ·rw[List.length_set];omega
 ·simp only[List.length_append,List.length_take,List.length_drop,List.length_singleton];omega
def lfT (a b:Nat):ByteArray:=Pg.tx (Pg.packS 1 0 (sg a b))
def rtT:ByteArray:=Pg.tx (Pg.packS 2 1 R1)
theorem lfT_pt (a b:Nat) (ha:a<=b) (hb:b<=10) (h6:b-a<=6):Pt (lfT a b) 1 0 (sg a b):=Pt.pack (sg_can a b ha hb h6)
theorem ris_R1:Pg.CanPack 2 1 R1:=by
 refine⟨by omega,by omega,Or.inl rfl,fun e=>by omega,?_,?_,?_,by decide +kernel⟩
 ·have h:R1.all (fun c=>decide (c.k.size<=16))=true:=by decide +kernel
  intro c hc;have:=List.all_eq_true.1 h c hc;simpa using this
 ·have h:R1.all (fun c=>decide (c.v.size<=32))=true:=by decide +kernel
  intro c hc;have:=List.all_eq_true.1 h c hc;simpa using this
 ·have h:Pg.lt (cellOf eb 1).k (cellOf (kOf 3) 2).k=true:=by decide +kernel
  show List.Pairwise _ _
  simp only[R1,List.pairwise_cons,List.mem_singleton,List.not_mem_nil,false_implies,implies_true,List.Pairwise.nil,and_true,forall_eq]
  exact h
theorem rtT_pt:Pt rtT 2 1 R1:=Pt.pack ris_R1
def imA:Ims:=putI (putI (putI [] 1 (lfT 0 3)) 2 (lfT 3 6)) 3 rtT
theorem rise_nil:Rise []:=List.Pairwise.nil
theorem imA_rise:Rise imA:=putI_rise (putI_rise (putI_rise rise_nil _ _) _ _) _ _
theorem imA_mem {p:Nat × ByteArray} (h:p∈imA):p.1<20/\p.2.size=224:=by
 unfold imA at h
 rw[putI_mem (putI_rise (putI_rise rise_nil _ _) _ _),putI_mem (putI_rise rise_nil _ _),putI_mem rise_nil] at h
 rcases h with rfl |⟨_,rfl |⟨_,rfl |⟨_,h⟩⟩⟩
 ·exact⟨by omega,rtT_pt.size⟩
 ·exact⟨by omega,(lfT_pt 3 6 (by omega) (by omega) (by omega)).size⟩
 ·exact⟨by omega,(lfT_pt 0 3 (by omega) (by omega) (by omega)).size⟩
 ·cases h
theorem imA_len:imA.length<=3:=by
 have h1:=putI_len (putI (putI [] 1 (lfT 0 3)) 2 (lfT 3 6)) 3 rtT
 have h2:=putI_len (putI [] 1 (lfT 0 3)) 2 (lfT 3 6)
 have h3:=putI_len [] 1 (lfT 0 3)
 unfold imA
 simp only[List.length_nil] at h3
 omega
theorem isH_sg (a:Nat) (ha:a<=4):Pg.IsH (sg a (a+6)) 3:=by
 have h:∀ a:Nat,a<5->3<(sg a (a+6)).length/\Pg.needs (sg a (a+6))<2*Pg.needs ((sg a (a+6)).take 4)/\∀ m:Nat,m<3->1<=m->2*Pg.needs ((sg a (a+6)).take (m+1))<=Pg.needs (sg a (a+6)):=by decide +kernel
 obtain⟨h1,h2,h3⟩:=h a (by omega)
 exact⟨by omega,h1,h2,fun m hm1 hm2=>h3 m hm2 hm1⟩
theorem sg_half (a:Nat):(sg a (a+6)).take 3=sg a (a+3)/\(sg a (a+6)).drop 3=sg (a+3) (a+6)/\((sg a (a+6)).getD 3 ⟨eb,eb⟩).k=kOf (a+3):=by
 unfold sg
 rw[show a+6-a=6 by omega,show a+3-a=3 by omega,show a+6-(a+3)=3 by omega]
 exact⟨rfl,rfl,rfl⟩
theorem fst2:Fst (usN 1) 20 2:=⟨by omega,by omega,by decide +kernel,fun j h1 h2=>by obtain rfl:j=1:=(by omega);decide +kernel⟩
theorem fst3:Fst (usN 2) 20 3:=⟨by omega,by omega,by decide +kernel,fun j h1 h2=>by
 have:j=1∨j=2:=by omega
 rcases this with rfl |rfl <;> decide +kernel⟩
theorem fst4:Fst (usN 3) 20 4:=⟨by omega,by omega,by decide +kernel,fun j h1 h2=>by
 have:j=1∨j=2∨j=3:=by omega
 rcases this with rfl |rfl |rfl <;> decide +kernel⟩
section
variable {W W':Nat->Prop}{w w':World}{bb tb wb:Nat}{d s:Value}{X:Ad}{k k2:Nat}{C:Cf}{st:Nat->Option Nat}{mk:Int}{wh:Nat->Option Nat}{b2:Bm}{L2 ps n:Nat}{V:Nat->ByteArray}{M:List Cl}
theorem bvA (j:Nat):bv C st imA j=if j=3 then rtT else if j=2 then lfT 3 6 else if j=1 then lfT 0 3 else Vw C st j:=by
 unfold imA
 rw[bv_put (putI_rise (putI_rise rise_nil _ _) _ _),bv_put (putI_rise rise_nil _ _),bv_put rise_nil,bv_nil]
theorem S1.of_A:S1 (bv C st imA) 6:=⟨by rw[bvA];exact lfT_pt 0 3 (by omega) (by omega) (by omega),by rw[bvA];exact lfT_pt 3 6 (by omega) (by omega) (by omega),by rw[bvA];exact rtT_pt⟩
theorem part_root {a:Option Addr} {c:Nat} {nd:Nd} (h:Wy W w bb tb X k C st mk wh ⟨1,usN 1,[]⟩ a c ([]++[nd])) (hps:C.ps=20) (hid:nd.id=1) (hlv:nd.lv=0) (hP:Pt nd.tx 1 0 (sg 0 6)) :
  Calls Tryz.prog 71 #[.pointer (some ⟨bb,0,none⟩),.slice a (([]:List Nd).length+1) c] w fun e w'=>e=.returned (.int .i64 0)/\∃ W',Bu W' w' bb tb X k C st mk wh ⟨3,usN 3,imA⟩/\Fr W W' w w':=by
 obtain⟨g1,g2,g3⟩:=sg_half 0
 refine h.part (M:=sg 0 (0+6)) (kk:=1) (l:=0) (by simp) hP (by omega) (by decide) 3 (isH_sg 0 (by omega)) ?_
 intro wx hB hN
 rw[g1,g2,g3]
 have hc:=hB.split_root c hN (lfT 0 3) (lfT 3 6) (kOf 3) (lfT_pt 0 3 (by omega) (by omega) (by omega)).size (lfT_pt 3 6 (by omega) (by omega) (by omega)).size (by rw[hid,hps];omega) 2 3 (by rw[hps];exact fst2) (by rw[hps];exact fst3) (by rw[hlv];omega) (by rw[hlv,hid];exact ris_R1)
 rw[hid,hlv] at hc
 exact hc
theorem step_six (h:Tv W w tb X k 20 V n) (hL:LwB w wb d s X tb) (hn:¬ W wb) (hk:k<=100000000000) (hlog:n+2000<=116000) (hd:V 0=hdT 1 (usN 1)) (hS:S0 V 6) :
  Calls Tryz.prog 44 #[.pointer (some ⟨wb,0,none⟩),.agg #[.string (cI 6).k,.string (cI 6).v]] w fun e w'=>e=.returned (.int .i64 0)/\Pd W w w' tb X (k+7000000) (n+2000) 7:=by
 obtain⟨C,st,wh,hT,hs,rfl⟩:=h.ex
 obtain⟨e1,e2,e3⟩:=sg_at 0 6 (by omega) (by omega)
 obtain⟨e4,e5,e6⟩:=sg_at 3 6 (by omega) (by omega)
 have hck:=ck 6
 have hne:=sg_need 6
 have hTr:Tre C st 1 (usN 1) 0:=⟨hd,usN_len 1 (by omega),by omega,by omega,by rw[hs.eps];omega,by rw[hs.eps];exact hS.ok (by omega)⟩
 have hS1:S1 (bv C st imA) 6:=S1.of_A
 have hlf:=hS1.lf 6 (by omega) (by omega)
 have hz:(hdT 3 (usN 3)).size=224:=hdT_size 3 (usN_len 3 (by omega))
 have hlen:=imA_len
 have hplen:=putI_len imA 0 (hdT 3 (usN 3))
 have him:∀ p∈putI imA 0 (hdT 3 (usN 3)),p.1<65536/\p.2.size=224:=fun p hp=>by
  rw[putI_mem imA_rise] at hp
  rcases hp with rfl |⟨_,hp⟩
  ·exact⟨by omega,hz⟩
  ·have:=imA_mem hp;exact⟨by omega,this.2⟩
 have hfr:=frame_im 2 (putI imA 0 (hdT 3 (usN 3))) (Or.inl rfl) him (by omega)
 obtain⟨sd,hv⟩:=hs.laid (putI imA 0 (hdT 3 (usN 3))) (putI_rise imA_rise _ _) (fun p hp=>by
  rw[putI_mem imA_rise] at hp
  rcases hp with rfl |⟨_,hp⟩
  ·omega
  ·exact(imA_mem hp).1) (frameM (recI 2 (putI imA 0 (hdT 3 (usN 3))))).1 (by rw[hfr.2];omega)
 have hv2:∀ j,Vw (addF C (frameM (recI 2 (putI imA 0 (hdT 3 (usN 3))))).1 (Ub (putI imA 0 (hdT 3 (usN 3)))) st) (stA st (putI imA 0 (hdT 3 (usN 3))) (nxt C)) j=if j=0 then hdT 3 (usN 3) else bv C st imA j:=fun j=>by rw[hv,bv_put imA_rise]
 have:=put_gen (M:=sg 3 6) (k2:=k+8006*(0+2)+8006+8006*(0+1)+8006*(1+1)+801*8006) hT hL hn (by omega) hTr (by omega) (cI 6) hck.1 hck.2.1 (by
   show Pg.isAt (cs (Vw C st 1)) (kOf 6)=false
   rw[hS.p1.fc];exact e1) 2 (fun wx Wx hx=>by
   have hc:=hx.place_part (b2:=⟨3,usN 3,imA⟩) (L2:=1) (M:=sg 0 6) (M2:=sg 3 6) (by omega) hTr hs.sc hs.lo (by omega) (by omega) (cI 6).k (Pg.need (cI 6)) (by rw[hne];omega) hS.p1 (by rw[hne,e3];omega)
    (fun wy Wy' bb a c hy=>part_root hy hs.eps rfl hS.p1.fl hS.p1) (by rw[hs.eps];exact hS1.ok (by omega)) (by
     show Pt (lfN (bv C st imA) (kOf 6) 1 3 eb eb).tx 1 0 (sg 3 6)
     rw[hlf];exact hS1.p2) (by rw[hne,e6];omega) (fun e=>by have:=putI_ne _ 3 rtT (putI_rise (putI_rise rise_nil 1 (lfT 0 3)) 2 (lfT 3 6));exact this e) (by show(putI imA 0 (hdT 3 (usN 3))).length<=17;omega) him (by
     show(cat C.fs).size+(8+228*(putI imA 0 (hdT 3 (usN 3))).length)<=116000
     rw[hs.en];omega)
   have hlf':lfN (bv C st imA) (cI 6).k 1 3 eb eb=nodeOf 2 (bv C st imA 2) (kOf 3) eb:=hlf
   rw[hlf'] at hc
   exact hc) (by omega) sd (by omega) (by omega) (by rw[hv2];exact hS1.p2) e4 (by rw[e6,hne];omega) (by rw[hfr.2];omega)
 obtain⟨t',p,c⟩:=this
 have p':Pt t' 1 0 (Pg.ins (sg 3 6) (Pg.plc (sg 3 6) (kOf 6)) (cI 6)):=p
 rw[e5] at p'
 refine c.mono ?_
 rintro e w' ⟨rfl,W',T',F'⟩
 refine⟨rfl,_,W',_,⟨Or.inr (Or.inl ⟨by omega,by omega,?_,?_,?_,?_⟩)⟩,?_,T',F'⟩
 ·rw[upd_other _ _ (by omega),hv2];rfl
 ·rw[upd_other _ _ (by omega),hv2];exact hS1.p1
 ·rw[upd_same];exact p'
 ·rw[upd_other _ _ (by omega),hv2];exact hS1.p3
 ·rw[hfr.2];omega
end
def imB (t:ByteArray):Ims:=putI (putI (putI [] 2 (lfT 3 6)) 4 (lfT 6 9)) 3 t
theorem imB_rise (t:ByteArray):Rise (imB t):=putI_rise (putI_rise (putI_rise rise_nil _ _) _ _) _ _
theorem imB_mem {t:ByteArray} (ht:t.size=224) {p:Nat × ByteArray} (h:p∈imB t):p.1<20/\p.2.size=224:=by
 unfold imB at h
 rw[putI_mem (putI_rise (putI_rise rise_nil _ _) _ _),putI_mem (putI_rise rise_nil _ _),putI_mem rise_nil] at h
 rcases h with rfl |⟨_,rfl |⟨_,rfl |⟨_,h⟩⟩⟩
 ·exact⟨by omega,ht⟩
 ·exact⟨by omega,(lfT_pt 6 9 (by omega) (by omega) (by omega)).size⟩
 ·exact⟨by omega,(lfT_pt 3 6 (by omega) (by omega) (by omega)).size⟩
 ·cases h
theorem imB_len (t:ByteArray):(imB t).length<=3:=by
 have h1:=putI_len (putI (putI [] 2 (lfT 3 6)) 4 (lfT 6 9)) 3 t
 have h2:=putI_len (putI [] 2 (lfT 3 6)) 4 (lfT 6 9)
 have h3:=putI_len [] 2 (lfT 3 6)
 unfold imB
 simp only[List.length_nil] at h3
 omega
theorem R1_ins:Pg.isAt R1 (kOf 6)=false/\Pg.plc R1 (kOf 6)=2/\Pg.needs R1+Pg.need (cellOf (kOf 6) 4)<=220/\(cellOf (kOf 6) 4).k.size<=16/\(cellOf (kOf 6) 4).v.size<=32:=by decide +kernel
section
variable {W W':Nat->Prop}{w w':World}{bb tb wb:Nat}{d s:Value}{X:Ad}{k k2:Nat}{C:Cf}{st:Nat->Option Nat}{mk:Int}{wh:Nat->Option Nat}{b2:Bm}{L2 ps n:Nat}{V:Nat->ByteArray}{M:List Cl}
theorem bvB (t:ByteArray) (j:Nat):bv C st (imB t) j=if j=3 then t else if j=4 then lfT 6 9 else if j=2 then lfT 3 6 else Vw C st j:=by
 unfold imB
 rw[bv_put (putI_rise (putI_rise rise_nil _ _) _ _),bv_put (putI_rise rise_nil _ _),bv_put rise_nil,bv_nil]
theorem S2.of_B {t:ByteArray} (ht:Pt t 2 1 R2) (h:S1 (Vw C st) 9):S2 (bv C st (imB t)) 9:=⟨by rw[bvB];exact h.p1,by rw[bvB];exact lfT_pt 3 6 (by omega) (by omega) (by omega),by rw[bvB];exact ht,by rw[bvB];exact lfT_pt 6 9 (by omega) (by omega) (by omega)⟩
theorem part_up {a:Option Addr} {c:Nat} {r nd:Nd} {t:ByteArray} (h:Wy W w bb tb X k C st mk wh ⟨3,usN 3,[]⟩ a c ([r]++[nd])) (hps:C.ps=20) (hid:nd.id=2) (hrid:r.id=3) (hP:Pt nd.tx 1 0 (sg 3 9)) (ht:t.size=224)
  (CI:∀ wx,Calls Tryz.prog 74 #[.string r.tx,.agg #[.string (cellOf (kOf 6) 4).k,.string (cellOf (kOf 6) 4).v]] wx fun e w'=>e=.returned (.tuple #[.string t,.int .i64 0])/\Below wx.heap.size wx w') :
  Calls Tryz.prog 71 #[.pointer (some ⟨bb,0,none⟩),.slice a (([r]:List Nd).length+1) c] w fun e w'=>e=.returned (.int .i64 0)/\∃ W',Bu W' w' bb tb X k C st mk wh ⟨3,usN 4,imB t⟩/\Fr W W' w w':=by
 obtain⟨g1,g2,g3⟩:=sg_half 3
 refine h.part (M:=sg 3 (3+6)) (kk:=1) (l:=0) (by simp) hP (by omega) (by decide) 3 (isH_sg 3 (by omega)) ?_
 intro wx hB hN
 rw[g1,g2,g3]
 refine hB.split_up (b2:=⟨3,usN 4,imB t⟩) (y:=0) c (by simp) (by simp) hN (lfT 3 6) (lfT 6 9) (kOf 6) (lfT_pt 3 6 (by omega) (by omega) (by omega)).size (lfT_pt 6 9 (by omega) (by omega) (by omega)).size (by rw[hid,hps];omega) 4 (by rw[hps];exact fst4) ?_
 intro wy Wy' hB2 hN2
 have hc:=hB2.give_ok (ns:=[]) (n:=r) c (by simp) hN2 (cellOf (kOf 6) 4) t ht (by rw[hrid,hps];omega) CI
 rw[hrid,hid] at hc
 exact hc
set_option maxHeartbeats 1000000 in
theorem step_nine (h:Tv W w tb X k 20 V n) (hL:LwB w wb d s X tb) (hn:¬ W wb) (hk:k<=100000000000) (hlog:n+2000<=116000) (hd:V 0=hdT 3 (usN 3)) (hS:S1 V 9) :
  Calls Tryz.prog 44 #[.pointer (some ⟨wb,0,none⟩),.agg #[.string (cI 9).k,.string (cI 9).v]] w fun e w'=>e=.returned (.int .i64 0)/\Pd W w w' tb X (k+7000000) (n+2000) 10:=by
 obtain⟨C,st,wh,hT,hs,rfl⟩:=h.ex
 obtain⟨e1,e2,e3⟩:=sg_at 3 9 (by omega) (by omega)
 obtain⟨e4,e5,e6⟩:=sg_at 6 9 (by omega) (by omega)
 have hck:=ck 9
 have hne:=sg_need 9
 obtain⟨i1,i2,i3,i4,i5⟩:=R1_ins
 obtain⟨t,hPt0,CI⟩:=hS.p3.ins (by omega) (cellOf (kOf 6) 4) i4 i5 i1 i3
 have hPt:Pt t 2 1 R2:=by
  have e:Pg.ins R1 (Pg.plc R1 (cellOf (kOf 6) 4).k) (cellOf (kOf 6) 4)=R2:=by
   show Pg.ins R1 (Pg.plc R1 (kOf 6)) (cellOf (kOf 6) 4)=R2
   rw[i2];rfl
  rw[← e];exact hPt0
 have hTr:Tre C st 3 (usN 3) 1:=⟨hd,usN_len 3 (by omega),by omega,by omega,by rw[hs.eps];omega,by rw[hs.eps];exact hS.ok (by omega)⟩
 have hlf1:=hS.lf 9 (by omega) (by omega)
 have hS2:S2 (bv C st (imB t)) 9:=S2.of_B hPt hS
 have hlf:=hS2.lf
 have hz:(hdT 3 (usN 4)).size=224:=hdT_size 3 (usN_len 4 (by omega))
 have hlen:=imB_len t
 have hplen:=putI_len (imB t) 0 (hdT 3 (usN 4))
 have him:∀ p∈putI (imB t) 0 (hdT 3 (usN 4)),p.1<65536/\p.2.size=224:=fun p hp=>by
  rw[putI_mem (imB_rise t)] at hp
  rcases hp with rfl |⟨_,hp⟩
  ·exact⟨by omega,hz⟩
  ·have:=imB_mem hPt.size hp;exact⟨by omega,this.2⟩
 have hfr:=frame_im 2 (putI (imB t) 0 (hdT 3 (usN 4))) (Or.inl rfl) him (by omega)
 obtain⟨sd,hv⟩:=hs.laid (putI (imB t) 0 (hdT 3 (usN 4))) (putI_rise (imB_rise t) _ _) (fun p hp=>by
  rw[putI_mem (imB_rise t)] at hp
  rcases hp with rfl |⟨_,hp⟩
  ·omega
  ·exact(imB_mem hPt.size hp).1) (frameM (recI 2 (putI (imB t) 0 (hdT 3 (usN 4))))).1 (by rw[hfr.2];omega)
 have hv2:∀ j,Vw (addF C (frameM (recI 2 (putI (imB t) 0 (hdT 3 (usN 4))))).1 (Ub (putI (imB t) 0 (hdT 3 (usN 4)))) st) (stA st (putI (imB t) 0 (hdT 3 (usN 4))) (nxt C)) j=if j=0 then hdT 3 (usN 4) else bv C st (imB t) j:=fun j=>by rw[hv,bv_put (imB_rise t)]
 have:=put_gen (M:=sg 6 9) (k2:=k+8006*(1+2)+8006+8006*(1+1)+8006*(1+1)+801*8006) hT hL hn (by omega) hTr (by omega) (cI 9) hck.1 hck.2.1 (by
   show Pg.isAt (lfN (Vw C st) (kOf 9) 1 3 eb eb).cl (kOf 9)=false
   rw[hlf1]
   show Pg.isAt (cs (Vw C st 2)) (kOf 9)=false
   rw[hS.p2.fc];exact e1) 4 (fun wx Wx hx=>by
   have hc:=hx.place_part (b2:=⟨3,usN 4,imB t⟩) (L2:=1) (M:=sg 3 9) (M2:=sg 6 9) (by omega) hTr hs.sc hs.lo (by omega) (by omega) (cI 9).k (Pg.need (cI 9)) (by rw[hne];omega) (by
     show Pt (lfN (Vw C st) (kOf 9) 1 3 eb eb).tx 1 0 (sg 3 9)
     rw[hlf1];exact hS.p2) (by rw[hne,e3];omega)
    (fun wy Wy' bb a c hy=>part_up (t:=t) (r:={nodeOf 3 (Vw C st 3) eb eb with nx:=tow (cs (Vw C st 3)) (cI 9).k}) (nd:=lfN (Vw C st) (cI 9).k 1 3 eb eb) hy hs.eps (by
     show(lfN (Vw C st) (kOf 9) 1 3 eb eb).id=2
     rw[hlf1];rfl) rfl (by
     show Pt (lfN (Vw C st) (kOf 9) 1 3 eb eb).tx 1 0 (sg 3 9)
     rw[hlf1];exact hS.p2) hPt.size CI) (by rw[hs.eps];exact hS2.ok (by omega)) (by
     show Pt (lfN (bv C st (imB t)) (kOf 9) 1 3 eb eb).tx 1 0 (sg 6 9)
     rw[hlf];exact hS2.p4) (by rw[hne,e6];omega) (fun e=>by have:=putI_ne _ 3 t (putI_rise (putI_rise rise_nil 2 (lfT 3 6)) 4 (lfT 6 9));exact this e) (by show(putI (imB t) 0 (hdT 3 (usN 4))).length<=17;omega) him (by
     show(cat C.fs).size+(8+228*(putI (imB t) 0 (hdT 3 (usN 4))).length)<=116000
     rw[hs.en];omega)
   have hlf':lfN (bv C st (imB t)) (cI 9).k 1 3 eb eb=nodeOf 4 (bv C st (imB t) 4) (kOf 6) eb:=hlf
   rw[hlf'] at hc
   exact hc) (by omega) sd (by omega) (by omega) (by rw[hv2];exact hS2.p4) e4 (by rw[e6,hne];omega) (by rw[hfr.2];omega)
 obtain⟨t',p,c⟩:=this
 have p':Pt t' 1 0 (Pg.ins (sg 6 9) (Pg.plc (sg 6 9) (kOf 9)) (cI 9)):=p
 rw[e5] at p'
 refine c.mono ?_
 rintro e w' ⟨rfl,W',T',F'⟩
 refine⟨rfl,_,W',_,⟨Or.inr (Or.inr ⟨rfl,?_,?_,?_,?_,?_⟩)⟩,?_,T',F'⟩
 ·rw[upd_other _ _ (by omega),hv2];rfl
 ·rw[upd_other _ _ (by omega),hv2];exact hS2.p1
 ·rw[upd_other _ _ (by omega),hv2];exact hS2.p2
 ·rw[upd_other _ _ (by omega),hv2];exact hS2.p3
 ·rw[upd_same];exact p'
 ·rw[hfr.2];omega
theorem step_any (i:Nat) (hi:i<10) (h:Tv W w tb X k 20 V n) (hS:Sh V i) (hL:LwB w wb d s X tb) (hn:¬ W wb) (hk:k<=100000000000) (hlog:n+2000<=116000) :
  Calls Tryz.prog 44 #[.pointer (some ⟨wb,0,none⟩),.agg #[.string (cI i).k,.string (cI i).v]] w fun e w'=>e=.returned (.int .i64 0)/\Pd W w w' tb X (k+7000000) (n+2000) (i+1):=by
 have hck:=ck i
 rcases hS.or with⟨h6,hd,hs⟩ |⟨h7,h9,hd,hs⟩ |⟨rfl,_,_⟩
 ·by_cases e:i=6
  ·subst e
   exact step_six h hL hn hk hlog hd hs
  ·obtain⟨t',p,c⟩:=step_room h hL hn hk hlog hd (usN_len 1 (by omega)) (by omega) (hs.ok (by omega)) (by omega) 1 0 i rfl (by omega) hs.p1 (by omega) hi (by omega)
   refine c.mono ?_
   rintro e w' ⟨rfl,W',T',F'⟩
   exact⟨rfl,_,W',_,⟨Or.inl ⟨by omega,by rw[upd_other _ _ (by omega)];exact hd,⟨by rw[upd_same];exact p⟩⟩⟩,by omega,T',F'⟩
 ·by_cases e:i=9
  ·subst e
   exact step_nine h hL hn hk hlog hd hs
  ·obtain⟨t',p,c⟩:=step_room h hL hn hk hlog hd (usN_len 3 (by omega)) (by omega) (hs.ok (by omega)) (by omega) 2 3 i (hs.lf i (by omega) (by omega)) (by omega) hs.p2 (by omega) hi (by omega)
   refine c.mono ?_
   rintro e w' ⟨rfl,W',T',F'⟩
   exact⟨rfl,_,W',_,⟨Or.inr (Or.inl ⟨by omega,by omega,by rw[upd_other _ _ (by omega)];exact hd,by rw[upd_other _ _ (by omega)];exact hs.p1,by rw[upd_same];exact p,by rw[upd_other _ _ (by omega)];exact hs.p3⟩)⟩,by omega,T',F'⟩
 ·omega
end
theorem st1_none (d:Nat) (h:2<=d):st1 d=none:=by
 unfold st1
 rw[stA_not (fun e=>by
  have:imC.map (·.1)=[0,1]:=by decide +kernel
  rw[this] at e
  simp at e
  omega)]
theorem sd1 (p:Nat) (hp:2<=p):Sd (C1 p) st1 st1 p 464:=by
 have hn:=C1_nxt p
 unfold nxt at hn
 refine⟨rfl,rfl,fun _=>rfl,fun d hd=>st1_none d (by omega),by omega,fun d hd=>?_,fun d r hr=>?_⟩
 ·cases e:st1 d with
  | none =>
   exfalso
   apply hd
   unfold Vw
   rw[e]
   rfl
  | some r=>exact⟨r,rfl⟩
 ·by_cases h2:2<=d
  ·rw[st1_none d h2] at hr;cases hr
  ·have:d=0∨d=1:=by omega
   rcases this with rfl |rfl
   ·rw[st1_0,Option.some.injEq] at hr;omega
   ·rw[st1_1,Option.some.injEq] at hr;omega
theorem sh1:Sh (Vw (C1 20) st1) 0:=⟨Or.inl ⟨by omega,V1_0 20,⟨by rw[V1_1];exact Pt.pack (can_nil 1 (by omega))⟩⟩⟩
section
variable {W W':Nat->Prop}{w w0 w':World}{tb wb B:Nat}{X:Ad}{k n i:Nat}{V:Nat->ByteArray}{t:ByteArray}{C:Array Value}
structure Aw (B:Nat) (w0 w:World) (wb tb:Nat) (X:Ad) (k n i:Nat):Prop where
 ex:∃ d s W V n',LwB w wb d s X tb/\¬ W wb/\Tv W w tb X k 20 V n'/\n'<=n/\Sh V i/\FrB B w0 w W
theorem Tv.below (h:Tv W w tb X k 20 V n) (hb:Below w.heap.size w w'):Tv W w' tb X k 20 V n:=by
 obtain⟨C,st,wh,hT,hs,hv⟩:=h.ex
 exact⟨C,st,wh,hT.below hb,hs,hv⟩
theorem Aw.below (h:Aw B w0 w wb tb X k n i) (hb:Below w.heap.size w w'):Aw B w0 w' wb tb X k n i:=by
 obtain⟨d,s,W,V,n',h1,h2,h3,h4,h5,h6⟩:=h.ex
 exact⟨d,s,W,V,n',h1.below hb,h2,h3.below hb,h4,h5,h6.below hb⟩
theorem Aw.c4 (h:Aw B w0 w wb tb X k n i):w.cell? ⟨wb,4,none⟩=some (.pointer (some ⟨tb,0,none⟩)):=by
 obtain⟨d,s,W,V,n',h1,_⟩:=h.ex
 exact h1.c4
theorem Aw.bel (h:Aw B w0 w wb tb X k n i):Below B w0 w:=by
 obtain⟨d,s,W,V,n',h1,h2,h3,h4,h5,h6⟩:=h.ex
 exact h6.bel
theorem Aw.put (h:Aw B w0 w wb tb X k n i) (hi:i<10) (hk:k<=100000000000) (hn:n+2000<=116000):Calls Tryz.prog 44 #[.pointer (some ⟨wb,0,none⟩),.agg #[.string (cI i).k,.string (cI i).v]] w fun e w'=>e=.returned (.int .i64 0)/\Aw B w0 w' wb tb X (k+7000000) (n+2000) (i+1):=by
 obtain⟨d,s,W,V,n',h1,h2,h3,h4,h5,h6⟩:=h.ex
 refine(step_any i hi h3 h5 h1 h2 hk (by omega)).mono ?_
 rintro e w' ⟨rfl,hp⟩
 obtain⟨V',W',m,g1,g2,g3,g4⟩:=hp.ex
 exact⟨rfl,d,s,W',V',m,h1.fr g4 h2,g4.not h1.lt h2,g3,by omega,g1,h6.fr g4⟩
theorem Aw.op {fn:Nat} {args:Array Value} {r:Value} {k':Nat} (h:Aw B w0 w wb tb X k n i) (hk:k'<=k+1000000) (hop:∀ W V C st wh n,Tt W w tb X k C st 0 wh->Sd C st wh 20 n->Vw C st=V->Sh V i->Calls Tryz.prog fn args w fun e w'=>e=.returned r/\∃ W',Tt W' w' tb X k' C st 0 wh/\Fr W W' w w') :
  Calls Tryz.prog fn args w fun e w'=>e=.returned r/\Aw B w0 w' wb tb X (k+1000000) n i:=by
 obtain⟨d,s,W,V,n',h1,h2,h3,h4,h5,h6⟩:=h.ex
 obtain⟨C,st,wh,hT,hs,hv⟩:=h3.ex
 refine(hop W V C st wh n' hT hs hv h5).mono ?_
 rintro e w' ⟨rfl,W',T',F'⟩
 exact⟨rfl,d,s,W',V,n',h1.fr F' h2,F'.not h1.lt h2,⟨C,st,wh,T'.mono hk,hs,hv⟩,h4,h5,h6.fr F'⟩
theorem Aw.height0 (h:Aw B w0 w wb tb X k n 0) (hk:k<=100000000000):Calls Tryz.prog 22 #[.pointer (some ⟨tb,0,none⟩)] w fun e w'=>e=.returned (.int .i64 1)/\Aw B w0 w' wb tb X (k+1000000) n 0:=by
 refine h.op (k':=k+8006*(0+2)) (by omega) ?_
 intro W V C st wh n hT hs hv h5
 subst hv
 rcases h5.or with⟨_,hd,h0⟩ |⟨h7,_⟩ |⟨h7,_⟩
 ·have hTr:Tre C st 1 (usN 1) 0:=⟨hd,usN_len 1 (by omega),by omega,by omega,by rw[hs.eps];omega,by rw[hs.eps];exact h0.ok (by omega)⟩
  exact hT.height (by omega) hTr
 ·omega
 ·omega
theorem Aw.free0 (h:Aw B w0 w wb tb X k n 0) (hk:k<=100000000000):Calls Tryz.prog 21 #[.pointer (some ⟨tb,0,none⟩)] w fun e w'=>e=.returned (.int .i64 18)/\Aw B w0 w' wb tb X (k+1000000) n 0:=by
 refine h.op (k':=k+8006) (by omega) ?_
 intro W V C st wh n hT hs hv h5
 subst hv
 rcases h5.or with⟨_,hd,h0⟩ |⟨h7,_⟩ |⟨h7,_⟩
 ·have:=hT.free_ (us:=usN 1) (rt:=1) (by omega) (by rw[hs.eps];omega) (usN_len 1 (by omega)) (by omega) hd
  have e:frM (usN 1) C.ps=18:=by rw[hs.eps];exact us1_free
  rw[e] at this
  exact this
 ·omega
 ·omega
theorem sh10 (h5:Sh V 10):V 0=hdT 3 (usN 4)/\S2 V 10:=by
 rcases h5.or with⟨h7,_⟩ |⟨_,h7,_⟩ |⟨_,h1,h2⟩
 ·omega
 ·omega
 ·exact⟨h1,h2⟩
theorem Aw.height10 (h:Aw B w0 w wb tb X k n 10) (hk:k<=100000000000):Calls Tryz.prog 22 #[.pointer (some ⟨tb,0,none⟩)] w fun e w'=>e=.returned (.int .i64 2)/\Aw B w0 w' wb tb X (k+1000000) n 10:=by
 refine h.op (k':=k+8006*(1+2)) (by omega) ?_
 intro W V C st wh n hT hs hv h5
 subst hv
 obtain⟨hd,h2⟩:=sh10 h5
 have hTr:Tre C st 3 (usN 4) 1:=⟨hd,usN_len 4 (by omega),by omega,by omega,by rw[hs.eps];omega,by rw[hs.eps];exact h2.ok (by omega)⟩
 exact hT.height (by omega) hTr
theorem S2.ids (h:S2 V 10):Tr.ids V 1 3=[3,1,2,4]:=by
 simp only[Tr.ids]
 rw[h.p3.fc]
 show 3 ::([[pgOf (cellOf eb 1)],[pgOf (cellOf (kOf 3) 2)],[pgOf (cellOf (kOf 6) 4)]].flatten)=_
 rw[pg1,pg2,pg4]
 rfl
theorem Aw.check10 (h:Aw B w0 w wb tb X k n 10) (hk:k<=100000000000):Calls Tryz.prog 19 #[.pointer (some ⟨tb,0,none⟩)] w fun e w'=>e=.returned (.bool true)/\Aw B w0 w' wb tb X (k+1000000) n 10:=by
 refine h.op (k':=k+8006*(4+2)) (by omega) ?_
 intro W V C st wh n hT hs hv h5
 subst hv
 obtain⟨hd,h2⟩:=sh10 h5
 have hi:=h2.ids
 have hJ:Just C st 3 (usN 4) 1:=⟨by rw[hs.eps];exact h2.ok (by omega),by rw[hi];decide,by rw[hi];decide +kernel,by omega⟩
 have hl:(Tr.ids (Vw C st) 1 3).length=4:=by rw[hi];rfl
 have:=hT.check (by rw[hs.eps];omega) (usN_len 4 (by omega)) (by omega) hd hJ (by rw[hl];omega)
 rw[hl] at this
 exact this
theorem conv_blk (hC:w.heap[tb]?=some (.cells C 5)) (h:∀ i (hi:i<t.size),C[i]?=some (.int .u8 (t[i].toNat:Int))) (cap:Nat):(convert 80 9 (.slice (some ⟨tb,0,none⟩) t.size cap)).run Tryz.prog w=.ok (.string t) w:=by
 refine Lib.run_convert_whole (P:=Tryz.prog) w 80 5 9 Tryz.underlying80 Tryz.underlying5 Tryz.underlying9 tb 0 t (fun i hi=>?_) cap
 rw[Joins.cell_of_block hC,Nat.zero_add]
 exact h i hi
end
end Go.Proofs.YtpcnjncgilmehabGreat.Tr
