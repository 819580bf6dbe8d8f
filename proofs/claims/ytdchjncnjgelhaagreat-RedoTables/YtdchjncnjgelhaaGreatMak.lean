import Derived.Test.YtdchjncnjgelhaaGreatMai
import Derived.Test.YtdchjncnjgelhaaGreatMaj
import Derived.Deep.RegionHeld3
set_option linter.unusedVariables false
set_option linter.unusedSimpArgs false
set_option maxRecDepth 100000
namespace Go.Proofs.YtdchjncnjgelhaaGreat
open Go.RowKit
theorem wp_put_rc {o:Oper} {a:Act} {K:Act->World->Prop} {Q:Exit->Act->World->Prop} {b:Nat} {s s':Sc} {I T I' T':Value} (w:World) (x y:Operand) (hop:o.op=Op.store 54 x y)
  (hx:a.eval x=.pointer (some ⟨b,0,none⟩)) (hy:a.eval y=.agg (s'.A I' T')) (hs:RcAt w b s I T) (hI:I'.oneCell'=true) (hT:T'.oneCell'=true)
  (h:∀ w',PutR w w' b s' I' T'->K (a.put o.dst undef) w'):o.wp Tryz.prog a w K Q:=by
 have h1:∀ v∈(s'.A I' T').toList,v.oneCell'=true:=by
  intro v hv
  simp[Sc.A] at hv
  rcases hv with rfl |rfl |rfl |rfl |rfl |rfl |rfl |rfl |rfl |rfl |rfl |rfl |rfl
  all_goals first |rfl |assumption
 refine wp_store_mid 54 x y hop b 0 (s'.A I' T') hx hy ?_ (info_rc s' I' T') (Array.all_eq_true_iff_forall_mem.2 (fun v hv=>h1 v (by simpa using hv))) ?_
 ·intro j hj
  refine⟨?_,hs.f _⟩
  rw[cell_of_row w b _ _ 54 (0,0) hs.blk]
  have:j<13:=hj
  simp[rc_size,this]
 ·rw[setCells_rc hs s' I' T' h1]
  refine h _ ⟨⟨setRow_heap w b _ _ 54 _ hs.blk⟩,⟨rfl,rfl,rfl,by simp,fun k _ hk=>setRow_other w b k _ hk⟩⟩
structure RecF (w:World) (v:Value) (m:Rm) (B:Nat):Prop where
 ex:∃ I T,v=.agg (m.s.A I T)/\Fr w I (encI m.im) B/\Fr w T (encT m.tb) B
theorem Fr.mono {w:World} {v:Value} {L:List P2} {B B':Nat} (h:Fr w v L B) (hb:B'<=B):Fr w v L B':=by
 obtain⟨a,c,h0,h1,h2,h3,h4,h5⟩:=h.ex
 exact⟨a,c,h0,h1,h2,h3,h4,fun b off e=>Nat.le_trans hb (h5 b off e)⟩
theorem Fr.nil (w:World) (B:Nat):Fr w nilV [] B:=⟨none,0,rfl,Cs.nil _ _,fun _=>rfl,Nat.le_refl _,(fun _ h=>by cases h),fun _ _ h=>by cases h⟩
theorem RecF.zero (w:World) (B:Nat):RecF w (.agg (zS.A nilV nilV)) zM B:=⟨nilV,nilV,rfl,Fr.nil _ _,Fr.nil _ _⟩
structure RaS (w wx:World) (b2 b4 b5:Nat) (m:Rm) (I T:Value) (q:Lf):Prop where
 r:RcAt wx b2 zS nilV nilV
 c:RcAt wx b4 m.s I T
 rd:RdS wx b5 q
 bel:Below w.heap.size w wx
 n1:b2≠b4
 n2:b2≠b5
 n3:b5≠b4
 l2:w.heap.size<=b2
 l4:w.heap.size<=b4
 l5:w.heap.size<=b5
 fr:∃ B,(b2<B/\b4<B/\b5<B)/\Fr wx I (encI m.im) B/\Fr wx T (encT m.tb) B
section
variable {w wx wq:World}{b2 b4 b5:Nat}{m:Rm}{s s':Sc}{im:List Im}{tb:List Tb}{I T:Value}{q q':Lf}
theorem RaS.oI (h:RaS w wx b2 b4 b5 m I T q):I.oneCell'=true:=by obtain⟨B,_,f,_⟩:=h.fr;exact f.slI.one
theorem RaS.oT (h:RaS w wx b2 b4 b5 m I T q):T.oneCell'=true:=by obtain⟨B,_,_,f⟩:=h.fr;exact f.slT.one
theorem RaS.below (h:RaS w wx b2 b4 b5 m I T q) (hb:Below wx.heap.size wx wq):RaS w wq b2 b4 b5 m I T q:=by
 obtain⟨B,h1,f,g⟩:=h.fr
 exact⟨h.r.below hb,h.c.below hb,h.rd.below hb,thn h.bel hb,h.n1,h.n2,h.n3,h.l2,h.l4,h.l5,B,h1,f.below hb,g.below hb⟩
theorem RaS.step (h:RaS w wx b2 b4 b5 m I T q) (hr:RdS wq b5 q') (o:Pk.Off b5 wx wq):RaS w wq b2 b4 b5 m I T q':=by
 obtain⟨B,h1,f,g⟩:=h.fr
 exact⟨h.r.off o h.n2,h.c.off o (fun e=>h.n3 e.symm),hr,h.bel.trans (o.below h.l5 h.bel.size),h.n1,h.n2,h.n3,h.l2,h.l4,h.l5,B,h1,f.off o h1.2.2,g.off o h1.2.2⟩
theorem RaS.put (h:RaS w wx b2 b4 b5 ⟨s,im,tb⟩ I T q) (P:PutR wx wq b4 s' I T):RaS w wq b2 b4 b5 ⟨s',im,tb⟩ I T q:=by
 obtain⟨B,h1,f,g⟩:=h.fr
 exact⟨h.r.off P.off h.n1,P.rc,h.rd.off P.off h.n3,h.bel.trans (P.below h.l4 h.bel.size),h.n1,h.n2,h.n3,h.l2,h.l4,h.l5,B,h1,f.off P.off h1.2.1,g.off P.off h1.2.1⟩
theorem RaS.two (h:RaS w wx b2 b4 b5 ⟨s,[],[]⟩ nilV nilV q) (hc:RcAt wq b4 s' nilV nilV) (hr:RdS wq b5 q') (o:Off2 b5 b4 wx wq):RaS w wq b2 b4 b5 ⟨s',[],[]⟩ nilV nilV q':=by
 obtain⟨B,h1,_⟩:=h.fr
 exact⟨⟨(o.block b2 h.r.lt h.n2 h.n1).trans h.r.blk⟩,hc,hr,h.bel.trans (o.bel h.l5 h.l4 h.bel.size),h.n1,h.n2,h.n3,h.l2,h.l4,h.l5,B,h1,Fr.nil _ _,Fr.nil _ _⟩
theorem RaS.num (h:RaS w wx b2 b4 b5 m I T q) (k:Int):Calls Tryz.prog 63 #[.pointer (some ⟨b5,0,none⟩),.int .i64 k] wx fun r w'=>r=.returned (.int .i64 (nN q k))/\RaS w w' b2 b4 b5 m I T (sN q k) :=
 (h.rd.num k).mono fun e w' ⟨he,h1,o1⟩=>⟨he,h.step h1 o1⟩
theorem RaS.num0 {K:Int} (h:RaS w wx b2 b4 b5 m I T q) (k:Int) (hK:nN q k=K) (hq:sN q k=q'):Calls Tryz.prog 63 #[.pointer (some ⟨b5,0,none⟩),.int .i64 k] wx fun r w'=>r=.returned (.int .i64 K)/\RaS w w' b2 b4 b5 m I T q':=by
 rw[← hK,← hq];exact h.num k
theorem RaS.fin (h:RaS w wx b2 b4 b5 m I T q):Calls Tryz.prog 155 #[.pointer (some ⟨b5,0,none⟩)] wx fun r w'=>r=.returned (.int .i64 (Pk.rdEnd q.1 q.2).2)/\RaS w w' b2 b4 b5 m I T (Pk.rdEnd q.1 q.2) :=
 (Pk.End_any b5 q.1 q.2 wx h.rd.sz h.rd.rd).mono fun e w' ⟨he,h1,o1⟩=>⟨he,h.step ⟨h1,by
  have hz:=h.rd.sz
  unfold Pk.rdEnd
  split
  ·exact Nat.le_trans (Pk.rdFail_size _ _ _) hz
  ·exact hz⟩ o1⟩
theorem RaS.change (h:RaS w wx b2 b4 b5 ⟨s,[],[]⟩ nilV nilV q):Calls Tryz.prog 153 #[.pointer (some ⟨b5,0,none⟩),.pointer (some ⟨b4,0,none⟩)] wx fun e w'=>e=.returned (.tuple #[])/\RaS w w' b2 b4 b5 ⟨(rdChg (actOf s) s q).1,[],[]⟩ nilV nilV (rdChg (actOf s) s q).2 :=
 (readChange_any ⟨h.rd,h.c,Off2.refl _ _ _,h.n3⟩ _ rfl).mono fun e w' ⟨he,h1⟩=>⟨he,h.two h1.rc h1.rd h1.off⟩
theorem RaS.places2 (h:RaS w wx b2 b4 b5 ⟨s,[],[]⟩ nilV nilV q):Calls Tryz.prog 152 #[.pointer (some ⟨b5,0,none⟩),.slice (some ⟨wx.heap.size,0,none⟩) 2 2] (wx.alloc (.cells #[.pointer (some ⟨b4,1,none⟩),.pointer (some ⟨b4,2,none⟩)] 234)) fun e w'=>e=.returned (.tuple #[])/\RaS w w' b2 b4 b5 ⟨{s with tx:=nN q 6,pv:=nN (sN q 6) 6},[],[]⟩ nilV nilV (sN (sN q 6) 6):=by
 have h':=h.below ((Below.refl _ _).alloc (Nat.le_refl _) (.cells #[.pointer (some ⟨b4,1,none⟩),.pointer (some ⟨b4,2,none⟩)] 234))
 have l1:=h.rd.lt
 have l2:=h.c.lt
 exact(readPlaces_2 (k0:=1) (k1:=2) ⟨h'.rd,⟨(MapKept.heap_alloc wx _).1⟩,⟨h'.c.blk⟩,Off2.refl _ _ _,by omega,h.n3,by omega⟩ (by rw[rc_size];omega) (by rw[rc_size];omega)).mono fun e w' ⟨he,h1,h2,h3⟩=>⟨he,h'.two ⟨h2.blk⟩ h1 h3⟩
theorem RaS.places3 (h:RaS w wx b2 b4 b5 ⟨s,[],[]⟩ nilV nilV q):Calls Tryz.prog 152 #[.pointer (some ⟨b5,0,none⟩),.slice (some ⟨wx.heap.size,0,none⟩) 3 3] (wx.alloc (.cells #[.pointer (some ⟨b4,1,none⟩),.pointer (some ⟨b4,2,none⟩),.pointer (some ⟨b4,8,none⟩)] 234)) fun e w'=>e=.returned (.tuple #[])/\RaS w w' b2 b4 b5 ⟨{s with tx:=nN q 6,pv:=nN (sN q 6) 6,nx:=nN (sN (sN q 6) 6) 6},[],[]⟩ nilV nilV (sN (sN (sN q 6) 6) 6):=by
 have h':=h.below ((Below.refl _ _).alloc (Nat.le_refl _) (.cells #[.pointer (some ⟨b4,1,none⟩),.pointer (some ⟨b4,2,none⟩),.pointer (some ⟨b4,8,none⟩)] 234))
 have l1:=h.rd.lt
 have l2:=h.c.lt
 exact(readPlaces_3 (k0:=1) (k1:=2) (k2:=8) ⟨h'.rd,⟨(MapKept.heap_alloc wx _).1⟩,⟨h'.c.blk⟩,Off2.refl _ _ _,by omega,h.n3,by omega⟩ (by rw[rc_size];omega) (by rw[rc_size];omega) (by rw[rc_size];omega)).mono fun e w' ⟨he,h1,h2,h3⟩=>⟨he,h'.two ⟨h2.blk⟩ h1 h3⟩
theorem RaS.long (h:RaS w wx b2 b4 b5 ⟨s,[],[]⟩ nilV nilV q) (hr:RdS wq b5 q') (o:Pk.Off b5 wx wq) {w':World} (P:PutR wq w' b4 s I T) (f:Fr wq I (encI im) wx.heap.size) (g:Fr wq T (encT tb) wx.heap.size):RaS w w' b2 b4 b5 ⟨s,im,tb⟩ I T q':=by
 have h1:=h.step hr o
 have l2:=h.r.lt
 have l4:=h.c.lt
 have l5:=h.rd.lt
 exact⟨h1.r.off P.off h.n1,P.rc,h1.rd.off P.off h.n3,h1.bel.trans (P.below h.l4 h1.bel.size),h.n1,h.n2,h.n3,h.l2,h.l4,h.l5,wx.heap.size,⟨l2,l4,l5⟩,f.off P.off l4,g.off P.off l4⟩
structure RaL (w wx:World) (b2 b4 b5:Nat) (s:Sc) (I T:Value) (im:List Im) (tb:List Tb) (q:Lf):Prop where
 h:RaS w wx b2 b4 b5 ⟨s,[],[]⟩ nilV nilV q
 oI:I.oneCell'=true
 oT:T.oneCell'=true
 then_:∀ w',PutR wx w' b4 s I T->RaS w w' b2 b4 b5 ⟨s,im,tb⟩ I T q
theorem RaS.images (h:RaS w wx b2 b4 b5 ⟨s,[],[]⟩ nilV nilV q):Calls Tryz.prog 151 #[.pointer (some ⟨b5,0,none⟩)] wx fun e w'=>∃ v,e=.returned v/\RaL w w' b2 b4 b5 s v nilV (rdImL (sN q 1) (nN q 1).toNat) [] (rdImS (sN q 1) (nN q 1).toNat) :=
 (readImages_any h.rd).mono fun e w' ⟨⟨v,he,F⟩,h6,o6⟩=>⟨v,he,h.step h6 o6,F.slI.one,rfl,fun w1 P=>h.long h6 o6 P F (Fr.nil _ _)⟩
theorem RaS.table (h:RaS w wx b2 b4 b5 ⟨s,[],[]⟩ nilV nilV q):Calls Tryz.prog 154 #[.pointer (some ⟨b5,0,none⟩)] wx fun e w'=>∃ v,e=.returned v/\RaL w w' b2 b4 b5 s nilV v [] (rdTbL (sN q 1) (nN q 1).toNat) (rdTbS (sN q 1) (nN q 1).toNat) :=
 (readTable_any h.rd).mono fun e w' ⟨⟨v,he,F⟩,h6,o6⟩=>⟨v,he,h.step h6 o6,rfl,F.slT.one,fun w1 P=>h.long h6 o6 P (Fr.nil _ _) F⟩
theorem RaS.start {w1 w2 w3:World} (N1:NewR w w1 b2 zS nilV nilV) (N2:NewR w1 w2 b4 zS nilV nilV) {t:ByteArray} (ht:t.size<=140737488351232) (hb:Below w2.heap.size w2 w3) (hr:Pk.isRd w3 b5 t 0) (he:b5=w2.heap.size):RaS w w3 b2 b4 b5 ⟨zS,[],[]⟩ nilV nilV (t,0):=by
 have e1:=N1.eq
 have e2:=N2.eq
 have z1:=N1.rc.lt
 have z2:=N2.rc.lt
 have z3:=N1.below.size
 have z4:=N2.below.size
 exact⟨(N1.rc.below N2.below).below hb,N2.rc.below hb,⟨hr,ht⟩,thn (thn N1.below N2.below) hb,by omega,by omega,by omega,by omega,by omega,by omega,b5+1,⟨by omega,by omega,by omega⟩,Fr.nil _ _,Fr.nil _ _⟩
end
theorem kinds (K:Int):K=1∨K=2∨K=3∨K=4∨K=5∨K=6∨K=7∨K=8∨K=9∨K=10∨((K==1)=false/\(K==2)=false/\(K==3)=false/\(K==4)=false/\(K==5)=false/\(K==6)=false/\(K==7)=false/\(K==8)=false/\(K==9)=false/\(K==10)=false):=by
 simp only[beq_eq_false_iff_ne]
 omega
set_option maxHeartbeats 40000000 in
theorem read_any {w:World} (t:ByteArray) (ht:t.size<=140737488351232):Calls Tryz.prog 124 #[.string t] w fun e w'=>(∃ v,e=.returned (.tuple #[v,.int .i64 (Pk.rdEnd (rdM t).2.1 (rdM t).2.2).2])/\RecF w' v (rdM t).1 w.heap.size)/\Below w.heap.size w w':=by
 obtain⟨K,hK⟩:∃ K,nN (t,0) 1=K:=⟨_,rfl⟩
 obtain⟨q,hq⟩:∃ q,sN (t,0) 1=q:=⟨_,rfl⟩
 have hM:rdM t=rdK K q:=by rw[← hK,← hq];rfl
 rw[hM]
 clear hM
 obtain⟨R,hR⟩:∃ R,rdK K q=R:=⟨_,rfl⟩
 rw[hR]
 have HR:Hid (rdK K q=R):=hR
 clear hR
 have hk:=kinds K
 rcases hk with h |h |h |h |h |h |h |h |h |h |h
 all_goals
  first |subst h |obtain⟨e1,e2,e3,e4,e5,e6,e7,e8,e9,e10⟩:=h
  go_enter Tryz.func124,Tryz.ntmps124
  go_wp2_with (first
   | (have:=N1;refine wpList_new_rc _ rfl rfl ?_;intro w2 b4 N2)
   | (refine wpList_new_rc _ rfl rfl ?_;intro w1 b2 N1)
   | (go_at_call 62;refine(Sm.Read_any _ _).mono ?_;rintro e w3 ⟨rfl,hr,hb⟩;have H0:=RaS.start N1 N2 ht hb hr rfl;clear N1 N2 hr hb this;generalize w2.heap.size=b5 at *)
   | (have:=H0;go_at_call 63;refine(H0.num0 _ hK hq).mono ?_;clear this H0;rintro e w4 ⟨rfl,H⟩)
   | (refine wpList_at (Op.store 3 (.tmp 10) (.tmp 9)) rfl ?_;refine wpList_fput (s':=kR _) (I':=nilV) (T':=nilV) _ rfl 3 (.tmp 10) (.tmp 9) rfl rfl rfl H.c (by omega) rfl (by kernel_rfl) rfl ?_;intro w5 P5;have H:=H.put P5;have k0:=H.c.c0;dsimp only[kR] at k0)
   | (go_at_call 151;refine H.images.mono ?_;rintro e w6 ⟨v9,rfl,L⟩;have H:=L.h)
   | (refine wpList_at (Op.store 52 (.tmp 18) (.tmp 17)) rfl ?_;refine wpList_fput (s':=kR _) (I':=v9) (T':=nilV) _ rfl 52 (.tmp 18) (.tmp 17) rfl rfl rfl H.c (by omega) L.oI (by kernel_rfl) rfl ?_;intro w7 P7;have H:=L.then_ _ P7)
   | (go_at_call 154;refine H.table.mono ?_;rintro e w6 ⟨v9,rfl,L⟩;have H:=L.h)
   | (refine wpList_at (Op.store 35 (.tmp 55) (.tmp 54)) rfl ?_;refine wpList_fput (s':=kR _) (I':=nilV) (T':=v9) _ rfl 35 (.tmp 55) (.tmp 54) rfl rfl rfl H.c (by omega) L.oT (by kernel_rfl) rfl ?_;intro w7 P7;have H:=L.then_ _ P7)
   | (have:nN (t,0) 1=6:=hK;go_at_call 152;refine H.places3.mono ?_;rintro e w6 ⟨rfl,H⟩)
   | (go_at_call 152;refine H.places2.mono ?_;rintro e w6 ⟨rfl,H⟩)
   | (go_at_call 63;refine(H.num _).mono ?_;rintro e w6 ⟨rfl,H⟩)
   | (refine wpList_at (Op.store 3 (.tmp 40) (.tmp 39)) rfl ?_;refine wpList_fput (s':={kR 6 with tx:=nN q 6,pv:=nN (sN q 6) 6,nx:=nN (sN (sN q 6) 6) 6,ac:=nN (sN (sN (sN q 6) 6) 6) 1}) (I':=nilV) (T':=nilV) _ rfl 3 (.tmp 40) (.tmp 39) rfl rfl rfl H.c (by omega) rfl (by kernel_rfl) rfl ?_;intro w5 P5;have H:=H.put P5)
   | (refine wpList_at (Op.store 3 (.tmp 60) (.tmp 59)) rfl ?_;refine wpList_fput (s':={kR 10 with ep:=nN q 4}) (I':=nilV) (T':=nilV) _ rfl 3 (.tmp 60) (.tmp 59) rfl rfl rfl H.c (by omega) rfl (by kernel_rfl) rfl ?_;intro w5 P5;have H:=H.put P5)
   | (refine wpList_at (Op.store 3 (.tmp 63) (.tmp 62)) rfl ?_;refine wpList_fput (s':={kR 10 with ep:=nN q 4,nd:=nN (sN q 4) 1}) (I':=nilV) (T':=nilV) _ rfl 3 (.tmp 63) (.tmp 62) rfl rfl rfl H.c (by omega) rfl (by kernel_rfl) rfl ?_;intro w5 P5;have H:=H.put P5)
   | (go_at_call 153;refine H.change.mono ?_;rintro e w7 ⟨rfl,H⟩))
  obtain⟨wz,m9,q9,I9,T9,hwz,hM,H9⟩:∃ wz m9 q9 I9 T9,wz=_/\R=(m9,q9)/\RaS w wz b2 b4 b5 m9 I9 T9 q9:=⟨_,_,_,_,_,rfl,(HR.out.symm.trans (by first |(simp only[beq_eq_false_iff_ne] at e1 e2 e3 e4 e5 e6 e7 e8 e9 e10;simp only[rdK,e1,e2,e3,e4,e5,e6,e7,e8,e9,e10,or_self,if_false]) |kernel_rfl)),H⟩
  subst hwz
  subst hM
  clear H hK hq
  have H:=H9.below ((Below.refl _ _).drew)
  clear H9
  have oI:=H.oI
  have oT:=H.oT
  refine wp_region_held_drew (S:=fun W:World=>W.cell? ⟨b4,0,none⟩=some (.int .i64 m9.s.kd)/\W.cell? ⟨b4,1,none⟩=some (.int .i64 m9.s.tx)/\W.cell? ⟨b4,2,none⟩=some (.int .i64 m9.s.pv)/\W.cell? ⟨b4,3,none⟩=some (.int .i64 m9.s.pg)/\W.cell? ⟨b4,4,none⟩=some (.int .i64 m9.s.ac)/\W.cell? ⟨b4,5,none⟩=some (.string m9.s.ky)/\W.cell? ⟨b4,6,none⟩=some (.string m9.s.ol)/\W.cell? ⟨b4,7,none⟩=some (.string m9.s.nw)/\W.cell? ⟨b4,8,none⟩=some (.int .i64 m9.s.nx)/\W.cell? ⟨b4,9,none⟩=some I9/\W.cell? ⟨b4,10,none⟩=some T9/\W.cell? ⟨b4,11,none⟩=some (.int .i64 m9.s.ep)/\W.cell? ⟨b4,12,none⟩=some (.int .i64 m9.s.nd)) (by kernel_rfl) H.c.row (fun hHeld=>?_)
  refine wpAnyH_take (i:=0) (oi:=_) (v:=?_) rfl (by kernel_rfl) (by kernel_rfl) (by kernel_rfl) (fun _ _ _ h=>h) (Or.inl ⟨by rfl,?_⟩) hHeld ?_
  rotate_left
  ·(intro w hSw;(try dsimp only at hSw);go_simp;(try with_reducible rfl))
  try simp only[Act.put,List.setIfInBounds_toArray,List.set_cons_zero,List.set_cons_succ,List.getElem_toArray,List.getElem_cons_succ,List.getElem_cons_zero]
  refine wpAnyH_take (i:=1) (oi:=_) (v:=?_) rfl (by kernel_rfl) (by kernel_rfl) (by kernel_rfl) (fun _ _ _ h=>h) (Or.inl ⟨by rfl,?_⟩) hHeld ?_
  rotate_left
  ·(intro w hSw;(try dsimp only at hSw);go_simp;(try with_reducible rfl))
  try simp only[Act.put,List.setIfInBounds_toArray,List.set_cons_zero,List.set_cons_succ,List.getElem_toArray,List.getElem_cons_succ,List.getElem_cons_zero]
  refine wpAnyH_ready (rs:=[2]) (by kernel_rfl) (by simp) ?_
  refine AllReadyH.cons (o:=_) rfl (fun K hK=>?_) AllReadyH.nil
  go_simp
  refine H.fin.mono ?_
  clear H
  rintro e w7 ⟨rfl,H⟩
  go_wp2_with fail
  refine hK.out _ _ H.c.row (fun hHeld=>?_)
  clear hK K
  try simp only[Act.put,List.setIfInBounds_toArray,List.set_cons_zero,List.set_cons_succ,List.getElem_toArray,List.getElem_cons_succ,List.getElem_cons_zero]
  refine wpAnyH_ready (rs:=[3]) (by kernel_rfl) (by simp) ?_
  refine AllReadyH.cons (o:=_) rfl (fun K hK=>?_) AllReadyH.nil
  rw[if_pos (by rfl)]
  refine wp_put_rc (s':=m9.s) (I':=I9) (T':=T9) _ (.tmp 2) (.tmp 64) rfl rfl rfl H.r oI oT ?_
  intro w8 P8
  refine hK.out _ _ (H.c.off P8.off (fun e=>H.n1 e.symm)).row (fun hHeld=>?_)
  clear hK K
  try simp only[Act.put,List.setIfInBounds_toArray,List.set_cons_zero,List.set_cons_succ,List.getElem_toArray,List.getElem_cons_succ,List.getElem_cons_zero]
  refine wpAnyH_take (i:=4) (oi:=_) (v:=?_) rfl (by kernel_rfl) (by kernel_rfl) (by kernel_rfl) (fun _ _ _ h=>h) (Or.inl ⟨by rfl,?_⟩) hHeld ?_
  rotate_left
  ·(intro w hSw;(try dsimp only at hSw);go_simp;(try with_reducible rfl))
  try simp only[Act.put,List.setIfInBounds_toArray,List.set_cons_zero,List.set_cons_succ,List.getElem_toArray,List.getElem_cons_succ,List.getElem_cons_zero]
  refine wpAnyH_done (by kernel_rfl) ?_ _
  go_wp2
  refine bodyPost_ret (results_rc2 rfl _ _ rfl P8.rc) rfl ?_
  obtain⟨B,⟨h1,_⟩,f,g⟩:=H.fr
  have l2:=H.l2
  exact⟨⟨_,rfl,_,_,rfl,(f.off P8.off h1).mono (by omega),(g.off P8.off h1).mono (by omega)⟩,H.bel.trans (P8.below H.l2 H.bel.size)⟩
end Go.Proofs.YtdchjncnjgelhaaGreat
