import Derived.Test.YtdchjncnjgelhaaGreatMat
import Derived.Test.YtdchjncnjgelhaaGreatMam
import Derived.Test.YtdchjncnjgelhaaGreatMaa
import Derived.Shelf.Abstract
import Derived.Deep.Slices
import Derived.OpenShut
import Derived.BigRegion
import Derived.Deep.RegionHeld3
set_option linter.unusedVariables false
set_option linter.unusedSimpArgs false
set_option maxRecDepth 100000
namespace Go.Proofs.YtdchjncnjgelhaaGreat
open Go.RowKit Go.Maps Go.ChangeMaps
structure Own7 (w:World) (l:Nat) (v2:Value):Prop where
 ex:∃ pv,w.cell? ⟨l,7,none⟩=some pv/\∀ g,v2.ownBlock=some g->pv.ownBlock≠some g
section
variable [Inhabited PrSet]{B l k db bs sc run dur:Nat}{w w' w0 w1 w2 w5:World}{S:Dk}{fs:List ByteArray}{dead:Bool}{v:Value}{ms:List Rm}
set_option maxHeartbeats 4000000 in
theorem Records_own (h:Lx B w l k S (lgR db bs sc run fs dur dead)) (hf:Fit sc fs):Calls Tryz.prog 17 #[.pointer (some ⟨l,0,none⟩)] w fun e w'=>(∃ v v2,e=.returned (.tuple #[v,v2])/\Rcs w.heap.size w' v (fs.map recF)/\OwnI w.heap.size w' v2 (plc 1 fs)/\Own7 w' l v2)/\Lx B w' l k S (lgR db bs sc run fs dur dead)/\Kp isL B w w':=by
 have h1:=hf.sz
 have h2:=hf.s1
 have hl:=fit_len hf
 have hlen:=plc_length 1 fs
 obtain⟨a,c,c7,ho⟩:=h.row
 have c7':w.cell? ⟨l,7,none⟩=some (.slice a (plc 1 fs).length c):=c7
 have ho':OwnI B w (.slice a (plc 1 fs).length c) (plc 1 fs):=ho
 have CI:Hid (Calls Tryz.prog 43 #[.pointer (some ⟨l,0,none⟩)] w fun e w'=>e=.returned (.bool true)/\w'=w):=isOpen_any h.g
 have CR:Hid (∀ wx i,(hi:i<fs.length)->Lx B wx l k S (lgR db bs sc run fs dur dead)->Calls Tryz.prog 36 #[.pointer (some ⟨l,0,none⟩),.int .i64 ((1+off fs i:Nat):Int)] wx fun e w'=>(∃ v n,e=.returned (.tuple #[v,.int .i64 n,.int .i64 0])/\RecF w' v (recF fs[i]) wx.heap.size)/\Lx B w' l k S (lgR db bs sc run fs dur dead)/\Kp isL B wx w'/\Ce wx w'):=fun wx i hi hx=>by
  have hoff:=off_lt hf.frm hi (Nat.le_refl _)
  rw[off_all] at hoff
  have hz:=(hf.frm fs[i] (List.getElem_mem _)).le
  have:=read_ok hx hf ((1+off fs i:Nat):Int) (by omega) (by omega) (m:=recF fs[i]) (n:=(fs[i].size:Int)) (by rw[show((1+off fs i:Nat):Int)-1=(off fs i:Int) by omega];exact open_at hf.frm hi) (by omega) (by omega)
  refine this.mono ?_
  rintro e w' ⟨⟨v,he,hr⟩,q⟩
  exact⟨⟨v,_,he,hr⟩,q⟩
 have HP:Hid (∀ wx i,(hi:i<fs.length)->Ce w wx->∃ g,a=some ⟨g,0,none⟩/\wx.cell? ⟨g,i,none⟩=some (.int .i64 ((1+off fs i:Nat):Int))):=fun wx i hi hc=>by
  obtain⟨g,e,hg⟩:=ho'.at_ (i:=i) (by rw[hlen];exact hi)
  have hgc:=hg w (Below.refl _ _)
  have hlt:g<w.heap.size:=by
   rcases Nat.lt_or_ge g w.heap.size with hh |hh
   ·exact hh
   ·simp[World.cell?,Array.getElem?_eq_none hh] at hgc
  refine⟨g,e,(hc.cell ⟨g,i,none⟩ hlt).trans ?_⟩
  rw[hgc]
  have:=plc_get 1 fs i hi
  rw[List.getElem?_eq_getElem (by rw[hlen];exact hi)] at this
  injection this with this
  rw[this]
 have CC:Hid (∀ wx,Ce w wx->Kp isL B w wx->Lx B wx l k S (lgR db bs sc run fs dur dead)->∃ a2 c2,wx.cell? ⟨l,7,none⟩=some (.slice a2 (plc 1 fs).length c2)/\Calls Tryz.prog 44 #[.slice a2 (plc 1 fs).length c2] wx fun e w'=>(∃ v',e=.returned v'/\OwnI wx.heap.size w' v' (plc 1 fs))/\Below wx.heap.size wx w'):=fun wx _ _ hx=>by
  obtain⟨a2,c2,q1,q2⟩:=hx.row
  exact⟨a2,c2,q1,clone_any q2 (by show(plc 1 fs).length<=1000000;omega)⟩
 have hle:=h.le
 have HLp:Hid (Ltp w):=h.g.lp
 have H:Hid (Lx B w l k S (lgR db bs sc run fs dur dead)):=h
 have hfl:fs.length<=70000:=by omega
 clear h h1 h2 c7 ho ho' hf hl
 rw[hlen] at CC c7'
 clear hlen
 go_enter Tryz.func17,Tryz.ntmps17
 go_wp2_with (go_at_call 43;refine CI.out.mono ?_;rintro e w0 ⟨rfl,rfl⟩)
 go_loopw [4,18] (fun sv ix wr=>∃ i:Nat,i<=fs.length/\ix=.int .i64 (i:Int)/\Rcs w0.heap.size wr sv ((fs.take i).map recF)/\Lx B wr l k S (lgR db bs sc run fs dur dead)/\Kp isL B w0 wr/\Ce w0 wr) (fun _ ix _=>fs.length-(intOf ix).toNat)
 case atStart=>exact⟨0,Nat.zero_le _,rfl,Rcs.nil _ _,H.out,Kp.refl _ _ _,Ce.of_below (Below.refl _ _)⟩
 case round =>
  obtain⟨i,hi,rfl,hR,hL,hK,hC⟩:=hrel
  by_cases hlt:i<fs.length
  ·obtain⟨g,rfl,cg⟩:=HP.out wr i hlt hC
   obtain⟨a3,c3,rfl⟩:=hR.slice
   have CR1:Hid (Calls Tryz.prog 36 #[.pointer (some ⟨l,0,none⟩),.int .i64 ((1+off fs i:Nat):Int)] wr fun e w'=>(∃ v n,e=.returned (.tuple #[v,.int .i64 n,.int .i64 0])/\RecF w' v (recF fs[i]) wr.heap.size)/\Lx B w' l k S (lgR db bs sc run fs dur dead)/\Kp isL B wr w'/\Ce wr w'):=CR.out wr i hlt hL
   have hm:Hid ((fs.take (i+1)).map recF=(fs.take i).map recF++[recF fs[i]]):=(by rw[List.take_succ_eq_append_getElem hlt,List.map_append];rfl:(fs.take (i+1)).map recF=(fs.take i).map recF++[recF fs[i]])
   obtain⟨M1,HM1⟩:∃ M1,Hid (M1=(fs.take (i+1)).map recF):=⟨_,rfl⟩
   rw[← HM1.out] at hm
   have hll:((fs.take i).map recF).length<=100000:=by simp;omega
   have hsep:Hid (∀ j,(Value.slice a3 ((fs.take i).map recF).length c3).ownBlock=some j->j<wr.heap.size):=(fun j e=>by
    obtain⟨es,_,hrow,_⟩:=hR.ex
    rcases hrow.2 with⟨e2,_⟩ |⟨b,cap,cur,e2,_,hgg,_⟩
    ·rw[e2] at e;simp[Value.ownBlock] at e
    ·rw[e2] at e
     simp[Value.ownBlock] at e
     subst e
     exact lt_of_some hgg:∀ j,(Value.slice a3 ((fs.take i).map recF).length c3).ownBlock=some j->j<wr.heap.size)
   have HR:Hid _:=hR
   have HK:Hid _:=hK
   have HC:Hid _:=hC
   have hi2:(i:Int)<(fs.length:Int):=by omega
   have hz0:=hC.size
   clear hR hK hC hL CR HP CC
   generalize ((1+off fs i:Nat):Int)=X at *
   generalize recF fs[i]=m at *
   obtain⟨s9,l9,g9⟩:=m
   generalize (fs.take i).map recF=ms at *
   go_wp2_with (first
    | (go_at_call 36;refine CR1.out.mono ?_;rintro e w1 ⟨⟨v,n,rfl,hv⟩,L1,k1,q1⟩;have R1:=HR.out.kept q1 (fun j cur fz e=>k1.block j _ e (by simp[isL]));have K1:Hid (Kp isL B w0 w1):=HK.out.trans k1;have C1:Hid (Ce w0 w1):=HC.out.trans q1;obtain⟨I,T,rfl,hI,hT⟩:=hv.ex;dsimp only at hI hT;clear HR HK HC)
    | (refine wpList_new_rc _ rfl rfl ?_;intro w2 b7 N2)
    | (refine wpList_at (Op.store 54 (.tmp 7) (.tmp 26)) rfl ?_;refine wpList_put_rc (s':=s9) (I':=I) (T':=T) _ rfl (.tmp 7) (.tmp 26) rfl rfl rfl N2.rc hI.slI.one hT.slT.one ?_;intro w3 P3;have b13:Below w1.heap.size w1 w3:=N2.below.trans (P3.below (by have:=N2.eq;omega) N2.below.size))
    | (refine wpList_load_rc _ rfl (.tmp 7) rfl rfl P3.rc ?_)
    | (refine wpList_build_rc (s:=s9) (I:=I) (T:=T) _ rfl (.tmp 30) rfl rfl ?_;intro w4 b8 N4;have bA:Below w1.heap.size w1 w4:=thn b13 N4.below;have R4:=R1.below bA;have I4:=hI.below bA;have T4:=hT.below bA;have rcA:=N4.rc;have L4:=L1.below bA;have K4:Hid (Kp isL B w0 w4):=K1.out.below bA hle;have C4:Hid (Ce w0 w4):=C1.out.trans (Ce.of_below bA);have hz4:=C4.out.size)
    | (at_builtin;refine wpList_append_rcs (B:=w0.heap.size) (m:=⟨s9,l9,g9⟩) rfl (.tmp 29) (.tmp 31) rfl rfl R4 rfl rcA (I4.mono hz0) (T4.mono hz0) (I4.apart hsep.out) (T4.apart hsep.out) hz4 hll (fun j hj=>HLp.out.new hj) ?_;intro v' w5 R5 k5;rw[← hm.out] at R5;obtain⟨a5,c5,rfl⟩:=R5.slice;have L5:=L4.keptR k5;have K5:Hid (Kp isL B w0 w5):=⟨K4.out.bel.trans (k5.bel.mono hle),fun j o e hn=>by
      have e4:=K4.out.block j o e hn
      exact(k5.bel.block j (lt_of_some e)).trans e4,fun j o e hn=>k5.prot j o (K4.out.prot j o e hn) hn⟩;have C5:Hid (Ce w0 w5):=⟨Nat.le_trans C4.out.size k5.size,fun p hp=>(World.cell?_of_block (k5.bel.block _ hp)).trans (C4.out.cell p hp)⟩))
   go_roundw
   case rel=>exact⟨i+1,by omega,by go_num,by rw[← HM1.out];exact R5,L5,K5.out,C5.out⟩
   case measure=>simp[intOf];omega
  ·obtain rfl:i=fs.length:=by omega
   have hi2:¬ (fs.length:Int)<(fs.length:Int):=by omega
   rw[List.take_length] at hR
   obtain⟨a2,c2,q7,CC1⟩:=CC.out wr hC hK hL
   have HC1:Hid (Calls Tryz.prog 44 #[.slice a2 fs.length c2] wr fun e w'=>(∃ v',e=.returned v'/\OwnI wr.heap.size w' v' (plc 1 fs))/\Below wr.heap.size wr w'):=CC1
   have HR:Hid _:=hR
   have HK:Hid _:=hK
   have HL:Hid _:=hL
   have hz:=hC.size
   have H7:Hid (∃ pv,wr.cell? ⟨l,7,none⟩=some pv/\l<wr.heap.size/\∀ g,pv.ownBlock=some g->g<wr.heap.size):=by
    obtain⟨a5,c5,r1,r2⟩:=hL.row
    obtain⟨p,v9,pv,h1,_⟩:=hL.g.ex
    refine⟨_,r1,lt_of_some h1,fun g e=>?_⟩
    obtain⟨_,r3⟩:=r2.row
    rcases r3 with⟨r3,_⟩ |⟨g',cap,cur,e',hB,hg,_⟩
    ·rw[r3] at e;cases e
    ·rw[e'] at e
     have:g'=g:=by simpa[Value.ownBlock] using e
     subst this
     exact lt_of_some hg
   obtain⟨a3,c3,e3⟩:=hR.slice
   subst e3
   clear CC1 CC CR HP hR hK hL hC
   generalize (fs.map recF).length=n3 at *
   go_wp2_with (go_at_call 44;refine HC1.out.mono ?_;rintro e w2 ⟨⟨v',rfl,hO⟩,b2⟩)
   go_ret2
   refine⟨⟨_,_,rfl,HR.out.below b2,?_,?_⟩,HL.out.below b2,HK.out.below b2 hle⟩
   rotate_left
   ·obtain⟨pv,k1,k2,k3⟩:=H7.out
    refine⟨pv,by rw[World.cell?_of_block (b2.block l k2)];exact k1,fun g e e2=>?_⟩
    have:=k3 g e2
    obtain⟨_,r3⟩:=hO.row
    rcases r3 with⟨r3,_⟩ |⟨g',cap,cur,e',hB,hg,_⟩
    ·rw[r3] at e;cases e
    ·rw[e'] at e
     have:g'=g:=by simpa[Value.ownBlock] using e
     omega
   obtain⟨q1,q2⟩:=hO.row
   refine⟨q1,?_⟩
   rcases q2 with q2 |⟨g,cap,cur,e,hB,hg,q3⟩
   ·exact Or.inl q2
   ·exact Or.inr ⟨g,cap,cur,e,by omega,hg,q3⟩
end
structure Qs (S:Dk) (bs sc r:Nat) (Q:Nat->Sec):Prop where
 now:∀ i,i<sc->S.now (bs+i)=encQ (Q i)
 run:∀ i,i<sc->(Q i).1<=r
 sz:∀ i,i<sc->(Q i).2.size<=58
 wait:∀ i,S.wait i=none
structure Lv [Inhabited PrSet] (B:Nat) (w:World) (l k:Nat) (S:Dk) (db bs sc run:Nat) (fs:List ByteArray) (sure:Nat):Prop where
 lx:Lx B w l k S (lgR db bs sc run fs (off fs sure) false)
 up:S.up=true
 fit:Fit sc fs
 hs:sure<=fs.length
 n:bs+sc<=S.n
 r2:run<=4294967295
 q:∃ Q,Qs S bs sc run Q/\Std Q sc run (cat (fs.take sure))
structure Wt (S:Dk) (bs sc r:Nat) (fs:List ByteArray) (lo:Nat):Prop where
 q:∃ Q,Qs S bs sc r Q/\∀ run,r<=run->∃ x,cat fs=stand Q run sc++x/\off fs lo<=(stand Q run sc).size
section
variable {fs:List ByteArray}
theorem fs_split (fs:List ByteArray) (i:Nat):cat fs=cat (fs.take i)++cat (fs.drop i):=by rw[← cat_append,List.take_append_drop]
end
section
variable [Inhabited PrSet]{B l k db bs sc run sure:Nat}{w w':World}{S:Dk}{fs:List ByteArray}
theorem Lv.below (h:Lv B w l k S db bs sc run fs sure) (hb:Below w.heap.size w w'):Lv B w' l k S db bs sc run fs sure:=⟨h.lx.below hb,h.up,h.fit,h.hs,h.n,h.r2,h.q⟩
end
section
variable {bs sc run r:Nat}{S S':Dk}{Q:Nat->Sec}
theorem Qs.laid (h:Qs S bs sc r Q) {t:ByteArray} {rr a b:Nat} (hr:r<=rr) (hL:Laid S S' (nw bs t rr a b) 0):Qs S' bs sc rr (putQ Q t rr a b):=by
 obtain⟨hu,hw,hsu⟩:=hL.ok rfl
 refine⟨fun i hi=>?_,fun i hi=>?_,fun i hi=>?_,hw⟩
 ·unfold Dk.now
  rw[hw,hsu]
  show(nw bs t rr a b (bs+i)).getD (S.now (bs+i))=_
  unfold nw putQ
  by_cases hc:a<=i/\i<b
  ·rw[if_pos (by omega),if_pos hc,show bs+i-bs=i by omega];rfl
  ·rw[if_neg (by omega),if_neg hc]
   exact h.now i hi
 ·unfold putQ
  split
  ·exact Nat.le_refl _
  ·exact Nat.le_trans (h.run i hi) hr
 ·unfold putQ
  split
  ·exact part_le t i
  ·exact h.sz i hi
end
section
variable {sc:Nat}{fs:List ByteArray}
theorem Fit.take (h:Fit sc fs) (i:Nat):Fit sc (fs.take i):=by
 refine⟨fun f hf=>h.frm f (List.mem_of_mem_take hf),?_,h.s0,h.s1⟩
 have e:=fs_split fs i
 have:=h.sz
 rw[e,bsz] at this
 omega
end
section
variable {sc:Nat}{fs gs:List ByteArray}
theorem Fit.snoc (h:Fit sc fs) {gs:List ByteArray} (hg:∀ g∈gs,Frm g) (hz:(cat fs).size+(cat gs).size<=58*sc):Fit sc (fs++gs):=⟨fun f hf=>by
 rcases List.mem_append.1 hf with q |q
 ·exact h.frm f q
 ·exact hg f q,by rw[cat_append,bsz];exact hz,h.s0,h.s1⟩
end
section
variable [Inhabited PrSet]{B l k db bs sc run r sure lo:Nat}{w w':World}{S S':Dk}{fs gs:List ByteArray}{Q:Nat->Sec}
theorem Lv.grown (h:Lv B w l k S db bs sc run fs sure) {gs:List ByteArray} (hg:∀ g∈gs,Frm g) (hz:(cat fs).size+(cat gs).size<=58*sc) (hl:Lx B w' l k S (lgR db bs sc run (fs++gs) (off fs sure) false)):Lv B w' l k S db bs sc run (fs++gs) sure:=by
 have e:(fs++gs).take sure=fs.take sure:=List.take_append_of_le_length h.hs
 have e2:off (fs++gs) sure=off fs sure:=by unfold off;rw[e]
 refine⟨by rw[e2];exact hl,h.up,h.fit.snoc hg hz,by rw[List.length_append];have:=h.hs;omega,h.n,h.r2,?_⟩
 rw[e]
 exact h.q
theorem Wt.open2 (h:Wt S bs sc r fs lo) (hF:Fit sc fs) (hlo:lo<=fs.length) (hd:Ds B w db k S) (hk:k<=300000000000) (hrun:r<run) (hr2:run<=4294967295) (hfit:bs+sc<=S.n) (hu:S.up=true) (hc:S.set=false) :
  Calls Tryz.prog 8 #[.pointer (some ⟨db,0,none⟩),.int .i64 (bs:Int),.int .i64 (sc:Int),.int .i64 (run:Int)] w fun e w' =>
   ∃ j S' l,e=.returned (.tuple #[.pointer (some ⟨l,0,none⟩),.int .i64 0])/\(lo<=j/\j<=fs.length/\S'.set=false/\S'.n=S.n)/\Lv B w' l (k+sc+1) S' db bs sc run (fs.take j) j/\Kp isA B w w'/\Opn S S' bs sc run (cat (fs.take j)):=by
 obtain⟨Q,hQ,hst⟩:=h.q
 refine(Open_calm hd hk bs sc run hF.s0 hF.s1 (by omega) hr2 hfit hu hc Q (fun i hi=>⟨hQ.now i hi,by have:=hQ.run i hi;omega,hQ.sz i hi⟩)).mono ?_
 rintro e w' ⟨gs,S',l,rfl,hsp,hop,hlx,hK⟩
 obtain⟨x,hx,hlow⟩:=hst run (Nat.le_of_lt hrun)
 obtain⟨j,hj,rfl,hmax⟩:=Spl.take fs gs _ x hF.frm hx hsp
 have hlj:lo<=j:=hmax lo hlo hlow
 have hjl:(fs.take j).length=j:=by rw[List.length_take];omega
 obtain⟨y,hy⟩:=hsp.pre
 have hstd:=std_new (Q:=Q) (secs:=sc) (r:=run) (T:=cat (fs.take j)) (x:=y) (fun i hi=>by have:=hQ.run i hi;omega) hQ.sz hy (hF.take j).sz (by omega)
 have mk:S'.up=true->S'.n=S.n->(∃ Q',Qs S' bs sc run Q'/\Std Q' sc run (cat (fs.take j)))->Lv B w' l (k+sc+1) S' db bs sc run (fs.take j) j:=fun hu' hn' hq=>by
  refine⟨?_,hu',hF.take j,by omega,by rw[hn'];exact hfit,hr2,by rw[List.take_take,Nat.min_self];exact hq⟩
  have:off (fs.take j) j=(cat (fs.take j)).size:=by unfold off;rw[List.take_take,Nat.min_self]
  rw[this]
  exact hlx
 have hop2:=hop
 rcases hop with⟨h1,rfl⟩ |⟨h1,hLd⟩
 ·refine⟨j,_,l,rfl,⟨hlj,hj,hc,rfl⟩,mk hu rfl ⟨Q,⟨hQ.now,fun i hi=>by have:=hQ.run i hi;omega,hQ.sz,hQ.wait⟩,?_⟩,hK,hop2⟩
  have e:putQ Q (cat (fs.take j)) run ((cat (fs.take j)).size / 58) (min ((cat (fs.take j)).size / 58+1) sc)=Q:=by
   funext i
   exact putQ_out (by omega)
  rw[e] at hstd
  exact hstd
 ·obtain⟨hu',_,_⟩:=hLd.ok rfl
  exact⟨j,S',l,rfl,⟨hlj,hj,(hLd.calm hc).2,hLd.n⟩,mk hu' hLd.n ⟨_,hQ.laid (Nat.le_of_lt hrun) hLd,hstd⟩,hK,hop2⟩
theorem Wt.open_ (h:Wt S bs sc r fs lo) (hF:Fit sc fs) (hlo:lo<=fs.length) (hd:Ds B w db k S) (hk:k<=300000000000) (hrun:r<run) (hr2:run<=4294967295) (hfit:bs+sc<=S.n) (hu:S.up=true) (hc:S.set=false) :
  Calls Tryz.prog 8 #[.pointer (some ⟨db,0,none⟩),.int .i64 (bs:Int),.int .i64 (sc:Int),.int .i64 (run:Int)] w fun e w' =>
   ∃ j S' l,e=.returned (.tuple #[.pointer (some ⟨l,0,none⟩),.int .i64 0])/\(lo<=j/\j<=fs.length/\S'.set=false/\S'.n=S.n)/\Lv B w' l (k+sc+1) S' db bs sc run (fs.take j) j/\Kp isA B w w':=by
 refine(h.open2 hF hlo hd hk hrun hr2 hfit hu hc).mono ?_
 rintro e w' ⟨j,S',l,h1,h2,h3,h4,_⟩
 exact⟨j,S',l,h1,h2,h3,h4⟩
end
open Go.RowKit
section
variable {bs sc:Nat}
theorem new_wt (n bs sc:Nat) (h:1<=sc):Wt (newDk n) bs sc 0 [] 0:=by
 refine⟨fun _=>(0,⟨#[]⟩),⟨fun i hi=>?_,fun i hi=>Nat.le_refl _,fun i hi=>Nat.zero_le _,fun i=>rfl⟩,fun rn hr=>⟨⟨#[]⟩,?_,Nat.zero_le _⟩⟩
 ·rw[enc_zero];rfl
 ·obtain⟨m,rfl⟩:∃ m,sc=m+1:=⟨sc-1,by omega⟩
  show cat []=stK _ rn (m+1) 0 1++_
  rw[stK,if_pos (Or.inl (by show 0<1;omega))]
  rfl
end
section
variable {sc:Nat}
theorem fit_nil (h0:1<=sc) (h1:sc<=8000):Fit sc []:=⟨(fun f hf=>by cases hf),Nat.zero_le _,h0,h1⟩
end
section
variable [Inhabited PrSet]{B l k db bs sc run sure:Nat}{w w':World}{S:Dk}{fs:List ByteArray}
theorem Lv.append {v:Value} {m:Rm} (h:Lv B w l k S db bs sc run fs sure) (hv:RecV w v m) (hm:Small m) (he:(frameM m).2=0) (hn:(cat fs).size+(frameM m).1.size<=58*sc) :
  Calls Tryz.prog 35 #[.pointer (some ⟨l,0,none⟩),v] w fun e w'=>e=.returned (.tuple #[.int .i64 (((cat fs).size:Int)+1),.int .i64 0])/\Lv B w' l k S db bs sc run (fs++[(frameM m).1]) sure/\Kp isL B w w':=by
 refine(append_ok h.lx h.fit hv hm he hn).mono ?_
 rintro e w' ⟨he',h1,k1⟩
 refine⟨he',h.grown (fun g hg=>by rw[List.mem_singleton] at hg;subst hg;exact frm_good he) ?_ h1,k1⟩
 rw[cat,cat,app_nil];exact hn
end
structure RsV (w:World) (a:Option Addr) (n:Nat) (ms:List Rm):Prop where
 len:ms.length=n
 at_:∀ i,(h:i<ms.length)->∃ g o I T,a=some ⟨g,o,none⟩/\g<w.heap.size/\w.rangeAt g (o+i*13) ((ms[i].s.A I T).toList)/\RecV w (.agg (ms[i].s.A I T)) ms[i]/\Held ms[i]
section
variable {w w':World}
theorem wpList_load_rcs {ops:Array Oper} {rest:List Oper} {o:Oper} {a:Act} {Q:Exit->Act->World->Prop} {g of:Nat} {s:Sc} {I T:Value} (w:World) (hg:o.guard=none) (x:Operand) (hop:o.op=Op.load 54 x) (hx:a.eval x=.pointer (some ⟨g,of,none⟩)) (hr:w.rangeAt g of ((s.A I T).toList))
  (h:wpList Tryz.prog ops Q rest (a.put o.dst (.agg (s.A I T))) w):wpList Tryz.prog ops Q (o ::rest) a w :=
 wpList_load_mid hg 54 x hop g of hx _ _ hr Tryz.underlying54 rfl (info_rc s I T) h
theorem rangeAt_below {g o:Nat} {L:List Value} (h:w.rangeAt g o L) (hg:g<w.heap.size) (hb:Below w.heap.size w w'):w'.rangeAt g o L:=fun j u hu=>(World.cell?_of_block (hb.block g hg)).trans (h j u hu)
end
section
variable [Inhabited PrSet]{B l k db bs sc run sure:Nat}{w w':World}{S:Dk}{fs:List ByteArray}
theorem Lv.appendAny {v:Value} {m:Rm} (h:Lv B w l k S db bs sc run fs sure) (hv:RecV w v m) (hm:Small m) :
  Calls Tryz.prog 35 #[.pointer (some ⟨l,0,none⟩),v] w fun e w'=>∃ x y fs',e=.returned (.tuple #[.int .i64 x,.int .i64 y])/\Lv B w' l k S db bs sc run fs' sure/\Kp isL B w w'/\((y=0/\(frameM m).2=0/\fs'=fs++[(frameM m).1]/\x=((cat fs).size:Int)+1/\(cat fs).size+(frameM m).1.size<=58*sc)∨(y≠0/\fs'=fs/\x=0/\(((frameM m).2≠0/\y=(frameM m).2)∨((frameM m).2=0/\y=7/\¬ (cat fs).size+(frameM m).1.size<=58*sc)))):=by
 have hle:=h.lx.le
 by_cases he:(frameM m).2=0
 ·by_cases hn:(cat fs).size+(frameM m).1.size<=58*sc
  ·refine(h.append hv hm he hn).mono ?_
   rintro e w' ⟨he',h1,k1⟩
   exact⟨_,_,_,he',h1,k1,Or.inl ⟨rfl,he,rfl,rfl,hn⟩⟩
  ·refine(append_full h.lx h.fit hv hm he hn).mono ?_
   rintro e w' ⟨he',b1⟩
   exact⟨_,_,_,he',h.below b1,Kp.of_below b1 hle,Or.inr ⟨by omega,rfl,rfl,Or.inr ⟨he,rfl,hn⟩⟩⟩
 ·refine(append_err h.lx h.fit hv hm he).mono ?_
  rintro e w' ⟨he',b1⟩
  exact⟨_,_,_,he',h.below b1,Kp.of_below b1 hle,Or.inr ⟨he,rfl,rfl,Or.inl ⟨he,rfl⟩⟩⟩
end
end Go.Proofs.YtdchjncnjgelhaaGreat
namespace Go.Proofs.YtdchjncnjgelhaaGreat.Lg
open Go.RowKit Go.Maps Go.ChangeMaps
open Gm (thn bl1 bdr)
section
variable {B n:Nat}{w w':World}{v:Value}{xs:List Value}{ps:List Int}
theorem ownF_at2 (h:w.ownsRowF B 5 1 v n xs) (hb:∀ g,v.ownBlock=some g->w'.heap[g]?=w.heap[g]?):w'.ownsRowF B 5 1 v n xs:=by
 refine⟨h.1,?_⟩
 rcases h.2 with hn |⟨g,cap,cur,fz,hv,hbg,hg,rest⟩
 ·exact .inl hn
 ·exact .inr ⟨g,cap,cur,fz,hv,hbg,(hb g (by rw[hv];rfl)).trans hg,rest⟩
theorem ownF_lt (h:w.ownsRowF B 5 1 v n xs) {g:Nat} (e:v.ownBlock=some g):B<=g/\g<w.heap.size:=by
 rcases h.2 with⟨h2,_⟩ |⟨g',cap,cur,fz,e',hB,hg,_⟩
 ·rw[h2] at e;cases e
 ·rw[e'] at e
  have:g'=g:=by simpa[Value.ownBlock] using e
  subst this
  exact⟨hB,lt_of_some hg⟩
theorem ownI_at (h:OwnI B w v ps) (hb:∀ g,v.ownBlock=some g->w'.heap[g]?=w.heap[g]?):OwnI B w' v ps:=by
 obtain⟨h1,h2⟩:=h.row
 refine⟨h1,?_⟩
 rcases h2 with h2 |⟨g,cap,cur,e,hB,hg,h3⟩
 ·exact Or.inl h2
 ·exact Or.inr ⟨g,cap,cur,e,hB,(hb g (by rw[e];rfl)).trans hg,h3⟩
theorem ownI_lt (h:OwnI B w v ps) {g:Nat} (e:v.ownBlock=some g):B<=g/\g<w.heap.size:=by
 obtain⟨h1,h2⟩:=h.row
 rcases h2 with⟨h2,_⟩ |⟨g',cap,cur,e',hB,hg,h3⟩
 ·rw[h2] at e;cases e
 ·rw[e'] at e
  have:g'=g:=by simpa[Value.ownBlock] using e
  subst this
  exact⟨hB,lt_of_some hg⟩
end
structure Lq where
 B:Nat
 k:Nat
 S:Dk
 db:Nat
 bs:Nat
 sc:Nat
 run:Nat
 sure:Nat
structure Lw (w:World) (l:Nat) (fs:List ByteArray) (q:Lq) (W:Nat->Prop):Prop where
 lt:∀ j,W j->j<w.heap.size
 ge:∀ j,W j->q.B<=j
 go:∀ (I:Inhabited PrSet) (w':World),(∀ j,W j->w'.heap[j]?=w.heap[j]?)->w.heap.size<=w'.heap.size->(∀ j,W j->@np I j)->@Ltp I w'->@Lv I q.B w' l q.k q.S q.db q.bs q.sc q.run fs q.sure
section
variable {w w':World}{l:Nat}{fs:List ByteArray}{q:Lq}{W:Nat->Prop}
theorem Lw.turn (h:Lw w l fs q W) (hO:∀ j,W j->w'.heap[j]?=w.heap[j]?) (hs:w.heap.size<=w'.heap.size):Lw w' l fs q W :=
 ⟨fun j hj=>Nat.lt_of_lt_of_le (h.lt j hj) hs,h.ge,fun I w2 h1 h2 h3 h4=>h.go I w2 (fun j hj=>(h1 j hj).trans (hO j hj)) (Nat.le_trans hs h2) h3 h4⟩
end
structure Wk (w:World) (l:Nat) (W:Nat->Prop):Prop where
 a:∀ j,W j->∃ o,w.heap[j]?=some o/\isA o
 i:∀ j,W j->∀ A fz,w.heap[j]?=some (.cells A 3 fz)->∀ pv,w.cell? ⟨l,7,none⟩=some pv->pv.ownBlock=some j
theorem lv_sup {I:Inhabited PrSet} {w:World} {l:Nat} {fs:List ByteArray} {q:Lq} (h:@Lv I q.B w l q.k q.S q.db q.bs q.sc q.run fs q.sure):∃ W:Nat->Prop,(∀ j,W j->@np I j)/\Wk w l W/\Lw w l fs q W:=by
 have hd:=h.lx.d
 have hg:=h.lx.g
 obtain⟨lb,mb,m,d1,d2,d3,d4⟩:=hd.dsk
 obtain⟨p,v,pv,h1,h2,h3,h4,n3,n4⟩:=hg.ex
 have g3:=d3.ge
 have g4:=d4.ge
 have dq:=hd.q
 have dg:=hd.hd.ge
 have dl:=hd.lt
 have gg:=hg.ge.ge
 have gl:=hg.le
 have vu:=h.up
 have vf:=h.fit
 have vs:=h.hs
 have vn:=h.n
 have vr:=h.r2
 have vq:=h.q
 have vb:∀ j,v.ownBlock=some j->∃ A fz,w.heap[j]?=some (.cells A 5 fz):=fun j e2=>by
  rcases h3.2 with⟨e3,_⟩ |⟨g',cap,cur,fz,e',hB,hg',_⟩
  ·rw[e3] at e2;cases e2
  ·rw[e'] at e2
   have:g'=j:=by simpa[Value.ownBlock] using e2
   subst this
   exact⟨_,_,hg'⟩
 have pb:∀ j,pv.ownBlock=some j->∃ A fz,w.heap[j]?=some (.cells A 3 fz):=fun j e2=>by
  obtain⟨_,h5⟩:=h4.row
  rcases h5 with⟨e3,_⟩ |⟨g',cap,cur,e',hB,hg',_⟩
  ·rw[e3] at e2;cases e2
  ·rw[e'] at e2
   have:g'=j:=by simpa[Value.ownBlock] using e2
   subst this
   exact⟨_,_,hg'⟩
 refine⟨fun j=>j=q.db∨j=lb∨j=mb∨j=l∨v.ownBlock=some j∨pv.ownBlock=some j,?_,⟨?_,?_⟩,?_,?_,?_⟩
 rotate_left
 ·rintro j (rfl |rfl |rfl |rfl |e2 |e2)
  ·exact⟨_,d1.blk,Or.inl (Or.inl rfl)⟩
  ·obtain⟨c2,f2,e2⟩:=d1.row.ty;exact⟨_,e2,Or.inl (Or.inr rfl)⟩
  ·obtain⟨c2,f2,e2⟩:=d1.map.is;exact⟨_,e2,Or.inl trivial⟩
  ·exact⟨_,h1,Or.inr (Or.inr (Or.inr rfl))⟩
  ·obtain⟨A,fz,e3⟩:=vb j e2;exact⟨_,e3,Or.inr (Or.inr (Or.inl rfl))⟩
  ·obtain⟨A,fz,e3⟩:=pb j e2;exact⟨_,e3,Or.inr (Or.inl rfl)⟩
 ·rintro j (rfl |rfl |rfl |rfl |e2 |e2) A fz hA pv' hpv
  ·have e2:w.heap[q.db]?=some (.cells _ 81 (0,0)):=d1.blk
   rw[e2] at hA;simp at hA
  ·obtain⟨c2,f2,e2⟩:=d1.row.ty;rw[e2] at hA;simp at hA
  ·obtain⟨c2,f2,e2⟩:=d1.map.is;rw[e2] at hA;simp at hA
  ·rw[h1] at hA;simp at hA
  ·obtain⟨A',fz',e3⟩:=vb j e2;rw[e3] at hA;simp at hA
  ·have e7:w.cell? ⟨l,7,none⟩=some pv:=Joins.cell_of_block h1 7
   rw[e7] at hpv
   cases hpv
   exact e2
 rotate_right
 ·rintro j (rfl |rfl |rfl |rfl |e2 |e2)
  ·exact hd.hd.np
  ·exact d3.np
  ·exact d4.np
  ·exact hg.ge.np
  ·exact n3 j e2
  ·exact n4 j e2
 ·rintro j (rfl |rfl |rfl |rfl |e2 |e2)
  ·exact lt_of_some d1.blk
  ·obtain⟨c2,f2,e2⟩:=d1.row.ty;exact lt_of_some e2
  ·obtain⟨c2,f2,e2⟩:=d1.map.is;exact lt_of_some e2
  ·exact lt_of_some h1
  ·exact(ownF_lt h3 e2).2
  ·exact(ownI_lt h4 e2).2
 ·rintro j (rfl |rfl |rfl |rfl |e2 |e2)
  ·exact dg
  ·exact g3
  ·exact g4
  ·exact gg
  ·exact(ownF_lt h3 e2).1
  ·exact(ownI_lt h4 e2).1
 ·clear h hd hg d3 d4 n3 n4
  intro I' w' hO hs hW hL
  have D:DkIs w' q.db lb mb m q.S:=⟨(hO _ (Or.inl rfl)).trans d1.blk,d1.row.of_block (hO _ (Or.inr (Or.inl rfl))) hs,d1.map.of_block (hO _ (Or.inr (Or.inr (Or.inl rfl)))),d1.ne⟩
  have Dn:@Ds I' q.B w' q.db q.k q.S:=@Ds.mk I' _ _ _ _ _ ⟨lb,mb,m,D,d2,@Ow.mk I' _ _ g3 (hW _ (Or.inr (Or.inl rfl))),@Ow.mk I' _ _ g4 (hW _ (Or.inr (Or.inr (Or.inl rfl))))⟩ dq (@Ow.mk I' _ _ dg (hW _ (Or.inl rfl))) (Nat.le_trans dl hs) hL
  have Ln:@LrIs I' q.B w' l (lgR q.db q.bs q.sc q.run fs (off fs q.sure) false):=@LrIs.mk I' _ _ _ _ ⟨p,v,pv,(hO _ (Or.inr (Or.inr (Or.inr (Or.inl rfl))))).trans h1,h2,ownF_at2 h3 (fun g eg=>hO _ (Or.inr (Or.inr (Or.inr (Or.inr (Or.inl eg)))))),ownI_at h4 (fun g eg=>hO _ (Or.inr (Or.inr (Or.inr (Or.inr (Or.inr eg)))))),fun g eg=>hW _ (Or.inr (Or.inr (Or.inr (Or.inr (Or.inl eg))))),fun g eg=>hW _ (Or.inr (Or.inr (Or.inr (Or.inr (Or.inr eg)))))⟩ (@Ow.mk I' _ _ gg (hW _ (Or.inr (Or.inr (Or.inr (Or.inl rfl)))))) (Nat.le_trans gl hs) hL
  have Lxn:@Lx I' q.B w' l q.k q.S (lgR q.db q.bs q.sc q.run fs (off fs q.sure) false):=@Lx.mk I' _ _ _ _ _ _ Dn Ln
  exact @Lv.mk I' _ _ _ _ _ _ _ _ _ _ _ Lxn vu vf vs vn vr vq
theorem Lw.op {fn l:Nat} {w:World} {fs:List ByteArray} {q:Lq} {W:Nat->Prop} {args:Array Value} {A:Obj->Prop} {R:Ending->List ByteArray->World->Prop} (h:Lw w l fs q W)
  (hop:∀ (I:Inhabited PrSet),@Lv I q.B w l q.k q.S q.db q.bs q.sc q.run fs q.sure->Calls Tryz.prog fn args w fun e w'=>∃ (fs':List ByteArray) (q':Lq),R e fs' w'/\@Lv I q'.B w' l q'.k q'.S q'.db q'.bs q'.sc q'.run fs' q'.sure/\@Kp I A q.B w w'/\q'.sc=q.sc/\q'.B=q.B) :
  Calls Tryz.prog fn args w fun e w'=>∃ (fs':List ByteArray) (q':Lq) (W':Nat->Prop),R e fs' w'/\Lw w' l fs' q' W'/\Gm.Fr W W' w w'/\q'.sc=q.sc/\q'.B=q.B/\Wk w' l W':=by
 obtain⟨p,hp⟩:∃ p:Nat->Option Obj,(∀ j,(¬ W j/\j<w.heap.size)->p j=w.heap[j]?)/\(∀ j,¬ (¬ W j/\j<w.heap.size)->p j=none):=by
  refine⟨fun j=>@ite _ (¬ W j/\j<w.heap.size) (Classical.propDecidable _) (w.heap[j]?) none,fun j hj=>?_,fun j hj=>?_⟩
  ·exact if_pos hj
  ·exact if_neg hj
 have hnp:∀ j,@np ⟨⟨p⟩⟩ j->W j∨w.heap.size<=j:=fun j hj=>by
  rcases Classical.em (W j) with hw |hw
  ·exact Or.inl hw
  ·rcases Nat.lt_or_ge j w.heap.size with hl |hl
   ·exfalso
    refine hj (show p j≠none from ?_)
    rw[hp.1 j ⟨hw,hl⟩]
    simp[hl]
   ·exact Or.inr hl
 have hP:=h.go ⟨⟨p⟩⟩ w (fun _ _=>rfl) (Nat.le_refl _) (fun j hj e=>e (hp.2 j (fun x=>x.1 hj))) (fun j o e=>by
  rcases Classical.em (¬ W j/\j<w.heap.size) with ho |ho
  ·exact(hp.1 j ho).symm.trans e
  ·have:=(hp.2 j ho).symm.trans e;cases this)
 letI:Inhabited PrSet:=⟨⟨p⟩⟩
 refine(hop ⟨⟨p⟩⟩ hP).mono ?_
 rintro e w' ⟨fs',q',hR,hV,hK,hsc,hB⟩
 obtain⟨W2,n2,K2,U2⟩:=lv_sup hV
 refine⟨fs',q',W2,hR,U2,⟨hK.bel.os,hK.bel.tape,hK.bel.output,hK.bel.size,fun j hj hn=>?_,fun j hj=>hnp j (n2 j hj)⟩,hsc,hB,K2⟩
 have e1:w.heap[j]?=some w.heap[j]:=by simp[hj]
 rw[e1]
 exact hK.prot j _ e1 (fun e2=>by
  have e3:p j=none:=e2
  rw[hp.1 j ⟨hn,hj⟩,e1] at e3;cases e3)
structure Lo (W:Nat->Prop) (w:World) (l:Nat) (fs:List ByteArray):Prop where
 ex:∃ q,Lw w l fs q W/\q.sc=200
section
variable {w w':World}{l:Nat}{fs:List ByteArray}{W:Nat->Prop}
theorem Lo.lt (h:Lo W w l fs) {j:Nat} (hj:W j):j<w.heap.size:=by obtain⟨q,h1,_⟩:=h.ex;exact h1.lt j hj
theorem Lo.turn (h:Lo W w l fs) (hO:∀ j,W j->w'.heap[j]?=w.heap[j]?) (hs:w.heap.size<=w'.heap.size):Lo W w' l fs:=by obtain⟨q,h1,h2⟩:=h.ex;exact⟨q,h1.turn hO hs,h2⟩
theorem Lo.below (h:Lo W w l fs) (hb:Below w.heap.size w w'):Lo W w' l fs:=h.turn (fun j hj=>hb.block j (h.lt hj)) hb.size
theorem Lo.any_ (h:Lo W w l fs):∃ (I:Inhabited PrSet) (q:Lq),@Lv I q.B w l q.k q.S q.db q.bs q.sc q.run fs q.sure/\q.sc=200:=by
 obtain⟨q,h1,h2⟩:=h.ex
 exact⟨⟨⟨fun _=>none⟩⟩,q,h1.go ⟨⟨fun _=>none⟩⟩ w (fun _ _=>rfl) (Nat.le_refl _) (fun j _ e=>e rfl) (fun j o e=>by cases e),h2⟩
theorem Lo.fit (h:Lo W w l fs):Fit 200 fs:=by obtain⟨I,q,hv,e⟩:=h.any_;have:=hv.fit;rw[e] at this;exact this
structure ApO (W:Nat->Prop) (w:World) (l:Nat) (fs:List ByteArray) (m:Rm) (e:Ending) (w':World):Prop where
 ex:∃ x y fs' W',e=.returned (.tuple #[.int .i64 x,.int .i64 y])/\Lo W' w' l fs'/\Gm.Fr W W' w w'/\((y=0/\(frameM m).2=0/\fs'=fs++[(frameM m).1]/\x=((cat fs).size:Int)+1/\(cat fs).size+(frameM m).1.size<=11600)∨(y≠0/\fs'=fs/\x=0/\(((frameM m).2≠0/\y=(frameM m).2)∨((frameM m).2=0/\y=7/\¬ (cat fs).size+(frameM m).1.size<=11600))))
theorem Lo.append (h:Lo W w l fs) {v:Value} {m:Rm} (hv:RecV w v m) (hm:Small m):Calls Tryz.prog 35 #[.pointer (some ⟨l,0,none⟩),v] w fun e w'=>ApO W w l fs m e w':=by
 obtain⟨q,h1,h2⟩:=h.ex
 refine(Lw.op (A:=isL) (R:=fun e fs' w'=>∃ x y,e=.returned (.tuple #[.int .i64 x,.int .i64 y])/\((y=0/\(frameM m).2=0/\fs'=fs++[(frameM m).1]/\x=((cat fs).size:Int)+1/\(cat fs).size+(frameM m).1.size<=58*q.sc)∨(y≠0/\fs'=fs/\x=0/\(((frameM m).2≠0/\y=(frameM m).2)∨((frameM m).2=0/\y=7/\¬ (cat fs).size+(frameM m).1.size<=58*q.sc))))) h1 (fun I hl=>?_)).mono ?_
 ·refine(hl.appendAny hv hm).mono ?_
  rintro e w' ⟨x,y,fs',he,hl',hk,hor⟩
  exact⟨fs',q,⟨x,y,he,hor⟩,hl',hk,rfl,rfl⟩
 ·rintro e w' ⟨fs',q',W',⟨x,y,he,hor⟩,hw,hf,e1,e2,_⟩
  refine⟨x,y,fs',W',he,⟨q',hw,e1.trans h2⟩,hf,?_⟩
  rw[h2] at hor
  exact hor
structure RcO (W:Nat->Prop) (w:World) (l:Nat) (fs:List ByteArray) (e:Ending) (w':World):Prop where
 ex:∃ v v2 W',e=.returned (.tuple #[v,v2])/\Rcs w.heap.size w' v (fs.map recF)/\OwnI w.heap.size w' v2 (plc 1 fs)/\Lo W' w' l fs/\Gm.Fr W W' w w'/\(∀ g,v.ownBlock=some g->¬ W' g)/\(∀ g,v2.ownBlock=some g->¬ W' g)
theorem Lo.records (h:Lo W w l fs):Calls Tryz.prog 17 #[.pointer (some ⟨l,0,none⟩)] w fun e w'=>RcO W w l fs e w':=by
 obtain⟨q,h1,h2⟩:=h.ex
 refine(Lw.op (A:=isL) (R:=fun e fs' w'=>fs'=fs/\∃ v v2,e=.returned (.tuple #[v,v2])/\Rcs w.heap.size w' v (fs.map recF)/\OwnI w.heap.size w' v2 (plc 1 fs)/\Own7 w' l v2) h1 (fun I hv=>?_)).mono ?_
 ·refine(Records_own hv.lx hv.fit).mono ?_
  rintro e w' ⟨⟨v,v2,he,hr,hi,h7⟩,hx,hk⟩
  exact⟨fs,q,⟨rfl,v,v2,he,hr,hi,h7⟩,⟨hx,hv.up,hv.fit,hv.hs,hv.n,hv.r2,hv.q⟩,hk,rfl,rfl⟩
 ·rintro e w' ⟨fs',q',W',⟨rfl,v,v2,he,hr,hi,h7⟩,hw,hf,e1,e2,hk⟩
  refine⟨v,v2,W',he,hr,hi,⟨q',hw,e1.trans h2⟩,hf,fun g eg hg=>?_,fun g eg hg=>?_⟩
  ·obtain⟨o,ho,ha⟩:=hk.a g hg
   obtain⟨es,_,hrow,_⟩:=hr.ex
   rcases hrow.2 with⟨e3,_⟩ |⟨b,cap,cur,e3,_,hgg,_⟩
   ·rw[e3] at eg;cases eg
   ·rw[e3] at eg
    have:b=g:=by simpa[Value.ownBlock] using eg
    subst this
    rw[hgg] at ho
    cases ho
    simp[isA,isD,isL] at ha
  ·obtain⟨_,h5⟩:=hi.row
   rcases h5 with⟨e3,_⟩ |⟨g',cap,cur,e',hB,hg',_⟩
   ·rw[e3] at eg;cases eg
   ·rw[e'] at eg
    have:g'=g:=by simpa[Value.ownBlock] using eg
    subst this
    obtain⟨pv,k1,k2⟩:=h7.ex
    exact k2 g' (by rw[e'];rfl) (hk.i g' hg _ _ hg' pv k1)
end
def pla (fs:List ByteArray) (i:Nat):Int:=((1+off fs i:Nat):Int)
end Go.Proofs.YtdchjncnjgelhaaGreat.Lg
namespace Go.Proofs.YtdchjncnjgelhaaGreat.Gm
open Go.RowKit
end Go.Proofs.YtdchjncnjgelhaaGreat.Gm
namespace Go.Proofs.YtdchjncnjgelhaaGreat.Lg
open Go.RowKit Go.Maps Go.ChangeMaps
open Gm (thn bl1 bdr)
end Go.Proofs.YtdchjncnjgelhaaGreat.Lg
namespace Go.Proofs.YtdchjncnjgelhaaGreat.Gm
open Go.RowKit
theorem range_bel {w w':World} {g o:Nat} {L:List Value} (h:w.rangeAt g o L) (hg:w'.heap[g]?=w.heap[g]?):w'.rangeAt g o L:=fun j u hu=>(World.cell?_of_block hg).trans (h j u hu)
end Go.Proofs.YtdchjncnjgelhaaGreat.Gm
namespace Go.Proofs.YtdchjncnjgelhaaGreat.Rq
open Go.RowKit Gm
abbrev SpL:=Int × Int
end Go.Proofs.YtdchjncnjgelhaaGreat.Rq
