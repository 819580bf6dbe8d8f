import Derived.Test.YtdchjncnjgelhaaGreatMao
import Derived.Test.YtdchjncnjgelhaaGreatMar
import Derived.SizedLaws
import Derived.Deep.Slices
import Derived.OpenShut
set_option linter.unusedVariables false
set_option linter.unusedSimpArgs false
set_option maxRecDepth 100000
namespace Go.Proofs.YtdchjncnjgelhaaGreat
open Go.RowKit Go.Maps Go.ChangeMaps
section
variable [Inhabited PrSet]{B l k db bs sc run dur:Nat}{w w' w1 w2 w5 w6:World}{S:Dk}{fs:List ByteArray}{dead:Bool}{A:Obj->Prop}
set_option maxHeartbeats 2000000 in
theorem read_err (h:Lx B w l k S (lgR db bs sc run fs dur dead)) (hf:Fit sc fs) (x:Int) (hx1:1<=x) (hx2:x<((cat fs).size:Int)+1) {m:Rm} {n c:Int} (ho:openM (cat fs) (x-1)=(m,n,c)) (hc:c≠0) :
  Calls Tryz.prog 36 #[.pointer (some ⟨l,0,none⟩),.int .i64 x] w fun e w'=>e=.returned (.tuple #[.agg (zS.A nilV nilV),.int .i64 0,.int .i64 c])/\Lx B w' l k S (lgR db bs sc run fs dur dead)/\Kp isL B w w':=by
 have h1:=hf.sz
 have HLp:Hid (Ltp w):=h.g.lp
 have h2:=hf.s1
 have CI:Hid (∀ wx,Below w.heap.size w wx->Calls Tryz.prog 43 #[.pointer (some ⟨l,0,none⟩)] wx fun e w'=>e=.returned (.bool true)/\w'=wx):=fun wx hx=>isOpen_any (h.below hx).g
 have CE:Hid (∀ wx,Below w.heap.size w wx->Calls Tryz.prog 33 #[.pointer (some ⟨l,0,none⟩)] wx fun e w'=>e=.returned (.int .i64 (((cat fs).size:Int)+1))/\w'=wx):=fun wx hx=>End_any (h.below hx).g (by show(cat fs).size<=1000000;omega)
 have CS:Hid (∀ wx,Below w.heap.size w wx->Calls Tryz.prog 66 #[.pointer (some ⟨l,5,none⟩)] wx fun v w'=>v=.returned (.string (cat fs))/\Lx B w' l k S (lgR db bs sc run fs dur dead)/\Kp isL B wx w'/\Ce wx w'):=fun wx hx=>by
  refine(String_log2 (h.below hx).g).mono ?_
  rintro v w' ⟨hv,g1,k1,q1⟩
  exact⟨hv,(h.below hx).kept rfl g1 k1,k1,q1⟩
 have CO:Hid (∀ wx,Calls Tryz.prog 67 #[.string (cat fs),.int .i64 (x-1)] wx fun e w'=>(∃ v,e=.returned (.tuple #[v,.int .i64 n,.int .i64 c])/\RecF w' v m wx.heap.size)/\Below wx.heap.size wx w'):=fun wx=>by
  have:=Open_any (w:=wx) (cat fs) (x-1) (by omega)
  rw[ho] at this
  exact this
 have hle:=h.le
 have t1:¬ x<1:=by omega
 have t2:¬ ((cat fs).size:Int)+1<=x:=by omega
 have hxb:x<=1000000:=by omega
 clear h hf h1 h2 ho
 generalize ((cat fs).size:Int)+1=E at *
 generalize hT:cat fs=t at CS CO
 clear hT
 obtain⟨s9,l9,g9⟩:=m
 have hw1:IntKind.i64.wrap (x-1)=x-1:=by rw[IntKind.wrap_i64];omega
 have hc1:(c==0)=false:=by simpa using hc
 have hc2:(c !=0)=true:=by simpa using hc
 go_enter Tryz.func36,Tryz.ntmps36
 go_wp2_with (first
  | (have:=N1;refine wpList_new_rc _ rfl rfl ?_;intro w4 b7 N7)
  | (refine wpList_new_rc _ rfl rfl ?_;intro w1 b4 N1)
  | (go_at_call 43;refine(CI.out _ N1.below).mono ?_;rintro e w9 ⟨rfl,rfl⟩)
  | (go_at_call 33;refine(CE.out _ N1.below).mono ?_;rintro e w8 ⟨rfl,rfl⟩)
  | (go_at_call 66;refine(CS.out _ N1.below).mono ?_;rintro e w2 ⟨rfl,H2,k2,ce2⟩;have rc2:RcAt w2 b4 zS nilV nilV:=⟨k2.block _ _ N1.rc.blk (by simp[isL])⟩)
  | (go_at_call 67;refine(CO.out _).mono ?_;rintro e w3 ⟨⟨v,rfl,hv⟩,b3⟩;have rc3:=rc2.below b3;obtain⟨I,T,rfl,hI,hT⟩:=hv.ex;dsimp only at hI hT)
  | (refine wpList_at (Op.store 54 (.tmp 7) (.tmp 31)) rfl ?_;refine wpList_put_rc (s':=s9) (I':=I) (T':=T) _ rfl (.tmp 7) (.tmp 31) rfl rfl rfl N7.rc hI.slI.one hT.slT.one ?_;intro w5 P7;have b35:Below w3.heap.size w3 w5:=N7.below.trans (P7.below (by have:=N7.eq;omega) N7.below.size);have rc5:=rc3.below b35)
  | (refine wpList_at (Op.store 54 (.tmp 4) (.tmp 36)) rfl ?_;refine wpList_put_rc (s':=zS) (I':=nilV) (T':=nilV) _ rfl (.tmp 4) (.tmp 36) rfl rfl rfl rc5 rfl rfl ?_;intro w6 P6))
 refine bodyPost_ret (results_rc3 rfl _ _ rfl P6.rc) rfl ?_
 have e4:=N1.eq
 have z4:=N1.rc.lt
 have b25:Below w2.heap.size w2 w5:=thn b3 b35
 have K5:Kp isL B w w5:=((Kp.of_below N1.below hle).trans k2).below b25 hle
 have H5:=H2.below b25
 exact⟨rfl,H5.keptR (put_kp (B:=B) rc5 P6 (HLp.out.ow hle (by omega)) H5.le),K5.putR P6 (by omega) hle⟩
end
end Go.Proofs.YtdchjncnjgelhaaGreat
namespace Go.Proofs.YtdchjncnjgelhaaGreat.Lg
open Go.RowKit Go.Maps Go.ChangeMaps
open Gm (thn bl1 bdr)
section
variable {W W':Nat->Prop}{w w' w2:World}{l:Nat}{fs:List ByteArray}
structure RdA (W:Nat->Prop) (w:World) (l:Nat) (fs:List ByteArray) (P:Sc->Int->Prop) (e:Ending) (w':World):Prop where
 ex:∃ (s:Sc) (I T:Value) (y c:Int) (W':Nat->Prop),e=.returned (.tuple #[.agg (s.A I T),.int .i64 y,.int .i64 c])/\(I.oneCell'=true/\T.oneCell'=true)/\P s c/\Lo W' w' l fs/\Gm.Fr W W' w w'
theorem openM_pos {s:ByteArray} {a:Int} (hs:s.size<=900000) (h:(openM s a).2.2=0):0<=(openM s a).2.1/\(openM s a).2.1<=1000000:=by
 unfold openM at h ⊢
 split
 ·exact⟨Int.le_refl 0,(by decide:(0:Int)<=1000000)⟩
 ·split
  ·exact⟨Int.le_refl 0,(by decide:(0:Int)<=1000000)⟩
  ·split
   ·exact⟨Int.le_refl 0,(by decide:(0:Int)<=1000000)⟩
   ·have h1:=frM_size (s.extract a.toNat s.size)
    have h2:(s.extract a.toNat s.size).size<=s.size:=by rw[ByteArray.size_extract];omega
    dsimp only
    omega
theorem Lo.readAny (h:Lo W w l fs) (x:Int) (hx1:1<=x):∃ c:Int,(((cat fs).size:Int)+1<=x->c≠0)/\∀ wx,Below w.heap.size w wx->Calls Tryz.prog 36 #[.pointer (some ⟨l,0,none⟩),.int .i64 x] wx fun e w'=>RdA W wx l fs (fun _ c'=>c'=c) e w':=by
 rcases Int.lt_or_le x (((cat fs).size:Int)+1) with hx |hx
 ·refine⟨(openM (cat fs) (x-1)).2.2,fun h=>by omega,fun wx hb=>?_⟩
  have h:=h.below hb
  by_cases hc:(openM (cat fs) (x-1)).2.2=0
  ·obtain⟨p1,p2⟩:=openM_pos (by have:=h.fit.sz;omega) hc
   refine(h.read x hx1 hx (m:=(openM (cat fs) (x-1)).1) (n:=(openM (cat fs) (x-1)).2.1) (by rw[← hc]) p1 p2).mono ?_
   rintro e w' ⟨v,W',he,hr,hl,hf⟩
   obtain⟨I,T,rfl,hI,hT⟩:=hr.ex
   exact⟨_,I,T,_,_,W',he,⟨hI.slI.one,hT.slT.one⟩,hc.symm,hl,hf⟩
  ·obtain⟨q,h1,h2⟩:=h.ex
   refine(Lw.op (A:=isL) (R:=fun e fs' w'=>fs'=fs/\e=.returned (.tuple #[.agg (zS.A nilV nilV),.int .i64 0,.int .i64 (openM (cat fs) (x-1)).2.2])) h1 (fun I hv=>?_)).mono ?_
   ·refine(read_err hv.lx hv.fit x hx1 hx (m:=(openM (cat fs) (x-1)).1) (n:=(openM (cat fs) (x-1)).2.1) rfl hc).mono ?_
    rintro e w' ⟨he,hx,hk⟩
    exact⟨fs,q,⟨rfl,he⟩,⟨hx,hv.up,hv.fit,hv.hs,hv.n,hv.r2,hv.q⟩,hk,rfl,rfl⟩
   ·rintro e w' ⟨fs',q',W',⟨rfl,he⟩,hw,hf,e1,e2,_⟩
    exact⟨zS,nilV,nilV,0,_,W',he,⟨rfl,rfl⟩,rfl,⟨q',hw,e1.trans h2⟩,hf⟩
 ·refine⟨8,fun _=>by decide,fun wx hb=>?_⟩
  have h:=h.below hb
  obtain⟨I,q,hv,e⟩:=h.any_
  refine(read_out hv.lx hv.fit x (Or.inr hx)).mono ?_
  rintro e w' ⟨he,hb⟩
  exact⟨zS,nilV,nilV,0,8,W,he,⟨rfl,rfl⟩,rfl,h.below hb,Gm.Fr.of_below hb W⟩
set_option maxHeartbeats 2000000 in
theorem read_no (h:Lo W w l fs) {x:Int} (hx1:1<=x) (hb:((cat fs).size:Int)+1<=x∨bnd fs x=false):Calls Tryz.prog 45 #[.pointer (some ⟨l,0,none⟩),.int .i64 x] w fun e w'=>RdA W w l fs (fun _ c=>c=20) e w':=by
 obtain⟨c0,hc0,hC⟩:=h.readAny x hx1
 have CR:Hid (∀ wx,Below w.heap.size w wx->Calls Tryz.prog 36 #[.pointer (some ⟨l,0,none⟩),.int .i64 x] wx fun e w'=>RdA W wx l fs (fun _ c'=>c'=c0) e w'):=hC
 have HLt:Hid (∀ j,W j->j<w.heap.size):=fun j hj=>h.lt hj
 have CB:Hid (∀ W' wx,Lo W' wx l fs->Calls Tryz.prog 74 #[.pointer (some ⟨l,0,none⟩),.int .i64 x] wx fun e w'=>e=.returned (.bool (bnd fs x))/\Below wx.heap.size wx w'):=fun W' wx hx=>hx.bound x
 have HBn:c0≠0∨bnd fs x=false:=hb.imp hc0 id
 clear h hb hC hc0
 generalize bnd fs x=bb at *
 by_cases hc:c0=0
 ·subst hc
  obtain rfl:bb=false:=HBn.elim (fun h=>absurd rfl h) id
  go_enter Tryz.func45,Tryz.ntmps45
  go_wp2_with first
   | (have:=N1;refine wpList_new_rc _ rfl rfl ?_;intro w4 b7 N7)
   | (refine wpList_new_rc _ rfl rfl ?_;intro w1 b4 N1)
   | (go_at_call 36;refine(CR.out _ N1.below).mono ?_;rintro e w2 ⟨s9,I,T,y,c,W2,rfl,hone,rfl,hl2,hf2⟩;have L2:Hid (Lo W2 w2 l fs):=hl2;have F2:Hid (Gm.Fr W W2 w w2):=(Gm.Fr.of_below N1.below W).trans hf2;have rc2:RcAt w2 b4 zS nilV nilV:=⟨(hf2.blk _ N1.rc.lt (fun e=>by have:=HLt.out _ e;have:=N1.eq;omega)).trans N1.rc.blk⟩;have HS2:Hid (∀ j,W2 j->j≠b4):=(fun j hj e=>(hf2.sub j hj).elim (fun h=>by have:=HLt.out _ h;have:=N1.eq;omega) (fun h=>by have:=N1.rc.lt;omega));clear hl2 hf2)
   | (refine wpList_at (Op.store 54 (.tmp 7) (.tmp 14)) rfl ?_;refine wpList_put_rc (s':=s9) (I':=I) (T':=T) _ rfl (.tmp 7) (.tmp 14) rfl rfl rfl N7.rc hone.1 hone.2 ?_;intro w5 P7;have b25:Below w2.heap.size w2 w5:=N7.below.trans (P7.below (by have:=N7.eq;omega) N7.below.size);have rc5:=rc2.below b25;have L5:Hid (Lo W2 w5 l fs):=L2.out.below b25)
   | (go_at_call 74;refine(CB.out _ _ L5.out).mono ?_;rintro e w6 ⟨rfl,b56⟩;have b26:Below w2.heap.size w2 w6:=thn b25 b56;have rc6:=rc5.below b56)
   | (refine wpList_at (Op.store 54 (.tmp 4) (.tmp 25)) rfl ?_;refine wpList_put_rc (s':=zS) (I':=nilV) (T':=nilV) _ rfl (.tmp 4) (.tmp 25) rfl rfl rfl rc6 rfl rfl ?_;intro w8 P4)
  refine bodyPost_ret (results_rc3 rfl _ _ rfl P4.rc) rfl ?_
  have e4:=N1.eq
  have L6:Lo W2 w6 l fs:=L2.out.below b26
  exact⟨zS,nilV,nilV,0,20,W2,rfl,⟨rfl,rfl⟩,rfl,L6.turn (fun j hj=>P4.off.block j (L6.lt hj) (HS2.out j hj)) P4.off.size,fr_put (F2.out.below b26) P4 (by omega)⟩
 ·have hc1:(c0==0)=false:=by simpa using hc
  have hc2:(c0 !=0)=true:=by simpa using hc
  go_enter Tryz.func45,Tryz.ntmps45
  go_wp2_with first
   | (have:=N1;refine wpList_new_rc _ rfl rfl ?_;intro w4 b7 N7)
   | (refine wpList_new_rc _ rfl rfl ?_;intro w1 b4 N1)
   | (go_at_call 36;refine(CR.out _ N1.below).mono ?_;rintro e w2 ⟨s9,I,T,y,c,W2,rfl,hone,rfl,hl2,hf2⟩;have L2:Hid (Lo W2 w2 l fs):=hl2;have F2:Hid (Gm.Fr W W2 w w2):=(Gm.Fr.of_below N1.below W).trans hf2;have rc2:RcAt w2 b4 zS nilV nilV:=⟨(hf2.blk _ N1.rc.lt (fun e=>by have:=HLt.out _ e;have:=N1.eq;omega)).trans N1.rc.blk⟩;have HS2:Hid (∀ j,W2 j->j≠b4):=(fun j hj e=>(hf2.sub j hj).elim (fun h=>by have:=HLt.out _ h;have:=N1.eq;omega) (fun h=>by have:=N1.rc.lt;omega));clear hl2 hf2)
   | (refine wpList_at (Op.store 54 (.tmp 7) (.tmp 14)) rfl ?_;refine wpList_put_rc (s':=s9) (I':=I) (T':=T) _ rfl (.tmp 7) (.tmp 14) rfl rfl rfl N7.rc hone.1 hone.2 ?_;intro w5 P7;have b25:Below w2.heap.size w2 w5:=N7.below.trans (P7.below (by have:=N7.eq;omega) N7.below.size);have rc5:=rc2.below b25;have L5:Hid (Lo W2 w5 l fs):=L2.out.below b25)
   | (refine wpList_at (Op.store 54 (.tmp 4) (.tmp 25)) rfl ?_;refine wpList_put_rc (s':=zS) (I':=nilV) (T':=nilV) _ rfl (.tmp 4) (.tmp 25) rfl rfl rfl rc5 rfl rfl ?_;intro w8 P4)
  refine bodyPost_ret (results_rc3 rfl _ _ rfl P4.rc) rfl ?_
  have e4:=N1.eq
  have L6:Lo W2 w5 l fs:=L2.out.below b25
  exact⟨zS,nilV,nilV,0,20,W2,rfl,⟨rfl,rfl⟩,rfl,L6.turn (fun j hj=>P4.off.block j (L6.lt hj) (HS2.out j hj)) P4.off.size,fr_put (F2.out.below b25) P4 (by omega)⟩
end
section
variable {W W':Nat->Prop}{w w' w2:World}{l i:Nat}{fs:List ByteArray}{x:Int}
structure TnO (W:Nat->Prop) (w:World) (l:Nat) (fs:List ByteArray) (e:Ending) (w':World):Prop where
 ex:∃ W',e=.returned (.tuple #[.slice none 0 0,.int .i64 20])/\Lo W' w' l fs/\Gm.Fr W W' w w'
set_option maxHeartbeats 2000000 in
theorem Table_no (h:Lo W w l fs) (hx:x > 0) (hb:((cat fs).size:Int)+1<=x∨bnd fs x=false):Calls Tryz.prog 18 #[.pointer (some ⟨l,0,none⟩),.int .i64 x] w fun e w'=>TnO W w l fs e w':=by
 have hz:∀ w,(zeroValue 94).run Tryz.prog w=.ok (.map none) w:=fun w=>by kernel_rfl
 have i1:(Tryz.prog.info? 94).map (·.size)=some 1:=by kernel_rfl
 have CR:Hid (∀ wx,Below w.heap.size w wx->Calls Tryz.prog 45 #[.pointer (some ⟨l,0,none⟩),.int .i64 x] wx fun e w'=>RdA W wx l fs (fun _ c=>c=20) e w'):=fun wx hB=>read_no (h.below hB) (by omega) hb
 clear h hb
 obtain⟨w1,bm,hmk,hE1,hB1⟩:∃ (w1:World) (bm:Nat),(Instr.makeMap 94 none).run Tryz.prog w=.ok (.map (some bm)) w1/\Hid (bm=w.heap.size)/\Hid (Below w.heap.size w w1):=⟨_,_,rfl,rfl,bl1 _⟩
 go_enter Tryz.func18,Tryz.ntmps18
 go_wp2_with first
  | (refine Gm.wpList_new1 _ hz rfl rfl rfl ?_;intro w2 b N2)
  | (refine Gm.wpList_put1 (u:=.map none) (v:=.map (some bm)) _ rfl _ _ rfl rfl rfl N2.is rfl i1 ?_;intro w3 P3;have B3:Hid (Below w.heap.size w w3):=thn hB1.out (Rq.Put.belN N2 P3))
  | (go_at_call 45;refine(CR.out _ B3.out).mono ?_;rintro e w4 ⟨s9,I,T,y,c,W4,rfl,hone,rfl,hl4,hf4⟩;have HL4:Hid (Lo W4 w4 l fs/\Gm.Fr W W4 w w4):=⟨hl4,(Gm.Fr.of_below B3.out W).trans hf4⟩;clear hl4 hf4)
  | (refine wpList_new_rc _ rfl rfl ?_;intro w5 b8 N8)
  | (refine wpList_put_rc (s':=s9) (I':=I) (T':=T) _ rfl (.tmp 8) (.tmp 23) rfl rfl rfl N8.rc hone.1 hone.2 ?_;intro w6 P8;have B6:Hid (Below w4.heap.size w4 w6):=(N8.below.trans (P8.below (by have:=N8.eq;omega) N8.below.size)))
 go_ret2
 exact⟨W4,rfl,HL4.out.1.below B6.out,HL4.out.2.below B6.out⟩
set_option maxHeartbeats 2000000 in
theorem Table_kd (h:Lo W w l fs) (hi:i<fs.length) (hk9:(recF fs[i]).s.kd≠9):Calls Tryz.prog 18 #[.pointer (some ⟨l,0,none⟩),.int .i64 (pla fs i)] w fun e w'=>TnO W w l fs e w':=by
 have hz:∀ w,(zeroValue 94).run Tryz.prog w=.ok (.map none) w:=fun w=>by kernel_rfl
 have i1:(Tryz.prog.info? 94).map (·.size)=some 1:=by kernel_rfl
 have hps:pla fs i > 0:=by unfold pla;omega
 have CR:Hid (∀ wx,Below w.heap.size w wx->Calls Tryz.prog 45 #[.pointer (some ⟨l,0,none⟩),.int .i64 (pla fs i)] wx fun e w'=>ReO W wx l fs i (recF fs[i]) e w'):=fun wx hB=>read_at (h.below hB) hi
 clear h
 generalize pla fs i=x at *
 generalize recF fs[i]=m at *
 obtain⟨s9,l9,g9⟩:=m
 dsimp only at hk9
 obtain⟨kd,tx,pv,pg,ac,ky,ol,nw,nxx,ep,nd⟩:=s9
 dsimp only at hk9
 have hk1:(kd==9)=false:=by simpa using hk9
 have hk2:(kd !=9)=true:=by simpa using hk9
 obtain⟨w1,bm,hmk,hE1,hB1⟩:∃ (w1:World) (bm:Nat),(Instr.makeMap 94 none).run Tryz.prog w=.ok (.map (some bm)) w1/\Hid (bm=w.heap.size)/\Hid (Below w.heap.size w w1):=⟨_,_,rfl,rfl,bl1 _⟩
 go_enter Tryz.func18,Tryz.ntmps18
 go_wp2_with first
  | (refine Gm.wpList_new1 _ hz rfl rfl rfl ?_;intro w2 b N2)
  | (refine Gm.wpList_put1 (u:=.map none) (v:=.map (some bm)) _ rfl _ _ rfl rfl rfl N2.is rfl i1 ?_;intro w3 P3;have B3:Hid (Below w.heap.size w w3):=thn hB1.out (Rq.Put.belN N2 P3))
  | (go_at_call 45;refine(CR.out _ B3.out).mono ?_;rintro e w4 ⟨v,W4,rfl,hr,hl4,hf4⟩;obtain⟨I,T,rfl,hI,hT⟩:=hr.ex;have hone:I.oneCell'=true/\T.oneCell'=true:=⟨hI.slI.one,hT.slT.one⟩;have HL4:Hid (Lo W4 w4 l fs/\Gm.Fr W W4 w w4):=⟨hl4,(Gm.Fr.of_below B3.out W).trans hf4⟩;clear hl4 hf4 hI hT hr)
  | (refine wpList_new_rc _ rfl rfl ?_;intro w5 b8 N8)
  | (refine wpList_put_rc (s':=⟨kd,tx,pv,pg,ac,ky,ol,nw,nxx,ep,nd⟩) (I':=I) (T':=T) _ rfl (.tmp 8) (.tmp 23) rfl rfl rfl N8.rc hone.1 hone.2 ?_;intro w6 P8;have B6:Hid (Below w4.heap.size w4 w6):=(N8.below.trans (P8.below (by have:=N8.eq;omega) N8.below.size));have c0:w6.cell? ⟨b8,0,none⟩=some (.int .i64 kd):=P8.rc.c0)
 go_ret2
 exact⟨W4,rfl,HL4.out.1.below B6.out,HL4.out.2.below B6.out⟩
end
open Go.RowKit
theorem goodB_wf {p:Tb} (h:goodB p):wfI p.1:=wfI_of h.1 h.2.1
open Go.RowKit Go.Maps Go.Sort Go.Shelf
structure Eg (A B:List Rq.SpL):Prop where
 a:(A.map (·.1)).Nodup
 b:(B.map (·.1)).Nodup
 f:∀ l,gF A l=gF B l
theorem Eg.step {A B:List Rq.SpL} (h:Eg A B) (s:Sc) (x:Int):Eg (stepG s x A) (stepG s x B):=by
 refine⟨stepG_nd h.a,stepG_nd h.b,fun l=>?_⟩
 have hf:gF A=gF B:=funext h.f
 unfold stepG
 split
 ·rw[gF_put,gF_put,hf]
 ·split
  ·rw[gF_drop,gF_drop,hf]
  ·exact h.f l
theorem gL_eq {A B:List Rq.SpL} {t:Int} (h:gF A (.int .i64 t)=gF B (.int .i64 t)):gL A t=gL B t:=by
 rw[gF_int,gF_int] at h
 unfold gL
 cases h1:A.find? (fun s=>s.1==t) <;> cases h2:B.find? (fun s=>s.1==t) <;> simp_all
theorem Eg.keys {A B:List Rq.SpL} (h:Eg A B):(A.map (·.1)).Perm (B.map (·.1)):=by
 refine(List.perm_ext_iff_of_nodup h.a h.b).2 fun t=>?_
 have h1:=gF_some (G:=A) (.int .i64 t)
 have h2:=gF_some (G:=B) (.int .i64 t)
 rw[h.f] at h1
 constructor
 ·intro ht
  obtain⟨u,hu,e⟩:=h2.1 (h1.2 ⟨t,ht,rfl⟩)
  cases e
  exact hu
 ·intro ht
  obtain⟨u,hu,e⟩:=h1.1 (h2.2 ⟨t,ht,rfl⟩)
  cases e
  exact hu
theorem Eg.tab {A B:List Rq.SpL} (h:Eg A B):tabL A=tabL B:=by
 have e:srt (A.map (·.1))=srt (B.map (·.1)):=mergeSort_of_perm_i h.keys
 unfold tabL
 rw[e]
 exact List.map_congr_left fun t _=>by rw[gL_eq (h.f _)]
theorem find_nd {G:List Rq.SpL} (h:(G.map (·.1)).Nodup) {s:Rq.SpL} (hs:s∈G):G.find? (fun q=>q.1==s.1)=some s:=by
 induction G with
 | nil=>cases hs
 | cons p G ih =>
  rw[List.map_cons,List.nodup_cons] at h
  rcases List.mem_cons.1 hs with rfl |hs
  ·rw[List.find?_cons_of_pos (by simp)]
  ·have hne:p.1≠s.1:=fun e=>h.1 (by rw[e];exact List.mem_map.2 ⟨s,hs,rfl⟩)
   rw[List.find?_cons_of_neg (by simpa using hne),ih h.2 hs]
theorem tabL_perm {G:List Rq.SpL} (h:(G.map (·.1)).Nodup):(tabL G).Perm G:=by
 have h1:(srt (G.map (·.1))).Perm (G.map (·.1)):=List.mergeSort_perm _ _
 have h2:=h1.map (fun t=>(t,gL G t))
 refine h2.trans (List.Perm.of_eq ?_)
 rw[List.map_map]
 conv=>rhs;rw[← List.map_id G]
 refine List.map_congr_left fun s hs=>?_
 show(s.1,gL G s.1)=s
 unfold gL
 rw[find_nd h hs]
 rfl
theorem Eg.of_perm {A B:List Rq.SpL} (h:A.Perm B) (hb:(B.map (·.1)).Nodup):Eg A B:=by
 have ha:(A.map (·.1)).Nodup:=(h.map (·.1)).nodup_iff.2 hb
 refine⟨ha,hb,fun l=>?_⟩
 by_cases hl:∃ t,l=.int .i64 t
 ·obtain⟨t,rfl⟩:=hl
  rw[gF_int,gF_int]
  by_cases ht:∃ s∈A,s.1=t
  ·obtain⟨s,hs,rfl⟩:=ht
   rw[find_nd ha hs,find_nd hb (h.mem_iff.1 hs)]
  ·have n1:A.find? (fun q=>q.1==t)=none:=List.find?_eq_none.2 fun s hs e=>ht ⟨s,hs,by simpa using e⟩
   have n2:B.find? (fun q=>q.1==t)=none:=List.find?_eq_none.2 fun s hs e=>ht ⟨s,h.mem_iff.2 hs,by simpa using e⟩
   rw[n1,n2]
 ·cases l <;> try rfl
  rename_i q u
  cases q <;> try rfl
  exact absurd ⟨u,rfl⟩ hl
def Sup (l:List Rq.SpL):Prop:=l.Pairwise fun a b=>a.1<b.1
def putS (t x:Int) (q:List Rq.SpL × Bool) (s:Rq.SpL):List Rq.SpL × Bool :=
 (if s.1=t then(if q.2=false/\t<=s.1 then q.1++[(t,x)] else q.1) else(if q.2=false/\t<=s.1 then q.1++[(t,x)] else q.1)++[s],q.2||decide (t<=s.1))
def putF (t x:Int) (l:List Rq.SpL):List Rq.SpL × Bool:=l.foldl (putS t x) ([],false)
def putL (l:List Rq.SpL) (t x:Int):List Rq.SpL:=if(putF t x l).2=true then(putF t x l).1 else(putF t x l).1++[(t,x)]
def loP (t:Int) (l:List Rq.SpL):List Rq.SpL:=l.filter fun s=>decide (s.1<t)
def hiP (t:Int) (l:List Rq.SpL):List Rq.SpL:=l.filter fun s=>decide (t<s.1)
theorem putF_snoc (t x:Int) (l:List Rq.SpL) (s:Rq.SpL):putF t x (l++[s])=putS t x (putF t x l) s:=by unfold putF;rw[List.foldl_append];rfl
theorem putF_len (t x:Int) (l:List Rq.SpL):(putF t x l).1.length<=2*l.length:=by
 rw[← List.reverse_reverse l]
 generalize l.reverse=m
 induction m with
 | nil=>exact Nat.le_refl _
 | cons s m ih =>
  rw[List.reverse_cons,putF_snoc,List.length_append,List.length_singleton]
  unfold putS
  dsimp only
  split <;> split <;> first |(simp only[List.length_append,List.length_singleton];omega) |omega
theorem put_form {t x:Int} (l:List Rq.SpL) (h:Sup l):putF t x l=if(l.any fun s=>decide (t<=s.1))=true then(loP t l++[(t,x)]++hiP t l,true) else(loP t l,false):=by
 rw[← List.reverse_reverse l] at h ⊢
 generalize l.reverse=m at *
 induction m with
 | nil=>rfl
 | cons c m ih =>
  rw[List.reverse_cons] at h ⊢
  generalize m.reverse=A at *
  unfold Sup at h
  rw[List.pairwise_append] at h
  obtain⟨h1,_,h3⟩:=h
  have h4:∀ a∈A,a.1<c.1:=fun a ha=>h3 a ha c (List.mem_singleton.2 rfl)
  rw[putF_snoc,ih h1]
  unfold loP hiP
  rw[List.any_append,List.filter_append,List.filter_append]
  by_cases ha:(A.any fun s=>decide (t<=s.1))=true
  ·obtain⟨a,h5,h6⟩:=List.any_eq_true.1 ha
   have h7:=h4 a h5
   have h8:t<=a.1:=by simpa using h6
   rw[if_pos ha,ha,Bool.true_or,if_pos rfl]
   unfold putS
   rw[if_neg (by omega),if_neg (by simp)]
   simp[show t<c.1 by omega,show ¬ c.1<t by omega]
  ·rw[if_neg ha,Bool.not_eq_true _ |>.mp ha,Bool.false_or]
   have h5:∀ a∈A,a.1<t:=fun a h6=>by
    have:=List.any_eq_false.1 (Bool.not_eq_true _ |>.mp ha) a h6
    simp at this
    exact this
   have h6:A.filter (fun s=>decide (t<s.1))=[]:=List.filter_eq_nil_iff.2 fun a h=>by have:=h5 a h;simp;omega
   unfold putS
   rw[h6]
   by_cases h7:t<=c.1
   ·rw[if_pos (show([c].any fun s=>decide (t<=s.1))=true by simp[h7])]
    by_cases h8:c.1=t
    ·simp[h8]
    ·simp[h7,h8,show t<c.1 by omega,show ¬ c.1<t by omega]
   ·rw[if_neg (show ¬ ([c].any fun s=>decide (t<=s.1))=true by simp[h7])]
    simp[h7,show ¬ c.1=t by omega,show c.1<t by omega]
theorem put_lohi {t x:Int} {l:List Rq.SpL} (h:Sup l):putL l t x=loP t l++[(t,x)]++hiP t l:=by
 unfold putL
 rw[put_form l h]
 by_cases ha:(l.any fun s=>decide (t<=s.1))=true
 ·rw[if_pos ha,if_pos rfl]
 ·rw[if_neg ha,if_neg (by simp)]
  have h6:hiP t l=[]:=List.filter_eq_nil_iff.2 fun a h=>by
   have:=List.any_eq_false.1 (Bool.not_eq_true _ |>.mp ha) a h
   simp at this
   simp;omega
  rw[h6,List.append_nil]
theorem put_sup {t x:Int} {l:List Rq.SpL} (h:Sup l):Sup (putL l t x):=by
 rw[put_lohi h]
 unfold Sup loP hiP
 rw[List.pairwise_append,List.pairwise_append]
 refine⟨⟨h.sublist List.filter_sublist,List.pairwise_singleton ..,fun a ha b hb=>?_⟩,h.sublist List.filter_sublist,fun a ha b hb=>?_⟩
 ·rw[List.mem_singleton] at hb;subst hb
  simpa using (List.mem_filter.1 ha).2
 ·have hb2:t<b.1:=by simpa using (List.mem_filter.1 hb).2
  rcases List.mem_append.1 ha with h1 |h1
  ·have:a.1<t:=by simpa using (List.mem_filter.1 h1).2
   omega
  ·rw[List.mem_singleton] at h1;subst h1;exact hb2
theorem lohi_perm (t:Int) (l:List Rq.SpL):(loP t l++hiP t l).Perm (gD l t):=by
 unfold loP hiP gD
 induction l with
 | nil=>exact List.Perm.refl _
 | cons s l ih =>
  rw[List.filter_cons,List.filter_cons,List.filter_cons]
  rcases Int.lt_trichotomy s.1 t with h |h |h
  ·rw[if_pos (by simpa using h),if_neg (by simp;omega),if_pos (by simp;omega)]
   exact ih.cons _
  ·rw[if_neg (by simp;omega),if_neg (by simp;omega),if_neg (by simp[h])]
   exact ih
  ·rw[if_neg (by simp;omega),if_pos (by simpa using h),if_pos (by simp;omega)]
   exact List.perm_middle.trans (ih.cons _)
theorem sup_nd {l:List Rq.SpL} (h:Sup l):(l.map (·.1)).Nodup:=by
 unfold List.Nodup
 rw[List.pairwise_map]
 exact h.imp fun {a b} hab=>by omega
theorem put_perm {t x:Int} {l:List Rq.SpL} (h:Sup l):(putL l t x).Perm (gW l t x):=by
 rw[put_lohi h,List.append_assoc]
 unfold gW
 refine(List.Perm.append_left _ List.perm_append_comm).trans ?_
 rw[← List.append_assoc]
 exact(lohi_perm t l).append_right _
theorem tab_sup {A:List Rq.SpL} (h:Sup A):tabL A=A:=by
 have hnd:=sup_nd h
 have hs:srt (A.map (·.1))=A.map (·.1):=by
  unfold srt
  refine List.mergeSort_of_pairwise ?_
  rw[List.pairwise_map]
  exact h.imp fun {a b} hab=>by simp;omega
 unfold tabL
 rw[hs,List.map_map]
 refine(List.map_congr_left fun s hs=>?_).trans (List.map_id _)
 show(s.1,gL A s.1)=s
 unfold gL
 rw[find_nd hnd hs]
 rfl
theorem sup_tab {G:List Rq.SpL} (h:(G.map (·.1)).Nodup):Sup (tabL G):=by
 unfold Sup tabL
 rw[List.pairwise_map]
 have h1:(srt (G.map (·.1))).Pairwise (fun x y=>decide (x<=y)=true):=List.pairwise_mergeSort (fun a b c h1 h2=>by simp only[decide_eq_true_eq] at *;omega) (fun a b=>by simp only[Bool.or_eq_true,decide_eq_true_eq];omega) _
 have h2:(srt (G.map (·.1))).Nodup:=(List.mergeSort_perm _ _).nodup_iff.2 h
 refine(h1.and h2).imp fun {a b} hab=>?_
 have:=hab.1
 simp only[decide_eq_true_eq] at this
 have:=hab.2
 show a<b
 omega
theorem put_tab {G:List Rq.SpL} (h:(G.map (·.1)).Nodup) (t x:Int):putL (tabL G) t x=tabL (gW G t x):=by
 have hs:=sup_tab h
 have h1:Eg (putL (tabL G) t x) (gW (tabL G) t x):=Eg.of_perm (put_perm hs) (gW_nd (sup_nd hs) t x)
 have h2:Eg (gW (tabL G) t x) (gW G t x):=(Eg.of_perm (tabL_perm h) h).step ⟨3,t,0,0,0,⟨#[]⟩,⟨#[]⟩,⟨#[]⟩,0,0,0⟩ x
 rw[← tab_sup (put_sup hs),h1.tab,h2.tab]
theorem drop_tab {G:List Rq.SpL} (h:(G.map (·.1)).Nodup) (t:Int):gD (tabL G) t=tabL (gD G t):=by
 have hs:=sup_tab h
 have h2:Eg (gD (tabL G) t) (gD G t):=(Eg.of_perm (tabL_perm h) h).step ⟨7,t,0,0,0,⟨#[]⟩,⟨#[]⟩,⟨#[]⟩,0,0,0⟩ 0
 rw[← tab_sup (show Sup (gD (tabL G) t) from hs.sublist List.filter_sublist),h2.tab]
section
variable {H:Type}{enc:TypeId × Value->H}{w:World}
theorem open_imgsL {fuel:Nat} {cs:List Value} {x:DataW H × List MemPlace} (h:DataW.trod enc Tryz.prog w 0 (fun _=>true) true fuel 52 cs=some x) :
  ∃ v l,cs=[v]/\SlI w v l/\l.length<=9223372036854775807/\∀ p∈l,p.2.size<=9223372036854775807:=by
 rcases Go.Deep.open_slice Tryz.underlying52 h with⟨hcs,_⟩ |⟨ad,len,cap,m,n,D,Pl,hcs,_,hl,hm,hmm,_,hall⟩
 ·exact⟨_,[],hcs,SlI.nil w,Nat.zero_le _,fun p hp=>by cases hp⟩
 ·rw[if_pos rfl] at hmm
  subst hmm
  have h2:Tryz.prog.cellsOf 266=2:=by kernel_rfl
  have h3:Tryz.prog.cellsOf 3=1:=by kernel_rfl
  have h9:Tryz.prog.cellsOf 9=1:=by kernel_rfl
  have each:∀ i,i<m->∃ q:Im,(w.cell? (ad.add (i*2))=some (.int .i64 q.1)/\w.cell? (ad.add (i*2+1))=some (.string q.2))/\q.2.size<=9223372036854775807:=by
   intro i hi
   obtain⟨cs',g1,g2⟩:=hall i hi
   rw[h2] at g1
   obtain⟨_,hlen,hcell⟩:=World.cells?_some g1
   obtain⟨xs,k,hk,_,_,hxl,hf⟩:=DataW.trod_struct Tryz.underlying266 g2
   match xs,hxl,cs',hlen with
   | [y0,y1],_,[v0,v1],_ =>
    have e0:=hcell 0 (by omega)
    have e1:=hcell 1 (by omega)
    rw[Go.Deep.add_add] at e0 e1
    have f0:=hf 0 _ rfl
    have f1:=hf 1 _ rfl
    simp[h3,h9] at f0 f1
    obtain⟨n0,i0,_,_⟩:=DataW.trod_int Tryz.underlying3 f0
    obtain⟨s1,i1,_,z1⟩:=DataW.trod_string Tryz.underlying9 f1
    simp at i0 i1
    subst i0 i1
    exact⟨(n0,s1),⟨by simpa using e0,by simpa using e1⟩,z1⟩
  haveI:Inhabited Im:=⟨(0,⟨#[]⟩)⟩
  obtain⟨q,hq⟩:=Go.Deep.choose_lt each
  have hlm:len<=m:=hl
  have hz:((List.range len).map q).length=len:=by simp
  obtain⟨b,off,spot⟩:=ad
  have hsp:0<m->spot=none:=fun hi=>by
   have g0:=(hq 0 hi).1.1
   simpa[Addr.add] using World.cell?_spot g0
  refine⟨_,(List.range len).map q,hcs,⟨some ⟨b,off,spot⟩,m,by rw[hz],?_,(fun e=>by cases e),by rw[hz];exact hl,?_⟩,by rw[hz];exact Nat.le_trans hl hm,?_⟩
  ·refine⟨fun i hi=>?_⟩
   rw[encI_length,hz] at hi
   have:=hsp (by omega)
   subst this
   obtain⟨⟨g1,g2⟩,_⟩:=hq i (by omega)
   have hadd:∀ k,(⟨b,off,none⟩:Addr).add k=⟨b,off+k,none⟩:=fun k=>by unfold Addr.add;split <;> simp_all
   rw[hadd] at g1 g2
   refine⟨b,off,rfl,?_,?_,?_⟩
   ·rcases Nat.lt_or_ge b w.heap.size with h' |h'
    ·exact h'
    ·simp[World.cell?,Array.getElem?_eq_none h'] at g1
   ·simpa[encI] using g1
   ·simpa[encI,Nat.add_assoc] using g2
  ·intro hne ad' e
   cases e
   have:0<len:=by
    rcases Nat.eq_zero_or_pos len with h0 |h0
    ·subst h0;exact absurd rfl hne
    ·exact h0
   exact hsp (by omega)
  ·intro p hp
   obtain⟨i,hi,rfl⟩:=List.mem_map.1 hp
   exact(hq i (by have:=List.mem_range.1 hi;omega)).2
theorem open_tabsL {fuel:Nat} {cs:List Value} {x:DataW H × List MemPlace} (h:DataW.trod enc Tryz.prog w 0 (fun _=>true) true fuel 35 cs=some x) :
  ∃ v l,cs=[v]/\SlT w v l/\l.length<=9223372036854775807:=by
 rcases Go.Deep.open_slice Tryz.underlying35 h with⟨hcs,_⟩ |⟨ad,len,cap,m,n,D,Pl,hcs,_,hl,hm,hmm,_,hall⟩
 ·exact⟨_,[],hcs,SlT.nil w,Nat.zero_le _⟩
 ·rw[if_pos rfl] at hmm
  subst hmm
  have h2:Tryz.prog.cellsOf 40=2:=by kernel_rfl
  have h3:Tryz.prog.cellsOf 3=1:=by kernel_rfl
  have each:∀ i,i<m->∃ q:Tb,w.cell? (ad.add (i*2))=some (.int .i64 q.1)/\w.cell? (ad.add (i*2+1))=some (.int .i64 q.2):=by
   intro i hi
   obtain⟨cs',g1,g2⟩:=hall i hi
   rw[h2] at g1
   obtain⟨_,hlen,hcell⟩:=World.cells?_some g1
   obtain⟨xs,k,hk,_,_,hxl,hf⟩:=DataW.trod_struct Tryz.underlying40 g2
   match xs,hxl,cs',hlen with
   | [y0,y1],_,[v0,v1],_ =>
    have e0:=hcell 0 (by omega)
    have e1:=hcell 1 (by omega)
    rw[Go.Deep.add_add] at e0 e1
    have f0:=hf 0 _ rfl
    have f1:=hf 1 _ rfl
    simp[h3] at f0 f1
    obtain⟨n0,i0,_,_⟩:=DataW.trod_int Tryz.underlying3 f0
    obtain⟨n1,i1,_,_⟩:=DataW.trod_int Tryz.underlying3 f1
    simp at i0 i1
    subst i0 i1
    exact⟨(n0,n1),by simpa using e0,by simpa using e1⟩
  haveI:Inhabited Tb:=⟨(0,0)⟩
  obtain⟨q,hq⟩:=Go.Deep.choose_lt each
  have hlm:len<=m:=hl
  have hz:((List.range len).map q).length=len:=by simp
  obtain⟨b,off,spot⟩:=ad
  have hsp:0<m->spot=none:=fun hi=>by
   have g0:=(hq 0 hi).1
   simpa[Addr.add] using World.cell?_spot g0
  refine⟨_,(List.range len).map q,hcs,⟨some ⟨b,off,spot⟩,m,by rw[hz],?_,(fun e=>by cases e),by rw[hz];exact hl,?_⟩,by rw[hz];exact Nat.le_trans hl hm⟩
  ·refine⟨fun i hi=>?_⟩
   rw[encT_length,hz] at hi
   have:=hsp (by omega)
   subst this
   obtain⟨g1,g2⟩:=hq i (by omega)
   have hadd:∀ k,(⟨b,off,none⟩:Addr).add k=⟨b,off+k,none⟩:=fun k=>by unfold Addr.add;split <;> simp_all
   rw[hadd] at g1 g2
   refine⟨b,off,rfl,?_,?_,?_⟩
   ·rcases Nat.lt_or_ge b w.heap.size with h' |h'
    ·exact h'
    ·simp[World.cell?,Array.getElem?_eq_none h'] at g1
   ·simpa[encT] using g1
   ·simpa[encT,Nat.add_assoc] using g2
  ·intro hne ad' e
   cases e
   have:0<len:=by
    rcases Nat.eq_zero_or_pos len with h0 |h0
    ·subst h0;exact absurd rfl hne
    ·exact h0
   exact hsp (by omega)
theorem open_recL {fuel:Nat} {cs:Array Value} {x:DataW H × List MemPlace} (hcs:cs.size=Tryz.prog.cellsOf 54)
  (h:DataW.trod enc Tryz.prog w 0 (fun _=>true) true fuel 54 cs.toList=some x):∃ m:Rm,RecV w (.agg cs) m/\Held m:=by
 have h13:Tryz.prog.cellsOf 54=13:=by kernel_rfl
 have h3:Tryz.prog.cellsOf 3=1:=by kernel_rfl
 have h9:Tryz.prog.cellsOf 9=1:=by kernel_rfl
 have hi:Tryz.prog.cellsOf 52=1:=by kernel_rfl
 have ht:Tryz.prog.cellsOf 35=1:=by kernel_rfl
 rw[h13] at hcs
 obtain⟨xs,k,hk,hx,_,hxl,hf⟩:=DataW.trod_struct Tryz.underlying54 h
 obtain⟨l⟩:=cs
 match xs,hxl,l,hcs with
 | [y0,y1,y2,y3,y4,y5,y6,y7,y8,y9,y10,y11,y12],_,[v0,v1,v2,v3,v4,v5,v6,v7,v8,v9,v10,v11,v12],_ =>
  have f0:=hf 0 _ rfl
  have f1:=hf 1 _ rfl
  have f2:=hf 2 _ rfl
  have f3:=hf 3 _ rfl
  have f4:=hf 4 _ rfl
  have f5:=hf 5 _ rfl
  have f6:=hf 6 _ rfl
  have f7:=hf 7 _ rfl
  have f8:=hf 8 _ rfl
  have f9:=hf 9 _ rfl
  have f10:=hf 10 _ rfl
  have f11:=hf 11 _ rfl
  have f12:=hf 12 _ rfl
  simp[h3,h9,hi,ht] at f0 f1 f2 f3 f4 f5 f6 f7 f8 f9 f10 f11 f12
  obtain⟨n0,i0,_,_⟩:=DataW.trod_int Tryz.underlying3 f0
  obtain⟨n1,i1,_,_⟩:=DataW.trod_int Tryz.underlying3 f1
  obtain⟨n2,i2,_,_⟩:=DataW.trod_int Tryz.underlying3 f2
  obtain⟨n3,i3,_,_⟩:=DataW.trod_int Tryz.underlying3 f3
  obtain⟨n4,i4,_,_⟩:=DataW.trod_int Tryz.underlying3 f4
  obtain⟨s5,i5,_,z5⟩:=DataW.trod_string Tryz.underlying9 f5
  obtain⟨s6,i6,_,z6⟩:=DataW.trod_string Tryz.underlying9 f6
  obtain⟨s7,i7,_,z7⟩:=DataW.trod_string Tryz.underlying9 f7
  obtain⟨n8,i8,_,_⟩:=DataW.trod_int Tryz.underlying3 f8
  obtain⟨w9,l9,i9,hI,zI,tI⟩:=open_imgsL f9
  obtain⟨w10,l10,i10,hT,zT⟩:=open_tabsL f10
  obtain⟨n11,i11,_,_⟩:=DataW.trod_int Tryz.underlying3 f11
  obtain⟨n12,i12,_,_⟩:=DataW.trod_int Tryz.underlying3 f12
  simp at i0 i1 i2 i3 i4 i5 i6 i7 i8 i9 i10 i11 i12
  subst i0 i1 i2 i3 i4 i5 i6 i7 i8 i9 i10 i11 i12
  exact⟨⟨⟨n0,n1,n2,n3,n4,s5,s6,s7,n8,n11,n12⟩,l9,l10⟩,⟨_,_,rfl,hI,hT⟩,⟨zI,zT,tI,z5,z6,z7⟩⟩
theorem mem_all {t:TypeId}:∀ {L:List (DataW H)} {d:DataW H},d∈L->∀ n∈d.weights Tryz.prog t,n∈DataW.weightsAll Tryz.prog t L
 | a :: L,d,h,n,hn=>by
  simp only[DataW.weightsAll,List.mem_append]
  rcases List.mem_cons.1 h with rfl |h
  ·exact Or.inl hn
  ·exact Or.inr (mem_all h n hn)
 | [],_,h,_,_=>by cases h
theorem im_fit {fuel:Nat} {v:Value} {l:List Im} {x:DataW H × List MemPlace} (h:DataW.trod enc Tryz.prog w 0 (fun _=>true) true fuel 52 [v]=some x) (hv:SlI w v l)
  (hw:∀ n∈x.1.weights Tryz.prog 52,n<=reachBytes):l.length*24<=140737488351232:=by
 obtain⟨a,c,e,-⟩:=hv.ex
 rcases Go.Deep.open_slice Tryz.underlying52 h with⟨hcs,_⟩ |⟨ad,len,cap,m,n,D,Pl,hcs,_,hl,hm,hmm,rfl,hall⟩
 ·rw[e] at hcs
  simp at hcs
  rw[hcs.2.1]
  exact Nat.zero_le _
 ·rw[e] at hcs
  simp at hcs
  obtain⟨_,e2,_⟩:=hcs
  have hb:Tryz.prog.bytesOf 266=24:=by kernel_rfl
  have:=hw ((((List.range len).map D).length+((List.range (m-len)).map fun j=>D (len+j)).length)*Tryz.prog.bytesOf 266) (by simp[DataW.weights,Tryz.underlying52])
  rw[hb,List.length_map,List.length_map,List.length_range,List.length_range] at this
  have h1:(len+(m-len))*24<=140737488351232:=this
  have hh:l.length<=len+(m-len):=by omega
  exact Nat.le_trans (Nat.mul_le_mul_right 24 hh) h1
theorem tb_fit {fuel:Nat} {v:Value} {l:List Tb} {x:DataW H × List MemPlace} (h:DataW.trod enc Tryz.prog w 0 (fun _=>true) true fuel 35 [v]=some x) (hv:SlT w v l)
  (hw:∀ n∈x.1.weights Tryz.prog 35,n<=reachBytes):l.length*16<=140737488351232:=by
 obtain⟨a,c,e,-⟩:=hv.ex
 rcases Go.Deep.open_slice Tryz.underlying35 h with⟨hcs,_⟩ |⟨ad,len,cap,m,n,D,Pl,hcs,_,hl,hm,hmm,rfl,hall⟩
 ·rw[e] at hcs
  simp at hcs
  rw[hcs.2.1]
  exact Nat.zero_le _
 ·rw[e] at hcs
  simp at hcs
  obtain⟨_,e2,_⟩:=hcs
  have hb:Tryz.prog.bytesOf 40=16:=by kernel_rfl
  have:=hw ((((List.range len).map D).length+((List.range (m-len)).map fun j=>D (len+j)).length)*Tryz.prog.bytesOf 40) (by simp[DataW.weights,Tryz.underlying35])
  rw[hb,List.length_map,List.length_map,List.length_range,List.length_range] at this
  have h1:(len+(m-len))*16<=140737488351232:=this
  have hh:l.length<=len+(m-len):=by omega
  exact Nat.le_trans (Nat.mul_le_mul_right 16 hh) h1
theorem rec_fit {fuel:Nat} {cs:Array Value} {m:Rm} {x:DataW H × List MemPlace} (hcs:cs.size=Tryz.prog.cellsOf 54)
  (h:DataW.trod enc Tryz.prog w 0 (fun _=>true) true fuel 54 cs.toList=some x) (hv:RecV w (.agg cs) m) (hh:Held m) (hw:∀ n∈x.1.weights Tryz.prog 54,n<=reachBytes):Small m:=by
 have h13:Tryz.prog.cellsOf 54=13:=by kernel_rfl
 have hi:Tryz.prog.cellsOf 52=1:=by kernel_rfl
 have ht:Tryz.prog.cellsOf 35=1:=by kernel_rfl
 obtain⟨I,T,e,hI,hT⟩:=hv.ex
 injection e with e
 subst e
 obtain⟨xs,k,hk,hx,_,hxl,hf⟩:=DataW.trod_struct Tryz.underlying54 h
 match xs,hxl with
 | [y0,y1,y2,y3,y4,y5,y6,y7,y8,y9,y10,y11,y12],_ =>
  have f9:=hf 9 _ rfl
  have f10:=hf 10 _ rfl
  simp[hi,ht,Sc.A] at f9 f10
  subst hx
  refine⟨im_fit f9 hI fun n hn=>hw n ?_,tb_fit f10 hT fun n hn=>hw n ?_,hh.t,hh.ky,hh.ol,hh.nw⟩
  ·simp only[DataW.weights,Tryz.underlying54]
   exact DataW.weights_mem_each (j:=9) rfl rfl n hn
  ·simp only[DataW.weights,Tryz.underlying54]
   exact DataW.weights_mem_each (j:=10) rfl rfl n hn
theorem open_recS {fuel:Nat} {a0:Option Addr} {n0 c0:Nat} {x:DataW H × List MemPlace} (h:DataW.trod enc Tryz.prog w 0 (fun _=>true) true fuel 43 [.slice a0 n0 c0]=some x)
  (hw:∀ n∈x.1.weights Tryz.prog 43,n<=reachBytes):∃ ms,RsV w a0 n0 ms/\n0<=9223372036854775807/\∀ m∈ms,Small m:=by
 rcases Go.Deep.open_slice Tryz.underlying43 h with⟨hcs,_⟩ |⟨ad,len,cap,m,n,D,Pl,hcs,_,hl,hm,hmm,rfl,hall⟩
 ·simp at hcs
  obtain⟨rfl,rfl,rfl⟩:=hcs
  exact⟨[],⟨rfl,fun i hi=>absurd hi (Nat.not_lt_zero _)⟩,by omega,fun m hm=>by cases hm⟩
 ·simp at hcs
  obtain⟨rfl,rfl,rfl⟩:=hcs
  rw[if_pos rfl] at hmm
  subst hmm
  have h13:Tryz.prog.cellsOf 54=13:=by kernel_rfl
  have each:∀ i,i<m->∃ q:Rm,(∃ I T,(∀ j u,((q.s.A I T).toList)[j]?=some u->w.cell? ((ad.add (i*13)).add j)=some u)/\RecV w (.agg (q.s.A I T)) q)/\Held q/\(i<n0->Small q):=by
   intro i hi
   obtain⟨cs',g1,g2⟩:=hall i hi
   rw[h13] at g1
   obtain⟨_,hlen,hcell⟩:=World.cells?_some g1
   have g0:cs'.toArray.size=Tryz.prog.cellsOf 54:=by rw[h13];simpa using hlen
   have g3:DataW.trod enc Tryz.prog w 0 (fun _=>true) true n 54 cs'.toArray.toList=some (D i,Pl i):=by simpa using g2
   obtain⟨q,hv,hh⟩:=open_recL g0 g3
   have hsm:i<n0->Small q:=fun hi0=>rec_fit g0 g3 hv hh (fun k hk=>hw k (by
    simp only[DataW.weights,Tryz.underlying43]
    refine List.mem_cons_of_mem _ (List.mem_append_left _ (mem_all (d:=D i) (List.mem_map.2 ⟨i,List.mem_range.2 hi0,rfl⟩) k hk))))
   obtain⟨I,T,e,hI,hT⟩:=hv.ex
   refine⟨q,⟨I,T,fun j u hu=>?_,by rw[← e];exact hv⟩,hh,hsm⟩
   injection e with e
   rw[← e] at hu
   have hj:j<cs'.length:=by simpa using (List.getElem?_eq_some_iff.1 hu).1
   have:=hcell j (by omega)
   rw[this]
   simpa using hu
  haveI:Inhabited Rm:=⟨zM⟩
  obtain⟨q,hq⟩:=Go.Deep.choose_lt each
  obtain⟨b,off,spot⟩:=ad
  have hlm:n0<=m:=hl
  refine⟨(List.range n0).map q,⟨by simp,fun i hi=>?_⟩,by have:=hm;unfold maxLen at this;omega,fun m' hm'=>by
   obtain⟨i,hi,rfl⟩:=List.mem_map.1 hm'
   have hi:=List.mem_range.1 hi
   exact(hq i (by omega)).2.2 hi⟩
  have hi':i<n0:=by simpa using hi
  obtain⟨⟨I,T,hc,hv⟩,hh,_⟩:=hq i (by omega)
  have hsp:spot=none:=by
   obtain⟨⟨I0,T0,hc0,_⟩,_⟩:=hq 0 (by omega)
   have:=hc0 0 (.int .i64 (q 0).s.kd) rfl
   simpa[Addr.add] using World.cell?_spot this
  subst hsp
  have hadd:∀ k,(⟨b,off,none⟩:Addr).add k=⟨b,off+k,none⟩:=fun k=>by unfold Addr.add;split <;> simp_all
  have hadd2:∀ k j,(⟨b,k,none⟩:Addr).add j=⟨b,k+j,none⟩:=fun k j=>by unfold Addr.add;split <;> simp_all
  have hget:((List.range n0).map q)[i]=q i:=by simp
  rw[hget]
  refine⟨b,off,I,T,rfl,?_,fun j u hu=>?_,hv,hh⟩
  ·have:=hc 0 (.int .i64 (q i).s.kd) rfl
   rw[hadd,hadd2] at this
   rcases Nat.lt_or_ge b w.heap.size with h' |h'
   ·exact h'
   ·simp[World.cell?,Array.getElem?_eq_none h'] at this
  ·have:=hc j u hu
   rw[hadd,hadd2] at this
   exact this
end
end Go.Proofs.YtdchjncnjgelhaaGreat.Lg
