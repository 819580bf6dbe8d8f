import Derived.Test.YtpcnjncgilmehabGreatMah
import Derived.Test.YtpcnjncgilmehabGreatMaf
set_option linter.unusedVariables false
set_option linter.unusedSimpArgs false
set_option maxRecDepth 100000
namespace Go.Proofs.YtpcnjncgilmehabGreat
open Go.RowKit
structure NewW (w w':World) (b:Nat):Prop where
 wS:WrS w' b (⟨#[]⟩,0) 0
 below:Below w.heap.size w w'
 eq:b=w.heap.size
theorem zero_wr (w:World):(zeroValue 257).run Tryz.prog w=.ok (.agg #[.pointer none,.int .i64 0,.int .i64 0]) w:=by kernel_rfl
theorem wpList_new_wr {ops:Array Oper} {rest:List Oper} {o:Oper} {a:Act} {Q:Exit->Act->World->Prop} (w:World) (hg:o.guard=none) (hop:o.op=Op.alloc 257)
  (h:∀ w' b,NewW w w' b->wpList Tryz.prog ops Q rest (a.put o.dst (.pointer (some ⟨b,0,none⟩))) w'):wpList Tryz.prog ops Q (o ::rest) a w:=by
 refine wpList_plain hg fun K' hK'=>?_
 unfold Oper.wp
 simp[execOp,hop,Instr.alloc,zero_wr,Result.andThen,Value.cells]
 exact hK' _ _ (h _ _ ⟨⟨⟨none,[],(MapKept.heap_alloc w _).1,rfl,rfl⟩,Nat.le_refl _⟩,(Below.refl _ _).alloc (Nat.le_refl _) _,rfl⟩)
theorem All_both (b:Nat) (all:ByteArray) (e:Int) (w:World) (h:Pk.WrIs w b all e) (hsz:all.size<=140737488351232) (he:e≠0->all=⟨#[]⟩) :
  Calls Tryz.prog 211 #[.pointer (some ⟨b,0,none⟩)] w fun r w'=>r=.returned (.tuple #[.string all,.int .i64 e])/\Below w.heap.size w w':=by
 by_cases h0:e=0
 ·subst h0;exact Pk.All_any b all w h hsz
 ·rw[he h0];exact Pk.All_err b all e w h h0
section
variable {w wr:World}{b0 b j:Nat}{s:Sc}{I T:Value}{A:ByteArray × Int}
theorem LdS.start {w0 w1:World} {b1:Nat} (N0:NewR w w0 b0 s I T) (N1:NewW w0 w1 b1):LdS w w1 b0 b1 s I T (⟨#[]⟩,0) 0 :=
 ⟨N0.rc.below N1.below,N1.wS,by have:=N0.rc.lt;have:=N1.eq;omega,Pk.Off.of_below (thn N0.below N1.below)⟩
theorem LdS.places2 (h:LdS w wr b0 b s I T A j) (hj:j<=100000000000) (p q:Int):Calls Tryz.prog 208 #[.pointer (some ⟨b,0,none⟩),.slice (some ⟨wr.heap.size,0,none⟩) 2 2] (wr.alloc (.cells #[.int .i64 p,.int .i64 q] 3)) fun r w'=>r=.returned (.tuple #[])/\LdS w w' b0 b s I T (layP [p,q] A) (j+12):=by
 have hb:Below wr.heap.size wr (wr.alloc (.cells #[.int .i64 p,.int .i64 q] 3)):=(Below.refl _ _).alloc (Nat.le_refl _) _
 have hl:=h.wS.lt
 refine(layPlaces_any (n:=2) (h.wS.below hb) (by omega) [p,q] (MapKept.heap_alloc wr _).1 (by omega) rfl (by omega)).mono ?_
 rintro e w' ⟨he,h1,o1⟩
 exact⟨he,h.step h1 ((Pk.Off.of_below hb).trans o1)⟩
theorem LdS.places3 (h:LdS w wr b0 b s I T A j) (hj:j<=100000000000) (p q x:Int):Calls Tryz.prog 208 #[.pointer (some ⟨b,0,none⟩),.slice (some ⟨wr.heap.size,0,none⟩) 3 3] (wr.alloc (.cells #[.int .i64 p,.int .i64 q,.int .i64 x] 3)) fun r w'=>r=.returned (.tuple #[])/\LdS w w' b0 b s I T (layP [p,q,x] A) (j+18):=by
 have hb:Below wr.heap.size wr (wr.alloc (.cells #[.int .i64 p,.int .i64 q,.int .i64 x] 3)):=(Below.refl _ _).alloc (Nat.le_refl _) _
 have hl:=h.wS.lt
 refine(layPlaces_any (n:=3) (h.wS.below hb) (by omega) [p,q,x] (MapKept.heap_alloc wr _).1 (by omega) rfl (by omega)).mono ?_
 rintro e w' ⟨he,h1,o1⟩
 exact⟨he,h.step h1 ((Pk.Off.of_below hb).trans o1)⟩
theorem LdS.change (h:LdS w wr b0 b s I T A j) (hj:j<=100000000000) (hk:s.ky.size<=1000) (ho:s.ol.size<=1000) (hw:s.nw.size<=1000):Calls Tryz.prog 209 #[.pointer (some ⟨b,0,none⟩),.agg (s.A I T)] wr fun r w'=>r=.returned (.tuple #[])/\LdS w w' b0 b s I T (layC s A) (j+300000) :=
 (layChange_any h.wS hj hk ho hw).mono fun e w' ⟨he,h1,o1⟩=>⟨he,h.step h1 o1⟩
theorem LdS.images {a:Option Addr} {c:Nat} {l:List Im} (h:LdS w wr b0 b s I T A j) (hj:j<=100000000000) (hn:l.length<=1000) (hcs:Cs w a (encI l)) (hb:w.heap.size<=b) (ht:∀ p∈l,p.2.size<=1000):Calls Tryz.prog 207 #[.pointer (some ⟨b,0,none⟩),.slice a l.length c] wr fun r w'=>r=.returned (.tuple #[])/\LdS w w' b0 b s I T (layI l (stepW A l.length 1)) (j+6+65543*l.length):=by
 have hne:l≠[]->∀ b'' off',a=some ⟨b'',off',none⟩->b''≠b:=by
  intro hl b'' off' e
  obtain⟨b',off,e',hlt,_⟩:=hcs.at_ 0 (by rw[encI_length];exact List.length_pos_iff.2 hl)
  rw[e'] at e
  cases e
  omega
 have hcs':Cs wr a (encI l):=by
  by_cases hl:l=[]
  ·subst hl;exact Cs.nil _ _
  ·exact hcs.off h.off (hne hl)
 refine(layImages_any h.wS hj l rfl hn hcs' hne ht).mono ?_
 rintro e w' ⟨he,h1,o1⟩
 exact⟨he,h.step h1 o1⟩
theorem LdS.table {a:Option Addr} {c:Nat} {l:List Tb} (h:LdS w wr b0 b s I T A j) (hj:j<=100000000000) (hn:l.length<=1000) (hcs:Cs w a (encT l)) (hb:w.heap.size<=b):Calls Tryz.prog 210 #[.pointer (some ⟨b,0,none⟩),.slice a l.length c] wr fun r w'=>r=.returned (.tuple #[])/\LdS w w' b0 b s I T (layB l (stepW A l.length 1)) (j+6+12*l.length):=by
 have hne:l≠[]->∀ b'' off',a=some ⟨b'',off',none⟩->b''≠b:=by
  intro hl b'' off' e
  obtain⟨b',off,e',hlt,_⟩:=hcs.at_ 0 (by rw[encT_length];exact List.length_pos_iff.2 hl)
  rw[e'] at e
  cases e
  omega
 have hcs':Cs wr a (encT l):=by
  by_cases hl:l=[]
  ·subst hl;exact Cs.nil _ _
  ·exact hcs.off h.off (hne hl)
 refine(layTable_any h.wS hj l rfl hn hcs' hne).mono ?_
 rintro e w' ⟨he,h1,o1⟩
 exact⟨he,h.step h1 o1⟩
theorem LdS.all (h:LdS w wr b0 b s I T A j) (hj:j<=100000000000) (hb:w.heap.size<=b) (hB:Bare A):Calls Tryz.prog 211 #[.pointer (some ⟨b,0,none⟩)] wr fun r w'=>r=.returned (.tuple #[.string A.1,.int .i64 A.2])/\Below w.heap.size w w':=by
 have hz:=h.wS.sz
 have hl:=h.off.below hb (Nat.le_refl _)
 exact(All_both b A.1 A.2 wr h.wS.wr (by omega) hB).mono fun e w' ⟨he,h1⟩=>⟨he,thn hl h1⟩
end
section
variable {w:World}{s:Sc}{I T:Value}
set_option maxHeartbeats 1000000 in
theorem laid_1 (hk:s.kd=1) {a:Option Addr} {c:Nat} {l:List Im} (hn:l.length<=1000) (hcs:Cs w a (encI l)) (ht:∀ p∈l,p.2.size<=1000):Calls Tryz.prog 164 #[.agg (s.A (.slice a l.length c) T)] w fun r w'=>r=.returned (.tuple #[.string (layI l (stepW (stepW (⟨#[]⟩,0) s.kd 1) l.length 1)).1,.int .i64 (layI l (stepW (stepW (⟨#[]⟩,0) s.kd 1) l.length 1)).2])/\Below w.heap.size w w':=by
 have e1:(s.kd==1)=true:=by rw[hk];rfl
 clear hk
 go_enter Tryz.func164,Tryz.ntmps164
 go_wp2_with (first
  | (refine wpList_box_rc (s:=s) (I:=_) (T:=_) _ rfl _ rfl rfl ?_;intro w0 b0 N0)
  | (refine wpList_new_wr _ rfl rfl ?_;intro w1 b1 N1;have H:=LdS.start N0 N1;have hb1:w.heap.size<=b1:=(Nat.le_trans N0.below.size (Nat.le_of_eq N1.eq.symm));clear N0 N1;have k0:=H.rc.c0;have k9:=H.rc.c9)
  | (go_at_call 206;refine(H.num (by omega) _ _).mono ?_;clear H;rintro e w3 ⟨rfl,H⟩;have k0:=H.rc.c0;have k9:=H.rc.c9)
  | (go_at_call 207;refine(H.images (by omega) hn hcs hb1 ht).mono ?_;clear H;rintro e w3 ⟨rfl,H⟩)
  | (go_at_call 211;refine(H.all (by omega) hb1 (((bare0.stepW _ _).stepW _ _).layI _)).mono ?_;rintro e w9 ⟨rfl,b9⟩))
 go_ret2
 exact⟨rfl,b9⟩
set_option maxHeartbeats 1000000 in
theorem laid_2 (hk:s.kd=2) {a:Option Addr} {c:Nat} {l:List Im} (hn:l.length<=1000) (hcs:Cs w a (encI l)) (ht:∀ p∈l,p.2.size<=1000):Calls Tryz.prog 164 #[.agg (s.A (.slice a l.length c) T)] w fun r w'=>r=.returned (.tuple #[.string (layI l (stepW (stepW (⟨#[]⟩,0) s.kd 1) l.length 1)).1,.int .i64 (layI l (stepW (stepW (⟨#[]⟩,0) s.kd 1) l.length 1)).2])/\Below w.heap.size w w':=by
 have e1:(s.kd==1)=false:=by rw[hk];rfl
 have e2:(s.kd==2)=true:=by rw[hk];rfl
 clear hk
 go_enter Tryz.func164,Tryz.ntmps164
 go_wp2_with (first
  | (refine wpList_box_rc (s:=s) (I:=_) (T:=_) _ rfl _ rfl rfl ?_;intro w0 b0 N0)
  | (refine wpList_new_wr _ rfl rfl ?_;intro w1 b1 N1;have H:=LdS.start N0 N1;have hb1:w.heap.size<=b1:=(Nat.le_trans N0.below.size (Nat.le_of_eq N1.eq.symm));clear N0 N1;have k0:=H.rc.c0;have k9:=H.rc.c9)
  | (go_at_call 206;refine(H.num (by omega) _ _).mono ?_;clear H;rintro e w3 ⟨rfl,H⟩;have k0:=H.rc.c0;have k9:=H.rc.c9)
  | (go_at_call 207;refine(H.images (by omega) hn hcs hb1 ht).mono ?_;clear H;rintro e w3 ⟨rfl,H⟩)
  | (go_at_call 211;refine(H.all (by omega) hb1 (((bare0.stepW _ _).stepW _ _).layI _)).mono ?_;rintro e w9 ⟨rfl,b9⟩))
 go_ret2
 exact⟨rfl,b9⟩
set_option maxHeartbeats 1000000 in
theorem laid_3 (hk:s.kd=3) (hy:s.ky.size<=1000) (ho:s.ol.size<=1000) (hw:s.nw.size<=1000):Calls Tryz.prog 164 #[.agg (s.A I T)] w fun r w'=>r=.returned (.tuple #[.string (layC s (layP [s.tx,s.pv] (stepW (⟨#[]⟩,0) s.kd 1))).1,.int .i64 (layC s (layP [s.tx,s.pv] (stepW (⟨#[]⟩,0) s.kd 1))).2])/\Below w.heap.size w w':=by
 have e1:(s.kd==1)=false:=by rw[hk];rfl
 have e2:(s.kd==2)=false:=by rw[hk];rfl
 have e3:(s.kd==3)=true:=by rw[hk];rfl
 clear hk
 go_enter Tryz.func164,Tryz.ntmps164
 go_wp2_with (first
  | (refine wpList_box_rc (s:=s) (I:=_) (T:=_) _ rfl _ rfl rfl ?_;intro w0 b0 N0)
  | (refine wpList_new_wr _ rfl rfl ?_;intro w1 b1 N1;have H:=LdS.start N0 N1;have hb1:w.heap.size<=b1:=(Nat.le_trans N0.below.size (Nat.le_of_eq N1.eq.symm));clear N0 N1;have k0:=H.rc.c0;have k1:=H.rc.c1;have k2:=H.rc.c2)
  | (go_at_call 206;refine(H.num (by omega) _ _).mono ?_;clear H;rintro e w3 ⟨rfl,H⟩;have k0:=H.rc.c0;have k1:=H.rc.c1;have k2:=H.rc.c2)
  | (go_at_call 208;refine(H.places2 (by omega) _ _).mono ?_;clear H;rintro e w3 ⟨rfl,H⟩;have k0:=H.rc.c0;have k1:=H.rc.c1;have k2:=H.rc.c2)
  | (refine wpList_load_rc _ rfl _ rfl rfl H.rc ?_)
  | (go_at_call 209;refine(H.change (by omega) hy ho hw).mono ?_;clear H;rintro e w3 ⟨rfl,H⟩)
  | (go_at_call 211;refine(H.all (by omega) hb1 (((bare0.stepW _ _).layP _).layC _)).mono ?_;rintro e w9 ⟨rfl,b9⟩))
 go_ret2
 exact⟨rfl,b9⟩
set_option maxHeartbeats 1000000 in
theorem laid_4 (hk:s.kd=4) (hy:s.ky.size<=1000) (ho:s.ol.size<=1000) (hw:s.nw.size<=1000):Calls Tryz.prog 164 #[.agg (s.A I T)] w fun r w'=>r=.returned (.tuple #[.string (layC s (layP [s.tx,s.pv] (stepW (⟨#[]⟩,0) s.kd 1))).1,.int .i64 (layC s (layP [s.tx,s.pv] (stepW (⟨#[]⟩,0) s.kd 1))).2])/\Below w.heap.size w w':=by
 have e1:(s.kd==1)=false:=by rw[hk];rfl
 have e2:(s.kd==2)=false:=by rw[hk];rfl
 have e3:(s.kd==3)=false:=by rw[hk];rfl
 have e4:(s.kd==4)=true:=by rw[hk];rfl
 clear hk
 go_enter Tryz.func164,Tryz.ntmps164
 go_wp2_with (first
  | (refine wpList_box_rc (s:=s) (I:=_) (T:=_) _ rfl _ rfl rfl ?_;intro w0 b0 N0)
  | (refine wpList_new_wr _ rfl rfl ?_;intro w1 b1 N1;have H:=LdS.start N0 N1;have hb1:w.heap.size<=b1:=(Nat.le_trans N0.below.size (Nat.le_of_eq N1.eq.symm));clear N0 N1;have k0:=H.rc.c0;have k1:=H.rc.c1;have k2:=H.rc.c2)
  | (go_at_call 206;refine(H.num (by omega) _ _).mono ?_;clear H;rintro e w3 ⟨rfl,H⟩;have k0:=H.rc.c0;have k1:=H.rc.c1;have k2:=H.rc.c2)
  | (go_at_call 208;refine(H.places2 (by omega) _ _).mono ?_;clear H;rintro e w3 ⟨rfl,H⟩;have k0:=H.rc.c0;have k1:=H.rc.c1;have k2:=H.rc.c2)
  | (refine wpList_load_rc _ rfl _ rfl rfl H.rc ?_)
  | (go_at_call 209;refine(H.change (by omega) hy ho hw).mono ?_;clear H;rintro e w3 ⟨rfl,H⟩)
  | (go_at_call 211;refine(H.all (by omega) hb1 (((bare0.stepW _ _).layP _).layC _)).mono ?_;rintro e w9 ⟨rfl,b9⟩))
 go_ret2
 exact⟨rfl,b9⟩
set_option maxHeartbeats 1000000 in
theorem laid_5 (hk:s.kd=5) (hy:s.ky.size<=1000) (ho:s.ol.size<=1000) (hw:s.nw.size<=1000):Calls Tryz.prog 164 #[.agg (s.A I T)] w fun r w'=>r=.returned (.tuple #[.string (layC s (layP [s.tx,s.pv] (stepW (⟨#[]⟩,0) s.kd 1))).1,.int .i64 (layC s (layP [s.tx,s.pv] (stepW (⟨#[]⟩,0) s.kd 1))).2])/\Below w.heap.size w w':=by
 have e1:(s.kd==1)=false:=by rw[hk];rfl
 have e2:(s.kd==2)=false:=by rw[hk];rfl
 have e3:(s.kd==3)=false:=by rw[hk];rfl
 have e4:(s.kd==4)=false:=by rw[hk];rfl
 have e5:(s.kd==5)=true:=by rw[hk];rfl
 clear hk
 go_enter Tryz.func164,Tryz.ntmps164
 go_wp2_with (first
  | (refine wpList_box_rc (s:=s) (I:=_) (T:=_) _ rfl _ rfl rfl ?_;intro w0 b0 N0)
  | (refine wpList_new_wr _ rfl rfl ?_;intro w1 b1 N1;have H:=LdS.start N0 N1;have hb1:w.heap.size<=b1:=(Nat.le_trans N0.below.size (Nat.le_of_eq N1.eq.symm));clear N0 N1;have k0:=H.rc.c0;have k1:=H.rc.c1;have k2:=H.rc.c2)
  | (go_at_call 206;refine(H.num (by omega) _ _).mono ?_;clear H;rintro e w3 ⟨rfl,H⟩;have k0:=H.rc.c0;have k1:=H.rc.c1;have k2:=H.rc.c2)
  | (go_at_call 208;refine(H.places2 (by omega) _ _).mono ?_;clear H;rintro e w3 ⟨rfl,H⟩;have k0:=H.rc.c0;have k1:=H.rc.c1;have k2:=H.rc.c2)
  | (refine wpList_load_rc _ rfl _ rfl rfl H.rc ?_)
  | (go_at_call 209;refine(H.change (by omega) hy ho hw).mono ?_;clear H;rintro e w3 ⟨rfl,H⟩)
  | (go_at_call 211;refine(H.all (by omega) hb1 (((bare0.stepW _ _).layP _).layC _)).mono ?_;rintro e w9 ⟨rfl,b9⟩))
 go_ret2
 exact⟨rfl,b9⟩
set_option maxHeartbeats 1000000 in
theorem laid_6 (hk:s.kd=6) (hy:s.ky.size<=1000) (ho:s.ol.size<=1000) (hw:s.nw.size<=1000):Calls Tryz.prog 164 #[.agg (s.A I T)] w fun r w'=>r=.returned (.tuple #[.string (layC s (stepW (layP [s.tx,s.pv,s.nx] (stepW (⟨#[]⟩,0) s.kd 1)) s.ac 1)).1,.int .i64 (layC s (stepW (layP [s.tx,s.pv,s.nx] (stepW (⟨#[]⟩,0) s.kd 1)) s.ac 1)).2])/\Below w.heap.size w w':=by
 have e1:(s.kd==1)=false:=by rw[hk];rfl
 have e2:(s.kd==2)=false:=by rw[hk];rfl
 have e3:(s.kd==3)=false:=by rw[hk];rfl
 have e4:(s.kd==4)=false:=by rw[hk];rfl
 have e5:(s.kd==5)=false:=by rw[hk];rfl
 have e6:(s.kd==6)=true:=by rw[hk];rfl
 clear hk
 go_enter Tryz.func164,Tryz.ntmps164
 go_wp2_with (first
  | (refine wpList_box_rc (s:=s) (I:=_) (T:=_) _ rfl _ rfl rfl ?_;intro w0 b0 N0)
  | (refine wpList_new_wr _ rfl rfl ?_;intro w1 b1 N1;have H:=LdS.start N0 N1;have hb1:w.heap.size<=b1:=(Nat.le_trans N0.below.size (Nat.le_of_eq N1.eq.symm));clear N0 N1;have k0:=H.rc.c0;have k1:=H.rc.c1;have k2:=H.rc.c2;have k8:=H.rc.c8;have k4:=H.rc.c4)
  | (go_at_call 206;refine(H.num (by omega) _ _).mono ?_;clear H;rintro e w3 ⟨rfl,H⟩;have k0:=H.rc.c0;have k1:=H.rc.c1;have k2:=H.rc.c2;have k8:=H.rc.c8;have k4:=H.rc.c4)
  | (go_at_call 208;refine(H.places3 (by omega) _ _ _).mono ?_;clear H;rintro e w3 ⟨rfl,H⟩;have k0:=H.rc.c0;have k1:=H.rc.c1;have k2:=H.rc.c2;have k8:=H.rc.c8;have k4:=H.rc.c4)
  | (refine wpList_load_rc _ rfl _ rfl rfl H.rc ?_)
  | (go_at_call 209;refine(H.change (by omega) hy ho hw).mono ?_;clear H;rintro e w3 ⟨rfl,H⟩)
  | (go_at_call 211;refine(H.all (by omega) hb1 ((((bare0.stepW _ _).layP _).stepW _ _).layC _)).mono ?_;rintro e w9 ⟨rfl,b9⟩))
 go_ret2
 exact⟨rfl,b9⟩
set_option maxHeartbeats 1000000 in
theorem laid_7 (hk:s.kd=7) :Calls Tryz.prog 164 #[.agg (s.A I T)] w fun r w'=>r=.returned (.tuple #[.string (layP [s.tx,s.pv] (stepW (⟨#[]⟩,0) s.kd 1)).1,.int .i64 (layP [s.tx,s.pv] (stepW (⟨#[]⟩,0) s.kd 1)).2])/\Below w.heap.size w w':=by
 have e1:(s.kd==1)=false:=by rw[hk];rfl
 have e2:(s.kd==2)=false:=by rw[hk];rfl
 have e3:(s.kd==3)=false:=by rw[hk];rfl
 have e4:(s.kd==4)=false:=by rw[hk];rfl
 have e5:(s.kd==5)=false:=by rw[hk];rfl
 have e6:(s.kd==6)=false:=by rw[hk];rfl
 have e7:(s.kd==7)=true:=by rw[hk];rfl
 clear hk
 go_enter Tryz.func164,Tryz.ntmps164
 go_wp2_with (first
  | (refine wpList_box_rc (s:=s) (I:=_) (T:=_) _ rfl _ rfl rfl ?_;intro w0 b0 N0)
  | (refine wpList_new_wr _ rfl rfl ?_;intro w1 b1 N1;have H:=LdS.start N0 N1;have hb1:w.heap.size<=b1:=(Nat.le_trans N0.below.size (Nat.le_of_eq N1.eq.symm));clear N0 N1;have k0:=H.rc.c0;have k1:=H.rc.c1;have k2:=H.rc.c2)
  | (go_at_call 206;refine(H.num (by omega) _ _).mono ?_;clear H;rintro e w3 ⟨rfl,H⟩;have k0:=H.rc.c0;have k1:=H.rc.c1;have k2:=H.rc.c2)
  | (go_at_call 208;refine(H.places2 (by omega) _ _).mono ?_;clear H;rintro e w3 ⟨rfl,H⟩;have k0:=H.rc.c0;have k1:=H.rc.c1;have k2:=H.rc.c2)
  | (go_at_call 211;refine(H.all (by omega) hb1 ((bare0.stepW _ _).layP _)).mono ?_;rintro e w9 ⟨rfl,b9⟩))
 go_ret2
 exact⟨rfl,b9⟩
set_option maxHeartbeats 1000000 in
theorem laid_8 (hk:s.kd=8) :Calls Tryz.prog 164 #[.agg (s.A I T)] w fun r w'=>r=.returned (.tuple #[.string (layP [s.tx,s.pv] (stepW (⟨#[]⟩,0) s.kd 1)).1,.int .i64 (layP [s.tx,s.pv] (stepW (⟨#[]⟩,0) s.kd 1)).2])/\Below w.heap.size w w':=by
 have e1:(s.kd==1)=false:=by rw[hk];rfl
 have e2:(s.kd==2)=false:=by rw[hk];rfl
 have e3:(s.kd==3)=false:=by rw[hk];rfl
 have e4:(s.kd==4)=false:=by rw[hk];rfl
 have e5:(s.kd==5)=false:=by rw[hk];rfl
 have e6:(s.kd==6)=false:=by rw[hk];rfl
 have e7:(s.kd==7)=false:=by rw[hk];rfl
 have e8:(s.kd==8)=true:=by rw[hk];rfl
 clear hk
 go_enter Tryz.func164,Tryz.ntmps164
 go_wp2_with (first
  | (refine wpList_box_rc (s:=s) (I:=_) (T:=_) _ rfl _ rfl rfl ?_;intro w0 b0 N0)
  | (refine wpList_new_wr _ rfl rfl ?_;intro w1 b1 N1;have H:=LdS.start N0 N1;have hb1:w.heap.size<=b1:=(Nat.le_trans N0.below.size (Nat.le_of_eq N1.eq.symm));clear N0 N1;have k0:=H.rc.c0;have k1:=H.rc.c1;have k2:=H.rc.c2)
  | (go_at_call 206;refine(H.num (by omega) _ _).mono ?_;clear H;rintro e w3 ⟨rfl,H⟩;have k0:=H.rc.c0;have k1:=H.rc.c1;have k2:=H.rc.c2)
  | (go_at_call 208;refine(H.places2 (by omega) _ _).mono ?_;clear H;rintro e w3 ⟨rfl,H⟩;have k0:=H.rc.c0;have k1:=H.rc.c1;have k2:=H.rc.c2)
  | (go_at_call 211;refine(H.all (by omega) hb1 ((bare0.stepW _ _).layP _)).mono ?_;rintro e w9 ⟨rfl,b9⟩))
 go_ret2
 exact⟨rfl,b9⟩
set_option maxHeartbeats 1000000 in
theorem laid_9 (hk:s.kd=9) {a:Option Addr} {c:Nat} {l:List Tb} (hn:l.length<=1000) (hcs:Cs w a (encT l)):Calls Tryz.prog 164 #[.agg (s.A I (.slice a l.length c))] w fun r w'=>r=.returned (.tuple #[.string (layB l (stepW (stepW (⟨#[]⟩,0) s.kd 1) l.length 1)).1,.int .i64 (layB l (stepW (stepW (⟨#[]⟩,0) s.kd 1) l.length 1)).2])/\Below w.heap.size w w':=by
 have e1:(s.kd==1)=false:=by rw[hk];rfl
 have e2:(s.kd==2)=false:=by rw[hk];rfl
 have e3:(s.kd==3)=false:=by rw[hk];rfl
 have e4:(s.kd==4)=false:=by rw[hk];rfl
 have e5:(s.kd==5)=false:=by rw[hk];rfl
 have e6:(s.kd==6)=false:=by rw[hk];rfl
 have e7:(s.kd==7)=false:=by rw[hk];rfl
 have e8:(s.kd==8)=false:=by rw[hk];rfl
 have e9:(s.kd==9)=true:=by rw[hk];rfl
 clear hk
 go_enter Tryz.func164,Tryz.ntmps164
 go_wp2_with (first
  | (refine wpList_box_rc (s:=s) (I:=_) (T:=_) _ rfl _ rfl rfl ?_;intro w0 b0 N0)
  | (refine wpList_new_wr _ rfl rfl ?_;intro w1 b1 N1;have H:=LdS.start N0 N1;have hb1:w.heap.size<=b1:=(Nat.le_trans N0.below.size (Nat.le_of_eq N1.eq.symm));clear N0 N1;have k0:=H.rc.c0;have k10:=H.rc.c10)
  | (go_at_call 206;refine(H.num (by omega) _ _).mono ?_;clear H;rintro e w3 ⟨rfl,H⟩;have k0:=H.rc.c0;have k10:=H.rc.c10)
  | (go_at_call 210;refine(H.table (by omega) hn hcs hb1).mono ?_;clear H;rintro e w3 ⟨rfl,H⟩)
  | (go_at_call 211;refine(H.all (by omega) hb1 (((bare0.stepW _ _).stepW _ _).layB _)).mono ?_;rintro e w9 ⟨rfl,b9⟩))
 go_ret2
 exact⟨rfl,b9⟩
set_option maxHeartbeats 1000000 in
theorem laid_10 (hk:s.kd=10) :Calls Tryz.prog 164 #[.agg (s.A I T)] w fun r w'=>r=.returned (.tuple #[.string (stepW (stepW (stepW (⟨#[]⟩,0) s.kd 1) s.ep 4) s.nd 1).1,.int .i64 (stepW (stepW (stepW (⟨#[]⟩,0) s.kd 1) s.ep 4) s.nd 1).2])/\Below w.heap.size w w':=by
 have e1:(s.kd==1)=false:=by rw[hk];rfl
 have e2:(s.kd==2)=false:=by rw[hk];rfl
 have e3:(s.kd==3)=false:=by rw[hk];rfl
 have e4:(s.kd==4)=false:=by rw[hk];rfl
 have e5:(s.kd==5)=false:=by rw[hk];rfl
 have e6:(s.kd==6)=false:=by rw[hk];rfl
 have e7:(s.kd==7)=false:=by rw[hk];rfl
 have e8:(s.kd==8)=false:=by rw[hk];rfl
 have e9:(s.kd==9)=false:=by rw[hk];rfl
 have e10:(s.kd==10)=true:=by rw[hk];rfl
 clear hk
 go_enter Tryz.func164,Tryz.ntmps164
 go_wp2_with (first
  | (refine wpList_box_rc (s:=s) (I:=_) (T:=_) _ rfl _ rfl rfl ?_;intro w0 b0 N0)
  | (refine wpList_new_wr _ rfl rfl ?_;intro w1 b1 N1;have H:=LdS.start N0 N1;have hb1:w.heap.size<=b1:=(Nat.le_trans N0.below.size (Nat.le_of_eq N1.eq.symm));clear N0 N1;have k0:=H.rc.c0;have k11:=H.rc.c11;have k12:=H.rc.c12)
  | (go_at_call 206;refine(H.num (by omega) _ _).mono ?_;clear H;rintro e w3 ⟨rfl,H⟩;have k0:=H.rc.c0;have k11:=H.rc.c11;have k12:=H.rc.c12)
  | (go_at_call 211;refine(H.all (by omega) hb1 (((bare0.stepW _ _).stepW _ _).stepW _ _)).mono ?_;rintro e w9 ⟨rfl,b9⟩))
 go_ret2
 exact⟨rfl,b9⟩
end
end Go.Proofs.YtpcnjncgilmehabGreat
