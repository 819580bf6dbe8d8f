import Derived.Test.YtpcnjncgilmehabGreatMaf
import Derived.Deep.RegionHeld3
set_option linter.unusedVariables false
set_option linter.unusedSimpArgs false
set_option maxRecDepth 100000
namespace Go.Proofs.YtpcnjncgilmehabGreat
open Go.RowKit
def kS (k:Int):Sc:={zS with kd:=k}
structure Cl3 (w wr:World) (b0 b1 b2:Nat) (s:Sc) (I T:Value) (c:Sc) (J U:Value):Prop where
 p:RcAt wr b0 s I T
 r:RcAt wr b1 zS nilV nilV
 c:RcAt wr b2 c J U
 bel:Below w.heap.size w wr
 n02:b0≠b2
 n12:b1≠b2
 l1:w.heap.size<=b1
 l2:w.heap.size<=b2
section
variable {w wr wq:World}{b0 b1 b2:Nat}{s c c':Sc}{I T J U J' U':Value}
theorem Cl3.mk' {w0 w1 w2 w3:World} (N0:NewR w w0 b0 s I T) (N1:NewR w0 w1 b1 zS nilV nilV) (N2:NewR w1 w2 b2 zS nilV nilV) (P:PutR w2 w3 b2 c J U):Cl3 w w3 b0 b1 b2 s I T c J U:=by
 have e0:=N0.eq
 have e1:=N1.eq
 have e2:=N2.eq
 have z0:=N0.rc.lt
 have z1:=N1.rc.lt
 have z2:=N0.below.size
 have z3:=N1.below.size
 have z4:=N2.below.size
 refine⟨((N0.rc.below N1.below).below N2.below).off P.off (by omega),(N1.rc.below N2.below).off P.off (by omega),P.rc,(thn (thn N0.below N1.below) N2.below).trans (P.below (by omega) (by omega)),by omega,by omega,by omega,by omega⟩
theorem Cl3.put (h:Cl3 w wr b0 b1 b2 s I T c J U) (hr:RcAt wq b2 c' J' U') (o:Pk.Off b2 wr wq):Cl3 w wq b0 b1 b2 s I T c' J' U' :=
 ⟨h.p.off o h.n02,h.r.off o h.n12,hr,h.bel.trans (o.below h.l2 h.bel.size),h.n02,h.n12,h.l1,h.l2⟩
theorem Cl3.below (h:Cl3 w wr b0 b1 b2 s I T c J U) (hb:Below wr.heap.size wr wq):Cl3 w wq b0 b1 b2 s I T c J U :=
 ⟨h.p.below hb,h.r.below hb,h.c.below hb,thn h.bel hb,h.n02,h.n12,h.l1,h.l2⟩
theorem Cl3.ret (h:Cl3 w wr b0 b1 b2 s I T c J U) (P:PutR wr wq b1 c J U):RcAt wq b1 c J U/\Below w.heap.size w wq:=⟨P.rc,h.bel.trans (P.below h.l1 h.bel.size)⟩
end
section
variable {w:World}{s:Sc}{I T:Value}
set_option maxHeartbeats 1000000 in
theorem clean_7 (hk:s.kd=7):Calls Tryz.prog 154 #[.agg (s.A I T)] w fun e w'=>e=.returned (.agg (({kS s.kd with tx:=s.tx,pv:=s.pv}:Sc).A nilV nilV))/\Below w.heap.size w w':=by
 have e1:(s.kd==1)=false:=by rw[hk];rfl
 have e2:(s.kd==2)=false:=by rw[hk];rfl
 have e3:(s.kd==3)=false:=by rw[hk];rfl
 have e4:(s.kd==4)=false:=by rw[hk];rfl
 have e5:(s.kd==5)=false:=by rw[hk];rfl
 have e6:(s.kd==6)=false:=by rw[hk];rfl
 have e7:(s.kd==7)=true:=by rw[hk];rfl
 clear hk
 go_enter Tryz.func154,Tryz.ntmps154
 go_wp2_with (first
  | (refine wpList_box_rc (s:=s) (I:=_) (T:=_) _ rfl _ rfl rfl ?_;intro w0 b0 N0)
  | (have:=N1;refine wpList_new_rc _ rfl rfl ?_;intro w2 b2 N2;have k00:=((N0.rc.below N1.below).below N2.below).c0)
  | (refine wpList_new_rc _ rfl rfl ?_;intro w1 b1 N1;have k00:=(N0.rc.below N1.below).c0)
  | (refine wpList_at (Op.store 41 (.tmp 3) (.tmp 6)) rfl ?_;refine wpList_put_rc (s':=kS s.kd) (I':=nilV) (T':=nilV) _ rfl (.tmp 3) (.tmp 6) rfl rfl rfl N2.rc rfl rfl ?_;intro w3 P3;have H:=Cl3.mk' N0 N1 N2 P3;clear N0 N1 N2 P3 k00;have k00:=H.p.c0;have q0:=H.c.f;have p1:=H.p.c1;have c1:=H.c.c1;have p2:=H.p.c2;have c2:=H.c.c2)
  | (refine wpList_at (Op.store 3 (.tmp 51) (.tmp 48)) rfl ?_;refine wpList_fput (s':={kS s.kd with tx:=s.tx}) (I':=nilV) (T':=nilV) _ rfl 3 (.tmp 51) (.tmp 48) rfl rfl rfl H.c (by omega) rfl (by kernel_rfl) rfl ?_;intro w4 P4;have H4:=H.put P4.rc P4.off;clear H;have H:=H4;clear H4 P4)
  | (refine wpList_at (Op.store 3 (.tmp 52) (.tmp 50)) rfl ?_;refine wpList_fput (s':={kS s.kd with tx:=s.tx,pv:=s.pv}) (I':=nilV) (T':=nilV) _ rfl 3 (.tmp 52) (.tmp 50) rfl rfl rfl H.c (by omega) rfl (by kernel_rfl) rfl ?_;intro w4 P4;have H4:=H.put P4.rc P4.off;clear H;have H:=H4;clear H4 P4)
  | (refine wpList_load_rc _ rfl (.tmp 3) rfl rfl H.c ?_)
  | (refine wpList_at (Op.store 41 (.tmp 2) (.tmp 69)) rfl ?_;refine wpList_put_rc (s':={kS s.kd with tx:=s.tx,pv:=s.pv}) (I':=nilV) (T':=nilV) _ rfl (.tmp 2) (.tmp 69) rfl rfl rfl H.r rfl rfl ?_;intro w9 P9))
 obtain⟨g1,g2⟩:=H.ret P9
 refine bodyPost_ret (results_rc1 rfl _ _ rfl g1) rfl ?_
 exact⟨rfl,g2⟩
set_option maxHeartbeats 1000000 in
theorem clean_8 (hk:s.kd=8):Calls Tryz.prog 154 #[.agg (s.A I T)] w fun e w'=>e=.returned (.agg (({kS s.kd with tx:=s.tx,pv:=s.pv}:Sc).A nilV nilV))/\Below w.heap.size w w':=by
 have e1:(s.kd==1)=false:=by rw[hk];rfl
 have e2:(s.kd==2)=false:=by rw[hk];rfl
 have e3:(s.kd==3)=false:=by rw[hk];rfl
 have e4:(s.kd==4)=false:=by rw[hk];rfl
 have e5:(s.kd==5)=false:=by rw[hk];rfl
 have e6:(s.kd==6)=false:=by rw[hk];rfl
 have e7:(s.kd==7)=false:=by rw[hk];rfl
 have e8:(s.kd==8)=true:=by rw[hk];rfl
 clear hk
 go_enter Tryz.func154,Tryz.ntmps154
 go_wp2_with (first
  | (refine wpList_box_rc (s:=s) (I:=_) (T:=_) _ rfl _ rfl rfl ?_;intro w0 b0 N0)
  | (have:=N1;refine wpList_new_rc _ rfl rfl ?_;intro w2 b2 N2;have k00:=((N0.rc.below N1.below).below N2.below).c0)
  | (refine wpList_new_rc _ rfl rfl ?_;intro w1 b1 N1;have k00:=(N0.rc.below N1.below).c0)
  | (refine wpList_at (Op.store 41 (.tmp 3) (.tmp 6)) rfl ?_;refine wpList_put_rc (s':=kS s.kd) (I':=nilV) (T':=nilV) _ rfl (.tmp 3) (.tmp 6) rfl rfl rfl N2.rc rfl rfl ?_;intro w3 P3;have H:=Cl3.mk' N0 N1 N2 P3;clear N0 N1 N2 P3 k00;have k00:=H.p.c0;have q0:=H.c.f;have p1:=H.p.c1;have c1:=H.c.c1;have p2:=H.p.c2;have c2:=H.c.c2)
  | (refine wpList_at (Op.store 3 (.tmp 51) (.tmp 48)) rfl ?_;refine wpList_fput (s':={kS s.kd with tx:=s.tx}) (I':=nilV) (T':=nilV) _ rfl 3 (.tmp 51) (.tmp 48) rfl rfl rfl H.c (by omega) rfl (by kernel_rfl) rfl ?_;intro w4 P4;have H4:=H.put P4.rc P4.off;clear H;have H:=H4;clear H4 P4)
  | (refine wpList_at (Op.store 3 (.tmp 52) (.tmp 50)) rfl ?_;refine wpList_fput (s':={kS s.kd with tx:=s.tx,pv:=s.pv}) (I':=nilV) (T':=nilV) _ rfl 3 (.tmp 52) (.tmp 50) rfl rfl rfl H.c (by omega) rfl (by kernel_rfl) rfl ?_;intro w4 P4;have H4:=H.put P4.rc P4.off;clear H;have H:=H4;clear H4 P4)
  | (refine wpList_load_rc _ rfl (.tmp 3) rfl rfl H.c ?_)
  | (refine wpList_at (Op.store 41 (.tmp 2) (.tmp 69)) rfl ?_;refine wpList_put_rc (s':={kS s.kd with tx:=s.tx,pv:=s.pv}) (I':=nilV) (T':=nilV) _ rfl (.tmp 2) (.tmp 69) rfl rfl rfl H.r rfl rfl ?_;intro w9 P9))
 obtain⟨g1,g2⟩:=H.ret P9
 refine bodyPost_ret (results_rc1 rfl _ _ rfl g1) rfl ?_
 exact⟨rfl,g2⟩
set_option maxHeartbeats 1000000 in
theorem clean_10 (hk:s.kd=10):Calls Tryz.prog 154 #[.agg (s.A I T)] w fun e w'=>e=.returned (.agg (({kS s.kd with ep:=s.ep,nd:=s.nd}:Sc).A nilV nilV))/\Below w.heap.size w w':=by
 have e1:(s.kd==1)=false:=by rw[hk];rfl
 have e2:(s.kd==2)=false:=by rw[hk];rfl
 have e3:(s.kd==3)=false:=by rw[hk];rfl
 have e4:(s.kd==4)=false:=by rw[hk];rfl
 have e5:(s.kd==5)=false:=by rw[hk];rfl
 have e6:(s.kd==6)=false:=by rw[hk];rfl
 have e7:(s.kd==7)=false:=by rw[hk];rfl
 have e8:(s.kd==8)=false:=by rw[hk];rfl
 have e9:(s.kd==9)=false:=by rw[hk];rfl
 have e10:(s.kd==10)=true:=by rw[hk];rfl
 clear hk
 go_enter Tryz.func154,Tryz.ntmps154
 go_wp2_with (first
  | (refine wpList_box_rc (s:=s) (I:=_) (T:=_) _ rfl _ rfl rfl ?_;intro w0 b0 N0)
  | (have:=N1;refine wpList_new_rc _ rfl rfl ?_;intro w2 b2 N2;have k00:=((N0.rc.below N1.below).below N2.below).c0)
  | (refine wpList_new_rc _ rfl rfl ?_;intro w1 b1 N1;have k00:=(N0.rc.below N1.below).c0)
  | (refine wpList_at (Op.store 41 (.tmp 3) (.tmp 6)) rfl ?_;refine wpList_put_rc (s':=kS s.kd) (I':=nilV) (T':=nilV) _ rfl (.tmp 3) (.tmp 6) rfl rfl rfl N2.rc rfl rfl ?_;intro w3 P3;have H:=Cl3.mk' N0 N1 N2 P3;clear N0 N1 N2 P3 k00;have k00:=H.p.c0;have q0:=H.c.f;have p11:=H.p.c11;have c11:=H.c.c11;have p12:=H.p.c12;have c12:=H.c.c12)
  | (refine wpList_at (Op.store 3 (.tmp 67) (.tmp 64)) rfl ?_;refine wpList_fput (s':={kS s.kd with ep:=s.ep}) (I':=nilV) (T':=nilV) _ rfl 3 (.tmp 67) (.tmp 64) rfl rfl rfl H.c (by omega) rfl (by kernel_rfl) rfl ?_;intro w4 P4;have H4:=H.put P4.rc P4.off;clear H;have H:=H4;clear H4 P4)
  | (refine wpList_at (Op.store 3 (.tmp 68) (.tmp 66)) rfl ?_;refine wpList_fput (s':={kS s.kd with ep:=s.ep,nd:=s.nd}) (I':=nilV) (T':=nilV) _ rfl 3 (.tmp 68) (.tmp 66) rfl rfl rfl H.c (by omega) rfl (by kernel_rfl) rfl ?_;intro w4 P4;have H4:=H.put P4.rc P4.off;clear H;have H:=H4;clear H4 P4)
  | (refine wpList_load_rc _ rfl (.tmp 3) rfl rfl H.c ?_)
  | (refine wpList_at (Op.store 41 (.tmp 2) (.tmp 69)) rfl ?_;refine wpList_put_rc (s':={kS s.kd with ep:=s.ep,nd:=s.nd}) (I':=nilV) (T':=nilV) _ rfl (.tmp 2) (.tmp 69) rfl rfl rfl H.r rfl rfl ?_;intro w9 P9))
 obtain⟨g1,g2⟩:=H.ret P9
 refine bodyPost_ret (results_rc1 rfl _ _ rfl g1) rfl ?_
 exact⟨rfl,g2⟩
set_option maxHeartbeats 1000000 in
theorem clean_o (h1:s.kd≠1) (h2:s.kd≠2) (h3:s.kd≠3) (h4:s.kd≠4) (h5:s.kd≠5) (h6:s.kd≠6) (h7:s.kd≠7) (h8:s.kd≠8) (h9:s.kd≠9) (h10:s.kd≠10):Calls Tryz.prog 154 #[.agg (s.A I T)] w fun e w'=>e=.returned (.agg ((kS s.kd:Sc).A nilV nilV))/\Below w.heap.size w w':=by
 have e1:(s.kd==1)=false:=by simpa using h1
 have e2:(s.kd==2)=false:=by simpa using h2
 have e3:(s.kd==3)=false:=by simpa using h3
 have e4:(s.kd==4)=false:=by simpa using h4
 have e5:(s.kd==5)=false:=by simpa using h5
 have e6:(s.kd==6)=false:=by simpa using h6
 have e7:(s.kd==7)=false:=by simpa using h7
 have e8:(s.kd==8)=false:=by simpa using h8
 have e9:(s.kd==9)=false:=by simpa using h9
 have e10:(s.kd==10)=false:=by simpa using h10
 clear h1 h2 h3 h4 h5 h6 h7 h8 h9 h10
 go_enter Tryz.func154,Tryz.ntmps154
 go_wp2_with (first
  | (refine wpList_box_rc (s:=s) (I:=_) (T:=_) _ rfl _ rfl rfl ?_;intro w0 b0 N0)
  | (have:=N1;refine wpList_new_rc _ rfl rfl ?_;intro w2 b2 N2;have k00:=((N0.rc.below N1.below).below N2.below).c0)
  | (refine wpList_new_rc _ rfl rfl ?_;intro w1 b1 N1;have k00:=(N0.rc.below N1.below).c0)
  | (refine wpList_at (Op.store 41 (.tmp 3) (.tmp 6)) rfl ?_;refine wpList_put_rc (s':=kS s.kd) (I':=nilV) (T':=nilV) _ rfl (.tmp 3) (.tmp 6) rfl rfl rfl N2.rc rfl rfl ?_;intro w3 P3;have H:=Cl3.mk' N0 N1 N2 P3;clear N0 N1 N2 P3 k00;have k00:=H.p.c0)
  | (refine wpList_load_rc _ rfl (.tmp 3) rfl rfl H.c ?_)
  | (refine wpList_at (Op.store 41 (.tmp 2) (.tmp 69)) rfl ?_;refine wpList_put_rc (s':=kS s.kd) (I':=nilV) (T':=nilV) _ rfl (.tmp 2) (.tmp 69) rfl rfl rfl H.r rfl rfl ?_;intro w9 P9))
 obtain⟨g1,g2⟩:=H.ret P9
 refine bodyPost_ret (results_rc1 rfl _ _ rfl g1) rfl ?_
 exact⟨rfl,g2⟩
set_option maxHeartbeats 1000000 in
theorem clean_3 (hk:s.kd=3):Calls Tryz.prog 154 #[.agg (s.A I T)] w fun e w'=>e=.returned (.agg ((copyS {kS s.kd with tx:=s.tx,pv:=s.pv} s:Sc).A nilV nilV))/\Below w.heap.size w w':=by
 have e1:(s.kd==1)=false:=by rw[hk];rfl
 have e2:(s.kd==2)=false:=by rw[hk];rfl
 have e3:(s.kd==3)=true:=by rw[hk];rfl
 have ha:actOf s=actOf {kS s.kd with tx:=s.tx,pv:=s.pv}:=by simp[actOf,kS,hk]
 clear hk
 go_enter Tryz.func154,Tryz.ntmps154
 go_wp2_with (first
  | (refine wpList_box_rc (s:=s) (I:=_) (T:=_) _ rfl _ rfl rfl ?_;intro w0 b0 N0)
  | (have:=N1;refine wpList_new_rc _ rfl rfl ?_;intro w2 b2 N2;have k00:=((N0.rc.below N1.below).below N2.below).c0)
  | (refine wpList_new_rc _ rfl rfl ?_;intro w1 b1 N1;have k00:=(N0.rc.below N1.below).c0)
  | (refine wpList_at (Op.store 41 (.tmp 3) (.tmp 6)) rfl ?_;refine wpList_put_rc (s':=kS s.kd) (I':=nilV) (T':=nilV) _ rfl (.tmp 3) (.tmp 6) rfl rfl rfl N2.rc rfl rfl ?_;intro w3 P3;have H:=Cl3.mk' N0 N1 N2 P3;clear N0 N1 N2 P3 k00;have k00:=H.p.c0;have q0:=H.c.f;have p1:=H.p.c1;have c1:=H.c.c1;have p2:=H.p.c2;have c2:=H.c.c2)
  | (refine wpList_at (Op.store 3 (.tmp 26) (.tmp 23)) rfl ?_;refine wpList_fput (s':={kS s.kd with tx:=s.tx}) (I':=nilV) (T':=nilV) _ rfl 3 (.tmp 26) (.tmp 23) rfl rfl rfl H.c (by omega) rfl (by kernel_rfl) rfl ?_;intro w4 P4;have H4:=H.put P4.rc P4.off;clear H;have H:=H4;clear H4 P4)
  | (refine wpList_at (Op.store 3 (.tmp 27) (.tmp 25)) rfl ?_;refine wpList_fput (s':={kS s.kd with tx:=s.tx,pv:=s.pv}) (I':=nilV) (T':=nilV) _ rfl 3 (.tmp 27) (.tmp 25) rfl rfl rfl H.c (by omega) rfl (by kernel_rfl) rfl ?_;intro w4 P4;have H4:=H.put P4.rc P4.off;clear H;have H:=H4;clear H4 P4)
  | (go_at_call 200;refine(copy_any H.c H.p (fun e=>H.n02 e.symm) ha).mono ?_;rintro e w5 ⟨rfl,r5,o5⟩;have H5:=H.put r5 o5;clear H;have H:=H5;clear H5 r5 o5)
  | (refine wpList_load_rc _ rfl (.tmp 3) rfl rfl H.c ?_)
  | (refine wpList_at (Op.store 41 (.tmp 2) (.tmp 69)) rfl ?_;refine wpList_put_rc (s':=copyS {kS s.kd with tx:=s.tx,pv:=s.pv} s) (I':=nilV) (T':=nilV) _ rfl (.tmp 2) (.tmp 69) rfl rfl rfl H.r rfl rfl ?_;intro w9 P9))
 obtain⟨g1,g2⟩:=H.ret P9
 refine bodyPost_ret (results_rc1 rfl _ _ rfl g1) rfl ?_
 exact⟨rfl,g2⟩
set_option maxHeartbeats 1000000 in
theorem clean_4 (hk:s.kd=4):Calls Tryz.prog 154 #[.agg (s.A I T)] w fun e w'=>e=.returned (.agg ((copyS {kS s.kd with tx:=s.tx,pv:=s.pv} s:Sc).A nilV nilV))/\Below w.heap.size w w':=by
 have e1:(s.kd==1)=false:=by rw[hk];rfl
 have e2:(s.kd==2)=false:=by rw[hk];rfl
 have e3:(s.kd==3)=false:=by rw[hk];rfl
 have e4:(s.kd==4)=true:=by rw[hk];rfl
 have ha:actOf s=actOf {kS s.kd with tx:=s.tx,pv:=s.pv}:=by simp[actOf,kS,hk]
 clear hk
 go_enter Tryz.func154,Tryz.ntmps154
 go_wp2_with (first
  | (refine wpList_box_rc (s:=s) (I:=_) (T:=_) _ rfl _ rfl rfl ?_;intro w0 b0 N0)
  | (have:=N1;refine wpList_new_rc _ rfl rfl ?_;intro w2 b2 N2;have k00:=((N0.rc.below N1.below).below N2.below).c0)
  | (refine wpList_new_rc _ rfl rfl ?_;intro w1 b1 N1;have k00:=(N0.rc.below N1.below).c0)
  | (refine wpList_at (Op.store 41 (.tmp 3) (.tmp 6)) rfl ?_;refine wpList_put_rc (s':=kS s.kd) (I':=nilV) (T':=nilV) _ rfl (.tmp 3) (.tmp 6) rfl rfl rfl N2.rc rfl rfl ?_;intro w3 P3;have H:=Cl3.mk' N0 N1 N2 P3;clear N0 N1 N2 P3 k00;have k00:=H.p.c0;have q0:=H.c.f;have p1:=H.p.c1;have c1:=H.c.c1;have p2:=H.p.c2;have c2:=H.c.c2)
  | (refine wpList_at (Op.store 3 (.tmp 26) (.tmp 23)) rfl ?_;refine wpList_fput (s':={kS s.kd with tx:=s.tx}) (I':=nilV) (T':=nilV) _ rfl 3 (.tmp 26) (.tmp 23) rfl rfl rfl H.c (by omega) rfl (by kernel_rfl) rfl ?_;intro w4 P4;have H4:=H.put P4.rc P4.off;clear H;have H:=H4;clear H4 P4)
  | (refine wpList_at (Op.store 3 (.tmp 27) (.tmp 25)) rfl ?_;refine wpList_fput (s':={kS s.kd with tx:=s.tx,pv:=s.pv}) (I':=nilV) (T':=nilV) _ rfl 3 (.tmp 27) (.tmp 25) rfl rfl rfl H.c (by omega) rfl (by kernel_rfl) rfl ?_;intro w4 P4;have H4:=H.put P4.rc P4.off;clear H;have H:=H4;clear H4 P4)
  | (go_at_call 200;refine(copy_any H.c H.p (fun e=>H.n02 e.symm) ha).mono ?_;rintro e w5 ⟨rfl,r5,o5⟩;have H5:=H.put r5 o5;clear H;have H:=H5;clear H5 r5 o5)
  | (refine wpList_load_rc _ rfl (.tmp 3) rfl rfl H.c ?_)
  | (refine wpList_at (Op.store 41 (.tmp 2) (.tmp 69)) rfl ?_;refine wpList_put_rc (s':=copyS {kS s.kd with tx:=s.tx,pv:=s.pv} s) (I':=nilV) (T':=nilV) _ rfl (.tmp 2) (.tmp 69) rfl rfl rfl H.r rfl rfl ?_;intro w9 P9))
 obtain⟨g1,g2⟩:=H.ret P9
 refine bodyPost_ret (results_rc1 rfl _ _ rfl g1) rfl ?_
 exact⟨rfl,g2⟩
set_option maxHeartbeats 1000000 in
theorem clean_5 (hk:s.kd=5):Calls Tryz.prog 154 #[.agg (s.A I T)] w fun e w'=>e=.returned (.agg ((copyS {kS s.kd with tx:=s.tx,pv:=s.pv} s:Sc).A nilV nilV))/\Below w.heap.size w w':=by
 have e1:(s.kd==1)=false:=by rw[hk];rfl
 have e2:(s.kd==2)=false:=by rw[hk];rfl
 have e3:(s.kd==3)=false:=by rw[hk];rfl
 have e4:(s.kd==4)=false:=by rw[hk];rfl
 have e5:(s.kd==5)=true:=by rw[hk];rfl
 have ha:actOf s=actOf {kS s.kd with tx:=s.tx,pv:=s.pv}:=by simp[actOf,kS,hk]
 clear hk
 go_enter Tryz.func154,Tryz.ntmps154
 go_wp2_with (first
  | (refine wpList_box_rc (s:=s) (I:=_) (T:=_) _ rfl _ rfl rfl ?_;intro w0 b0 N0)
  | (have:=N1;refine wpList_new_rc _ rfl rfl ?_;intro w2 b2 N2;have k00:=((N0.rc.below N1.below).below N2.below).c0)
  | (refine wpList_new_rc _ rfl rfl ?_;intro w1 b1 N1;have k00:=(N0.rc.below N1.below).c0)
  | (refine wpList_at (Op.store 41 (.tmp 3) (.tmp 6)) rfl ?_;refine wpList_put_rc (s':=kS s.kd) (I':=nilV) (T':=nilV) _ rfl (.tmp 3) (.tmp 6) rfl rfl rfl N2.rc rfl rfl ?_;intro w3 P3;have H:=Cl3.mk' N0 N1 N2 P3;clear N0 N1 N2 P3 k00;have k00:=H.p.c0;have q0:=H.c.f;have p1:=H.p.c1;have c1:=H.c.c1;have p2:=H.p.c2;have c2:=H.c.c2)
  | (refine wpList_at (Op.store 3 (.tmp 26) (.tmp 23)) rfl ?_;refine wpList_fput (s':={kS s.kd with tx:=s.tx}) (I':=nilV) (T':=nilV) _ rfl 3 (.tmp 26) (.tmp 23) rfl rfl rfl H.c (by omega) rfl (by kernel_rfl) rfl ?_;intro w4 P4;have H4:=H.put P4.rc P4.off;clear H;have H:=H4;clear H4 P4)
  | (refine wpList_at (Op.store 3 (.tmp 27) (.tmp 25)) rfl ?_;refine wpList_fput (s':={kS s.kd with tx:=s.tx,pv:=s.pv}) (I':=nilV) (T':=nilV) _ rfl 3 (.tmp 27) (.tmp 25) rfl rfl rfl H.c (by omega) rfl (by kernel_rfl) rfl ?_;intro w4 P4;have H4:=H.put P4.rc P4.off;clear H;have H:=H4;clear H4 P4)
  | (go_at_call 200;refine(copy_any H.c H.p (fun e=>H.n02 e.symm) ha).mono ?_;rintro e w5 ⟨rfl,r5,o5⟩;have H5:=H.put r5 o5;clear H;have H:=H5;clear H5 r5 o5)
  | (refine wpList_load_rc _ rfl (.tmp 3) rfl rfl H.c ?_)
  | (refine wpList_at (Op.store 41 (.tmp 2) (.tmp 69)) rfl ?_;refine wpList_put_rc (s':=copyS {kS s.kd with tx:=s.tx,pv:=s.pv} s) (I':=nilV) (T':=nilV) _ rfl (.tmp 2) (.tmp 69) rfl rfl rfl H.r rfl rfl ?_;intro w9 P9))
 obtain⟨g1,g2⟩:=H.ret P9
 refine bodyPost_ret (results_rc1 rfl _ _ rfl g1) rfl ?_
 exact⟨rfl,g2⟩
set_option maxHeartbeats 1000000 in
theorem clean_6 (hk:s.kd=6):Calls Tryz.prog 154 #[.agg (s.A I T)] w fun e w'=>e=.returned (.agg ((copyS {kS s.kd with tx:=s.tx,pv:=s.pv,nx:=s.nx,ac:=s.ac} s:Sc).A nilV nilV))/\Below w.heap.size w w':=by
 have e1:(s.kd==1)=false:=by rw[hk];rfl
 have e2:(s.kd==2)=false:=by rw[hk];rfl
 have e3:(s.kd==3)=false:=by rw[hk];rfl
 have e4:(s.kd==4)=false:=by rw[hk];rfl
 have e5:(s.kd==5)=false:=by rw[hk];rfl
 have e6:(s.kd==6)=true:=by rw[hk];rfl
 have ha:actOf s=actOf {kS s.kd with tx:=s.tx,pv:=s.pv,nx:=s.nx,ac:=s.ac}:=by simp[actOf,kS,hk]
 clear hk
 go_enter Tryz.func154,Tryz.ntmps154
 go_wp2_with (first
  | (refine wpList_box_rc (s:=s) (I:=_) (T:=_) _ rfl _ rfl rfl ?_;intro w0 b0 N0)
  | (have:=N1;refine wpList_new_rc _ rfl rfl ?_;intro w2 b2 N2;have k00:=((N0.rc.below N1.below).below N2.below).c0)
  | (refine wpList_new_rc _ rfl rfl ?_;intro w1 b1 N1;have k00:=(N0.rc.below N1.below).c0)
  | (refine wpList_at (Op.store 41 (.tmp 3) (.tmp 6)) rfl ?_;refine wpList_put_rc (s':=kS s.kd) (I':=nilV) (T':=nilV) _ rfl (.tmp 3) (.tmp 6) rfl rfl rfl N2.rc rfl rfl ?_;intro w3 P3;have H:=Cl3.mk' N0 N1 N2 P3;clear N0 N1 N2 P3 k00;have k00:=H.p.c0;have q0:=H.c.f;have p1:=H.p.c1;have c1:=H.c.c1;have p2:=H.p.c2;have c2:=H.c.c2;have p4:=H.p.c4;have c4:=H.c.c4;have p8:=H.p.c8;have c8:=H.c.c8)
  | (refine wpList_at (Op.store 3 (.tmp 39) (.tmp 32)) rfl ?_;refine wpList_fput (s':={kS s.kd with tx:=s.tx}) (I':=nilV) (T':=nilV) _ rfl 3 (.tmp 39) (.tmp 32) rfl rfl rfl H.c (by omega) rfl (by kernel_rfl) rfl ?_;intro w4 P4;have H4:=H.put P4.rc P4.off;clear H;have H:=H4;clear H4 P4)
  | (refine wpList_at (Op.store 3 (.tmp 40) (.tmp 34)) rfl ?_;refine wpList_fput (s':={kS s.kd with tx:=s.tx,pv:=s.pv}) (I':=nilV) (T':=nilV) _ rfl 3 (.tmp 40) (.tmp 34) rfl rfl rfl H.c (by omega) rfl (by kernel_rfl) rfl ?_;intro w4 P4;have H4:=H.put P4.rc P4.off;clear H;have H:=H4;clear H4 P4)
  | (refine wpList_at (Op.store 3 (.tmp 41) (.tmp 36)) rfl ?_;refine wpList_fput (s':={kS s.kd with tx:=s.tx,pv:=s.pv,nx:=s.nx}) (I':=nilV) (T':=nilV) _ rfl 3 (.tmp 41) (.tmp 36) rfl rfl rfl H.c (by omega) rfl (by kernel_rfl) rfl ?_;intro w4 P4;have H4:=H.put P4.rc P4.off;clear H;have H:=H4;clear H4 P4)
  | (refine wpList_at (Op.store 3 (.tmp 42) (.tmp 38)) rfl ?_;refine wpList_fput (s':={kS s.kd with tx:=s.tx,pv:=s.pv,nx:=s.nx,ac:=s.ac}) (I':=nilV) (T':=nilV) _ rfl 3 (.tmp 42) (.tmp 38) rfl rfl rfl H.c (by omega) rfl (by kernel_rfl) rfl ?_;intro w4 P4;have H4:=H.put P4.rc P4.off;clear H;have H:=H4;clear H4 P4)
  | (go_at_call 200;refine(copy_any H.c H.p (fun e=>H.n02 e.symm) ha).mono ?_;rintro e w5 ⟨rfl,r5,o5⟩;have H5:=H.put r5 o5;clear H;have H:=H5;clear H5 r5 o5)
  | (refine wpList_load_rc _ rfl (.tmp 3) rfl rfl H.c ?_)
  | (refine wpList_at (Op.store 41 (.tmp 2) (.tmp 69)) rfl ?_;refine wpList_put_rc (s':=copyS {kS s.kd with tx:=s.tx,pv:=s.pv,nx:=s.nx,ac:=s.ac} s) (I':=nilV) (T':=nilV) _ rfl (.tmp 2) (.tmp 69) rfl rfl rfl H.r rfl rfl ?_;intro w9 P9))
 obtain⟨g1,g2⟩:=H.ret P9
 refine bodyPost_ret (results_rc1 rfl _ _ rfl g1) rfl ?_
 exact⟨rfl,g2⟩
set_option maxHeartbeats 1000000 in
theorem clean_1 {l:List Im} (hk:s.kd=1) (hI:SlI w I l) (hl:l.length<=1000):Calls Tryz.prog 154 #[.agg (s.A I T)] w fun e w'=>∃ J,e=.returned (.agg ((kS s.kd).A J nilV))/\SlI w' J l/\Below w.heap.size w w':=by
 obtain⟨a,c,rfl,hcs,hnil,hle,_⟩:=hI.ex
 have e1:(s.kd==1)=true:=by rw[hk];rfl
 clear hk hI
 go_enter Tryz.func154,Tryz.ntmps154
 go_wp2_with (first
  | (refine wpList_box_rc (s:=s) (I:=_) (T:=_) _ rfl _ rfl rfl ?_;intro w0 b0 N0)
  | (have:=N1;refine wpList_new_rc _ rfl rfl ?_;intro w2 b2 N2;have k00:=((N0.rc.below N1.below).below N2.below).c0)
  | (refine wpList_new_rc _ rfl rfl ?_;intro w1 b1 N1;have k00:=(N0.rc.below N1.below).c0)
  | (refine wpList_at (Op.store 41 (.tmp 3) (.tmp 6)) rfl ?_;refine wpList_put_rc (s':=kS s.kd) (I':=nilV) (T':=nilV) _ rfl (.tmp 3) (.tmp 6) rfl rfl rfl N2.rc rfl rfl ?_;intro w3 P3;have H:=Cl3.mk' N0 N1 N2 P3;clear N0 N1 N2 P3 k00;have k00:=H.p.c0;have q0:=H.c.f;have p9:=H.p.c9;have c9:=H.c.c9;unfold nilV at c9)
  | (have lb2:=H.c.lt;have lb1:=H.r.lt;refine wpList_append_own' two_im (B:=_) rfl (.tmp 13) (.tmp 15) rfl rfl (n:=0) (xs:=[]) rfl (Own.nil _ _ _) (Nat.le_refl _) rfl (encI_length l) hnil (hcs.below H.bel) (encI_ones l) (by omega) ?_;intro a4 cap4 w4 O4 B4;have H4:=H.below B4;clear H;have H:=H4;clear H4;have F:=O4.frI l;clear O4)
  | (refine wpList_at (Op.store 38 (.tmp 17) (.tmp 16)) rfl ?_;refine wpList_fput (s':=kS s.kd) (I':=.slice a4 l.length cap4) (T':=nilV) _ rfl 38 (.tmp 17) (.tmp 16) rfl rfl rfl H.c (by omega) rfl (by kernel_rfl) rfl ?_;intro w4 P4;have F4:=F.off P4.off lb2;clear F;have F:=F4;clear F4;have H4:=H.put P4.rc P4.off;clear H;have H:=H4;clear H4 P4)
  | (refine wpList_load_rc _ rfl (.tmp 3) rfl rfl H.c ?_)
  | (refine wpList_at (Op.store 41 (.tmp 2) (.tmp 69)) rfl ?_;refine wpList_put_rc (s':=kS s.kd) (I':=.slice a4 l.length cap4) (T':=nilV) _ rfl (.tmp 2) (.tmp 69) rfl rfl rfl H.r rfl rfl ?_;intro w9 P9))
 obtain⟨g1,g2⟩:=H.ret P9
 refine bodyPost_ret (results_rc1 rfl _ _ rfl g1) rfl ?_
 exact⟨_,rfl,(F.off P9.off lb1).slI,g2⟩
set_option maxHeartbeats 1000000 in
theorem clean_2 {l:List Im} (hk:s.kd=2) (hI:SlI w I l) (hl:l.length<=1000):Calls Tryz.prog 154 #[.agg (s.A I T)] w fun e w'=>∃ J,e=.returned (.agg ((kS s.kd).A J nilV))/\SlI w' J l/\Below w.heap.size w w':=by
 obtain⟨a,c,rfl,hcs,hnil,hle,_⟩:=hI.ex
 have e1:(s.kd==1)=false:=by rw[hk];rfl
 have e2:(s.kd==2)=true:=by rw[hk];rfl
 clear hk hI
 go_enter Tryz.func154,Tryz.ntmps154
 go_wp2_with (first
  | (refine wpList_box_rc (s:=s) (I:=_) (T:=_) _ rfl _ rfl rfl ?_;intro w0 b0 N0)
  | (have:=N1;refine wpList_new_rc _ rfl rfl ?_;intro w2 b2 N2;have k00:=((N0.rc.below N1.below).below N2.below).c0)
  | (refine wpList_new_rc _ rfl rfl ?_;intro w1 b1 N1;have k00:=(N0.rc.below N1.below).c0)
  | (refine wpList_at (Op.store 41 (.tmp 3) (.tmp 6)) rfl ?_;refine wpList_put_rc (s':=kS s.kd) (I':=nilV) (T':=nilV) _ rfl (.tmp 3) (.tmp 6) rfl rfl rfl N2.rc rfl rfl ?_;intro w3 P3;have H:=Cl3.mk' N0 N1 N2 P3;clear N0 N1 N2 P3 k00;have k00:=H.p.c0;have q0:=H.c.f;have p9:=H.p.c9;have c9:=H.c.c9;unfold nilV at c9)
  | (have lb2:=H.c.lt;have lb1:=H.r.lt;refine wpList_append_own' two_im (B:=_) rfl (.tmp 13) (.tmp 15) rfl rfl (n:=0) (xs:=[]) rfl (Own.nil _ _ _) (Nat.le_refl _) rfl (encI_length l) hnil (hcs.below H.bel) (encI_ones l) (by omega) ?_;intro a4 cap4 w4 O4 B4;have H4:=H.below B4;clear H;have H:=H4;clear H4;have F:=O4.frI l;clear O4)
  | (refine wpList_at (Op.store 38 (.tmp 17) (.tmp 16)) rfl ?_;refine wpList_fput (s':=kS s.kd) (I':=.slice a4 l.length cap4) (T':=nilV) _ rfl 38 (.tmp 17) (.tmp 16) rfl rfl rfl H.c (by omega) rfl (by kernel_rfl) rfl ?_;intro w4 P4;have F4:=F.off P4.off lb2;clear F;have F:=F4;clear F4;have H4:=H.put P4.rc P4.off;clear H;have H:=H4;clear H4 P4)
  | (refine wpList_load_rc _ rfl (.tmp 3) rfl rfl H.c ?_)
  | (refine wpList_at (Op.store 41 (.tmp 2) (.tmp 69)) rfl ?_;refine wpList_put_rc (s':=kS s.kd) (I':=.slice a4 l.length cap4) (T':=nilV) _ rfl (.tmp 2) (.tmp 69) rfl rfl rfl H.r rfl rfl ?_;intro w9 P9))
 obtain⟨g1,g2⟩:=H.ret P9
 refine bodyPost_ret (results_rc1 rfl _ _ rfl g1) rfl ?_
 exact⟨_,rfl,(F.off P9.off lb1).slI,g2⟩
set_option maxHeartbeats 1000000 in
theorem clean_9 {l:List Tb} (hk:s.kd=9) (hI:SlT w T l) (hl:l.length<=1000):Calls Tryz.prog 154 #[.agg (s.A I T)] w fun e w'=>∃ J,e=.returned (.agg ((kS s.kd).A nilV J))/\SlT w' J l/\Below w.heap.size w w':=by
 obtain⟨a,c,rfl,hcs,hnil,hle,_⟩:=hI.ex
 have e1:(s.kd==1)=false:=by rw[hk];rfl
 have e2:(s.kd==2)=false:=by rw[hk];rfl
 have e3:(s.kd==3)=false:=by rw[hk];rfl
 have e4:(s.kd==4)=false:=by rw[hk];rfl
 have e5:(s.kd==5)=false:=by rw[hk];rfl
 have e6:(s.kd==6)=false:=by rw[hk];rfl
 have e7:(s.kd==7)=false:=by rw[hk];rfl
 have e8:(s.kd==8)=false:=by rw[hk];rfl
 have e9:(s.kd==9)=true:=by rw[hk];rfl
 clear hk hI
 go_enter Tryz.func154,Tryz.ntmps154
 go_wp2_with (first
  | (refine wpList_box_rc (s:=s) (I:=_) (T:=_) _ rfl _ rfl rfl ?_;intro w0 b0 N0)
  | (have:=N1;refine wpList_new_rc _ rfl rfl ?_;intro w2 b2 N2;have k00:=((N0.rc.below N1.below).below N2.below).c0)
  | (refine wpList_new_rc _ rfl rfl ?_;intro w1 b1 N1;have k00:=(N0.rc.below N1.below).c0)
  | (refine wpList_at (Op.store 41 (.tmp 3) (.tmp 6)) rfl ?_;refine wpList_put_rc (s':=kS s.kd) (I':=nilV) (T':=nilV) _ rfl (.tmp 3) (.tmp 6) rfl rfl rfl N2.rc rfl rfl ?_;intro w3 P3;have H:=Cl3.mk' N0 N1 N2 P3;clear N0 N1 N2 P3 k00;have k00:=H.p.c0;have q0:=H.c.f;have p10:=H.p.c10;have c10:=H.c.c10;unfold nilV at c10)
  | (have lb2:=H.c.lt;have lb1:=H.r.lt;refine wpList_append_own' two_tb (B:=_) rfl (.tmp 56) (.tmp 58) rfl rfl (n:=0) (xs:=[]) rfl (Own.nil _ _ _) (Nat.le_refl _) rfl (encT_length l) hnil (hcs.below H.bel) (encT_ones l) (by omega) ?_;intro a4 cap4 w4 O4 B4;have H4:=H.below B4;clear H;have H:=H4;clear H4;have F:=O4.frT l;clear O4)
  | (refine wpList_at (Op.store 39 (.tmp 60) (.tmp 59)) rfl ?_;refine wpList_fput (s':=kS s.kd) (I':=nilV) (T':=.slice a4 l.length cap4) _ rfl 39 (.tmp 60) (.tmp 59) rfl rfl rfl H.c (by omega) rfl (by kernel_rfl) rfl ?_;intro w4 P4;have F4:=F.off P4.off lb2;clear F;have F:=F4;clear F4;have H4:=H.put P4.rc P4.off;clear H;have H:=H4;clear H4 P4)
  | (refine wpList_load_rc _ rfl (.tmp 3) rfl rfl H.c ?_)
  | (refine wpList_at (Op.store 41 (.tmp 2) (.tmp 69)) rfl ?_;refine wpList_put_rc (s':=kS s.kd) (I':=nilV) (T':=.slice a4 l.length cap4) _ rfl (.tmp 2) (.tmp 69) rfl rfl rfl H.r rfl rfl ?_;intro w9 P9))
 obtain⟨g1,g2⟩:=H.ret P9
 refine bodyPost_ret (results_rc1 rfl _ _ rfl g1) rfl ?_
 exact⟨_,rfl,(F.off P9.off lb1).slT,g2⟩
end
theorem clean_any {w:World} {v:Value} {m:Rm} (h:RecV w v m) (hi:m.im.length<=1000) (ht:m.tb.length<=1000):Calls Tryz.prog 154 #[v] w fun e w'=>(∃ v',e=.returned v'/\RecV w' v' (cleanM m))/\Below w.heap.size w w':=by
 obtain⟨s,l,g⟩:=m
 obtain⟨I,T,rfl,hI,hT⟩:=h.ex
 dsimp only at hI hT hi ht
 by_cases h1:s.kd=1
 ·refine(clean_1 h1 hI hi).mono ?_
  rintro e w' ⟨J,rfl,hJ,hb⟩
  refine⟨⟨_,rfl,⟨J,nilV,?_,?_,?_⟩⟩,hb⟩
  ·simp[cleanM,cleanS,h1,kS,zS]
  ·simpa[cleanM,h1] using hJ
  ·simpa[cleanM,h1] using SlT.nil w'
 by_cases h2:s.kd=2
 ·refine(clean_2 h2 hI hi).mono ?_
  rintro e w' ⟨J,rfl,hJ,hb⟩
  refine⟨⟨_,rfl,⟨J,nilV,?_,?_,?_⟩⟩,hb⟩
  ·simp[cleanM,cleanS,h2,kS,zS]
  ·simpa[cleanM,h2] using hJ
  ·simpa[cleanM,h2] using SlT.nil w'
 by_cases h9:s.kd=9
 ·refine(clean_9 h9 hT ht).mono ?_
  rintro e w' ⟨J,rfl,hJ,hb⟩
  refine⟨⟨_,rfl,⟨nilV,J,?_,?_,?_⟩⟩,hb⟩
  ·simp[cleanM,cleanS,h9,kS,zS]
  ·simpa[cleanM,h9] using SlI.nil w'
  ·simpa[cleanM,h9] using hJ
 have fin:∀ (w':World) (c:Sc),cleanS s=c->RecV w' (.agg (c.A nilV nilV)) (cleanM ⟨s,l,g⟩):=fun w' c hc=>by
  refine⟨nilV,nilV,?_,?_,?_⟩
  ·simp[cleanM,hc]
  ·simpa[cleanM,h1,h2] using SlI.nil w'
  ·simpa[cleanM,h9] using SlT.nil w'
 by_cases h3:s.kd=3
 ·refine(clean_3 h3).mono ?_
  rintro e w' ⟨rfl,hb⟩
  exact⟨⟨_,rfl,fin w' _ (by simp[cleanS,h3,kS,zS,copyS,actOf])⟩,hb⟩
 by_cases h4:s.kd=4
 ·refine(clean_4 h4).mono ?_
  rintro e w' ⟨rfl,hb⟩
  exact⟨⟨_,rfl,fin w' _ (by simp[cleanS,h4,kS,zS,copyS,actOf])⟩,hb⟩
 by_cases h5:s.kd=5
 ·refine(clean_5 h5).mono ?_
  rintro e w' ⟨rfl,hb⟩
  exact⟨⟨_,rfl,fin w' _ (by simp[cleanS,h5,kS,zS,copyS,actOf])⟩,hb⟩
 by_cases h6:s.kd=6
 ·refine(clean_6 h6).mono ?_
  rintro e w' ⟨rfl,hb⟩
  exact⟨⟨_,rfl,fin w' _ (by simp[cleanS,h6,kS,zS,copyS,actOf])⟩,hb⟩
 by_cases h7:s.kd=7
 ·refine(clean_7 h7).mono ?_
  rintro e w' ⟨rfl,hb⟩
  exact⟨⟨_,rfl,fin w' _ (by simp[cleanS,h7,kS,zS])⟩,hb⟩
 by_cases h8:s.kd=8
 ·refine(clean_8 h8).mono ?_
  rintro e w' ⟨rfl,hb⟩
  exact⟨⟨_,rfl,fin w' _ (by simp[cleanS,h8,kS,zS])⟩,hb⟩
 by_cases h10:s.kd=10
 ·refine(clean_10 h10).mono ?_
  rintro e w' ⟨rfl,hb⟩
  exact⟨⟨_,rfl,fin w' _ (by simp[cleanS,h10,kS,zS])⟩,hb⟩
 ·refine(clean_o h1 h2 h3 h4 h5 h6 h7 h8 h9 h10).mono ?_
  rintro e w' ⟨rfl,hb⟩
  exact⟨⟨_,rfl,fin w' _ (by simp[cleanS,h1,h2,h3,h4,h5,h6,h7,h8,h9,h10,kS,zS])⟩,hb⟩
end Go.Proofs.YtpcnjncgilmehabGreat
