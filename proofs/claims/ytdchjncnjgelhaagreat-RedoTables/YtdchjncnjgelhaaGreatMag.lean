import Derived.Test.YtdchjncnjgelhaaGreatMad
import Derived.Deep.RegionHeld3
import Derived.Test.YtdchjncnjgelhaaGreatMaf
import Derived.Deep.Slices
import Derived.OpenShut
import Derived.Test.YtdchjncnjgelhaaGreatProg
import Derived.WalkKit
import Derived.ProofKit
import Derived.WalkSpells
import Derived.WalkLawsBesides
import Derived.Deep.QuietTactic
import Derived.BigQuiet
import Derived.Deep.MidRow
import Derived.Lib.SmallJoins
import Derived.Lib.SlBytesRow
import Derived.Lib.BufferWrite
import Derived.Maps.RangeWalk
import Derived.Maps.OwnSet
import Derived.Maps.Ext
set_option linter.unusedVariables false
set_option linter.unusedSimpArgs false
set_option maxRecDepth 100000
namespace Go.Proofs.YtdchjncnjgelhaaGreat
open Go.RowKit
def kS (k:Int):Sc:={zS with kd:=k}
structure Cl3 (w wr:World) (b0 b1 b2:Nat) (s:Sc) (I T:Value) (c:Sc) (J U:Value):Prop where
 p:RcAt wr b0 s I T
 r:RcAt wr b1 zS nilV nilV
 c:RcAt wr b2 c J U
 bel:Below w.heap.size w wr
 n02:b0≠b2
 n12:b1≠b2
 l1:w.heap.size<=b1
 l2:w.heap.size<=b2
section
variable {w wr wq:World}{b0 b1 b2:Nat}{s c c':Sc}{I T J U J' U':Value}
theorem Cl3.mk' {w0 w1 w2 w3:World} (N0:NewR w w0 b0 s I T) (N1:NewR w0 w1 b1 zS nilV nilV) (N2:NewR w1 w2 b2 zS nilV nilV) (P:PutR w2 w3 b2 c J U):Cl3 w w3 b0 b1 b2 s I T c J U:=by
 have e0:=N0.eq
 have e1:=N1.eq
 have e2:=N2.eq
 have z0:=N0.rc.lt
 have z1:=N1.rc.lt
 have z2:=N0.below.size
 have z3:=N1.below.size
 have z4:=N2.below.size
 refine⟨((N0.rc.below N1.below).below N2.below).off P.off (by omega),(N1.rc.below N2.below).off P.off (by omega),P.rc,(thn (thn N0.below N1.below) N2.below).trans (P.below (by omega) (by omega)),by omega,by omega,by omega,by omega⟩
theorem Cl3.put (h:Cl3 w wr b0 b1 b2 s I T c J U) (hr:RcAt wq b2 c' J' U') (o:Pk.Off b2 wr wq):Cl3 w wq b0 b1 b2 s I T c' J' U' :=
 ⟨h.p.off o h.n02,h.r.off o h.n12,hr,h.bel.trans (o.below h.l2 h.bel.size),h.n02,h.n12,h.l1,h.l2⟩
theorem Cl3.below (h:Cl3 w wr b0 b1 b2 s I T c J U) (hb:Below wr.heap.size wr wq):Cl3 w wq b0 b1 b2 s I T c J U :=
 ⟨h.p.below hb,h.r.below hb,h.c.below hb,thn h.bel hb,h.n02,h.n12,h.l1,h.l2⟩
theorem Cl3.ret (h:Cl3 w wr b0 b1 b2 s I T c J U) (P:PutR wr wq b1 c J U):RcAt wq b1 c J U/\Below w.heap.size w wq:=⟨P.rc,h.bel.trans (P.below h.l1 h.bel.size)⟩
end
section
variable {w:World}{s:Sc}{I T:Value}
set_option maxHeartbeats 1000000 in
theorem clean_7 (hk:s.kd=7):Calls Tryz.prog 102 #[.agg (s.A I T)] w fun e w'=>e=.returned (.agg (({kS s.kd with tx:=s.tx,pv:=s.pv}:Sc).A nilV nilV))/\Below w.heap.size w w':=by
 have e1:(s.kd==1)=false:=by rw[hk];rfl
 have e2:(s.kd==2)=false:=by rw[hk];rfl
 have e3:(s.kd==3)=false:=by rw[hk];rfl
 have e4:(s.kd==4)=false:=by rw[hk];rfl
 have e5:(s.kd==5)=false:=by rw[hk];rfl
 have e6:(s.kd==6)=false:=by rw[hk];rfl
 have e7:(s.kd==7)=true:=by rw[hk];rfl
 clear hk
 go_enter Tryz.func102,Tryz.ntmps102
 go_wp2_with (first
  | (refine wpList_box_rc (s:=s) (I:=_) (T:=_) _ rfl _ rfl rfl ?_;intro w0 b0 N0)
  | (have:=N1;refine wpList_new_rc _ rfl rfl ?_;intro w2 b2 N2;have k00:=((N0.rc.below N1.below).below N2.below).c0)
  | (refine wpList_new_rc _ rfl rfl ?_;intro w1 b1 N1;have k00:=(N0.rc.below N1.below).c0)
  | (refine wpList_at (Op.store 54 (.tmp 3) (.tmp 6)) rfl ?_;refine wpList_put_rc (s':=kS s.kd) (I':=nilV) (T':=nilV) _ rfl (.tmp 3) (.tmp 6) rfl rfl rfl N2.rc rfl rfl ?_;intro w3 P3;have H:=Cl3.mk' N0 N1 N2 P3;clear N0 N1 N2 P3 k00;have k00:=H.p.c0;have q0:=H.c.f;have p1:=H.p.c1;have c1:=H.c.c1;have p2:=H.p.c2;have c2:=H.c.c2)
  | (refine wpList_at (Op.store 3 (.tmp 51) (.tmp 48)) rfl ?_;refine wpList_fput (s':={kS s.kd with tx:=s.tx}) (I':=nilV) (T':=nilV) _ rfl 3 (.tmp 51) (.tmp 48) rfl rfl rfl H.c (by omega) rfl (by kernel_rfl) rfl ?_;intro w4 P4;have H4:=H.put P4.rc P4.off;clear H;have H:=H4;clear H4 P4)
  | (refine wpList_at (Op.store 3 (.tmp 52) (.tmp 50)) rfl ?_;refine wpList_fput (s':={kS s.kd with tx:=s.tx,pv:=s.pv}) (I':=nilV) (T':=nilV) _ rfl 3 (.tmp 52) (.tmp 50) rfl rfl rfl H.c (by omega) rfl (by kernel_rfl) rfl ?_;intro w4 P4;have H4:=H.put P4.rc P4.off;clear H;have H:=H4;clear H4 P4)
  | (refine wpList_load_rc _ rfl (.tmp 3) rfl rfl H.c ?_)
  | (refine wpList_at (Op.store 54 (.tmp 2) (.tmp 69)) rfl ?_;refine wpList_put_rc (s':={kS s.kd with tx:=s.tx,pv:=s.pv}) (I':=nilV) (T':=nilV) _ rfl (.tmp 2) (.tmp 69) rfl rfl rfl H.r rfl rfl ?_;intro w9 P9))
 obtain⟨g1,g2⟩:=H.ret P9
 refine bodyPost_ret (results_rc1 rfl _ _ rfl g1) rfl ?_
 exact⟨rfl,g2⟩
set_option maxHeartbeats 1000000 in
theorem clean_8 (hk:s.kd=8):Calls Tryz.prog 102 #[.agg (s.A I T)] w fun e w'=>e=.returned (.agg (({kS s.kd with tx:=s.tx,pv:=s.pv}:Sc).A nilV nilV))/\Below w.heap.size w w':=by
 have e1:(s.kd==1)=false:=by rw[hk];rfl
 have e2:(s.kd==2)=false:=by rw[hk];rfl
 have e3:(s.kd==3)=false:=by rw[hk];rfl
 have e4:(s.kd==4)=false:=by rw[hk];rfl
 have e5:(s.kd==5)=false:=by rw[hk];rfl
 have e6:(s.kd==6)=false:=by rw[hk];rfl
 have e7:(s.kd==7)=false:=by rw[hk];rfl
 have e8:(s.kd==8)=true:=by rw[hk];rfl
 clear hk
 go_enter Tryz.func102,Tryz.ntmps102
 go_wp2_with (first
  | (refine wpList_box_rc (s:=s) (I:=_) (T:=_) _ rfl _ rfl rfl ?_;intro w0 b0 N0)
  | (have:=N1;refine wpList_new_rc _ rfl rfl ?_;intro w2 b2 N2;have k00:=((N0.rc.below N1.below).below N2.below).c0)
  | (refine wpList_new_rc _ rfl rfl ?_;intro w1 b1 N1;have k00:=(N0.rc.below N1.below).c0)
  | (refine wpList_at (Op.store 54 (.tmp 3) (.tmp 6)) rfl ?_;refine wpList_put_rc (s':=kS s.kd) (I':=nilV) (T':=nilV) _ rfl (.tmp 3) (.tmp 6) rfl rfl rfl N2.rc rfl rfl ?_;intro w3 P3;have H:=Cl3.mk' N0 N1 N2 P3;clear N0 N1 N2 P3 k00;have k00:=H.p.c0;have q0:=H.c.f;have p1:=H.p.c1;have c1:=H.c.c1;have p2:=H.p.c2;have c2:=H.c.c2)
  | (refine wpList_at (Op.store 3 (.tmp 51) (.tmp 48)) rfl ?_;refine wpList_fput (s':={kS s.kd with tx:=s.tx}) (I':=nilV) (T':=nilV) _ rfl 3 (.tmp 51) (.tmp 48) rfl rfl rfl H.c (by omega) rfl (by kernel_rfl) rfl ?_;intro w4 P4;have H4:=H.put P4.rc P4.off;clear H;have H:=H4;clear H4 P4)
  | (refine wpList_at (Op.store 3 (.tmp 52) (.tmp 50)) rfl ?_;refine wpList_fput (s':={kS s.kd with tx:=s.tx,pv:=s.pv}) (I':=nilV) (T':=nilV) _ rfl 3 (.tmp 52) (.tmp 50) rfl rfl rfl H.c (by omega) rfl (by kernel_rfl) rfl ?_;intro w4 P4;have H4:=H.put P4.rc P4.off;clear H;have H:=H4;clear H4 P4)
  | (refine wpList_load_rc _ rfl (.tmp 3) rfl rfl H.c ?_)
  | (refine wpList_at (Op.store 54 (.tmp 2) (.tmp 69)) rfl ?_;refine wpList_put_rc (s':={kS s.kd with tx:=s.tx,pv:=s.pv}) (I':=nilV) (T':=nilV) _ rfl (.tmp 2) (.tmp 69) rfl rfl rfl H.r rfl rfl ?_;intro w9 P9))
 obtain⟨g1,g2⟩:=H.ret P9
 refine bodyPost_ret (results_rc1 rfl _ _ rfl g1) rfl ?_
 exact⟨rfl,g2⟩
set_option maxHeartbeats 1000000 in
theorem clean_10 (hk:s.kd=10):Calls Tryz.prog 102 #[.agg (s.A I T)] w fun e w'=>e=.returned (.agg (({kS s.kd with ep:=s.ep,nd:=s.nd}:Sc).A nilV nilV))/\Below w.heap.size w w':=by
 have e1:(s.kd==1)=false:=by rw[hk];rfl
 have e2:(s.kd==2)=false:=by rw[hk];rfl
 have e3:(s.kd==3)=false:=by rw[hk];rfl
 have e4:(s.kd==4)=false:=by rw[hk];rfl
 have e5:(s.kd==5)=false:=by rw[hk];rfl
 have e6:(s.kd==6)=false:=by rw[hk];rfl
 have e7:(s.kd==7)=false:=by rw[hk];rfl
 have e8:(s.kd==8)=false:=by rw[hk];rfl
 have e9:(s.kd==9)=false:=by rw[hk];rfl
 have e10:(s.kd==10)=true:=by rw[hk];rfl
 clear hk
 go_enter Tryz.func102,Tryz.ntmps102
 go_wp2_with (first
  | (refine wpList_box_rc (s:=s) (I:=_) (T:=_) _ rfl _ rfl rfl ?_;intro w0 b0 N0)
  | (have:=N1;refine wpList_new_rc _ rfl rfl ?_;intro w2 b2 N2;have k00:=((N0.rc.below N1.below).below N2.below).c0)
  | (refine wpList_new_rc _ rfl rfl ?_;intro w1 b1 N1;have k00:=(N0.rc.below N1.below).c0)
  | (refine wpList_at (Op.store 54 (.tmp 3) (.tmp 6)) rfl ?_;refine wpList_put_rc (s':=kS s.kd) (I':=nilV) (T':=nilV) _ rfl (.tmp 3) (.tmp 6) rfl rfl rfl N2.rc rfl rfl ?_;intro w3 P3;have H:=Cl3.mk' N0 N1 N2 P3;clear N0 N1 N2 P3 k00;have k00:=H.p.c0;have q0:=H.c.f;have p11:=H.p.c11;have c11:=H.c.c11;have p12:=H.p.c12;have c12:=H.c.c12)
  | (refine wpList_at (Op.store 3 (.tmp 67) (.tmp 64)) rfl ?_;refine wpList_fput (s':={kS s.kd with ep:=s.ep}) (I':=nilV) (T':=nilV) _ rfl 3 (.tmp 67) (.tmp 64) rfl rfl rfl H.c (by omega) rfl (by kernel_rfl) rfl ?_;intro w4 P4;have H4:=H.put P4.rc P4.off;clear H;have H:=H4;clear H4 P4)
  | (refine wpList_at (Op.store 3 (.tmp 68) (.tmp 66)) rfl ?_;refine wpList_fput (s':={kS s.kd with ep:=s.ep,nd:=s.nd}) (I':=nilV) (T':=nilV) _ rfl 3 (.tmp 68) (.tmp 66) rfl rfl rfl H.c (by omega) rfl (by kernel_rfl) rfl ?_;intro w4 P4;have H4:=H.put P4.rc P4.off;clear H;have H:=H4;clear H4 P4)
  | (refine wpList_load_rc _ rfl (.tmp 3) rfl rfl H.c ?_)
  | (refine wpList_at (Op.store 54 (.tmp 2) (.tmp 69)) rfl ?_;refine wpList_put_rc (s':={kS s.kd with ep:=s.ep,nd:=s.nd}) (I':=nilV) (T':=nilV) _ rfl (.tmp 2) (.tmp 69) rfl rfl rfl H.r rfl rfl ?_;intro w9 P9))
 obtain⟨g1,g2⟩:=H.ret P9
 refine bodyPost_ret (results_rc1 rfl _ _ rfl g1) rfl ?_
 exact⟨rfl,g2⟩
set_option maxHeartbeats 1000000 in
theorem clean_o (h1:s.kd≠1) (h2:s.kd≠2) (h3:s.kd≠3) (h4:s.kd≠4) (h5:s.kd≠5) (h6:s.kd≠6) (h7:s.kd≠7) (h8:s.kd≠8) (h9:s.kd≠9) (h10:s.kd≠10):Calls Tryz.prog 102 #[.agg (s.A I T)] w fun e w'=>e=.returned (.agg ((kS s.kd:Sc).A nilV nilV))/\Below w.heap.size w w':=by
 have e1:(s.kd==1)=false:=by simpa using h1
 have e2:(s.kd==2)=false:=by simpa using h2
 have e3:(s.kd==3)=false:=by simpa using h3
 have e4:(s.kd==4)=false:=by simpa using h4
 have e5:(s.kd==5)=false:=by simpa using h5
 have e6:(s.kd==6)=false:=by simpa using h6
 have e7:(s.kd==7)=false:=by simpa using h7
 have e8:(s.kd==8)=false:=by simpa using h8
 have e9:(s.kd==9)=false:=by simpa using h9
 have e10:(s.kd==10)=false:=by simpa using h10
 clear h1 h2 h3 h4 h5 h6 h7 h8 h9 h10
 go_enter Tryz.func102,Tryz.ntmps102
 go_wp2_with (first
  | (refine wpList_box_rc (s:=s) (I:=_) (T:=_) _ rfl _ rfl rfl ?_;intro w0 b0 N0)
  | (have:=N1;refine wpList_new_rc _ rfl rfl ?_;intro w2 b2 N2;have k00:=((N0.rc.below N1.below).below N2.below).c0)
  | (refine wpList_new_rc _ rfl rfl ?_;intro w1 b1 N1;have k00:=(N0.rc.below N1.below).c0)
  | (refine wpList_at (Op.store 54 (.tmp 3) (.tmp 6)) rfl ?_;refine wpList_put_rc (s':=kS s.kd) (I':=nilV) (T':=nilV) _ rfl (.tmp 3) (.tmp 6) rfl rfl rfl N2.rc rfl rfl ?_;intro w3 P3;have H:=Cl3.mk' N0 N1 N2 P3;clear N0 N1 N2 P3 k00;have k00:=H.p.c0)
  | (refine wpList_load_rc _ rfl (.tmp 3) rfl rfl H.c ?_)
  | (refine wpList_at (Op.store 54 (.tmp 2) (.tmp 69)) rfl ?_;refine wpList_put_rc (s':=kS s.kd) (I':=nilV) (T':=nilV) _ rfl (.tmp 2) (.tmp 69) rfl rfl rfl H.r rfl rfl ?_;intro w9 P9))
 obtain⟨g1,g2⟩:=H.ret P9
 refine bodyPost_ret (results_rc1 rfl _ _ rfl g1) rfl ?_
 exact⟨rfl,g2⟩
set_option maxHeartbeats 1000000 in
theorem clean_3 (hk:s.kd=3):Calls Tryz.prog 102 #[.agg (s.A I T)] w fun e w'=>e=.returned (.agg ((copyS {kS s.kd with tx:=s.tx,pv:=s.pv} s:Sc).A nilV nilV))/\Below w.heap.size w w':=by
 have e1:(s.kd==1)=false:=by rw[hk];rfl
 have e2:(s.kd==2)=false:=by rw[hk];rfl
 have e3:(s.kd==3)=true:=by rw[hk];rfl
 have ha:actOf s=actOf {kS s.kd with tx:=s.tx,pv:=s.pv}:=by simp[actOf,kS,hk]
 clear hk
 go_enter Tryz.func102,Tryz.ntmps102
 go_wp2_with (first
  | (refine wpList_box_rc (s:=s) (I:=_) (T:=_) _ rfl _ rfl rfl ?_;intro w0 b0 N0)
  | (have:=N1;refine wpList_new_rc _ rfl rfl ?_;intro w2 b2 N2;have k00:=((N0.rc.below N1.below).below N2.below).c0)
  | (refine wpList_new_rc _ rfl rfl ?_;intro w1 b1 N1;have k00:=(N0.rc.below N1.below).c0)
  | (refine wpList_at (Op.store 54 (.tmp 3) (.tmp 6)) rfl ?_;refine wpList_put_rc (s':=kS s.kd) (I':=nilV) (T':=nilV) _ rfl (.tmp 3) (.tmp 6) rfl rfl rfl N2.rc rfl rfl ?_;intro w3 P3;have H:=Cl3.mk' N0 N1 N2 P3;clear N0 N1 N2 P3 k00;have k00:=H.p.c0;have q0:=H.c.f;have p1:=H.p.c1;have c1:=H.c.c1;have p2:=H.p.c2;have c2:=H.c.c2)
  | (refine wpList_at (Op.store 3 (.tmp 26) (.tmp 23)) rfl ?_;refine wpList_fput (s':={kS s.kd with tx:=s.tx}) (I':=nilV) (T':=nilV) _ rfl 3 (.tmp 26) (.tmp 23) rfl rfl rfl H.c (by omega) rfl (by kernel_rfl) rfl ?_;intro w4 P4;have H4:=H.put P4.rc P4.off;clear H;have H:=H4;clear H4 P4)
  | (refine wpList_at (Op.store 3 (.tmp 27) (.tmp 25)) rfl ?_;refine wpList_fput (s':={kS s.kd with tx:=s.tx,pv:=s.pv}) (I':=nilV) (T':=nilV) _ rfl 3 (.tmp 27) (.tmp 25) rfl rfl rfl H.c (by omega) rfl (by kernel_rfl) rfl ?_;intro w4 P4;have H4:=H.put P4.rc P4.off;clear H;have H:=H4;clear H4 P4)
  | (go_at_call 130;refine(copy_any H.c H.p (fun e=>H.n02 e.symm) ha).mono ?_;rintro e w5 ⟨rfl,r5,o5⟩;have H5:=H.put r5 o5;clear H;have H:=H5;clear H5 r5 o5)
  | (refine wpList_load_rc _ rfl (.tmp 3) rfl rfl H.c ?_)
  | (refine wpList_at (Op.store 54 (.tmp 2) (.tmp 69)) rfl ?_;refine wpList_put_rc (s':=copyS {kS s.kd with tx:=s.tx,pv:=s.pv} s) (I':=nilV) (T':=nilV) _ rfl (.tmp 2) (.tmp 69) rfl rfl rfl H.r rfl rfl ?_;intro w9 P9))
 obtain⟨g1,g2⟩:=H.ret P9
 refine bodyPost_ret (results_rc1 rfl _ _ rfl g1) rfl ?_
 exact⟨rfl,g2⟩
set_option maxHeartbeats 1000000 in
theorem clean_4 (hk:s.kd=4):Calls Tryz.prog 102 #[.agg (s.A I T)] w fun e w'=>e=.returned (.agg ((copyS {kS s.kd with tx:=s.tx,pv:=s.pv} s:Sc).A nilV nilV))/\Below w.heap.size w w':=by
 have e1:(s.kd==1)=false:=by rw[hk];rfl
 have e2:(s.kd==2)=false:=by rw[hk];rfl
 have e3:(s.kd==3)=false:=by rw[hk];rfl
 have e4:(s.kd==4)=true:=by rw[hk];rfl
 have ha:actOf s=actOf {kS s.kd with tx:=s.tx,pv:=s.pv}:=by simp[actOf,kS,hk]
 clear hk
 go_enter Tryz.func102,Tryz.ntmps102
 go_wp2_with (first
  | (refine wpList_box_rc (s:=s) (I:=_) (T:=_) _ rfl _ rfl rfl ?_;intro w0 b0 N0)
  | (have:=N1;refine wpList_new_rc _ rfl rfl ?_;intro w2 b2 N2;have k00:=((N0.rc.below N1.below).below N2.below).c0)
  | (refine wpList_new_rc _ rfl rfl ?_;intro w1 b1 N1;have k00:=(N0.rc.below N1.below).c0)
  | (refine wpList_at (Op.store 54 (.tmp 3) (.tmp 6)) rfl ?_;refine wpList_put_rc (s':=kS s.kd) (I':=nilV) (T':=nilV) _ rfl (.tmp 3) (.tmp 6) rfl rfl rfl N2.rc rfl rfl ?_;intro w3 P3;have H:=Cl3.mk' N0 N1 N2 P3;clear N0 N1 N2 P3 k00;have k00:=H.p.c0;have q0:=H.c.f;have p1:=H.p.c1;have c1:=H.c.c1;have p2:=H.p.c2;have c2:=H.c.c2)
  | (refine wpList_at (Op.store 3 (.tmp 26) (.tmp 23)) rfl ?_;refine wpList_fput (s':={kS s.kd with tx:=s.tx}) (I':=nilV) (T':=nilV) _ rfl 3 (.tmp 26) (.tmp 23) rfl rfl rfl H.c (by omega) rfl (by kernel_rfl) rfl ?_;intro w4 P4;have H4:=H.put P4.rc P4.off;clear H;have H:=H4;clear H4 P4)
  | (refine wpList_at (Op.store 3 (.tmp 27) (.tmp 25)) rfl ?_;refine wpList_fput (s':={kS s.kd with tx:=s.tx,pv:=s.pv}) (I':=nilV) (T':=nilV) _ rfl 3 (.tmp 27) (.tmp 25) rfl rfl rfl H.c (by omega) rfl (by kernel_rfl) rfl ?_;intro w4 P4;have H4:=H.put P4.rc P4.off;clear H;have H:=H4;clear H4 P4)
  | (go_at_call 130;refine(copy_any H.c H.p (fun e=>H.n02 e.symm) ha).mono ?_;rintro e w5 ⟨rfl,r5,o5⟩;have H5:=H.put r5 o5;clear H;have H:=H5;clear H5 r5 o5)
  | (refine wpList_load_rc _ rfl (.tmp 3) rfl rfl H.c ?_)
  | (refine wpList_at (Op.store 54 (.tmp 2) (.tmp 69)) rfl ?_;refine wpList_put_rc (s':=copyS {kS s.kd with tx:=s.tx,pv:=s.pv} s) (I':=nilV) (T':=nilV) _ rfl (.tmp 2) (.tmp 69) rfl rfl rfl H.r rfl rfl ?_;intro w9 P9))
 obtain⟨g1,g2⟩:=H.ret P9
 refine bodyPost_ret (results_rc1 rfl _ _ rfl g1) rfl ?_
 exact⟨rfl,g2⟩
set_option maxHeartbeats 1000000 in
theorem clean_5 (hk:s.kd=5):Calls Tryz.prog 102 #[.agg (s.A I T)] w fun e w'=>e=.returned (.agg ((copyS {kS s.kd with tx:=s.tx,pv:=s.pv} s:Sc).A nilV nilV))/\Below w.heap.size w w':=by
 have e1:(s.kd==1)=false:=by rw[hk];rfl
 have e2:(s.kd==2)=false:=by rw[hk];rfl
 have e3:(s.kd==3)=false:=by rw[hk];rfl
 have e4:(s.kd==4)=false:=by rw[hk];rfl
 have e5:(s.kd==5)=true:=by rw[hk];rfl
 have ha:actOf s=actOf {kS s.kd with tx:=s.tx,pv:=s.pv}:=by simp[actOf,kS,hk]
 clear hk
 go_enter Tryz.func102,Tryz.ntmps102
 go_wp2_with (first
  | (refine wpList_box_rc (s:=s) (I:=_) (T:=_) _ rfl _ rfl rfl ?_;intro w0 b0 N0)
  | (have:=N1;refine wpList_new_rc _ rfl rfl ?_;intro w2 b2 N2;have k00:=((N0.rc.below N1.below).below N2.below).c0)
  | (refine wpList_new_rc _ rfl rfl ?_;intro w1 b1 N1;have k00:=(N0.rc.below N1.below).c0)
  | (refine wpList_at (Op.store 54 (.tmp 3) (.tmp 6)) rfl ?_;refine wpList_put_rc (s':=kS s.kd) (I':=nilV) (T':=nilV) _ rfl (.tmp 3) (.tmp 6) rfl rfl rfl N2.rc rfl rfl ?_;intro w3 P3;have H:=Cl3.mk' N0 N1 N2 P3;clear N0 N1 N2 P3 k00;have k00:=H.p.c0;have q0:=H.c.f;have p1:=H.p.c1;have c1:=H.c.c1;have p2:=H.p.c2;have c2:=H.c.c2)
  | (refine wpList_at (Op.store 3 (.tmp 26) (.tmp 23)) rfl ?_;refine wpList_fput (s':={kS s.kd with tx:=s.tx}) (I':=nilV) (T':=nilV) _ rfl 3 (.tmp 26) (.tmp 23) rfl rfl rfl H.c (by omega) rfl (by kernel_rfl) rfl ?_;intro w4 P4;have H4:=H.put P4.rc P4.off;clear H;have H:=H4;clear H4 P4)
  | (refine wpList_at (Op.store 3 (.tmp 27) (.tmp 25)) rfl ?_;refine wpList_fput (s':={kS s.kd with tx:=s.tx,pv:=s.pv}) (I':=nilV) (T':=nilV) _ rfl 3 (.tmp 27) (.tmp 25) rfl rfl rfl H.c (by omega) rfl (by kernel_rfl) rfl ?_;intro w4 P4;have H4:=H.put P4.rc P4.off;clear H;have H:=H4;clear H4 P4)
  | (go_at_call 130;refine(copy_any H.c H.p (fun e=>H.n02 e.symm) ha).mono ?_;rintro e w5 ⟨rfl,r5,o5⟩;have H5:=H.put r5 o5;clear H;have H:=H5;clear H5 r5 o5)
  | (refine wpList_load_rc _ rfl (.tmp 3) rfl rfl H.c ?_)
  | (refine wpList_at (Op.store 54 (.tmp 2) (.tmp 69)) rfl ?_;refine wpList_put_rc (s':=copyS {kS s.kd with tx:=s.tx,pv:=s.pv} s) (I':=nilV) (T':=nilV) _ rfl (.tmp 2) (.tmp 69) rfl rfl rfl H.r rfl rfl ?_;intro w9 P9))
 obtain⟨g1,g2⟩:=H.ret P9
 refine bodyPost_ret (results_rc1 rfl _ _ rfl g1) rfl ?_
 exact⟨rfl,g2⟩
set_option maxHeartbeats 1000000 in
theorem clean_6 (hk:s.kd=6):Calls Tryz.prog 102 #[.agg (s.A I T)] w fun e w'=>e=.returned (.agg ((copyS {kS s.kd with tx:=s.tx,pv:=s.pv,nx:=s.nx,ac:=s.ac} s:Sc).A nilV nilV))/\Below w.heap.size w w':=by
 have e1:(s.kd==1)=false:=by rw[hk];rfl
 have e2:(s.kd==2)=false:=by rw[hk];rfl
 have e3:(s.kd==3)=false:=by rw[hk];rfl
 have e4:(s.kd==4)=false:=by rw[hk];rfl
 have e5:(s.kd==5)=false:=by rw[hk];rfl
 have e6:(s.kd==6)=true:=by rw[hk];rfl
 have ha:actOf s=actOf {kS s.kd with tx:=s.tx,pv:=s.pv,nx:=s.nx,ac:=s.ac}:=by simp[actOf,kS,hk]
 clear hk
 go_enter Tryz.func102,Tryz.ntmps102
 go_wp2_with (first
  | (refine wpList_box_rc (s:=s) (I:=_) (T:=_) _ rfl _ rfl rfl ?_;intro w0 b0 N0)
  | (have:=N1;refine wpList_new_rc _ rfl rfl ?_;intro w2 b2 N2;have k00:=((N0.rc.below N1.below).below N2.below).c0)
  | (refine wpList_new_rc _ rfl rfl ?_;intro w1 b1 N1;have k00:=(N0.rc.below N1.below).c0)
  | (refine wpList_at (Op.store 54 (.tmp 3) (.tmp 6)) rfl ?_;refine wpList_put_rc (s':=kS s.kd) (I':=nilV) (T':=nilV) _ rfl (.tmp 3) (.tmp 6) rfl rfl rfl N2.rc rfl rfl ?_;intro w3 P3;have H:=Cl3.mk' N0 N1 N2 P3;clear N0 N1 N2 P3 k00;have k00:=H.p.c0;have q0:=H.c.f;have p1:=H.p.c1;have c1:=H.c.c1;have p2:=H.p.c2;have c2:=H.c.c2;have p4:=H.p.c4;have c4:=H.c.c4;have p8:=H.p.c8;have c8:=H.c.c8)
  | (refine wpList_at (Op.store 3 (.tmp 39) (.tmp 32)) rfl ?_;refine wpList_fput (s':={kS s.kd with tx:=s.tx}) (I':=nilV) (T':=nilV) _ rfl 3 (.tmp 39) (.tmp 32) rfl rfl rfl H.c (by omega) rfl (by kernel_rfl) rfl ?_;intro w4 P4;have H4:=H.put P4.rc P4.off;clear H;have H:=H4;clear H4 P4)
  | (refine wpList_at (Op.store 3 (.tmp 40) (.tmp 34)) rfl ?_;refine wpList_fput (s':={kS s.kd with tx:=s.tx,pv:=s.pv}) (I':=nilV) (T':=nilV) _ rfl 3 (.tmp 40) (.tmp 34) rfl rfl rfl H.c (by omega) rfl (by kernel_rfl) rfl ?_;intro w4 P4;have H4:=H.put P4.rc P4.off;clear H;have H:=H4;clear H4 P4)
  | (refine wpList_at (Op.store 3 (.tmp 41) (.tmp 36)) rfl ?_;refine wpList_fput (s':={kS s.kd with tx:=s.tx,pv:=s.pv,nx:=s.nx}) (I':=nilV) (T':=nilV) _ rfl 3 (.tmp 41) (.tmp 36) rfl rfl rfl H.c (by omega) rfl (by kernel_rfl) rfl ?_;intro w4 P4;have H4:=H.put P4.rc P4.off;clear H;have H:=H4;clear H4 P4)
  | (refine wpList_at (Op.store 3 (.tmp 42) (.tmp 38)) rfl ?_;refine wpList_fput (s':={kS s.kd with tx:=s.tx,pv:=s.pv,nx:=s.nx,ac:=s.ac}) (I':=nilV) (T':=nilV) _ rfl 3 (.tmp 42) (.tmp 38) rfl rfl rfl H.c (by omega) rfl (by kernel_rfl) rfl ?_;intro w4 P4;have H4:=H.put P4.rc P4.off;clear H;have H:=H4;clear H4 P4)
  | (go_at_call 130;refine(copy_any H.c H.p (fun e=>H.n02 e.symm) ha).mono ?_;rintro e w5 ⟨rfl,r5,o5⟩;have H5:=H.put r5 o5;clear H;have H:=H5;clear H5 r5 o5)
  | (refine wpList_load_rc _ rfl (.tmp 3) rfl rfl H.c ?_)
  | (refine wpList_at (Op.store 54 (.tmp 2) (.tmp 69)) rfl ?_;refine wpList_put_rc (s':=copyS {kS s.kd with tx:=s.tx,pv:=s.pv,nx:=s.nx,ac:=s.ac} s) (I':=nilV) (T':=nilV) _ rfl (.tmp 2) (.tmp 69) rfl rfl rfl H.r rfl rfl ?_;intro w9 P9))
 obtain⟨g1,g2⟩:=H.ret P9
 refine bodyPost_ret (results_rc1 rfl _ _ rfl g1) rfl ?_
 exact⟨rfl,g2⟩
theorem im_fits {n:Nat} (h:n*24<=140737488351232):∀ i,Tryz.prog.info? 266=some i->(0+n)*i.bytes<=140737488351232:=fun i hi=>by
 have:=(show(Tryz.prog.info? 266).map (fun i=>i.bytes)=some 24 by kernel_rfl)
 rw[hi] at this
 have e:i.bytes=24:=by simpa using this
 rw[e,Nat.zero_add];exact h
theorem tb_fits {n:Nat} (h:n*16<=140737488351232):∀ i,Tryz.prog.info? 40=some i->(0+n)*i.bytes<=140737488351232:=fun i hi=>by
 have:=(show(Tryz.prog.info? 40).map (fun i=>i.bytes)=some 16 by kernel_rfl)
 rw[hi] at this
 have e:i.bytes=16:=by simpa using this
 rw[e,Nat.zero_add];exact h
set_option maxHeartbeats 1000000 in
theorem clean_1 {l:List Im} (hk:s.kd=1) (hI:SlI w I l) (hl:l.length*24<=140737488351232):Calls Tryz.prog 102 #[.agg (s.A I T)] w fun e w'=>∃ J,e=.returned (.agg ((kS s.kd).A J nilV))/\SlI w' J l/\Below w.heap.size w w':=by
 obtain⟨a,c,rfl,hcs,hnil,hle,_⟩:=hI.ex
 have e1:(s.kd==1)=true:=by rw[hk];rfl
 clear hk hI
 go_enter Tryz.func102,Tryz.ntmps102
 go_wp2_with (first
  | (refine wpList_box_rc (s:=s) (I:=_) (T:=_) _ rfl _ rfl rfl ?_;intro w0 b0 N0)
  | (have:=N1;refine wpList_new_rc _ rfl rfl ?_;intro w2 b2 N2;have k00:=((N0.rc.below N1.below).below N2.below).c0)
  | (refine wpList_new_rc _ rfl rfl ?_;intro w1 b1 N1;have k00:=(N0.rc.below N1.below).c0)
  | (refine wpList_at (Op.store 54 (.tmp 3) (.tmp 6)) rfl ?_;refine wpList_put_rc (s':=kS s.kd) (I':=nilV) (T':=nilV) _ rfl (.tmp 3) (.tmp 6) rfl rfl rfl N2.rc rfl rfl ?_;intro w3 P3;have H:=Cl3.mk' N0 N1 N2 P3;clear N0 N1 N2 P3 k00;have k00:=H.p.c0;have q0:=H.c.f;have p9:=H.p.c9;have c9:=H.c.c9;unfold nilV at c9)
  | (have lb2:=H.c.lt;have lb1:=H.r.lt;refine wpList_append_ownB two_im (B:=_) rfl (.tmp 13) (.tmp 15) rfl rfl (n:=0) (xs:=[]) rfl (Own.nil _ _ _) (Nat.le_refl _) rfl (encI_length l) hnil (hcs.below H.bel) (encI_ones l) (im_fits hl) ?_;intro a4 cap4 w4 O4 B4;have H4:=H.below B4;clear H;have H:=H4;clear H4;have F:=O4.frI l;clear O4)
  | (refine wpList_at (Op.store 52 (.tmp 17) (.tmp 16)) rfl ?_;refine wpList_fput (s':=kS s.kd) (I':=.slice a4 l.length cap4) (T':=nilV) _ rfl 52 (.tmp 17) (.tmp 16) rfl rfl rfl H.c (by omega) rfl (by kernel_rfl) rfl ?_;intro w4 P4;have F4:=F.off P4.off lb2;clear F;have F:=F4;clear F4;have H4:=H.put P4.rc P4.off;clear H;have H:=H4;clear H4 P4)
  | (refine wpList_load_rc _ rfl (.tmp 3) rfl rfl H.c ?_)
  | (refine wpList_at (Op.store 54 (.tmp 2) (.tmp 69)) rfl ?_;refine wpList_put_rc (s':=kS s.kd) (I':=.slice a4 l.length cap4) (T':=nilV) _ rfl (.tmp 2) (.tmp 69) rfl rfl rfl H.r rfl rfl ?_;intro w9 P9))
 obtain⟨g1,g2⟩:=H.ret P9
 refine bodyPost_ret (results_rc1 rfl _ _ rfl g1) rfl ?_
 exact⟨_,rfl,(F.off P9.off lb1).slI,g2⟩
set_option maxHeartbeats 1000000 in
theorem clean_2 {l:List Im} (hk:s.kd=2) (hI:SlI w I l) (hl:l.length*24<=140737488351232):Calls Tryz.prog 102 #[.agg (s.A I T)] w fun e w'=>∃ J,e=.returned (.agg ((kS s.kd).A J nilV))/\SlI w' J l/\Below w.heap.size w w':=by
 obtain⟨a,c,rfl,hcs,hnil,hle,_⟩:=hI.ex
 have e1:(s.kd==1)=false:=by rw[hk];rfl
 have e2:(s.kd==2)=true:=by rw[hk];rfl
 clear hk hI
 go_enter Tryz.func102,Tryz.ntmps102
 go_wp2_with (first
  | (refine wpList_box_rc (s:=s) (I:=_) (T:=_) _ rfl _ rfl rfl ?_;intro w0 b0 N0)
  | (have:=N1;refine wpList_new_rc _ rfl rfl ?_;intro w2 b2 N2;have k00:=((N0.rc.below N1.below).below N2.below).c0)
  | (refine wpList_new_rc _ rfl rfl ?_;intro w1 b1 N1;have k00:=(N0.rc.below N1.below).c0)
  | (refine wpList_at (Op.store 54 (.tmp 3) (.tmp 6)) rfl ?_;refine wpList_put_rc (s':=kS s.kd) (I':=nilV) (T':=nilV) _ rfl (.tmp 3) (.tmp 6) rfl rfl rfl N2.rc rfl rfl ?_;intro w3 P3;have H:=Cl3.mk' N0 N1 N2 P3;clear N0 N1 N2 P3 k00;have k00:=H.p.c0;have q0:=H.c.f;have p9:=H.p.c9;have c9:=H.c.c9;unfold nilV at c9)
  | (have lb2:=H.c.lt;have lb1:=H.r.lt;refine wpList_append_ownB two_im (B:=_) rfl (.tmp 13) (.tmp 15) rfl rfl (n:=0) (xs:=[]) rfl (Own.nil _ _ _) (Nat.le_refl _) rfl (encI_length l) hnil (hcs.below H.bel) (encI_ones l) (im_fits hl) ?_;intro a4 cap4 w4 O4 B4;have H4:=H.below B4;clear H;have H:=H4;clear H4;have F:=O4.frI l;clear O4)
  | (refine wpList_at (Op.store 52 (.tmp 17) (.tmp 16)) rfl ?_;refine wpList_fput (s':=kS s.kd) (I':=.slice a4 l.length cap4) (T':=nilV) _ rfl 52 (.tmp 17) (.tmp 16) rfl rfl rfl H.c (by omega) rfl (by kernel_rfl) rfl ?_;intro w4 P4;have F4:=F.off P4.off lb2;clear F;have F:=F4;clear F4;have H4:=H.put P4.rc P4.off;clear H;have H:=H4;clear H4 P4)
  | (refine wpList_load_rc _ rfl (.tmp 3) rfl rfl H.c ?_)
  | (refine wpList_at (Op.store 54 (.tmp 2) (.tmp 69)) rfl ?_;refine wpList_put_rc (s':=kS s.kd) (I':=.slice a4 l.length cap4) (T':=nilV) _ rfl (.tmp 2) (.tmp 69) rfl rfl rfl H.r rfl rfl ?_;intro w9 P9))
 obtain⟨g1,g2⟩:=H.ret P9
 refine bodyPost_ret (results_rc1 rfl _ _ rfl g1) rfl ?_
 exact⟨_,rfl,(F.off P9.off lb1).slI,g2⟩
set_option maxHeartbeats 1000000 in
theorem clean_9 {l:List Tb} (hk:s.kd=9) (hI:SlT w T l) (hl:l.length*16<=140737488351232):Calls Tryz.prog 102 #[.agg (s.A I T)] w fun e w'=>∃ J,e=.returned (.agg ((kS s.kd).A nilV J))/\SlT w' J l/\Below w.heap.size w w':=by
 obtain⟨a,c,rfl,hcs,hnil,hle,_⟩:=hI.ex
 have e1:(s.kd==1)=false:=by rw[hk];rfl
 have e2:(s.kd==2)=false:=by rw[hk];rfl
 have e3:(s.kd==3)=false:=by rw[hk];rfl
 have e4:(s.kd==4)=false:=by rw[hk];rfl
 have e5:(s.kd==5)=false:=by rw[hk];rfl
 have e6:(s.kd==6)=false:=by rw[hk];rfl
 have e7:(s.kd==7)=false:=by rw[hk];rfl
 have e8:(s.kd==8)=false:=by rw[hk];rfl
 have e9:(s.kd==9)=true:=by rw[hk];rfl
 clear hk hI
 go_enter Tryz.func102,Tryz.ntmps102
 go_wp2_with (first
  | (refine wpList_box_rc (s:=s) (I:=_) (T:=_) _ rfl _ rfl rfl ?_;intro w0 b0 N0)
  | (have:=N1;refine wpList_new_rc _ rfl rfl ?_;intro w2 b2 N2;have k00:=((N0.rc.below N1.below).below N2.below).c0)
  | (refine wpList_new_rc _ rfl rfl ?_;intro w1 b1 N1;have k00:=(N0.rc.below N1.below).c0)
  | (refine wpList_at (Op.store 54 (.tmp 3) (.tmp 6)) rfl ?_;refine wpList_put_rc (s':=kS s.kd) (I':=nilV) (T':=nilV) _ rfl (.tmp 3) (.tmp 6) rfl rfl rfl N2.rc rfl rfl ?_;intro w3 P3;have H:=Cl3.mk' N0 N1 N2 P3;clear N0 N1 N2 P3 k00;have k00:=H.p.c0;have q0:=H.c.f;have p10:=H.p.c10;have c10:=H.c.c10;unfold nilV at c10)
  | (have lb2:=H.c.lt;have lb1:=H.r.lt;refine wpList_append_ownB two_tb (B:=_) rfl (.tmp 56) (.tmp 58) rfl rfl (n:=0) (xs:=[]) rfl (Own.nil _ _ _) (Nat.le_refl _) rfl (encT_length l) hnil (hcs.below H.bel) (encT_ones l) (tb_fits hl) ?_;intro a4 cap4 w4 O4 B4;have H4:=H.below B4;clear H;have H:=H4;clear H4;have F:=O4.frT l;clear O4)
  | (refine wpList_at (Op.store 35 (.tmp 60) (.tmp 59)) rfl ?_;refine wpList_fput (s':=kS s.kd) (I':=nilV) (T':=.slice a4 l.length cap4) _ rfl 35 (.tmp 60) (.tmp 59) rfl rfl rfl H.c (by omega) rfl (by kernel_rfl) rfl ?_;intro w4 P4;have F4:=F.off P4.off lb2;clear F;have F:=F4;clear F4;have H4:=H.put P4.rc P4.off;clear H;have H:=H4;clear H4 P4)
  | (refine wpList_load_rc _ rfl (.tmp 3) rfl rfl H.c ?_)
  | (refine wpList_at (Op.store 54 (.tmp 2) (.tmp 69)) rfl ?_;refine wpList_put_rc (s':=kS s.kd) (I':=nilV) (T':=.slice a4 l.length cap4) _ rfl (.tmp 2) (.tmp 69) rfl rfl rfl H.r rfl rfl ?_;intro w9 P9))
 obtain⟨g1,g2⟩:=H.ret P9
 refine bodyPost_ret (results_rc1 rfl _ _ rfl g1) rfl ?_
 exact⟨_,rfl,(F.off P9.off lb1).slT,g2⟩
end
theorem clean_any {w:World} {v:Value} {m:Rm} (h:RecV w v m) (hi:m.im.length*24<=140737488351232) (ht:m.tb.length*16<=140737488351232):Calls Tryz.prog 102 #[v] w fun e w'=>(∃ v',e=.returned v'/\RecV w' v' (cleanM m))/\Below w.heap.size w w':=by
 obtain⟨s,l,g⟩:=m
 obtain⟨I,T,rfl,hI,hT⟩:=h.ex
 dsimp only at hI hT hi ht
 by_cases h1:s.kd=1
 ·refine(clean_1 h1 hI hi).mono ?_
  rintro e w' ⟨J,rfl,hJ,hb⟩
  refine⟨⟨_,rfl,⟨J,nilV,?_,?_,?_⟩⟩,hb⟩
  ·simp[cleanM,cleanS,h1,kS,zS]
  ·simpa[cleanM,h1] using hJ
  ·simpa[cleanM,h1] using SlT.nil w'
 by_cases h2:s.kd=2
 ·refine(clean_2 h2 hI hi).mono ?_
  rintro e w' ⟨J,rfl,hJ,hb⟩
  refine⟨⟨_,rfl,⟨J,nilV,?_,?_,?_⟩⟩,hb⟩
  ·simp[cleanM,cleanS,h2,kS,zS]
  ·simpa[cleanM,h2] using hJ
  ·simpa[cleanM,h2] using SlT.nil w'
 by_cases h9:s.kd=9
 ·refine(clean_9 h9 hT ht).mono ?_
  rintro e w' ⟨J,rfl,hJ,hb⟩
  refine⟨⟨_,rfl,⟨nilV,J,?_,?_,?_⟩⟩,hb⟩
  ·simp[cleanM,cleanS,h9,kS,zS]
  ·simpa[cleanM,h9] using SlI.nil w'
  ·simpa[cleanM,h9] using hJ
 have fin:∀ (w':World) (c:Sc),cleanS s=c->RecV w' (.agg (c.A nilV nilV)) (cleanM ⟨s,l,g⟩):=fun w' c hc=>by
  refine⟨nilV,nilV,?_,?_,?_⟩
  ·simp[cleanM,hc]
  ·simpa[cleanM,h1,h2] using SlI.nil w'
  ·simpa[cleanM,h9] using SlT.nil w'
 by_cases h3:s.kd=3
 ·refine(clean_3 h3).mono ?_
  rintro e w' ⟨rfl,hb⟩
  exact⟨⟨_,rfl,fin w' _ (by simp[cleanS,h3,kS,zS,copyS,actOf])⟩,hb⟩
 by_cases h4:s.kd=4
 ·refine(clean_4 h4).mono ?_
  rintro e w' ⟨rfl,hb⟩
  exact⟨⟨_,rfl,fin w' _ (by simp[cleanS,h4,kS,zS,copyS,actOf])⟩,hb⟩
 by_cases h5:s.kd=5
 ·refine(clean_5 h5).mono ?_
  rintro e w' ⟨rfl,hb⟩
  exact⟨⟨_,rfl,fin w' _ (by simp[cleanS,h5,kS,zS,copyS,actOf])⟩,hb⟩
 by_cases h6:s.kd=6
 ·refine(clean_6 h6).mono ?_
  rintro e w' ⟨rfl,hb⟩
  exact⟨⟨_,rfl,fin w' _ (by simp[cleanS,h6,kS,zS,copyS,actOf])⟩,hb⟩
 by_cases h7:s.kd=7
 ·refine(clean_7 h7).mono ?_
  rintro e w' ⟨rfl,hb⟩
  exact⟨⟨_,rfl,fin w' _ (by simp[cleanS,h7,kS,zS])⟩,hb⟩
 by_cases h8:s.kd=8
 ·refine(clean_8 h8).mono ?_
  rintro e w' ⟨rfl,hb⟩
  exact⟨⟨_,rfl,fin w' _ (by simp[cleanS,h8,kS,zS])⟩,hb⟩
 by_cases h10:s.kd=10
 ·refine(clean_10 h10).mono ?_
  rintro e w' ⟨rfl,hb⟩
  exact⟨⟨_,rfl,fin w' _ (by simp[cleanS,h10,kS,zS])⟩,hb⟩
 ·refine(clean_o h1 h2 h3 h4 h5 h6 h7 h8 h9 h10).mono ?_
  rintro e w' ⟨rfl,hb⟩
  exact⟨⟨_,rfl,fin w' _ (by simp[cleanS,h1,h2,h3,h4,h5,h6,h7,h8,h9,h10,kS,zS])⟩,hb⟩
structure Small (m:Rm):Prop where
 im:m.im.length*24<=140737488351232
 tb:m.tb.length*16<=140737488351232
 t:∀ p∈m.im,p.2.size<=9223372036854775807
 ky:m.s.ky.size<=9223372036854775807
 ol:m.s.ol.size<=9223372036854775807
 nw:m.s.nw.size<=9223372036854775807
theorem Small.clean {m:Rm} (h:Small m):Small (cleanM m):=by
 obtain⟨s,l,g⟩:=m
 have h1:=h.im
 have h2:=h.tb
 have h3:=h.t
 have h4:=h.ky
 have h5:=h.ol
 have h6:=h.nw
 dsimp only at h1 h2 h3 h4 h5 h6
 have z:(⟨#[]⟩:ByteArray).size<=9223372036854775807:=Nat.zero_le _
 refine⟨?_,?_,?_,?_,?_,?_⟩
 ·unfold cleanM;dsimp only;split
  ·exact h1
  ·exact Nat.zero_le _
 ·unfold cleanM;dsimp only;split
  ·exact h2
  ·exact Nat.zero_le _
 ·unfold cleanM;dsimp only;split
  ·exact h3
  ·intro p hp;cases hp
 ·unfold cleanM cleanS;dsimp only;repeat' split
  all_goals assumption
 ·unfold cleanM cleanS;dsimp only;repeat' split
  all_goals assumption
 ·unfold cleanM cleanS;dsimp only;repeat' split
  all_goals assumption
structure Fine (m:Rm):Prop where
 k1:1<=m.s.kd
 k2:m.s.kd<=10
 f:formed m=true
 ky:m.s.ky.size<=16
 ol:m.s.ol.size<=32
 nw:m.s.nw.size<=32
theorem fine_of {m:Rm} (h:refM m=0):Fine m:=by
 unfold refM at h
 split at h
 ·cases h
 ·split at h
  ·cases h
  ·split at h
   ·cases h
   ·split at h
    ·cases h
    ·rename_i h1 h2 h3 h4
     exact⟨by omega,by omega,by simpa using h2,by omega,by omega,by omega⟩
theorem Fine.whole {m:Rm} (h:Fine m) (hk:m.s.kd=1∨m.s.kd=2):whole m.im=true:=by
 have f:=h.f
 unfold formed at f
 rcases hk with hk |hk
 ·rw[if_pos hk] at f
  simpa using (by simpa using f:m.im.length=1/\Go.Proofs.YtdchjncnjgelhaaGreat.whole m.im=true).2
 ·rw[if_neg (by omega),if_pos hk] at f
  exact f
theorem Fine.texts {m:Rm} (h:Fine m) (hk:m.s.kd=1∨m.s.kd=2):∀ p∈m.im,p.2.size<=1000:=by
 have f:=h.whole hk
 intro p hp
 have:=(List.all_eq_true.1 f) p hp
 simp at this
 omega
theorem laid_any {w:World} {v:Value} {m:Rm} (h:RecV w v m) (hs:Small m) (hf:Fine m):Calls Tryz.prog 129 #[v] w fun r w'=>r=.returned (.tuple #[.string (laidM m).1,.int .i64 (laidM m).2])/\Below w.heap.size w w':=by
 obtain⟨I,T,rfl,hI,hT⟩:=h.ex
 have hk1:=hf.k1
 have hk2:=hf.k2
 have hy:=hf.ky
 have ho:=hf.ol
 have hw:=hf.nw
 have hx:=hf.texts
 obtain⟨s,l,g⟩:=m
 have hl:=hs.im
 have hg:=hs.tb
 dsimp only at *
 have hl2:l.length<=10000000000000:=by omega
 have hg2:g.length<=10000000000000:=by omega
 have hk:s.kd=1∨s.kd=2∨s.kd=3∨s.kd=4∨s.kd=5∨s.kd=6∨s.kd=7∨s.kd=8∨s.kd=9∨s.kd=10:=by omega
 unfold laidM laidF
 dsimp only
 rcases hk with hk |hk |hk |hk |hk |hk |hk |hk |hk |hk
 ·obtain⟨a,c,rfl,hcs,_⟩:=hI.ex
  rw[if_pos (by omega)]
  exact laid_1 hk hl2 hcs (hx (by omega))
 ·obtain⟨a,c,rfl,hcs,_⟩:=hI.ex
  rw[if_pos (by omega)]
  exact laid_2 hk hl2 hcs (hx (by omega))
 ·rw[if_neg (by omega),if_pos (by omega)]
  exact laid_3 hk (by omega) (by omega) (by omega)
 ·rw[if_neg (by omega),if_pos (by omega)]
  exact laid_4 hk (by omega) (by omega) (by omega)
 ·rw[if_neg (by omega),if_pos (by omega)]
  exact laid_5 hk (by omega) (by omega) (by omega)
 ·rw[if_neg (by omega),if_neg (by omega),if_pos (by omega)]
  exact laid_6 hk (by omega) (by omega) (by omega)
 ·rw[if_neg (by omega),if_neg (by omega),if_neg (by omega),if_pos (by omega)]
  exact laid_7 hk
 ·rw[if_neg (by omega),if_neg (by omega),if_neg (by omega),if_pos (by omega)]
  exact laid_8 hk
 ·obtain⟨a,c,rfl,hcs,_⟩:=hT.ex
  rw[if_neg (by omega),if_neg (by omega),if_neg (by omega),if_neg (by omega),if_pos (by omega)]
  exact laid_9 hk hg2 hcs
 ·rw[if_neg (by omega),if_neg (by omega),if_neg (by omega),if_neg (by omega),if_neg (by omega),if_pos (by omega)]
  exact laid_10 hk
theorem laidM_size {m:Rm} (hs:Small m):(laidM m).1.size<=100000000:=by
 have hl:=hs.im
 have hg:=hs.tb
 have z0:((⟨#[]⟩:ByteArray),(0:Int)).1.size=0:=rfl
 have z1:=stepW_size (⟨#[]⟩,0) m.s.kd 1
 unfold laidM laidF
 dsimp only
 repeat' split
 ·have z2:=stepW_size (stepW (⟨#[]⟩,0) m.s.kd 1) m.im.length 1
  rcases Nat.lt_or_ge 255 m.im.length with h2 |h2
  ·obtain⟨q1,q2⟩:=many_err (bare0.stepW m.s.kd 1) h2
   rw[layI_err q1,q2];omega
  ·have z3:=layI_size m.im (stepW (stepW (⟨#[]⟩,0) m.s.kd 1) m.im.length 1)
   omega
 ·have z2:=layP_size [m.s.tx,m.s.pv] (stepW (⟨#[]⟩,0) m.s.kd 1)
  have z3:=layC_size m.s (layP [m.s.tx,m.s.pv] (stepW (⟨#[]⟩,0) m.s.kd 1))
  simp only[List.length_cons,List.length_nil] at z2
  omega
 ·have z2:=layP_size [m.s.tx,m.s.pv,m.s.nx] (stepW (⟨#[]⟩,0) m.s.kd 1)
  have z4:=stepW_size (layP [m.s.tx,m.s.pv,m.s.nx] (stepW (⟨#[]⟩,0) m.s.kd 1)) m.s.ac 1
  have z3:=layC_size m.s (stepW (layP [m.s.tx,m.s.pv,m.s.nx] (stepW (⟨#[]⟩,0) m.s.kd 1)) m.s.ac 1)
  simp only[List.length_cons,List.length_nil] at z2
  omega
 ·have z2:=layP_size [m.s.tx,m.s.pv] (stepW (⟨#[]⟩,0) m.s.kd 1)
  simp only[List.length_cons,List.length_nil] at z2
  omega
 ·have z2:=stepW_size (stepW (⟨#[]⟩,0) m.s.kd 1) m.tb.length 1
  rcases Nat.lt_or_ge 255 m.tb.length with h2 |h2
  ·obtain⟨q1,q2⟩:=many_err (bare0.stepW m.s.kd 1) h2
   rw[layB_err q1,q2];omega
  ·have z3:=layB_size m.tb (stepW (stepW (⟨#[]⟩,0) m.s.kd 1) m.tb.length 1)
   omega
 ·have z2:=stepW_size (stepW (⟨#[]⟩,0) m.s.kd 1) m.s.ep 4
  have z3:=stepW_size (stepW (stepW (⟨#[]⟩,0) m.s.kd 1) m.s.ep 4) m.s.nd 1
  omega
 ·omega
set_option maxHeartbeats 1000000 in
theorem body_any {w:World} {v:Value} {m:Rm} (h:RecV w v m) (hs:Small m):Calls Tryz.prog 101 #[v] w fun r w'=>r=.returned (.tuple #[.string (bodyM m).1,.int .i64 (bodyM m).2])/\Below w.heap.size w w':=by
 have hv:=h
 obtain⟨I,T,rfl,hI,hT⟩:=h.ex
 have CR:Hid (∀ w',Below w.heap.size w w'->Calls Tryz.prog 128 #[.agg (m.s.A I T)] w' fun r w''=>r=.returned (.int .i64 (refM m))/\Below w'.heap.size w' w''):=fun w' hb=>by
  obtain⟨a,c,rfl,hcs,_⟩:=hI.ex
  exact refusalR_any (g:=m.tb) (by have:=hs.im;omega) (hcs.below hb) hs.t hs.ky hs.ol hs.nw
 by_cases hr:refM m=0
 ·have CL:Hid (∀ w',Below w.heap.size w w'->Calls Tryz.prog 129 #[.agg (m.s.A I T)] w' fun r w''=>r=.returned (.tuple #[.string (laidM m).1,.int .i64 (laidM m).2])/\Below w'.heap.size w' w''):=fun w' hb=>laid_any (hv.below hb) hs (fine_of hr)
  have hz:=laidM_size hs
  by_cases he:(laidM m).2=0
  ·by_cases hl:4096<(laidM m).1.size
   ·rw[bodyM_long hr he hl]
    rw[hr] at CR
    rw[he] at CL
    generalize (laidM m).1=Z at *
    clear hr he hv h hI hT hs
    go_enter Tryz.func101,Tryz.ntmps101
    go_wp2_with (first
     | (refine wpList_box_rc (s:=m.s) (I:=I) (T:=T) _ rfl _ rfl rfl ?_;intro w0 b0 N0;have R:=N0.rc)
     | (refine wpList_load_rc _ rfl _ rfl rfl R ?_)
     | (go_at_call 128;refine(CR.out _ N0.below).mono ?_;rintro e w1 ⟨rfl,b1⟩;have R1:=R.below b1;clear R;have R:=R1;clear R1)
     | (go_at_call 129;refine(CL.out _ (thn N0.below b1)).mono ?_;rintro e w2 ⟨rfl,b2⟩))
    go_ret2
    exact⟨rfl,thn (thn N0.below b1) b2⟩
   ·rw[bodyM_good hr he hl]
    rw[hr] at CR
    rw[he] at CL
    generalize (laidM m).1=Z at *
    clear hr he hv h hI hT hs
    go_enter Tryz.func101,Tryz.ntmps101
    go_wp2_with (first
     | (refine wpList_box_rc (s:=m.s) (I:=I) (T:=T) _ rfl _ rfl rfl ?_;intro w0 b0 N0;have R:=N0.rc)
     | (refine wpList_load_rc _ rfl _ rfl rfl R ?_)
     | (go_at_call 128;refine(CR.out _ N0.below).mono ?_;rintro e w1 ⟨rfl,b1⟩;have R1:=R.below b1;clear R;have R:=R1;clear R1)
     | (go_at_call 129;refine(CL.out _ (thn N0.below b1)).mono ?_;rintro e w2 ⟨rfl,b2⟩))
    go_ret2
    exact⟨rfl,thn (thn N0.below b1) b2⟩
  ·rw[bodyM_err hr he]
   rw[hr] at CR
   generalize (laidM m).1=Z at *
   generalize (laidM m).2=E at *
   have he':(E !=0)=true:=by simpa using he
   clear hr he hv h hI hT hs
   go_enter Tryz.func101,Tryz.ntmps101
   go_wp2_with (first
    | (refine wpList_box_rc (s:=m.s) (I:=I) (T:=T) _ rfl _ rfl rfl ?_;intro w0 b0 N0;have R:=N0.rc)
    | (refine wpList_load_rc _ rfl _ rfl rfl R ?_)
    | (go_at_call 128;refine(CR.out _ N0.below).mono ?_;rintro e w1 ⟨rfl,b1⟩;have R1:=R.below b1;clear R;have R:=R1;clear R1)
    | (go_at_call 129;refine(CL.out _ (thn N0.below b1)).mono ?_;rintro e w2 ⟨rfl,b2⟩))
   go_ret2
   exact⟨rfl,thn (thn N0.below b1) b2⟩
 ·rw[bodyM_ref hr]
  generalize refM m=E at *
  have he':(E !=0)=true:=by simpa using hr
  clear hr hv h hI hT hs
  go_enter Tryz.func101,Tryz.ntmps101
  go_wp2_with (first
   | (refine wpList_box_rc (s:=m.s) (I:=I) (T:=T) _ rfl _ rfl rfl ?_;intro w0 b0 N0;have R:=N0.rc)
   | (refine wpList_load_rc _ rfl _ rfl rfl R ?_)
   | (go_at_call 128;refine(CR.out _ N0.below).mono ?_;rintro e w1 ⟨rfl,b1⟩))
  go_ret2
  exact⟨rfl,thn N0.below b1⟩
def frameB (t:ByteArray):ByteArray:=Pk.beS t.size 2++Sm.sealV t
def frameM (m:Rm):ByteArray × Int:=if(bodyM (cleanM m)).2≠0 then(⟨#[]⟩,(bodyM (cleanM m)).2) else(frameB (bodyM (cleanM m)).1,0)
theorem put_len (t:ByteArray) (h:t.size<=4096) (w:World):Calls Tryz.prog 103 #[.string ⟨#[]⟩,.int .i64 (t.size:Int),.int .i64 2] w fun e w'=>e=.returned (.tuple #[.string (Pk.beS t.size 2),.int .i64 0])/\Below w.heap.size w w':=by
 have:=Pk.Put_any ⟨#[]⟩ (t.size:Int) 2 w (Nat.zero_le _)
 rw[Pk.putV_fits (by omega) (by rw[Pk.limI_2];omega)] at this
 dsimp only at this
 rw[Sm.nil_append] at this
 exact this
theorem sealV_size (t:ByteArray):(Sm.sealV t).size=4+t.size:=by unfold Sm.sealV;rw[ByteArray.size_append,Pk.beS_size]
theorem frameB_size (t:ByteArray):(frameB t).size=6+t.size:=by unfold frameB;rw[ByteArray.size_append,Pk.beS_size,sealV_size];omega
set_option maxHeartbeats 1000000 in
theorem Frame_any {w:World} {v:Value} {m:Rm} (h:RecV w v m) (hs:Small m):Calls Tryz.prog 71 #[v] w fun r w'=>r=.returned (.tuple #[.string (frameM m).1,.int .i64 (frameM m).2])/\Below w.heap.size w w':=by
 have hv:=h
 obtain⟨I,T,rfl,hI,hT⟩:=h.ex
 have CC:Hid (∀ w',Below w.heap.size w w'->Calls Tryz.prog 102 #[.agg (m.s.A I T)] w' fun e w''=>(∃ v',e=.returned v'/\RecV w'' v' (cleanM m))/\Below w'.heap.size w' w''):=fun w' hb=>clean_any (hv.below hb) hs.im hs.tb
 have CB:Hid (∀ w' v',RecV w' v' (cleanM m)->Calls Tryz.prog 101 #[v'] w' fun r w''=>r=.returned (.tuple #[.string (bodyM (cleanM m)).1,.int .i64 (bodyM (cleanM m)).2])/\Below w'.heap.size w' w''):=fun w' v' h'=>body_any h' hs.clean
 have hz:=bodyM_size (cleanM m)
 unfold frameM
 by_cases he:(bodyM (cleanM m)).2=0
 ·rw[if_neg (by simpa using he)]
  rw[he] at CB
  generalize (bodyM (cleanM m)).1=Z at *
  have CP:Hid (∀ w,Calls Tryz.prog 103 #[.string ⟨#[]⟩,.int .i64 (Z.size:Int),.int .i64 2] w fun e w'=>e=.returned (.tuple #[.string (Pk.beS Z.size 2),.int .i64 0])/\Below w.heap.size w w'):=fun w=>put_len Z hz w
  have CS:Hid (∀ w,Calls Tryz.prog 104 #[.string Z] w fun e w'=>e=.returned (.string (Sm.sealV Z))/\Below w.heap.size w w'):=fun w=>Sm.Seal_any Z w (by omega)
  have HF:Hid (frameB Z=Pk.beS Z.size 2++Sm.sealV Z):=by rfl
  have z1:(Pk.beS Z.size 2).size<=6:=by rw[Pk.beS_size];omega
  have z2:(Sm.sealV Z).size<=5000:=by rw[sealV_size];omega
  generalize frameB Z=F at *
  generalize Pk.beS Z.size 2=L at *
  generalize Sm.sealV Z=SZ at *
  clear he hv h hI hT hs
  go_enter Tryz.func71,Tryz.ntmps71
  go_wp2_with (first
   | (refine wpList_box_rc (s:=m.s) (I:=I) (T:=T) _ rfl _ rfl rfl ?_;intro w0 b0 N0)
   | (refine wpList_load_rc _ rfl _ rfl rfl N0.rc ?_)
   | (go_at_call 102;refine(CC.out _ N0.below).mono ?_;rintro e w1 ⟨⟨v',rfl,h1⟩,b1⟩)
   | (go_at_call 101;refine(CB.out _ _ h1).mono ?_;rintro e w2 ⟨rfl,b2⟩)
   | (go_at_call 103;refine(CP.out _).mono ?_;rintro e w3 ⟨rfl,b3⟩)
   | (go_at_call 104;refine(CS.out _).mono ?_;rintro e w4 ⟨rfl,b4⟩))
  go_ret2
  rw[HF.out]
  exact⟨rfl,thn (thn (thn (thn N0.below b1) b2) b3) b4⟩
 ·rw[if_pos he]
  generalize (bodyM (cleanM m)).1=Z at *
  generalize (bodyM (cleanM m)).2=E at *
  have he':(E !=0)=true:=by simpa using he
  clear he hv h hI hT hs
  go_enter Tryz.func71,Tryz.ntmps71
  go_wp2_with (first
   | (refine wpList_box_rc (s:=m.s) (I:=I) (T:=T) _ rfl _ rfl rfl ?_;intro w0 b0 N0)
   | (refine wpList_load_rc _ rfl _ rfl rfl N0.rc ?_)
   | (go_at_call 102;refine(CC.out _ N0.below).mono ?_;rintro e w1 ⟨⟨v',rfl,h1⟩,b1⟩)
   | (go_at_call 101;refine(CB.out _ _ h1).mono ?_;rintro e w2 ⟨rfl,b2⟩))
  go_ret2
  exact⟨rfl,thn (thn N0.below b1) b2⟩
structure Held (m:Rm):Prop where
 im:m.im.length<=9223372036854775807
 tb:m.tb.length<=9223372036854775807
 t:∀ p∈m.im,p.2.size<=9223372036854775807
 ky:m.s.ky.size<=9223372036854775807
 ol:m.s.ol.size<=9223372036854775807
 nw:m.s.nw.size<=9223372036854775807
open Go.RowKit Go.Maps Go.ChangeMaps
structure Off (B:Nat->Prop) (w w':World):Prop where
 os:w'.os=w.os
 tape:w'.tape=w.tape
 output:w'.output=w.output
 size:w.heap.size<=w'.heap.size
 block:∀ k,k<w.heap.size->¬ B k->w'.heap[k]?=w.heap[k]?
theorem Off.refl (B:Nat->Prop) (w:World):Off B w w:=⟨rfl,rfl,rfl,Nat.le_refl _,fun _ _ _=>rfl⟩
theorem Off.trans {B:Nat->Prop} {a b c:World} (h:Off B a b) (k:Off B b c):Off B a c :=
 ⟨k.os.trans h.os,k.tape.trans h.tape,k.output.trans h.output,Nat.le_trans h.size k.size,fun i hi hn=>(k.block i (Nat.lt_of_lt_of_le hi h.size) hn).trans (h.block i hi hn)⟩
theorem Off.of_below {B:Nat->Prop} {w w':World} (h:Below w.heap.size w w'):Off B w w':=⟨h.os,h.tape,h.output,h.size,fun k hk _=>h.block k hk⟩
theorem Off.below {B:Nat->Prop} {b:Nat} {w w':World} (h:Off B w w') (hb:∀ k,B k->b<=k) (hB:b<=w.heap.size):Below b w w' :=
 ⟨h.os,h.tape,h.output,h.size,fun k hk=>h.block k (Nat.lt_of_lt_of_le hk hB) (fun x=>by have:=hb k x;omega)⟩
theorem Off.alloc {B:Nat->Prop} {a w:World} (h:Off B a w) (o:Obj):Off B a (w.alloc o) :=
 h.trans (Off.of_below ((Below.refl _ _).alloc (Nat.le_refl _) o))
theorem Off.drew {B:Nat->Prop} {a w:World} (h:Off B a w):Off B a w.drew:=⟨h.os,h.tape,h.output,h.size,h.block⟩
theorem Off.setCell {B:Nat->Prop} {a w:World} (h:Off B a w) {b:Nat} (hb:B b) (i:Nat) (v:Value):Off B a (w.setCell ⟨b,i,none⟩ v):=by
 refine h.trans ⟨rfl,rfl,rfl,?_,fun k _ hk=>Below.heap_setCell w _ v k (fun e=>hk (by rw[e];exact hb))⟩
 simp[go_sem]
theorem setCells_facts (b:Nat):∀ (vs:List Value) (o:Nat) (w:World),(w.setCells b o vs).os=w.os/\(w.setCells b o vs).tape=w.tape/\(w.setCells b o vs).output=w.output/\(w.setCells b o vs).heap.size=w.heap.size/\∀ k,k≠b->(w.setCells b o vs).heap[k]?=w.heap[k]?
 | [],_,_=>⟨rfl,rfl,rfl,rfl,fun _ _=>rfl⟩
 | v :: r,o,w=>by
  obtain⟨h1,h2,h3,h4,h5⟩:=setCells_facts b r (o+1) (w.setCell ⟨b,o,none⟩ v)
  rw[World.setCells]
  refine⟨h1.trans rfl,h2.trans rfl,h3.trans rfl,h4.trans (by simp[go_sem]),fun k hk=>(h5 k hk).trans (Below.heap_setCell w _ v k hk)⟩
theorem Off.setCells {B:Nat->Prop} {a w:World} (h:Off B a w) {b:Nat} (hb:B b) (o:Nat) (vs:List Value):Off B a (w.setCells b o vs):=by
 obtain⟨h1,h2,h3,h4,h5⟩:=setCells_facts b vs o w
 exact h.trans ⟨h1,h2,h3,by rw[h4];exact Nat.le_refl _,fun k _ hk=>h5 k (fun e=>hk (by rw[e];exact hb))⟩
theorem Off.grown {B:Nat->Prop} {a w w':World} {row:Option Nat} (h:Off B a w) (hg:w.grownBy w' row) (hr:∀ k,row=some k->k<a.heap.size->B k):Off B a w' :=
 ⟨hg.os.trans h.os,hg.tape.trans h.tape,hg.output.trans h.output,Nat.le_trans h.size hg.size,fun k hk hn=>(hg.block k (Nat.lt_of_lt_of_le hk h.size) (fun e=>hn (hr k e.symm hk))).trans (h.block k hk hn)⟩
theorem Off.cell {B:Nat->Prop} {w w':World} (h:Off B w w') {p:Addr} (hp:p.block<w.heap.size) (hn:¬ B p.block):w'.cell? p=w.cell? p:=World.cell?_of_block (h.block _ hp hn)
def secL (c:ByteArray):List Value:=Lib.byteCells c.data.toList
def secV (c:ByteArray):Value:=.agg (secL c).toArray
theorem secL_length (c:ByteArray):(secL c).length=c.size:=by rw[secL,Lib.byteCells_length];rfl
theorem secL_one (c:ByteArray):∀ v∈secL c,v.oneCell'=true:=Lib.byteCells_one _
theorem secL_get (c:ByteArray) (j:Nat) (hj:j<c.size):(secL c)[j]?=some (.int .u8 (c[j]).toNat):=by
 simp only[secL,Lib.byteCells,List.getElem?_map,Array.getElem?_toList]
 rw[Array.getElem?_eq_getElem (by exact hj)]
 rfl
def zs64:ByteArray:=⟨Array.replicate 64 0⟩
theorem zs64_size:zs64.size=64:=by simp[zs64,ByteArray.size]
theorem zero64 (w:World):(zeroValue 177).run Tryz.prog w=.ok (secV zs64) w:=by kernel_rfl
theorem info64:(Tryz.prog.info? 177).map (·.size)=some 64:=by kernel_rfl
theorem row64:Tryz.prog.underlying 177=some (.array 64 5):=by kernel_rfl
def secD:Value->DataW Unit
 | .int q a=>.lit (.int q a)
 | _=>.lit (.bool false)
def secR:Value->Option (DataW Unit × List MemPlace)
 | .agg cs=>some (.agg (cs.toList.map secD),[])
 | _=>none
def secDat (c:ByteArray):DataW Unit:=.agg ((secL c).map secD)
theorem secR_sec (c:ByteArray):secR (secV c)=some (secDat c,[]):=by simp[secR,secV,secDat]
theorem secD_inj:∀ (cs:List Value) (l:List UInt8),cs.map secD=(Lib.byteCells l).map secD->cs=Lib.byteCells l
 | [],[],_=>rfl
 | [],_ :: _,h=>by simp[Lib.byteCells] at h
 | _ :: _,[],h=>by simp[Lib.byteCells] at h
 | v :: cs,x :: l,h=>by
  simp only[Lib.byteCells,List.map_cons,List.cons.injEq] at h ⊢
  obtain⟨h1,h2⟩:=h
  refine⟨?_,secD_inj cs l h2⟩
  cases v <;> simp_all [secD]
theorem secR_inv {v:Value} {c:ByteArray} {ps:List MemPlace} (h:secR v=some (secDat c,ps)):v=secV c:=by
 cases v <;> simp[secR] at h
 rename_i cs
 obtain⟨h1,_⟩:=h
 simp only[secDat,DataW.agg.injEq] at h1
 have:=secD_inj cs.toList c.data.toList h1
 rw[secV,secL,← this]
theorem secR_agg {v:Value} {y:DataW Unit × List MemPlace} (h:secR v=some y):∃ cs:Array Value,v=.agg cs:=by
 cases v <;> simp[secR] at h
 exact⟨_,rfl⟩
structure MapV (D:DataW Unit) (f:Nat->Option ByteArray):Prop where
 has:∀ i:Nat,Maps.has D (.int .i64 (i:Int))=(f i).isSome
 at_:∀ (i:Nat) c,f i=some c->∀ z,D.atKey (.int .i64 (i:Int)) z=secDat c
 keys:∀ kl,Maps.has D kl=true->∃ i:Nat,kl=.int .i64 (i:Int)
def upd {α:Type} (f:Nat->α) (i:Nat) (x:α):Nat->α:=fun j=>if j=i then x else f j
theorem upd_same {α:Type} (f:Nat->α) (i:Nat) (x:α):upd f i x i=x:=by simp[upd]
theorem upd_other {α:Type} (f:Nat->α) {i j:Nat} (x:α) (h:j≠i):upd f i x j=f j:=by simp[upd,h]
theorem MapV.empty:MapV (.map []) (fun _=>none):=⟨fun i=>rfl,fun i c h=>(by cases h),fun kl h=>(by cases h)⟩
theorem key_ne {i j:Nat} (h:j≠i):(Lit.int .i64 (j:Int))≠.int .i64 (i:Int):=fun e=>by
 simp only[Lit.int.injEq,true_and] at e
 omega
theorem MapV.put {D:DataW Unit} {f:Nat->Option ByteArray} (h:MapV D f) (hD:IsMap D) (i:Nat) (c:ByteArray):MapV (D.put (.int .i64 (i:Int)) (secDat c)) (upd f i (some c)):=by
 refine⟨fun j=>?_,fun j c' hj z=>?_,fun kl hk=>?_⟩
 ·by_cases e:j=i
  ·subst e;rw[upd_same,has_put_same hD (show WideAt.IsKeyLit (.int .i64 (j:Int)) from trivial)];rfl
  ·rw[upd_other _ _ e,has_put_other (key_ne e),h.has]
 ·by_cases e:j=i
  ·subst e;rw[upd_same] at hj;cases hj;rw[atKey_put_same hD (show WideAt.IsKeyLit (.int .i64 (j:Int)) from trivial)]
  ·rw[upd_other _ _ e] at hj;rw[atKey_put_other (key_ne e)];exact h.at_ j c' hj z
 ·by_cases e:kl=.int .i64 (i:Int)
  ·exact⟨i,e⟩
  ·rw[has_put_other e] at hk;exact h.keys kl hk
theorem law3:Keyed Tryz.prog 3:=int_keyed Tryz.underlying3
theorem under51:Tryz.prog.underlying 76=some (.map 3 177):=Tryz.underlying76
def MapIs (w:World) (b m:Nat) (f:Nat->Option ByteArray):Prop:=∃ D,w.ownsMap Tryz.prog 3 secR b m D/\MapV D f
theorem wfI {i:Nat} (h:i<8192):(Lit.int .i64 (i:Int)).wf=true:=WalkArith.wf_i64 (by omega)
theorem MapIs.lt {w:World} {b m:Nat} {f:Nat->Option ByteArray} (h:MapIs w b m f):b<w.heap.size:=by obtain⟨D,h,_⟩:=h;exact h.lt
theorem MapIs.of_block {w w':World} {b m:Nat} {f:Nat->Option ByteArray} (h:MapIs w b m f) (hb:w'.heap[b]?=w.heap[b]?):MapIs w' b m f:=by
 obtain⟨D,⟨es,cl,h1,h2,h3,h4⟩,hv⟩:=h
 exact⟨D,⟨es,cl,hb.trans h1,h2,h3,h4⟩,hv⟩
theorem MapIs.mono {w:World} {b m m':Nat} {f:Nat->Option ByteArray} (h:MapIs w b m f) (hm:m<=m'):MapIs w b m' f:=by
 obtain⟨D,h,hv⟩:=h;exact⟨D,h.mono hm,hv⟩
theorem MapIs.made (w:World):MapIs (w.alloc (.map #[] 0)) w.heap.size 0 (fun _=>none):=⟨_,World.ownsMap_made _ _ _ _,MapV.empty⟩
theorem MapIs.look {w:World} {b m:Nat} {f:Nat->Option ByteArray} (h:MapIs w b m f) {i:Nat} (hi:i<8192) :
  (Instr.lookup 76 (.map (some b)) (.int .i64 (i:Int)) true).run Tryz.prog w=.ok (.tuple #[secV ((f i).getD zs64),.bool (f i).isSome]) w:=by
 obtain⟨D,h,hv⟩:=h
 obtain⟨v,ps,hrun,hR⟩:=h.look_ok law3 under51 (zero64 w) (secR_sec zs64) (keyOf_int_mk Tryz.underlying3 (wfI hi))
 rw[hrun,hv.has]
 cases hf:f i with
 | none =>
  rw[atKey_of_not_has (by rw[hv.has,hf];rfl)] at hR
  rw[secR_inv hR];rfl
 | some c =>
  rw[hv.at_ i c hf] at hR
  rw[secR_inv hR];rfl
theorem MapIs.look1 {w:World} {b m:Nat} {f:Nat->Option ByteArray} (h:MapIs w b m f) {i:Nat} (hi:i<8192) {c:ByteArray} (hc:f i=some c) :
  (Instr.lookup 76 (.map (some b)) (.int .i64 (i:Int)) false).run Tryz.prog w=.ok (secV c) w:=by
 obtain⟨D,h,hv⟩:=h
 obtain⟨v,ps,hrun,hR⟩:=h.lookup law3 under51 (zero64 w) (secR_sec zs64) (keyOf_int_mk Tryz.underlying3 (wfI hi))
 rw[hv.at_ i c hc] at hR
 rw[hrun,secR_inv hR]
theorem MapIs.store {w:World} {b m:Nat} {f:Nat->Option ByteArray} (h:MapIs w b m f) {i:Nat} (hi:i<8192) (hm:m<10000000000000) (c:ByteArray) :
  ∃ w',(Instr.mapUpdate 76 (.map (some b)) (.int .i64 (i:Int)) (secV c)).run Tryz.prog w=.ok () w'/\MapIs w' b (m+1) (upd f i (some c))/\w.mapTurned w' b:=by
 obtain⟨D,h,hv⟩:=h
 obtain⟨w',h1,h2,h3⟩:=h.store law3 under51 (by unfold maxLen;omega) (keyOf_int_mk Tryz.underlying3 (wfI hi)) (secR_sec c)
 exact⟨w',h1,⟨_,h2,hv.put h.isMap i c⟩,h3⟩
theorem MapIs.clear {w:World} {b m:Nat} {f:Nat->Option ByteArray} (h:MapIs w b m f) :
  ∃ w',(∀ ty,(Builtin.clear_ #[76] ty #[.map (some b)]).run Tryz.prog w=.ok (.tuple #[]) w')/\MapIs w' b 0 (fun _=>none)/\w.mapTurned w' b:=by
 obtain⟨D,⟨es,cl,h1,h2,h3,h4⟩,hv⟩:=h
 refine⟨setBlock w b (.map #[] cl),fun ty=>?_,⟨.map [],⟨#[],cl,heap_setBlock_same h1 _,⟨by simp,⟨by simp,by simp⟩,by simp⟩,by simp,by simp⟩,MapV.empty⟩,⟨es,cl,#[],cl,h1,rfl⟩⟩
 have hs:(setObj b (.map #[] cl)).run Tryz.prog w=.ok () (setBlock w b (.map #[] cl)):=by
  exact MapKept.run_setObj_map _ h1
 simp[Builtin.clear_,run_underlying under51,MapKept.run_getObj_map h1,hs,Result.andThen]
theorem Off.turned {B:Nat->Prop} {a w w':World} {b:Nat} (h:Off B a w) (ht:w.mapTurned w' b) (hb:b<a.heap.size->B b):Off B a w' :=
 h.grown ht.grown (fun k e hk=>by cases e;exact hb hk)
structure SecRow (w:World) (lb n:Nat) (f:Nat->ByteArray):Prop where
 lt:lb<w.heap.size
 at_:∀ i,i<n->w.rangeAt lb (i*64) (secL (f i))
 there:∀ i,i<n->w.there lb (i*64) 64
 size:∀ i,i<n->(f i).size=64
 ty:∃ cur fz,w.heap[lb]?=some (.cells cur 177 fz)
theorem SecRow.of_block {w w':World} {lb n:Nat} {f:Nat->ByteArray} (h:SecRow w lb n f) (hb:w'.heap[lb]?=w.heap[lb]?) (hs:w.heap.size<=w'.heap.size):SecRow w' lb n f :=
 ⟨Nat.lt_of_lt_of_le h.lt hs,fun i hi j v hv=>(World.cell?_of_block (w:=w) (by exact hb)).trans (h.at_ i hi j v hv),
  fun i hi j hj=>⟨by rw[World.cell?_of_block (w:=w) (w':=w') (by exact hb)];exact(h.there i hi j hj).1,by rw[World.frozen?_of_block (w:=w) (w':=w') (by exact hb)];exact(h.there i hi j hj).2⟩,h.size,by obtain⟨cur,fz,e⟩:=h.ty;exact⟨cur,fz,hb.trans e⟩⟩
theorem setCells_ty (b:Nat) (t:TypeId):∀ (vs:List Value) (o:Nat) (w:World),(∃ cur fz,w.heap[b]?=some (.cells cur t fz))->∃ cur fz,(w.setCells b o vs).heap[b]?=some (.cells cur t fz)
 | [],_,_,h=>h
 | v :: r,o,w,h=>by
  refine setCells_ty b t r (o+1) _ ?_
  obtain⟨cur,fz,e⟩:=h
  exact⟨_,fz,by simp[World.setCell,Array.getElem?_modify,e];rfl⟩
theorem SecRow.put {w:World} {lb n:Nat} {f:Nat->ByteArray} (h:SecRow w lb n f) {i:Nat} (hi:i<n) {c:ByteArray} (hc:c.size=64):SecRow (w.setCells lb (i*64) (secL c)) lb n (upd f i c):=by
 have hl:(secL c).length=64:=by rw[secL_length,hc]
 refine⟨by rw[(setCells_facts lb (secL c) (i*64) w).2.2.2.1];exact h.lt,fun j hj=>?_,fun j hj=>World.there_setCells (h.there j hj) _ _ _,fun j hj=>?_,setCells_ty _ _ _ _ _ h.ty⟩
 ·by_cases e:j=i
  ·subst e;rw[upd_same];exact World.rangeAt_setCells_same _ _ _ _ (by rw[hl];exact h.there j hj)
  ·rw[upd_other _ _ e]
   refine World.rangeAt_setCells_apart (h.at_ j hj) _ _ _ (Or.inr ?_)
   rw[secL_length,h.size j hj,hl]
   omega
 ·by_cases e:j=i
  ·subst e;rw[upd_same];exact hc
  ·rw[upd_other _ _ e];exact h.size j hj
structure Dk where
 n:Nat
 sure:Nat->ByteArray
 wait:Nat->Option ByteArray
 up:Bool
 set:Bool
 left:Int
 keep:Int
 acts:Int
 downs:Int
def Dk.cells (S:Dk) (lb mb:Nat):Array Value :=
 #[.slice (some ⟨lb,0,none⟩) S.n S.n,.map (some mb),.bool S.up,.bool S.set,.int .i64 S.left,.int .u64 S.keep,.int .i64 S.acts,.int .i64 S.downs]
structure Dk.Ok (S:Dk):Prop where
 n1:1<=S.n
 n2:S.n<=8192
 wait:∀ i c,S.wait i=some c->i<S.n/\c.size=64
 l0:0<=S.left
 l1:S.left<=9223372036854775807
 k0:0<=S.keep
 k1:S.keep<=18446744073709551615
 a0:0<=S.acts
 a1:S.acts<=10000000000000
 d0:0<=S.downs
 d1:S.downs<=10000000000000
structure DkIs (w:World) (db lb mb m:Nat) (S:Dk):Prop where
 blk:w.heap[db]?=some (.cells (S.cells lb mb) 81)
 row:SecRow w lb S.n S.sure
 map:MapIs w mb m S.wait
 ne:db≠lb
def disk3 (db lb mb:Nat):Nat->Prop:=fun k=>k=db∨k=lb∨k=mb
theorem d3a (db lb mb:Nat):disk3 db lb mb db:=Or.inl rfl
theorem d3b (db lb mb:Nat):disk3 db lb mb lb:=Or.inr (Or.inl rfl)
theorem d3_not {db lb mb g n:Nat} (h1:db<n) (h2:lb<n) (h3:mb<n) (hg:n<=g):¬ disk3 db lb mb g:=by
 rintro(e |e |e) <;> omega
theorem d3c (db lb mb:Nat):disk3 db lb mb mb:=Or.inr (Or.inr rfl)
variable {w w':World}{db lb mb m:Nat}{S:Dk}
theorem DkIs.lt (h:DkIs w db lb mb m S):db<w.heap.size:=by
 rcases Nat.lt_or_ge db w.heap.size with h' |h'
 ·exact h'
 ·have:=h.blk;simp[Array.getElem?_eq_none h'] at this
theorem DkIs.c (h:DkIs w db lb mb m S) (i:Nat):w.cell? ⟨db,i,none⟩=(S.cells lb mb)[i]?:=Joins.cell_of_block h.blk i
theorem DkIs.c0 (h:DkIs w db lb mb m S):w.cell? ⟨db,0,none⟩=some (.slice (some ⟨lb,0,none⟩) S.n S.n):=h.c 0
theorem DkIs.c1 (h:DkIs w db lb mb m S):w.cell? ⟨db,1,none⟩=some (.map (some mb)):=h.c 1
theorem DkIs.c2 (h:DkIs w db lb mb m S):w.cell? ⟨db,2,none⟩=some (.bool S.up):=h.c 2
theorem DkIs.c3 (h:DkIs w db lb mb m S):w.cell? ⟨db,3,none⟩=some (.bool S.set):=h.c 3
theorem DkIs.c4 (h:DkIs w db lb mb m S):w.cell? ⟨db,4,none⟩=some (.int .i64 S.left):=h.c 4
theorem DkIs.c5 (h:DkIs w db lb mb m S):w.cell? ⟨db,5,none⟩=some (.int .u64 S.keep):=h.c 5
theorem DkIs.c6 (h:DkIs w db lb mb m S):w.cell? ⟨db,6,none⟩=some (.int .i64 S.acts):=h.c 6
theorem DkIs.c7 (h:DkIs w db lb mb m S):w.cell? ⟨db,7,none⟩=some (.int .i64 S.downs):=h.c 7
theorem DkIs.f (h:DkIs w db lb mb m S) (i:Nat):w.frozen? ⟨db,i,none⟩=false:=Joins.unfrozen_of_block h.blk i
theorem DkIs.mdb (h:DkIs w db lb mb m S):mb≠db:=fun e=>by
 obtain⟨D,⟨es,cl,h1,_⟩,_⟩:=h.map
 rw[e,h.blk] at h1;cases h1
theorem DkIs.mlb (h:DkIs w db lb mb m S) (hn:1<=S.n):mb≠lb:=fun e=>by
 obtain⟨D,⟨es,cl,h1,_⟩,_⟩:=h.map
 have:=(h.row.there 0 (by omega) 0 (by omega)).1
 rw[e] at h1
 simp[World.cell?,h1] at this
theorem DkIs.keep (h:DkIs w db lb mb m S) (h1:w'.heap[db]?=w.heap[db]?) (h2:w'.heap[lb]?=w.heap[lb]?) (h3:w'.heap[mb]?=w.heap[mb]?) (hs:w.heap.size<=w'.heap.size):DkIs w' db lb mb m S :=
 ⟨h1.trans h.blk,h.row.of_block h2 hs,h.map.of_block h3,h.ne⟩
theorem DkIs.off {B:Nat->Prop} (h:DkIs w db lb mb m S) (ho:Off B w w') (h1:¬ B db) (h2:¬ B lb) (h3:¬ B mb):DkIs w' db lb mb m S :=
 h.keep (ho.block _ h.lt h1) (ho.block _ h.row.lt h2) (ho.block _ h.map.lt h3) ho.size
theorem DkIs.below (h:DkIs w db lb mb m S) (ho:Below w.heap.size w w'):DkIs w' db lb mb m S :=
 h.keep (ho.block _ h.lt) (ho.block _ h.row.lt) (ho.block _ h.map.lt) ho.size
theorem DkIs.drew (h:DkIs w db lb mb m S):DkIs w.drew db lb mb m S:=h.keep rfl rfl rfl (Nat.le_refl _)
theorem DkIs.mono (h:DkIs w db lb mb m S) {m':Nat} (hm:m<=m'):DkIs w db lb mb m' S:=⟨h.blk,h.row,h.map.mono hm,h.ne⟩
theorem DkIs.setC (h:DkIs w db lb mb m S) (i:Nat) (v:Value) (S':Dk) (hc:(S.cells lb mb).setIfInBounds i v=S'.cells lb mb) (hn:S'.n=S.n) (hs:S'.sure=S.sure) (hw:S'.wait=S.wait):DkIs (w.setCell ⟨db,i,none⟩ v) db lb mb m S':=by
 have hz:(w.setCell ⟨db,i,none⟩ v).heap.size=w.heap.size:=by simp[go_sem]
 refine⟨by rw[Joins.block_setCell h.blk,hc],?_,?_,h.ne⟩
 ·rw[hn,hs];exact h.row.of_block (Below.heap_setCell w _ v lb h.ne.symm) (by rw[hz];exact Nat.le_refl _)
 ·rw[hw];exact h.map.of_block (Below.heap_setCell w _ v mb h.mdb)
theorem DkIs.turned (h:DkIs w db lb mb m S) (hn:1<=S.n) (ht:w.mapTurned w' mb) {f:Nat->Option ByteArray} {m':Nat} (hm:MapIs w' mb m' f):DkIs w' db lb mb m' {S with wait:=f} :=
 ⟨(ht.grown.block db h.lt (fun e=>h.mdb (by cases e;rfl))).trans h.blk,h.row.of_block (ht.grown.block lb h.row.lt (fun e=>h.mlb hn (by cases e;rfl))) ht.grown.size,hm,h.ne⟩
theorem DkIs.rowput (h:DkIs w db lb mb m S) (hn:1<=S.n) {i:Nat} (hi:i<S.n) {c:ByteArray} (hc:c.size=64):DkIs (w.setCells lb (i*64) (secL c)) db lb mb m {S with sure:=upd S.sure i c}:=by
 obtain⟨h1,h2,h3,h4,h5⟩:=setCells_facts lb (secL c) (i*64) w
 exact⟨(h5 db h.ne).trans h.blk,h.row.put hi hc,h.map.of_block (h5 mb (h.mlb hn)),h.ne⟩
def NotMade (w:World) (p:Option Addr):Prop:=p=none∨∃ b,p=some ⟨b,0,none⟩/\w.cell? ⟨b,0,none⟩=some (.slice none 0 0)
theorem isMade_not (p:Option Addr) (w:World) (h:NotMade w p):Calls Tryz.prog 60 #[.pointer p] w fun e w'=>e=.returned (.bool false)/\w'=w:=by
 rcases h with rfl |⟨b,rfl,hc⟩
 ·go_enter Tryz.func60,Tryz.ntmps60
  go_wp2
  go_ret
  exact⟨rfl,rfl⟩
 ·go_enter Tryz.func60,Tryz.ntmps60
  go_wp2
  go_ret
  exact⟨rfl,rfl⟩
theorem isMade_any (w:World) (h:DkIs w db lb mb m S) (hn:1<=S.n):Calls Tryz.prog 60 #[.pointer (some ⟨db,0,none⟩)] w fun e w'=>e=.returned (.bool true)/\w'=w:=by
 have hc:=h.c0
 have hn0:decide (0<S.n)=true:=by simp;omega
 go_enter Tryz.func60,Tryz.ntmps60
 go_wp2
 go_ret
 exact⟨by simp[hn0],rfl⟩
theorem refusal_not (p:Option Addr) (w:World) (h:NotMade w p):Calls Tryz.prog 121 #[.pointer p] w fun e w'=>e=.returned (.int .i64 11)/\w'=w:=by
 have H:Hid _:=h
 clear h
 go_enter Tryz.func121,Tryz.ntmps121
 go_wp2_with (go_at_call 60;refine(isMade_not _ _ H.out).mono ?_;rintro e w' ⟨rfl,rfl⟩)
 go_ret
 exact⟨rfl,rfl⟩
def refI (up:Bool):Int:=if up then 0 else 9
theorem refusal_any (w:World) (h:DkIs w db lb mb m S) (hn:1<=S.n):Calls Tryz.prog 121 #[.pointer (some ⟨db,0,none⟩)] w fun e w'=>e=.returned (.int .i64 (refI S.up))/\w'=w:=by
 have hc:=h.c2
 have H:Hid _:=h
 clear h
 go_enter Tryz.func121,Tryz.ntmps121
 cases hu:S.up
 ·rw[hu] at hc
  go_wp2_with (go_at_call 60;refine(isMade_any _ H.out hn).mono ?_;rintro e w' ⟨rfl,rfl⟩)
  go_ret
  exact⟨rfl,rfl⟩
 ·rw[hu] at hc
  go_wp2_with (go_at_call 60;refine(isMade_any _ H.out hn).mono ?_;rintro e w' ⟨rfl,rfl⟩)
  go_ret
  exact⟨rfl,rfl⟩
def refAt (up:Bool) (n:Nat) (i:Int):Int:=if up then(if i<0∨(n:Int)<=i then 6 else 0) else 9
theorem refusalAt_any (w:World) (h:DkIs w db lb mb m S) (hn:1<=S.n) (i:Int):Calls Tryz.prog 91 #[.pointer (some ⟨db,0,none⟩),.int .i64 i] w fun e w'=>e=.returned (.int .i64 (refAt S.up S.n i))/\w'=w:=by
 have hc:=h.c0
 have H:Hid _:=h
 have C:Hid (∀ w,DkIs w db lb mb m S->Calls Tryz.prog 121 #[.pointer (some ⟨db,0,none⟩)] w fun e w'=>e=.returned (.int .i64 (refI S.up))/\w'=w):=fun w h=>refusal_any w h hn
 clear h
 cases hu:S.up
 ·rw[hu] at C
  have e0:refI false=9:=rfl
  rw[e0] at C
  go_enter Tryz.func91,Tryz.ntmps91
  go_wp2_with (go_at_call 121;refine(C.out _ H.out).mono ?_;rintro e w' ⟨rfl,rfl⟩)
  go_ret
  exact⟨rfl,rfl⟩
 ·rw[hu] at C
  have e0:refI true=0:=rfl
  rw[e0] at C
  by_cases h1:i<0
  ·go_enter Tryz.func91,Tryz.ntmps91
   go_wp2_with (go_at_call 121;refine(C.out _ H.out).mono ?_;rintro e w' ⟨rfl,rfl⟩)
   go_ret
   exact⟨by simp[refAt,h1],rfl⟩
  ·by_cases h2:(S.n:Int)<=i
   ·go_enter Tryz.func91,Tryz.ntmps91
    go_wp2_with (go_at_call 121;refine(C.out _ H.out).mono ?_;rintro e w' ⟨rfl,rfl⟩)
    go_ret
    exact⟨by simp[refAt,h1,h2],rfl⟩
   ·go_enter Tryz.func91,Tryz.ntmps91
    go_wp2_with (go_at_call 121;refine(C.out _ H.out).mono ?_;rintro e w' ⟨rfl,rfl⟩)
    go_ret
    exact⟨by simp[refAt,h1,h2],rfl⟩
theorem Size_any (w:World) (h:DkIs w db lb mb m S) (hn:1<=S.n):Calls Tryz.prog 29 #[.pointer (some ⟨db,0,none⟩)] w fun e w'=>e=.returned (.int .i64 S.n)/\w'=w:=by
 have hc0:=h.c0
 have H:Hid _:=h
 clear h
 go_enter Tryz.func29,Tryz.ntmps29
 go_wp2_with (go_at_call 60;refine(isMade_any _ H.out hn).mono ?_;rintro e w' ⟨rfl,rfl⟩)
 go_ret
 exact⟨rfl,rfl⟩
end Go.Proofs.YtdchjncnjgelhaaGreat
