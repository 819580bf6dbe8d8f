import Derived.Test.YtpcnjncgilmehabGreatMai
import Derived.Test.YtpcnjncgilmehabGreatMaj
import Derived.Test.YtpcnjncgilmehabGreatMae
import Derived.Laws.BytesArg
import Derived.Test.YtpcnjncgilmehabGreatMah
import Derived.Deep.RegionHeld3
set_option linter.unusedVariables false
set_option linter.unusedSimpArgs false
set_option maxRecDepth 100000
namespace Go.Proofs.YtpcnjncgilmehabGreat
open Go.RowKit
structure Small (m:Rm):Prop where
 im:m.im.length<=1000
 tb:m.tb.length<=1000
 t:∀ p∈m.im,p.2.size<=9223372036854775807
 ky:m.s.ky.size<=9223372036854775807
 ol:m.s.ol.size<=9223372036854775807
 nw:m.s.nw.size<=9223372036854775807
theorem Small.clean {m:Rm} (h:Small m):Small (cleanM m):=by
 obtain⟨s,l,g⟩:=m
 have h1:=h.im
 have h2:=h.tb
 have h3:=h.t
 have h4:=h.ky
 have h5:=h.ol
 have h6:=h.nw
 dsimp only at h1 h2 h3 h4 h5 h6
 have z:(⟨#[]⟩:ByteArray).size<=9223372036854775807:=Nat.zero_le _
 refine⟨?_,?_,?_,?_,?_,?_⟩
 ·unfold cleanM;dsimp only;split
  ·exact h1
  ·exact Nat.zero_le _
 ·unfold cleanM;dsimp only;split
  ·exact h2
  ·exact Nat.zero_le _
 ·unfold cleanM;dsimp only;split
  ·exact h3
  ·intro p hp;cases hp
 ·unfold cleanM cleanS;dsimp only;repeat' split
  all_goals assumption
 ·unfold cleanM cleanS;dsimp only;repeat' split
  all_goals assumption
 ·unfold cleanM cleanS;dsimp only;repeat' split
  all_goals assumption
structure Fine (m:Rm):Prop where
 k1:1<=m.s.kd
 k2:m.s.kd<=10
 f:formed m=true
 ky:m.s.ky.size<=16
 ol:m.s.ol.size<=32
 nw:m.s.nw.size<=32
theorem fine_of {m:Rm} (h:refM m=0):Fine m:=by
 unfold refM at h
 split at h
 ·cases h
 ·split at h
  ·cases h
  ·split at h
   ·cases h
   ·split at h
    ·cases h
    ·rename_i h1 h2 h3 h4
     exact⟨by omega,by omega,by simpa using h2,by omega,by omega,by omega⟩
theorem Fine.whole {m:Rm} (h:Fine m) (hk:m.s.kd=1∨m.s.kd=2):whole m.im=true:=by
 have f:=h.f
 unfold formed at f
 rcases hk with hk |hk
 ·rw[if_pos hk] at f
  simpa using (by simpa using f:m.im.length=1/\Go.Proofs.YtpcnjncgilmehabGreat.whole m.im=true).2
 ·rw[if_neg (by omega),if_pos hk] at f
  exact f
theorem Fine.texts {m:Rm} (h:Fine m) (hk:m.s.kd=1∨m.s.kd=2):∀ p∈m.im,p.2.size<=1000:=by
 have f:=h.whole hk
 intro p hp
 have:=(List.all_eq_true.1 f) p hp
 simp at this
 omega
theorem laid_any {w:World} {v:Value} {m:Rm} (h:RecV w v m) (hs:Small m) (hf:Fine m):Calls Tryz.prog 164 #[v] w fun r w'=>r=.returned (.tuple #[.string (laidM m).1,.int .i64 (laidM m).2])/\Below w.heap.size w w':=by
 obtain⟨I,T,rfl,hI,hT⟩:=h.ex
 have hk1:=hf.k1
 have hk2:=hf.k2
 have hy:=hf.ky
 have ho:=hf.ol
 have hw:=hf.nw
 have hx:=hf.texts
 obtain⟨s,l,g⟩:=m
 have hl:=hs.im
 have hg:=hs.tb
 dsimp only at *
 have hk:s.kd=1∨s.kd=2∨s.kd=3∨s.kd=4∨s.kd=5∨s.kd=6∨s.kd=7∨s.kd=8∨s.kd=9∨s.kd=10:=by omega
 unfold laidM laidF
 dsimp only
 rcases hk with hk |hk |hk |hk |hk |hk |hk |hk |hk |hk
 ·obtain⟨a,c,rfl,hcs,_⟩:=hI.ex
  rw[if_pos (by omega)]
  exact laid_1 hk hl hcs (hx (by omega))
 ·obtain⟨a,c,rfl,hcs,_⟩:=hI.ex
  rw[if_pos (by omega)]
  exact laid_2 hk hl hcs (hx (by omega))
 ·rw[if_neg (by omega),if_pos (by omega)]
  exact laid_3 hk (by omega) (by omega) (by omega)
 ·rw[if_neg (by omega),if_pos (by omega)]
  exact laid_4 hk (by omega) (by omega) (by omega)
 ·rw[if_neg (by omega),if_pos (by omega)]
  exact laid_5 hk (by omega) (by omega) (by omega)
 ·rw[if_neg (by omega),if_neg (by omega),if_pos (by omega)]
  exact laid_6 hk (by omega) (by omega) (by omega)
 ·rw[if_neg (by omega),if_neg (by omega),if_neg (by omega),if_pos (by omega)]
  exact laid_7 hk
 ·rw[if_neg (by omega),if_neg (by omega),if_neg (by omega),if_pos (by omega)]
  exact laid_8 hk
 ·obtain⟨a,c,rfl,hcs,_⟩:=hT.ex
  rw[if_neg (by omega),if_neg (by omega),if_neg (by omega),if_neg (by omega),if_pos (by omega)]
  exact laid_9 hk hg hcs
 ·rw[if_neg (by omega),if_neg (by omega),if_neg (by omega),if_neg (by omega),if_neg (by omega),if_pos (by omega)]
  exact laid_10 hk
theorem laidM_size {m:Rm} (hs:Small m):(laidM m).1.size<=100000000:=by
 have hl:=hs.im
 have hg:=hs.tb
 have z0:((⟨#[]⟩:ByteArray),(0:Int)).1.size=0:=rfl
 have z1:=stepW_size (⟨#[]⟩,0) m.s.kd 1
 unfold laidM laidF
 dsimp only
 repeat' split
 ·have z2:=stepW_size (stepW (⟨#[]⟩,0) m.s.kd 1) m.im.length 1
  have z3:=layI_size m.im (stepW (stepW (⟨#[]⟩,0) m.s.kd 1) m.im.length 1)
  omega
 ·have z2:=layP_size [m.s.tx,m.s.pv] (stepW (⟨#[]⟩,0) m.s.kd 1)
  have z3:=layC_size m.s (layP [m.s.tx,m.s.pv] (stepW (⟨#[]⟩,0) m.s.kd 1))
  simp only[List.length_cons,List.length_nil] at z2
  omega
 ·have z2:=layP_size [m.s.tx,m.s.pv,m.s.nx] (stepW (⟨#[]⟩,0) m.s.kd 1)
  have z4:=stepW_size (layP [m.s.tx,m.s.pv,m.s.nx] (stepW (⟨#[]⟩,0) m.s.kd 1)) m.s.ac 1
  have z3:=layC_size m.s (stepW (layP [m.s.tx,m.s.pv,m.s.nx] (stepW (⟨#[]⟩,0) m.s.kd 1)) m.s.ac 1)
  simp only[List.length_cons,List.length_nil] at z2
  omega
 ·have z2:=layP_size [m.s.tx,m.s.pv] (stepW (⟨#[]⟩,0) m.s.kd 1)
  simp only[List.length_cons,List.length_nil] at z2
  omega
 ·have z2:=stepW_size (stepW (⟨#[]⟩,0) m.s.kd 1) m.tb.length 1
  have z3:=layB_size m.tb (stepW (stepW (⟨#[]⟩,0) m.s.kd 1) m.tb.length 1)
  omega
 ·have z2:=stepW_size (stepW (⟨#[]⟩,0) m.s.kd 1) m.s.ep 4
  have z3:=stepW_size (stepW (stepW (⟨#[]⟩,0) m.s.kd 1) m.s.ep 4) m.s.nd 1
  omega
 ·omega
set_option maxHeartbeats 1000000 in
theorem body_any {w:World} {v:Value} {m:Rm} (h:RecV w v m) (hs:Small m):Calls Tryz.prog 110 #[v] w fun r w'=>r=.returned (.tuple #[.string (bodyM m).1,.int .i64 (bodyM m).2])/\Below w.heap.size w w':=by
 have hv:=h
 obtain⟨I,T,rfl,hI,hT⟩:=h.ex
 have CR:Hid (∀ w',Below w.heap.size w w'->Calls Tryz.prog 163 #[.agg (m.s.A I T)] w' fun r w''=>r=.returned (.int .i64 (refM m))/\Below w'.heap.size w' w''):=fun w' hb=>by
  obtain⟨a,c,rfl,hcs,_⟩:=hI.ex
  exact refusalR_any (g:=m.tb) hs.im (hcs.below hb) hs.t hs.ky hs.ol hs.nw
 by_cases hr:refM m=0
 ·have CL:Hid (∀ w',Below w.heap.size w w'->Calls Tryz.prog 164 #[.agg (m.s.A I T)] w' fun r w''=>r=.returned (.tuple #[.string (laidM m).1,.int .i64 (laidM m).2])/\Below w'.heap.size w' w''):=fun w' hb=>laid_any (hv.below hb) hs (fine_of hr)
  have hz:=laidM_size hs
  by_cases he:(laidM m).2=0
  ·by_cases hl:4096<(laidM m).1.size
   ·rw[bodyM_long hr he hl]
    rw[hr] at CR
    rw[he] at CL
    generalize (laidM m).1=Z at *
    clear hr he hv h hI hT hs
    go_enter Tryz.func110,Tryz.ntmps110
    go_wp2_with (first
     | (refine wpList_box_rc (s:=m.s) (I:=I) (T:=T) _ rfl _ rfl rfl ?_;intro w0 b0 N0;have R:=N0.rc)
     | (refine wpList_load_rc _ rfl _ rfl rfl R ?_)
     | (go_at_call 163;refine(CR.out _ N0.below).mono ?_;rintro e w1 ⟨rfl,b1⟩;have R1:=R.below b1;clear R;have R:=R1;clear R1)
     | (go_at_call 164;refine(CL.out _ (thn N0.below b1)).mono ?_;rintro e w2 ⟨rfl,b2⟩))
    go_ret2
    exact⟨rfl,thn (thn N0.below b1) b2⟩
   ·rw[bodyM_good hr he hl]
    rw[hr] at CR
    rw[he] at CL
    generalize (laidM m).1=Z at *
    clear hr he hv h hI hT hs
    go_enter Tryz.func110,Tryz.ntmps110
    go_wp2_with (first
     | (refine wpList_box_rc (s:=m.s) (I:=I) (T:=T) _ rfl _ rfl rfl ?_;intro w0 b0 N0;have R:=N0.rc)
     | (refine wpList_load_rc _ rfl _ rfl rfl R ?_)
     | (go_at_call 163;refine(CR.out _ N0.below).mono ?_;rintro e w1 ⟨rfl,b1⟩;have R1:=R.below b1;clear R;have R:=R1;clear R1)
     | (go_at_call 164;refine(CL.out _ (thn N0.below b1)).mono ?_;rintro e w2 ⟨rfl,b2⟩))
    go_ret2
    exact⟨rfl,thn (thn N0.below b1) b2⟩
  ·rw[bodyM_err hr he]
   rw[hr] at CR
   generalize (laidM m).1=Z at *
   generalize (laidM m).2=E at *
   have he':(E !=0)=true:=by simpa using he
   clear hr he hv h hI hT hs
   go_enter Tryz.func110,Tryz.ntmps110
   go_wp2_with (first
    | (refine wpList_box_rc (s:=m.s) (I:=I) (T:=T) _ rfl _ rfl rfl ?_;intro w0 b0 N0;have R:=N0.rc)
    | (refine wpList_load_rc _ rfl _ rfl rfl R ?_)
    | (go_at_call 163;refine(CR.out _ N0.below).mono ?_;rintro e w1 ⟨rfl,b1⟩;have R1:=R.below b1;clear R;have R:=R1;clear R1)
    | (go_at_call 164;refine(CL.out _ (thn N0.below b1)).mono ?_;rintro e w2 ⟨rfl,b2⟩))
   go_ret2
   exact⟨rfl,thn (thn N0.below b1) b2⟩
 ·rw[bodyM_ref hr]
  generalize refM m=E at *
  have he':(E !=0)=true:=by simpa using hr
  clear hr hv h hI hT hs
  go_enter Tryz.func110,Tryz.ntmps110
  go_wp2_with (first
   | (refine wpList_box_rc (s:=m.s) (I:=I) (T:=T) _ rfl _ rfl rfl ?_;intro w0 b0 N0;have R:=N0.rc)
   | (refine wpList_load_rc _ rfl _ rfl rfl R ?_)
   | (go_at_call 163;refine(CR.out _ N0.below).mono ?_;rintro e w1 ⟨rfl,b1⟩))
  go_ret2
  exact⟨rfl,thn N0.below b1⟩
def frameB (t:ByteArray):ByteArray:=Pk.beS t.size 2++Sm.sealV t
def frameM (m:Rm):ByteArray × Int:=if(bodyM (cleanM m)).2≠0 then(⟨#[]⟩,(bodyM (cleanM m)).2) else(frameB (bodyM (cleanM m)).1,0)
theorem put_len (t:ByteArray) (h:t.size<=4096) (w:World):Calls Tryz.prog 116 #[.string ⟨#[]⟩,.int .i64 (t.size:Int),.int .i64 2] w fun e w'=>e=.returned (.tuple #[.string (Pk.beS t.size 2),.int .i64 0])/\Below w.heap.size w w':=by
 have:=Pk.Put_any ⟨#[]⟩ (t.size:Int) 2 w (Nat.zero_le _)
 rw[Pk.putV_fits (by omega) (by rw[Pk.limI_2];omega)] at this
 dsimp only at this
 rw[Sm.nil_append] at this
 exact this
theorem sealV_size (t:ByteArray):(Sm.sealV t).size=4+t.size:=by unfold Sm.sealV;rw[ByteArray.size_append,Pk.beS_size]
theorem frameB_size (t:ByteArray):(frameB t).size=6+t.size:=by unfold frameB;rw[ByteArray.size_append,Pk.beS_size,sealV_size];omega
set_option maxHeartbeats 1000000 in
theorem Frame_any {w:World} {v:Value} {m:Rm} (h:RecV w v m) (hs:Small m):Calls Tryz.prog 105 #[v] w fun r w'=>r=.returned (.tuple #[.string (frameM m).1,.int .i64 (frameM m).2])/\Below w.heap.size w w':=by
 have hv:=h
 obtain⟨I,T,rfl,hI,hT⟩:=h.ex
 have CC:Hid (∀ w',Below w.heap.size w w'->Calls Tryz.prog 154 #[.agg (m.s.A I T)] w' fun e w''=>(∃ v',e=.returned v'/\RecV w'' v' (cleanM m))/\Below w'.heap.size w' w''):=fun w' hb=>clean_any (hv.below hb) hs.im hs.tb
 have CB:Hid (∀ w' v',RecV w' v' (cleanM m)->Calls Tryz.prog 110 #[v'] w' fun r w''=>r=.returned (.tuple #[.string (bodyM (cleanM m)).1,.int .i64 (bodyM (cleanM m)).2])/\Below w'.heap.size w' w''):=fun w' v' h'=>body_any h' hs.clean
 have hz:=bodyM_size (cleanM m)
 unfold frameM
 by_cases he:(bodyM (cleanM m)).2=0
 ·rw[if_neg (by simpa using he)]
  rw[he] at CB
  generalize (bodyM (cleanM m)).1=Z at *
  have CP:Hid (∀ w,Calls Tryz.prog 116 #[.string ⟨#[]⟩,.int .i64 (Z.size:Int),.int .i64 2] w fun e w'=>e=.returned (.tuple #[.string (Pk.beS Z.size 2),.int .i64 0])/\Below w.heap.size w w'):=fun w=>put_len Z hz w
  have CS:Hid (∀ w,Calls Tryz.prog 155 #[.string Z] w fun e w'=>e=.returned (.string (Sm.sealV Z))/\Below w.heap.size w w'):=fun w=>Sm.Seal_any Z w (by omega)
  have HF:Hid (frameB Z=Pk.beS Z.size 2++Sm.sealV Z):=by rfl
  have z1:(Pk.beS Z.size 2).size<=6:=by rw[Pk.beS_size];omega
  have z2:(Sm.sealV Z).size<=5000:=by rw[sealV_size];omega
  generalize frameB Z=F at *
  generalize Pk.beS Z.size 2=L at *
  generalize Sm.sealV Z=SZ at *
  clear he hv h hI hT hs
  go_enter Tryz.func105,Tryz.ntmps105
  go_wp2_with (first
   | (refine wpList_box_rc (s:=m.s) (I:=I) (T:=T) _ rfl _ rfl rfl ?_;intro w0 b0 N0)
   | (refine wpList_load_rc _ rfl _ rfl rfl N0.rc ?_)
   | (go_at_call 154;refine(CC.out _ N0.below).mono ?_;rintro e w1 ⟨⟨v',rfl,h1⟩,b1⟩)
   | (go_at_call 110;refine(CB.out _ _ h1).mono ?_;rintro e w2 ⟨rfl,b2⟩)
   | (go_at_call 116;refine(CP.out _).mono ?_;rintro e w3 ⟨rfl,b3⟩)
   | (go_at_call 155;refine(CS.out _).mono ?_;rintro e w4 ⟨rfl,b4⟩))
  go_ret2
  rw[HF.out]
  exact⟨rfl,thn (thn (thn (thn N0.below b1) b2) b3) b4⟩
 ·rw[if_pos he]
  generalize (bodyM (cleanM m)).1=Z at *
  generalize (bodyM (cleanM m)).2=E at *
  have he':(E !=0)=true:=by simpa using he
  clear he hv h hI hT hs
  go_enter Tryz.func105,Tryz.ntmps105
  go_wp2_with (first
   | (refine wpList_box_rc (s:=m.s) (I:=I) (T:=T) _ rfl _ rfl rfl ?_;intro w0 b0 N0)
   | (refine wpList_load_rc _ rfl _ rfl rfl N0.rc ?_)
   | (go_at_call 154;refine(CC.out _ N0.below).mono ?_;rintro e w1 ⟨⟨v',rfl,h1⟩,b1⟩)
   | (go_at_call 110;refine(CB.out _ _ h1).mono ?_;rintro e w2 ⟨rfl,b2⟩))
  go_ret2
  exact⟨rfl,thn (thn N0.below b1) b2⟩
theorem stepW_err {A:ByteArray × Int} {n k:Int} (h:(stepW A n k).2=0):A.2=0:=by
 rcases Classical.em (A.2=0) with h0 |h0
 ·exact h0
 ·obtain⟨a,e⟩:=A
  rw[stepW_had h0] at h
  exact h
theorem stepT_err {A:ByteArray × Int} {t:ByteArray} (h:(stepT A t).2=0):A.2=0:=by
 rcases Classical.em (A.2=0) with h0 |h0
 ·exact h0
 ·obtain⟨a,e⟩:=A
  rw[stepT_had h0] at h
  exact h
def Row13 (w:World) (b:Nat) (s:Sc) (I T:Value):Prop :=
 w.cell? ⟨b,0,none⟩=some (.int .i64 s.kd)/\w.cell? ⟨b,1,none⟩=some (.int .i64 s.tx)/\w.cell? ⟨b,2,none⟩=some (.int .i64 s.pv)/\w.cell? ⟨b,3,none⟩=some (.int .i64 s.pg)/\w.cell? ⟨b,4,none⟩=some (.int .i64 s.ac)/\w.cell? ⟨b,5,none⟩=some (.string s.ky)/\w.cell? ⟨b,6,none⟩=some (.string s.ol)/\w.cell? ⟨b,7,none⟩=some (.string s.nw)/\w.cell? ⟨b,8,none⟩=some (.int .i64 s.nx)/\w.cell? ⟨b,9,none⟩=some I/\w.cell? ⟨b,10,none⟩=some T/\w.cell? ⟨b,11,none⟩=some (.int .i64 s.ep)/\w.cell? ⟨b,12,none⟩=some (.int .i64 s.nd)
theorem RcAt.row {w:World} {b:Nat} {s:Sc} {I T:Value} (h:RcAt w b s I T):Row13 w b s I T:=⟨h.c0,h.c1,h.c2,h.c3,h.c4,h.c5,h.c6,h.c7,h.c8,h.c9,h.c10,h.c11,h.c12⟩
end Go.Proofs.YtpcnjncgilmehabGreat
