import Derived.Test.YtdchjncnjgelhaaGreatMak
import Derived.Deep.RegionHeld3
import Derived.Test.YtdchjncnjgelhaaGreatMai
import Derived.Test.YtdchjncnjgelhaaGreatMac
import Derived.Deep.OwnRows
import Derived.Laws.OwnMore
set_option linter.unusedVariables false
set_option linter.unusedSimpArgs false
set_option maxRecDepth 100000
namespace Go.Proofs.YtdchjncnjgelhaaGreat
open Go.RowKit
theorem nn255 (q:Lf):(nN q 1).toNat<=255:=by have:=nN_one q;omega
theorem rdChg_size (act:Int) (s:Sc) (q:Lf) (B:Nat) (hq:q.1.size<=B) (h1:s.ol.size<=B) (h2:s.nw.size<=B):(rdChg act s q).1.ky.size<=B/\(rdChg act s q).1.ol.size<=B/\(rdChg act s q).1.nw.size<=B:=by
 have a1:=Nat.le_trans (tT_size (sN q 2) 16) (Nat.le_trans (sN_size q 2) hq)
 have a0:(rq1 q).1.size<=B:=Nat.le_trans (sT_size (sN q 2) 16) (Nat.le_trans (sN_size q 2) hq)
 have a2:=Nat.le_trans (tT_size (rq1 q) 32) a0
 have a3:=Nat.le_trans (tT_size (sT (rq1 q) 32) 32) (Nat.le_trans (sT_size (rq1 q) 32) a0)
 unfold rdChg
 split
 ·exact⟨a1,h1,a2⟩
 ·split
  ·exact⟨a1,a2,h2⟩
  ·exact⟨a1,a2,a3⟩
theorem sN_le {q:Lf} {k:Int} {B:Nat} (h:q.1.size<=B):(sN q k).1.size<=B:=Nat.le_trans (sN_size q k) h
theorem rdM_small (t:ByteArray) (ht:t.size<=140737488351232):Small (rdM t).1:=by
 have hq:(sN (t,0) 1).1.size<=140737488351232:=sN_le (q:=(t,0)) ht
 have z:(⟨#[]⟩:ByteArray).size<=9223372036854775807:=Nat.zero_le _
 have z2:(⟨#[]⟩:ByteArray).size<=140737488351232:=Nat.zero_le _
 have e0:([]:List Im).length*24<=140737488351232:=by decide
 have e1:([]:List Tb).length*16<=140737488351232:=by decide
 have e2:∀ p∈([]:List Im),p.2.size<=9223372036854775807:=fun p hp=>by cases hp
 unfold rdM rdK
 dsimp only
 generalize sN (t,0) 1=q at *
 split
 ·refine⟨?_,e1,?_,z,z,z⟩
  ·show(rdImL _ _).length*24<=140737488351232
   rw[rdImL_length];have:=nn255 q;omega
  ·intro p hp
   obtain⟨j,_,rfl⟩:=List.mem_map.1 hp
   have h1:=tT_size (sN (rdImS (sN q 1) j) 2) 224
   have h2:=sN_size (rdImS (sN q 1) j) 2
   have h3:=rdImS_size (sN q 1) j
   have h4:=sN_size q 1
   show(tT (sN (rdImS (sN q 1) j) 2) 224).size<=_
   omega
 ·split
  ·have:=rdChg_size (nN (t,0) 1) {kR (nN (t,0) 1) with tx:=nN q 6,pv:=nN (sN q 6) 6} (sN (sN q 6) 6) 140737488351232 (sN_le (sN_le hq)) z2 z2
   exact⟨e0,e1,e2,Nat.le_trans this.1 (by omega),Nat.le_trans this.2.1 (by omega),Nat.le_trans this.2.2 (by omega)⟩
  ·split
   ·have:=rdChg_size (nN (sN (sN (sN q 6) 6) 6) 1) {kR (nN (t,0) 1) with tx:=nN q 6,pv:=nN (sN q 6) 6,nx:=nN (sN (sN q 6) 6) 6,ac:=nN (sN (sN (sN q 6) 6) 6) 1} (sN (sN (sN (sN q 6) 6) 6) 1) 140737488351232 (sN_le (sN_le (sN_le (sN_le hq)))) z2 z2
    exact⟨e0,e1,e2,Nat.le_trans this.1 (by omega),Nat.le_trans this.2.1 (by omega),Nat.le_trans this.2.2 (by omega)⟩
   ·split
    ·exact⟨e0,e1,e2,z,z,z⟩
    ·split
     ·refine⟨e0,?_,e2,z,z,z⟩
      show(rdTbL _ _).length*16<=140737488351232
      rw[rdTbL_length];have:=nn255 q;omega
     ·split
      ·exact⟨e0,e1,e2,z,z,z⟩
      ·exact⟨e0,e1,e2,z,z,z⟩
theorem bytes_ext {a b:ByteArray} (h:a.toList=b.toList):a=b:=by
 rw[ByteArray.toList_eq,ByteArray.toList_eq] at h
 exact ByteArray.ext (Array.ext' h)
structure OfS (w wx:World) (b2 b4 B:Nat) (s:Sc) (I T:Value) (l:List Im) (g:List Tb):Prop where
 r:RcAt wx b2 zS nilV nilV
 c:RcAt wx b4 s I T
 im:Fr wx I (encI l) B
 tb:Fr wx T (encT g) B
 bel:Below w.heap.size w wx
 hb2:b2<B
 lB:w.heap.size<=B
 l2:w.heap.size<=b2
theorem OfS.mk' {w w1 w2 w3 w4:World} {b2 b4:Nat} {s:Sc} {I T:Value} {l:List Im} {g:List Tb} (N1:NewR w w1 b2 zS nilV nilV) (hb:Below w1.heap.size w1 w2) (hI:Fr w2 I (encI l) w1.heap.size) (hT:Fr w2 T (encT g) w1.heap.size) (N4:NewR w2 w3 b4 zS nilV nilV) (P:PutR w3 w4 b4 s I T):OfS w w4 b2 b4 w1.heap.size s I T l g:=by
 have e1:=N1.eq
 have e4:=N4.eq
 have z1:=N1.rc.lt
 have z2:=hb.size
 have z3:=N4.below.size
 have z5:=N1.below.size
 have b24:Below w2.heap.size w2 w4:=N4.below.trans (P.below (by omega) z3)
 exact⟨(N1.rc.below hb).below b24,P.rc,hI.below b24,hT.below b24,thn (thn N1.below hb) b24,z1,z5,by omega⟩
theorem OfS.below {w wx wq:World} {b2 b4 B:Nat} {s:Sc} {I T:Value} {l:List Im} {g:List Tb} (h:OfS w wx b2 b4 B s I T l g) (hb:Below wx.heap.size wx wq):OfS w wq b2 b4 B s I T l g :=
 ⟨h.r.below hb,h.c.below hb,h.im.below hb,h.tb.below hb,thn h.bel hb,h.hb2,h.lB,h.l2⟩
set_option maxHeartbeats 1000000 in
theorem Of_any {w:World} (t:ByteArray) (ht:t.size<=140737488351232):Calls Tryz.prog 98 #[.string t] w fun e w'=>(∃ v,e=.returned (.tuple #[v,.int .i64 (ofM t).2])/\RecF w' v (ofM t).1 w.heap.size)/\Below w.heap.size w w':=by
 have CR:Hid (∀ wx,Calls Tryz.prog 124 #[.string t] wx fun e w'=>(∃ v,e=.returned (.tuple #[v,.int .i64 (Pk.rdEnd (rdM t).2.1 (rdM t).2.2).2])/\RecF w' v (rdM t).1 wx.heap.size)/\Below wx.heap.size wx w'):=fun wx=>read_any t ht
 have hsm:=rdM_small t ht
 have CB:Hid (∀ wx v',RecV wx v' (rdM t).1->Calls Tryz.prog 101 #[v'] wx fun r w'=>r=.returned (.tuple #[.string (bodyM (rdM t).1).1,.int .i64 (bodyM (rdM t).1).2])/\Below wx.heap.size wx w'):=fun wx v' h'=>body_any h' hsm
 unfold ofM
 generalize (Pk.rdEnd (rdM t).2.1 (rdM t).2.2).2=E at *
 generalize (rdM t).1=m at *
 obtain⟨s,l,g⟩:=m
 by_cases hE:E=0
 ·subst hE
  rw[if_neg (by simp)]
  by_cases hb:(bodyM ⟨s,l,g⟩).2=0/\(bodyM ⟨s,l,g⟩).1=t
  ·rw[if_pos hb]
   rw[hb.1,hb.2] at CB
   have htt:(t.toList !=t.toList)=false:=by simp
   clear hb hsm
   go_enter Tryz.func98,Tryz.ntmps98
   go_wp2_with (first
    | (have:=N1;refine wpList_new_rc _ rfl rfl ?_;intro w3 b4 N4)
    | (refine wpList_new_rc _ rfl rfl ?_;intro w1 b2 N1)
    | (go_at_call 124;refine(CR.out _).mono ?_;rintro e w2 ⟨⟨v,rfl,hv⟩,b2'⟩;obtain⟨I,T,rfl,hI,hT⟩:=hv.ex;dsimp only at hI hT)
    | (refine wpList_at (Op.store 54 (.tmp 4) (.tmp 11)) rfl ?_;refine wpList_put_rc (s':=s) (I':=I) (T':=T) _ rfl (.tmp 4) (.tmp 11) rfl rfl rfl N4.rc hI.slI.one hT.slT.one ?_;intro w4 P4;have H:=OfS.mk' N1 b2' hI hT N4 P4;clear N1 N4 P4 hv hI hT this)
    | (refine wpList_load_rc _ rfl (.tmp 4) rfl rfl H.c ?_)
    | (go_at_call 101;refine(CB.out _ _ ⟨I,T,rfl,H.im.slI,H.tb.slT⟩).mono ?_;rintro e w5 ⟨rfl,b5⟩;have H1:=H.below b5;clear H;have H:=H1;clear H1)
    | (refine wpList_at (Op.store 54 (.tmp 2) (.tmp 30)) rfl ?_;refine wpList_put_rc (s':=s) (I':=I) (T':=T) _ rfl (.tmp 2) (.tmp 30) rfl rfl rfl H.r H.im.slI.one H.tb.slT.one ?_;intro w6 P6))
   refine bodyPost_ret (results_rc2 rfl _ _ rfl P6.rc) rfl ?_
   exact⟨⟨_,rfl,⟨I,T,rfl,(H.im.off P6.off H.hb2).mono H.lB,(H.tb.off P6.off H.hb2).mono H.lB⟩⟩,H.bel.trans (P6.below H.l2 H.bel.size)⟩
  ·rw[if_neg hb]
   generalize (bodyM ⟨s,l,g⟩).1=Z at *
   generalize (bodyM ⟨s,l,g⟩).2=E at *
   by_cases he:E=0
   ·have he':(E !=0)=false:=by simpa using he
    have hzt:(Z.toList==t.toList)=false:=by
     rw[beq_eq_false_iff_ne]
     exact fun e=>hb ⟨he,bytes_ext e⟩
    clear hb hsm he
    go_enter Tryz.func98,Tryz.ntmps98
    go_wp2_with (first
     | (have:=N1;refine wpList_new_rc _ rfl rfl ?_;intro w3 b4 N4)
     | (refine wpList_new_rc _ rfl rfl ?_;intro w1 b2 N1)
     | (go_at_call 124;refine(CR.out _).mono ?_;rintro e w2 ⟨⟨v,rfl,hv⟩,b2'⟩;obtain⟨I,T,rfl,hI,hT⟩:=hv.ex;dsimp only at hI hT)
     | (refine wpList_at (Op.store 54 (.tmp 4) (.tmp 11)) rfl ?_;refine wpList_put_rc (s':=s) (I':=I) (T':=T) _ rfl (.tmp 4) (.tmp 11) rfl rfl rfl N4.rc hI.slI.one hT.slT.one ?_;intro w4 P4;have H:=OfS.mk' N1 b2' hI hT N4 P4;clear N1 N4 P4 hv hI hT this)
     | (refine wpList_load_rc _ rfl (.tmp 4) rfl rfl H.c ?_)
     | (go_at_call 101;refine(CB.out _ _ ⟨I,T,rfl,H.im.slI,H.tb.slT⟩).mono ?_;rintro e w5 ⟨rfl,b5⟩;have H1:=H.below b5;clear H;have H:=H1;clear H1)
     | (refine wpList_at (Op.store 54 (.tmp 2) (.tmp 29)) rfl ?_;refine wpList_put_rc (s':=zS) (I':=nilV) (T':=nilV) _ rfl (.tmp 2) (.tmp 29) rfl rfl rfl H.r rfl rfl ?_;intro w6 P6))
    refine bodyPost_ret (results_rc2 rfl _ _ rfl P6.rc) rfl ?_
    exact⟨⟨_,rfl,RecF.zero _ _⟩,H.bel.trans (P6.below H.l2 H.bel.size)⟩
   ·have he':(E !=0)=true:=by simpa using he
    clear hb hsm he
    go_enter Tryz.func98,Tryz.ntmps98
    go_wp2_with (first
     | (have:=N1;refine wpList_new_rc _ rfl rfl ?_;intro w3 b4 N4)
     | (refine wpList_new_rc _ rfl rfl ?_;intro w1 b2 N1)
     | (go_at_call 124;refine(CR.out _).mono ?_;rintro e w2 ⟨⟨v,rfl,hv⟩,b2'⟩;obtain⟨I,T,rfl,hI,hT⟩:=hv.ex;dsimp only at hI hT)
     | (refine wpList_at (Op.store 54 (.tmp 4) (.tmp 11)) rfl ?_;refine wpList_put_rc (s':=s) (I':=I) (T':=T) _ rfl (.tmp 4) (.tmp 11) rfl rfl rfl N4.rc hI.slI.one hT.slT.one ?_;intro w4 P4;have H:=OfS.mk' N1 b2' hI hT N4 P4;clear N1 N4 P4 hv hI hT this)
     | (refine wpList_load_rc _ rfl (.tmp 4) rfl rfl H.c ?_)
     | (go_at_call 101;refine(CB.out _ _ ⟨I,T,rfl,H.im.slI,H.tb.slT⟩).mono ?_;rintro e w5 ⟨rfl,b5⟩;have H1:=H.below b5;clear H;have H:=H1;clear H1)
     | (refine wpList_at (Op.store 54 (.tmp 2) (.tmp 29)) rfl ?_;refine wpList_put_rc (s':=zS) (I':=nilV) (T':=nilV) _ rfl (.tmp 2) (.tmp 29) rfl rfl rfl H.r rfl rfl ?_;intro w6 P6))
    refine bodyPost_ret (results_rc2 rfl _ _ rfl P6.rc) rfl ?_
    exact⟨⟨_,rfl,RecF.zero _ _⟩,H.bel.trans (P6.below H.l2 H.bel.size)⟩
 ·rw[if_pos hE]
  have hE':(E !=0)=true:=by simpa using hE
  clear hsm hE
  skip
  go_enter Tryz.func98,Tryz.ntmps98
  go_wp2_with (first
   | (have:=N1;refine wpList_new_rc _ rfl rfl ?_;intro w3 b4 N4)
   | (refine wpList_new_rc _ rfl rfl ?_;intro w1 b2 N1)
   | (go_at_call 124;refine(CR.out _).mono ?_;rintro e w2 ⟨⟨v,rfl,hv⟩,b2'⟩;obtain⟨I,T,rfl,hI,hT⟩:=hv.ex;dsimp only at hI hT)
   | (refine wpList_at (Op.store 54 (.tmp 4) (.tmp 11)) rfl ?_;refine wpList_put_rc (s':=s) (I':=I) (T':=T) _ rfl (.tmp 4) (.tmp 11) rfl rfl rfl N4.rc hI.slI.one hT.slT.one ?_;intro w4 P4;have H:=OfS.mk' N1 b2' hI hT N4 P4;clear N1 N4 P4 hv hI hT this)
   | (refine wpList_load_rc _ rfl (.tmp 4) rfl rfl H.c ?_)
   | (go_at_call 101;refine(CB.out _ _ ⟨I,T,rfl,H.im.slI,H.tb.slT⟩).mono ?_;rintro e w5 ⟨rfl,b5⟩;have H1:=H.below b5;clear H;have H:=H1;clear H1)
   | (refine wpList_at (Op.store 54 (.tmp 2) (.tmp 15)) rfl ?_;refine wpList_put_rc (s':=zS) (I':=nilV) (T':=nilV) _ rfl (.tmp 2) (.tmp 15) rfl rfl rfl H.r rfl rfl ?_;intro w6 P6))
  refine bodyPost_ret (results_rc2 rfl _ _ rfl P6.rc) rfl ?_
  exact⟨⟨_,rfl,RecF.zero _ _⟩,H.bel.trans (P6.below H.l2 H.bel.size)⟩
def frR (s:ByteArray):ByteArray × ByteArray × Int:=Pk.rdRaw (sN (s,0) 2).1 (sN (s,0) 2).2 (4+nN (s,0) 2)
def frM (s:ByteArray):ByteArray × Int :=
 if s.size<6 then(⟨#[]⟩,2) else if nN (s,0) 2<1∨4096<nN (s,0) 2 then(⟨#[]⟩,4) else if(frR s).2.2≠0 then(⟨#[]⟩,(frR s).2.2) else Sm.openV (frR s).1
theorem RdS.raw {w:World} {b:Nat} {q:Lf} (h:RdS w b q) (n:Int):Calls Tryz.prog 65 #[.pointer (some ⟨b,0,none⟩),.int .i64 n] w fun r w'=>r=.returned (.string (Pk.rdRaw q.1 q.2 n).1)/\Pk.isRd w' b (Pk.rdRaw q.1 q.2 n).2.1 (Pk.rdRaw q.1 q.2 n).2.2/\Pk.Off b w w':=Pk.Raw_any b q.1 q.2 n w h.sz h.rd
set_option maxHeartbeats 1000000 in
theorem framed_any {w:World} (s:ByteArray) (hs:s.size<=140737488351232):Calls Tryz.prog 97 #[.string s] w fun e w'=>e=.returned (.tuple #[.string (frM s).1,.int .i64 (frM s).2])/\Below w.heap.size w w':=by
 unfold frM
 by_cases h6:s.size<6
 ·rw[if_pos h6]
  have h6':(s.size:Int)<6:=by omega
  go_enter Tryz.func97,Tryz.ntmps97
  go_wp2
  go_ret2
  exact⟨rfl,Below.refl _ _⟩
 rw[if_neg h6]
 have h6':¬ (s.size:Int)<6:=by omega
 have hn0:=nN_nonneg (s,0) 2
 have hn1:=nN_lt (s,0) 2
 have CN:Hid (∀ wx b,RdS wx b (s,0)->Calls Tryz.prog 63 #[.pointer (some ⟨b,0,none⟩),.int .i64 2] wx fun r w'=>r=.returned (.int .i64 (nN (s,0) 2))/\RdS w' b (sN (s,0) 2)/\Pk.Off b wx w'):=fun wx b h=>h.num 2
 have hzz:(frR s).1.size<=140737488351232:=Nat.le_trans (rdRaw_txt _ _ _) (Nat.le_trans (sN_size (s,0) 2) hs)
 have CW:Hid (∀ wx b,RdS wx b (sN (s,0) 2)->Calls Tryz.prog 65 #[.pointer (some ⟨b,0,none⟩),.int .i64 (4+nN (s,0) 2)] wx fun r w'=>r=.returned (.string (frR s).1)/\Pk.isRd w' b (frR s).2.1 (frR s).2.2/\Pk.Off b wx w'):=fun wx b h=>h.raw _
 have CO:Hid (∀ wx,Calls Tryz.prog 123 #[.string (frR s).1] wx fun e w'=>e=.returned (.tuple #[.string (Sm.openV (frR s).1).1,.int .i64 (Sm.openV (frR s).1).2])/\Below wx.heap.size wx w'):=fun wx=>Sm.Open_any _ wx hzz
 generalize nN (s,0) 2=N at *
 generalize sN (s,0) 2=q at *
 by_cases hN:N<1∨4096<N
 ·rw[if_pos hN]
  clear CW CO
  by_cases h1:N<1
  ·clear hN
   go_enter Tryz.func97,Tryz.ntmps97
   go_wp2_with (first
    | (go_at_call 62;refine(Sm.Read_any _ _).mono ?_;rintro e w1 ⟨rfl,r1,b1⟩)
    | (go_at_call 63;refine(CN.out _ _ ⟨r1,hs⟩).mono ?_;rintro e w2 ⟨rfl,r2,o2⟩))
   go_ret2
   exact⟨rfl,b1.trans (o2.below (Nat.le_refl _) b1.size)⟩
  ·have h2:4096<N:=by omega
   clear hN
   go_enter Tryz.func97,Tryz.ntmps97
   go_wp2_with (first
    | (go_at_call 62;refine(Sm.Read_any _ _).mono ?_;rintro e w1 ⟨rfl,r1,b1⟩)
    | (go_at_call 63;refine(CN.out _ _ ⟨r1,hs⟩).mono ?_;rintro e w2 ⟨rfl,r2,o2⟩))
   go_ret2
   exact⟨rfl,b1.trans (o2.below (Nat.le_refl _) b1.size)⟩
 rw[if_neg hN]
 have h1:¬ N<1:=by omega
 have h2:¬ 4096<N:=by omega
 clear hN
 generalize (frR s).1=Z at *
 generalize (frR s).2.1=L at *
 generalize (frR s).2.2=E at *
 have CE:Hid (∀ wx b,Pk.isRd wx b L E->Calls Tryz.prog 96 #[.pointer (some ⟨b,0,none⟩)] wx fun r w'=>r=.returned (.int .i64 E)/\w'=wx):=fun wx b h=>Pk.Err_any b L E wx h
 by_cases hE:E=0
 ·subst hE
  rw[if_neg (by simp)]
  generalize (Sm.openV Z).1=OZ at *
  generalize (Sm.openV Z).2=OE at *
  go_enter Tryz.func97,Tryz.ntmps97
  go_wp2_with (first
   | (go_at_call 62;refine(Sm.Read_any _ _).mono ?_;rintro e w1 ⟨rfl,r1,b1⟩)
   | (go_at_call 63;refine(CN.out _ _ ⟨r1,hs⟩).mono ?_;rintro e w2 ⟨rfl,r2,o2⟩)
   | (go_at_call 65;refine(CW.out _ _ r2).mono ?_;rintro e w3 ⟨rfl,r3,o3⟩)
   | (go_at_call 96;refine(CE.out _ _ r3).mono ?_;rintro e w4 ⟨rfl,rfl⟩)
   | (go_at_call 123;refine(CO.out _).mono ?_;rintro e w5 ⟨rfl,b5⟩))
  go_ret2
  have bb:=b1.trans ((o2.trans o3).below (Nat.le_refl _) b1.size)
  exact⟨rfl,thn bb b5⟩
 ·rw[if_pos hE]
  have hE':(E !=0)=true:=by simpa using hE
  clear CO
  go_enter Tryz.func97,Tryz.ntmps97
  go_wp2_with (first
   | (go_at_call 62;refine(Sm.Read_any _ _).mono ?_;rintro e w1 ⟨rfl,r1,b1⟩)
   | (go_at_call 63;refine(CN.out _ _ ⟨r1,hs⟩).mono ?_;rintro e w2 ⟨rfl,r2,o2⟩)
   | (go_at_call 65;refine(CW.out _ _ r2).mono ?_;rintro e w3 ⟨rfl,r3,o3⟩)
   | (go_at_call 96;refine(CE.out _ _ r3).mono ?_;rintro e w4 ⟨rfl,rfl⟩))
  go_ret2
  exact⟨rfl,b1.trans ((o2.trans o3).below (Nat.le_refl _) b1.size)⟩
theorem openV_size (s:ByteArray):(Sm.openV s).1.size<=s.size:=by
 unfold Sm.openV
 repeat' split
 all_goals simp[ByteArray.size_extract,Pk.size_nil]
theorem frM_size (s:ByteArray):(frM s).1.size<=s.size:=by
 unfold frM
 repeat' split
 ·exact Nat.zero_le _
 ·exact Nat.zero_le _
 ·exact Nat.zero_le _
 ·exact Nat.le_trans (openV_size _) (Nat.le_trans (rdRaw_txt _ _ _) (sN_size (s,0) 2))
def openM (s:ByteArray) (a:Int):Rm × Int × Int :=
 if a<0∨(s.size:Int)<a then(zM,0,6) else if(frM (s.extract a.toNat s.size)).2≠0 then(zM,0,(frM (s.extract a.toNat s.size)).2)
 else if(ofM (frM (s.extract a.toNat s.size)).1).2≠0 then(zM,0,(ofM (frM (s.extract a.toNat s.size)).1).2) else((ofM (frM (s.extract a.toNat s.size)).1).1,6+(frM (s.extract a.toNat s.size)).1.size,0)
set_option maxHeartbeats 1000000 in
theorem Open_any {w:World} (s:ByteArray) (a:Int) (hs:s.size<=140737488351232):Calls Tryz.prog 67 #[.string s,.int .i64 a] w fun e w'=>(∃ v,e=.returned (.tuple #[v,.int .i64 (openM s a).2.1,.int .i64 (openM s a).2.2])/\RecF w' v (openM s a).1 w.heap.size)/\Below w.heap.size w w':=by
 unfold openM
 by_cases h0:a<0
 ·rw[if_pos (Or.inl h0)]
  go_enter Tryz.func67,Tryz.ntmps67
  go_wp2_with (first
   | (refine wpList_new_rc _ rfl rfl ?_;intro w1 b4 N1)
   | (refine wpList_put_rc (s':=zS) (I':=nilV) (T':=nilV) _ rfl (.tmp 4) (.tmp 18) rfl rfl rfl N1.rc rfl rfl ?_;intro w6 P6))
  refine bodyPost_ret (results_rc3 rfl _ _ rfl P6.rc) rfl ?_
  exact⟨⟨_,rfl,RecF.zero _ _⟩,N1.below.trans (P6.below (by have:=N1.eq;omega) N1.below.size)⟩
 by_cases h1:(s.size:Int)<a
 ·rw[if_pos (Or.inr h1)]
  go_enter Tryz.func67,Tryz.ntmps67
  go_wp2_with (first
   | (refine wpList_new_rc _ rfl rfl ?_;intro w1 b4 N1)
   | (refine wpList_put_rc (s':=zS) (I':=nilV) (T':=nilV) _ rfl (.tmp 4) (.tmp 18) rfl rfl rfl N1.rc rfl rfl ?_;intro w6 P6))
  refine bodyPost_ret (results_rc3 rfl _ _ rfl P6.rc) rfl ?_
  exact⟨⟨_,rfl,RecF.zero _ _⟩,N1.below.trans (P6.below (by have:=N1.eq;omega) N1.below.size)⟩
 rw[if_neg (by omega)]
 obtain⟨m,rfl⟩:∃ m:Nat,a=m:=⟨a.toNat,by omega⟩
 rw[Int.toNat_natCast]
 have hm:m<=s.size:=by omega
 have hxz:(s.extract m s.size).size<=140737488351232:=by rw[ByteArray.size_extract];omega
 have CF:Hid (∀ wx,Calls Tryz.prog 97 #[.string (s.extract m s.size)] wx fun e w'=>e=.returned (.tuple #[.string (frM (s.extract m s.size)).1,.int .i64 (frM (s.extract m s.size)).2])/\Below wx.heap.size wx w'):=fun wx=>framed_any _ hxz
 have hfz:=Nat.le_trans (frM_size (s.extract m s.size)) hxz
 have CO:Hid (∀ wx,Calls Tryz.prog 98 #[.string (frM (s.extract m s.size)).1] wx fun e w'=>(∃ v,e=.returned (.tuple #[v,.int .i64 (ofM (frM (s.extract m s.size)).1).2])/\RecF w' v (ofM (frM (s.extract m s.size)).1).1 wx.heap.size)/\Below wx.heap.size wx w'):=fun wx=>Of_any _ hfz
 obtain⟨x,hx⟩:∃ x,s.extract m s.size=x:=⟨_,rfl⟩
 rw[hx] at CF CO hfz ⊢
 clear hxz
 generalize (frM x).2=E at *
 generalize (frM x).1=Z at *
 by_cases hE:E=0
 ·subst hE
  rw[if_neg (by simp)]
  generalize (ofM Z).2=F at *
  generalize (ofM Z).1=M at *
  obtain⟨s9,l9,g9⟩:=M
  by_cases hF:F=0
  ·subst hF
   rw[if_neg (by simp)]
   go_enter Tryz.func67,Tryz.ntmps67
   go_wp2_with (first
    | (have:=N1;refine wpList_new_rc _ rfl rfl ?_;intro w3 b9 N4)
    | (refine wpList_new_rc _ rfl rfl ?_;intro w1 b4 N1)
    | (go_at_call 97;refine(CF.out _).mono ?_;rintro e w8 ⟨rfl,bf⟩)
    | (go_at_call 98;refine(CO.out _).mono ?_;rintro e w2 ⟨⟨v,rfl,hv⟩,b2'⟩;obtain⟨I,T,rfl,hI,hT⟩:=hv.ex;dsimp only at hI hT)
    | (refine wpList_at (Op.store 54 (.tmp 9) (.tmp 33)) rfl ?_;refine wpList_put_rc (s':=s9) (I':=I) (T':=T) _ rfl (.tmp 9) (.tmp 33) rfl rfl rfl N4.rc hI.slI.one hT.slT.one ?_;intro w4 P4;have H:=OfS.mk' N1 (thn bf b2') (hI.mono bf.size) (hT.mono bf.size) N4 P4;clear N1 N4 P4 hv hI hT this)
    | (refine wpList_load_rc _ rfl (.tmp 9) rfl rfl H.c ?_)
    | (refine wpList_at (Op.store 54 (.tmp 4) (.tmp 39)) rfl ?_;refine wpList_put_rc (s':=s9) (I':=I) (T':=T) _ rfl (.tmp 4) (.tmp 39) rfl rfl rfl H.r H.im.slI.one H.tb.slT.one ?_;intro w6 P6))
   refine bodyPost_ret (results_rc3 rfl _ _ rfl P6.rc) rfl ?_
   exact⟨⟨_,rfl,⟨I,T,rfl,(H.im.off P6.off H.hb2).mono H.lB,(H.tb.off P6.off H.hb2).mono H.lB⟩⟩,H.bel.trans (P6.below H.l2 H.bel.size)⟩
  ·rw[if_pos hF]
   have hF':(F !=0)=true:=by simpa using hF
   go_enter Tryz.func67,Tryz.ntmps67
   go_wp2_with (first
    | (have:=N1;refine wpList_new_rc _ rfl rfl ?_;intro w3 b9 N4)
    | (refine wpList_new_rc _ rfl rfl ?_;intro w1 b4 N1)
    | (go_at_call 97;refine(CF.out _).mono ?_;rintro e w8 ⟨rfl,bf⟩)
    | (go_at_call 98;refine(CO.out _).mono ?_;rintro e w2 ⟨⟨v,rfl,hv⟩,b2'⟩;obtain⟨I,T,rfl,hI,hT⟩:=hv.ex;dsimp only at hI hT)
    | (refine wpList_at (Op.store 54 (.tmp 9) (.tmp 33)) rfl ?_;refine wpList_put_rc (s':=s9) (I':=I) (T':=T) _ rfl (.tmp 9) (.tmp 33) rfl rfl rfl N4.rc hI.slI.one hT.slT.one ?_;intro w4 P4;have H:=OfS.mk' N1 (thn bf b2') (hI.mono bf.size) (hT.mono bf.size) N4 P4;clear N1 N4 P4 hv hI hT this)
    | (refine wpList_at (Op.store 54 (.tmp 4) (.tmp 37)) rfl ?_;refine wpList_put_rc (s':=zS) (I':=nilV) (T':=nilV) _ rfl (.tmp 4) (.tmp 37) rfl rfl rfl H.r rfl rfl ?_;intro w6 P6))
   refine bodyPost_ret (results_rc3 rfl _ _ rfl P6.rc) rfl ?_
   exact⟨⟨_,rfl,RecF.zero _ _⟩,H.bel.trans (P6.below H.l2 H.bel.size)⟩
 ·rw[if_pos hE]
  have hE':(E !=0)=true:=by simpa using hE
  clear CO
  go_enter Tryz.func67,Tryz.ntmps67
  go_wp2_with (first
   | (refine wpList_new_rc _ rfl rfl ?_;intro w1 b4 N1)
   | (go_at_call 97;refine(CF.out _).mono ?_;rintro e w8 ⟨rfl,bf⟩)
   | (refine wpList_put_rc (s':=zS) (I':=nilV) (T':=nilV) _ rfl (.tmp 4) (.tmp 28) rfl rfl rfl (N1.rc.below bf) rfl rfl ?_;intro w6 P6))
  refine bodyPost_ret (results_rc3 rfl _ _ rfl P6.rc) rfl ?_
  have bb:=thn N1.below bf
  exact⟨⟨_,rfl,RecF.zero _ _⟩,bb.trans (P6.below (by have:=N1.eq;omega) bb.size)⟩
theorem stepW_inv {A:ByteArray × Int} {n k:Int} (hk:1<=k) (hk6:k<=6) (h:(stepW A n k).2=0):A.2=0/\0<=n/\n<Pk.limI k.toNat/\stepW A n k=(A.1++Pk.beS n.toNat k.toNat,0):=by
 obtain⟨a,e⟩:=A
 by_cases he:e=0
 ·subst he
  by_cases hn:n<0∨Pk.limI k.toNat<=n
  ·rw[stepW_bad hk hk6 hn] at h
   exact absurd h (by decide)
  ·exact⟨rfl,by omega,by omega,stepW_good hk hk6 (by omega) (by omega)⟩
 ·rw[stepW_had he] at h
  exact absurd h he
theorem stepT_inv {A:ByteArray × Int} {t:ByteArray} (ht:t.size<=65535) (h:(stepT A t).2=0):A.2=0/\stepT A t=(A.1++(Pk.beS t.size 2++t),0):=by
 obtain⟨a,e⟩:=A
 by_cases he:e=0
 ·subst he
  refine⟨rfl,?_⟩
  rw[stepT_good ht,ByteArray.append_assoc]
 ·rw[stepT_had he] at h
  exact absurd h he
theorem rd_num {n k:Int} {b:ByteArray} (h1:1<=k) (h6:k<=6) (h0:0<=n) (hn:n<Pk.limI k.toNat):nN (Pk.beS n.toNat k.toNat++b,0) k=n/\sN (Pk.beS n.toNat k.toNat++b,0) k=(b,0):=by
 obtain⟨m,rfl⟩:∃ m:Nat,n=m:=⟨n.toNat,by omega⟩
 obtain⟨j,rfl⟩:∃ j:Nat,k=j:=⟨k.toNat,by omega⟩
 rw[Int.toNat_natCast,Int.toNat_natCast] at *
 have:=Pk.rdNum_app m j b (by omega) (by omega) (by rw[Pk.limI_nat] at hn;omega)
 unfold nN sN
 dsimp only
 rw[this]
 exact⟨rfl,rfl⟩
theorem rd_text {t b:ByteArray} {M:Int} (h:t.size<=M) (hM:M<=65535):tT (Pk.beS t.size 2++t++b,0) M=t/\sT (Pk.beS t.size 2++t++b,0) M=(b,0):=by
  have h2 := Pk.rdNum_app t.size 2 (t ++ b) (by omega) (by omega) (by have : 256 ^ 2 = 65536 := by decide
                                                                      omega)
  rw[← ByteArray.append_assoc] at h2
  have e:Pk.rdText (Pk.beS t.size 2++t++b) 0 M=(t,b,0):=by
    unfold Pk.rdText Pk.rdTextSt
    rw[show((2:Nat):Int)=2 from rfl] at h2
    rw[h2]
    dsimp only
    rw[if_neg (by omega)]
    exact Pk.rdRaw_app t b
  unfold tT sT
  dsimp only
  rw[e]
  exact⟨rfl,rfl⟩
def catI:List Im->ByteArray
 | []=>⟨#[]⟩
 | p :: r=>Pk.beS p.1.toNat 2++(Pk.beS p.2.size 2++p.2)++catI r
def catB:List Tb->ByteArray
 | []=>⟨#[]⟩
 | p :: r=>Pk.beS p.1.toNat 6++Pk.beS p.2.toNat 6++catB r
def goodI (p:Im):Prop:=0<=p.1/\p.1<65536
def goodB (p:Tb):Prop:=0<=p.1/\p.1<281474976710656/\0<=p.2/\p.2<281474976710656
theorem layI_was {l:List Im} {A:ByteArray × Int} (h:(layI l A).2=0):A.2=0:=by
 induction l generalizing A with
 | nil=>exact h
 | cons p r ih=>exact stepW_err (stepT_err (ih h))
theorem layB_was {l:List Tb} {A:ByteArray × Int} (h:(layB l A).2=0):A.2=0:=by
 induction l generalizing A with
 | nil=>exact h
 | cons p r ih=>exact stepW_err (stepW_err (ih h))
theorem layI_inv {l:List Im} {A:ByteArray × Int} (hl:∀ p∈l,p.2.size<=65535) (h:(layI l A).2=0):(∀ p∈l,goodI p)/\layI l A=(A.1++catI l,0):=by
 induction l generalizing A with
 | nil =>
  refine⟨(fun p hp=>by cases hp),?_⟩
  show A=(A.1++⟨#[]⟩,0)
  rw[Pk.append_nil]
  exact Prod.ext rfl h
 | cons p r ih =>
  have h1:(layI r (stepT (stepW A p.1 2) p.2)).2=0:=h
  obtain⟨g,e⟩:=ih (fun x hx=>hl x (List.mem_cons_of_mem _ hx)) h1
  obtain⟨e1,e2⟩:=stepT_inv (hl p (List.mem_cons_self ..)) (layI_was h1)
  obtain⟨f1,f2,f3,f4⟩:=stepW_inv (by omega) (by omega) e1
  rw[Pk.limI_2] at f3
  refine⟨fun x hx=>?_,?_⟩
  ·rcases List.mem_cons.1 hx with rfl |hx
   ·exact⟨f2,f3⟩
   ·exact g x hx
  ·show layI r (stepT (stepW A p.1 2) p.2)=_
   rw[e,e2,f4]
   simp only[catI,ByteArray.append_assoc]
   rfl
theorem layB_inv {l:List Tb} {A:ByteArray × Int} (h:(layB l A).2=0):(∀ p∈l,goodB p)/\layB l A=(A.1++catB l,0):=by
 induction l generalizing A with
 | nil =>
  refine⟨(fun p hp=>by cases hp),?_⟩
  show A=(A.1++⟨#[]⟩,0)
  rw[Pk.append_nil]
  exact Prod.ext rfl h
 | cons p r ih =>
  have h1:(layB r (stepW (stepW A p.1 6) p.2 6)).2=0:=h
  obtain⟨g,e⟩:=ih h1
  obtain⟨e1,e2,e3,e4⟩:=stepW_inv (by omega) (by omega) (layB_was h1)
  obtain⟨f1,f2,f3,f4⟩:=stepW_inv (by omega) (by omega) e1
  rw[Pk.limI_6] at f3 e3
  refine⟨fun x hx=>?_,?_⟩
  ·rcases List.mem_cons.1 hx with rfl |hx
   ·exact⟨f2,f3,e2,e3⟩
   ·exact g x hx
  ·show layB r (stepW (stepW A p.1 6) p.2 6)=_
   rw[e,e4,f4]
   simp only[catB,ByteArray.append_assoc]
   rfl
theorem rdImS_shift (q:Lf) (n:Nat):rdImS q (n+1)=rdImS (sT (sN q 2) 224) n:=by
 induction n with
 | zero=>rfl
 | succ n ih=>show sT (sN (rdImS q (n+1)) 2) 224=sT (sN (rdImS _ n) 2) 224;rw[ih]
theorem rdTbS_shift (q:Lf) (n:Nat):rdTbS q (n+1)=rdTbS (sN (sN q 6) 6) n:=by
 induction n with
 | zero=>rfl
 | succ n ih=>show sN (sN (rdTbS q (n+1)) 6) 6=sN (sN (rdTbS _ n) 6) 6;rw[ih]
theorem rdImL_cons (q:Lf) (n:Nat):rdImL q (n+1)=rdImF q 0 ::rdImL (sT (sN q 2) 224) n:=by
 unfold rdImL
 rw[List.range_succ_eq_map,List.map_cons,List.map_map]
 congr 1
 apply List.map_congr_left
 intro j _
 show rdImF q (j+1)=rdImF _ j
 unfold rdImF
 rw[rdImS_shift]
theorem rdTbL_cons (q:Lf) (n:Nat):rdTbL q (n+1)=rdTbF q 0 ::rdTbL (sN (sN q 6) 6) n:=by
 unfold rdTbL
 rw[List.range_succ_eq_map,List.map_cons,List.map_map]
 congr 1
 apply List.map_congr_left
 intro j _
 show rdTbF q (j+1)=rdTbF _ j
 unfold rdTbF
 rw[rdTbS_shift]
theorem rdImF_zero (q:Lf):rdImF q 0=(nN q 2,tT (sN q 2) 224):=rfl
theorem rdTbF_zero (q:Lf):rdTbF q 0=(nN q 6,nN (sN q 6) 6):=rfl
theorem rd_images (l:List Im) (b:ByteArray) (hg:∀ p∈l,goodI p) (ht:∀ p∈l,p.2.size<=224):rdImL (catI l++b,0) l.length=l/\rdImS (catI l++b,0) l.length=(b,0):=by
 induction l with
 | nil =>
  refine⟨rfl,?_⟩
  show(⟨#[]⟩++b,(0:Int))=(b,0)
  rw[nil_app]
 | cons p r ih =>
  obtain⟨h1,h2⟩:=ih (fun x hx=>hg x (List.mem_cons_of_mem _ hx)) (fun x hx=>ht x (List.mem_cons_of_mem _ hx))
  obtain⟨g1,g2⟩:=hg p (List.mem_cons_self ..)
  have ht':=ht p (List.mem_cons_self ..)
  have e:catI (p ::r)++b=Pk.beS p.1.toNat 2++(Pk.beS p.2.size 2++p.2++(catI r++b)):=by simp only[catI,ByteArray.append_assoc]
  obtain⟨n1,n2⟩:=rd_num (n:=p.1) (k:=2) (b:=Pk.beS p.2.size 2++p.2++(catI r++b)) (by omega) (by omega) g1 (by rw[Pk.limI_2];exact g2)
  rw[show((2:Int)).toNat=2 from rfl,← e] at n1 n2
  obtain⟨t1,t2⟩:=rd_text (t:=p.2) (b:=catI r++b) (M:=224) (by omega) (by omega)
  rw[← n2] at t1 t2
  rw[List.length_cons,rdImL_cons,rdImS_shift,t2,h1,h2,rdImF_zero,n1,t1]
  exact⟨rfl,rfl⟩
theorem rd_table (l:List Tb) (b:ByteArray) (hg:∀ p∈l,goodB p):rdTbL (catB l++b,0) l.length=l/\rdTbS (catB l++b,0) l.length=(b,0):=by
 induction l with
 | nil =>
  refine⟨rfl,?_⟩
  show(⟨#[]⟩++b,(0:Int))=(b,0)
  rw[nil_app]
 | cons p r ih =>
  obtain⟨h1,h2⟩:=ih (fun x hx=>hg x (List.mem_cons_of_mem _ hx))
  obtain⟨g1,g2,g3,g4⟩:=hg p (List.mem_cons_self ..)
  have e:catB (p ::r)++b=Pk.beS p.1.toNat 6++(Pk.beS p.2.toNat 6++(catB r++b)):=by simp only[catB,ByteArray.append_assoc]
  obtain⟨n1,n2⟩:=rd_num (n:=p.1) (k:=6) (b:=Pk.beS p.2.toNat 6++(catB r++b)) (by omega) (by omega) g1 (by rw[Pk.limI_6];exact g2)
  rw[show((6:Int)).toNat=6 from rfl,← e] at n1 n2
  obtain⟨t1,t2⟩:=rd_num (n:=p.2) (k:=6) (b:=catB r++b) (by omega) (by omega) g3 (by rw[Pk.limI_6];exact g4)
  rw[show((6:Int)).toNat=6 from rfl,← n2] at t1 t2
  rw[List.length_cons,rdTbL_cons,rdTbS_shift,t2,h1,h2,rdTbF_zero,n1,t1]
  exact⟨rfl,rfl⟩
def catT (t:ByteArray):ByteArray:=Pk.beS t.size 2++t
def catV (s:Sc):ByteArray:=if actOf s=3 then catT s.nw else if actOf s=4 then catT s.ol else catT s.ol++catT s.nw
def catC (s:Sc):ByteArray:=Pk.beS s.pg.toNat 2++(catT s.ky++catV s)
theorem stepT_cat {A:ByteArray × Int} {t:ByteArray} (ht:t.size<=65535) (h:(stepT A t).2=0):A.2=0/\stepT A t=(A.1++catT t,0):=stepT_inv ht h
theorem layC_inv {s:Sc} {A:ByteArray × Int} (hy:s.ky.size<=16) (ho:s.ol.size<=32) (hw:s.nw.size<=32) (h:(layC s A).2=0):A.2=0/\0<=s.pg/\s.pg<65536/\layC s A=(A.1++catC s,0):=by
 have key:∀ B:ByteArray × Int,B=stepT (stepW A s.pg 2) s.ky->B.2=0->A.2=0/\0<=s.pg/\s.pg<65536/\B.1=A.1++Pk.beS s.pg.toNat 2++catT s.ky:=by
  intro B hB hB0
  rw[hB] at hB0
  obtain⟨e1,e2⟩:=stepT_cat (by omega) hB0
  obtain⟨f1,f2,f3,f4⟩:=stepW_inv (by omega) (by omega) e1
  rw[Pk.limI_2] at f3
  refine⟨f1,f2,f3,?_⟩
  rw[hB,e2,f4]
  rfl
 unfold layC layV at h ⊢
 unfold catC catV
 obtain⟨B,hB⟩:∃ B,B=stepT (stepW A s.pg 2) s.ky:=⟨_,rfl⟩
 rw[← hB] at h ⊢
 have K:=key B hB
 clear key hB
 by_cases h3:actOf s=3
 ·rw[if_pos h3] at h ⊢
  rw[if_pos h3]
  obtain⟨e1,e2⟩:=stepT_cat (by omega) h
  obtain⟨k1,k2,k3,k4⟩:=K e1
  refine⟨k1,k2,k3,?_⟩
  rw[e2,k4]
  simp only[ByteArray.append_assoc]
 ·by_cases h4:actOf s=4
  ·rw[if_neg h3,if_pos h4] at h ⊢
   rw[if_neg h3,if_pos h4]
   obtain⟨e1,e2⟩:=stepT_cat (by omega) h
   obtain⟨k1,k2,k3,k4⟩:=K e1
   refine⟨k1,k2,k3,?_⟩
   rw[e2,k4]
   simp only[ByteArray.append_assoc]
  ·rw[if_neg h3,if_neg h4] at h ⊢
   rw[if_neg h3,if_neg h4]
   obtain⟨e1,e2⟩:=stepT_cat (by omega) h
   obtain⟨f1,f2⟩:=stepT_cat (by omega) e1
   obtain⟨k1,k2,k3,k4⟩:=K f1
   refine⟨k1,k2,k3,?_⟩
   rw[e2,f2,k4]
   simp only[ByteArray.append_assoc]
theorem rd_cat {t b:ByteArray} {M:Int} (h:t.size<=M) (hM:M<=65535):tT (catT t++b,0) M=t/\sT (catT t++b,0) M=(b,0):=rd_text h hM
def putC (s0 s:Sc):Sc:={s0 with pg:=s.pg,ky:=s.ky,ol:=if actOf s=3 then s0.ol else s.ol,nw:=if actOf s=4 then s0.nw else s.nw}
theorem rdChg_cat (s0 s:Sc) (b:ByteArray) (hy:s.ky.size<=16) (ho:s.ol.size<=32) (hw:s.nw.size<=32) (h0:0<=s.pg) (h1:s.pg<65536):rdChg (actOf s) s0 (catC s++b,0)=(putC s0 s,(b,0)):=by
 have e0:catC s++b=Pk.beS s.pg.toNat 2++(catT s.ky++(catV s++b)):=by unfold catC;simp only[ByteArray.append_assoc]
 obtain⟨n1,n2⟩:=rd_num (n:=s.pg) (k:=2) (b:=catT s.ky++(catV s++b)) (by omega) (by omega) h0 (by rw[Pk.limI_2];exact h1)
 rw[show((2:Int)).toNat=2 from rfl,← e0] at n1 n2
 obtain⟨t1,t2⟩:=rd_cat (t:=s.ky) (b:=catV s++b) (M:=16) (by omega) (by omega)
 rw[← n2] at t1 t2
 have q1:rq1 (catC s++b,0)=(catV s++b,0):=t2
 have c1:rc1 s0 (catC s++b,0)={s0 with pg:=s.pg,ky:=s.ky}:=by unfold rc1;rw[n1,t1]
 unfold rdChg rcN rcO rcB
 rw[q1,c1]
 unfold putC catV
 by_cases h3:actOf s=3
 ·rw[if_pos h3,if_pos h3,if_pos h3,if_neg (by rw[h3];decide)]
  obtain⟨u1,u2⟩:=rd_cat (t:=s.nw) (b:=b) (M:=32) (by omega) (by omega)
  rw[u1,u2]
 ·by_cases h4:actOf s=4
  ·rw[if_neg h3,if_pos h4,if_neg h3,if_pos h4,if_neg h3,if_pos h4]
   obtain⟨u1,u2⟩:=rd_cat (t:=s.ol) (b:=b) (M:=32) (by omega) (by omega)
   rw[u1,u2]
  ·rw[if_neg h3,if_neg h4,if_neg h3,if_neg h4,if_neg h3,if_neg h4]
   obtain⟨u1,u2⟩:=rd_cat (t:=s.ol) (b:=catT s.nw++b) (M:=32) (by omega) (by omega)
   obtain⟨v1,v2⟩:=rd_cat (t:=s.nw) (b:=b) (M:=32) (by omega) (by omega)
   rw[ByteArray.append_assoc,u1,u2,v1,v2]
theorem sN_cat {n k:Int} {b:ByteArray} {j:Nat} (hj:k=(j:Int)) (h1:1<=k) (h6:k<=6) (h0:0<=n) (hn:n<Pk.limI j):nN (Pk.beS n.toNat j++b,0) k=n/\sN (Pk.beS n.toNat j++b,0) k=(b,0):=by
 subst hj
 have:=rd_num (n:=n) (k:=(j:Int)) (b:=b) h1 h6 h0 (by rw[Int.toNat_natCast];exact hn)
 rw[Int.toNat_natCast] at this
 exact this
theorem rdM_body {m:Rm} {t:ByteArray} (hc:cleanM m=m) (hb:bodyM m=(t,0)):rdM t=(m,(⟨#[]⟩,0)):=by
 have hr:refM m=0:=by
  rcases Classical.em (refM m=0) with h |h
  ·exact h
  ·rw[bodyM_ref h] at hb;exact absurd (congrArg Prod.snd hb) h
 have hl:laidM m=(t,0):=by
  rcases Classical.em ((laidM m).2=0) with h |h
  ·rcases Classical.em (4096<(laidM m).1.size) with h' |h'
   ·rw[bodyM_long hr h h'] at hb;exact absurd (congrArg Prod.snd hb) (by dsimp only;omega)
   ·rw[bodyM_good hr h h'] at hb
    have h9:(laidM m).1=t:=congrArg (fun x:ByteArray × Int=>x.1) hb
    exact Prod.ext h9 h
  ·rw[bodyM_err hr h] at hb;exact absurd (congrArg Prod.snd hb) h
 have hf:=fine_of hr
 have hx:=hf.texts
 have hwh:=hf.whole
 obtain⟨s,l,g⟩:=m
 have k1:=hf.k1
 have k2:=hf.k2
 have hy:=hf.ky
 have ho:=hf.ol
 have hw:=hf.nw
 dsimp only at *
 have hl2:(laidM ⟨s,l,g⟩).2=0:=by rw[hl]
 have htt:t=(laidM ⟨s,l,g⟩).1:=by rw[hl]
 clear hl hb
 unfold laidM laidF at hl2 htt
 dsimp only at hl2 htt
 have z0:∀ (X:ByteArray),(⟨#[]⟩:ByteArray)++X=X:=nil_app
 -- the kind's byte,and what is behind it
 have head:∀ u:ByteArray,(stepW (⟨#[]⟩,0) s.kd 1).2=0->t=(stepW (⟨#[]⟩,0) s.kd 1).1++u->nN (t,0) 1=s.kd/\sN (t,0) 1=(u,0):=by
  intro u h0 hu
  obtain⟨f1,f2,f3,f4⟩:=stepW_inv (by omega) (by omega) h0
  rw[f4] at hu
  dsimp only at hu
  rw[z0,show((1:Int)).toNat=1 from rfl] at hu
  rw[hu]
  exact sN_cat (j:=1) rfl (by omega) (by omega) f2 f3
 have hcs:cleanS s=s:=congrArg Rm.s hc
 have hci:(if s.kd=1∨s.kd=2 then l else [])=l:=congrArg Rm.im hc
 have hcg:(if s.kd=9 then g else [])=g:=congrArg Rm.tb hc
 have w6:∀ (n:Int) (X:ByteArray × Int),(stepW X n 6).2=0->X.2=0/\0<=n/\n<281474976710656/\(stepW X n 6).1=X.1++Pk.beS n.toNat 6:=by
  intro n X h0
  obtain⟨f1,f2,f3,f4⟩:=stepW_inv (by omega) (by omega) h0
  rw[Pk.limI_6] at f3
  exact⟨f1,f2,f3,by rw[f4];rfl⟩
 have r6:∀ (n:Int) (b:ByteArray),0<=n->n<281474976710656->nN (Pk.beS n.toNat 6++b,0) 6=n/\sN (Pk.beS n.toNat 6++b,0) 6=(b,0):=by
  intro n b h0 h1
  exact sN_cat (j:=6) rfl (by omega) (by omega) h0 (by rw[show Pk.limI 6=281474976710656 from Pk.limI_6];exact h1)
 have w1:∀ (n:Int) (X:ByteArray × Int),(stepW X n 1).2=0->X.2=0/\0<=n/\n<256/\(stepW X n 1).1=X.1++Pk.beS n.toNat 1:=by
  intro n X h0
  obtain⟨f1,f2,f3,f4⟩:=stepW_inv (by omega) (by omega) h0
  rw[Pk.limI_1] at f3
  exact⟨f1,f2,f3,by rw[f4];rfl⟩
 have r1:∀ (n:Int) (b:ByteArray),0<=n->n<256->nN (Pk.beS n.toNat 1++b,0) 1=n/\sN (Pk.beS n.toNat 1++b,0) 1=(b,0):=by
  intro n b h0 h1
  exact sN_cat (j:=1) rfl (by omega) (by omega) h0 (by rw[show Pk.limI 1=256 from Pk.limI_1];exact h1)
 have fin:∀ (x:Rm),x=cleanM ⟨s,l,g⟩->(x,((⟨#[]⟩:ByteArray),(0:Int)))=(⟨s,l,g⟩,(⟨#[]⟩,0)):=by
  intro x hx;rw[hx,hc]
 obtain⟨A1,hA1⟩:∃ A1,A1=stepW (⟨#[]⟩,0) s.kd 1:=⟨_,rfl⟩
 rw[← hA1] at hl2 htt head
 clear hA1
 unfold rdM rdK
 dsimp only
 by_cases h12:s.kd=1∨s.kd=2
 ·rw[if_pos h12] at hl2 htt
  obtain⟨gI,e⟩:=layI_inv (fun p hp=>by have:=hx h12 p hp;omega) hl2
  obtain⟨c1,c2,c3,c4⟩:=w1 _ _ (layI_was hl2)
  rw[e] at htt
  dsimp only at htt
  rw[c4,ByteArray.append_assoc] at htt
  obtain⟨a1,a2⟩:=head _ c1 htt
  obtain⟨b1,b2⟩:=r1 (l.length:Int) (catI l) c2 c3
  have h224:∀ p∈l,p.2.size<=224:=fun p hp=>by
   have:=(List.all_eq_true.1 (hwh h12)) p hp
   simp at this
   omega
  obtain⟨d1,d2⟩:=rd_images l ⟨#[]⟩ gI h224
  rw[Pk.append_nil] at d1 d2
  rw[a1,a2,if_pos h12,b1,b2,Int.toNat_natCast,d1,d2]
  refine fin _ ?_
  rcases h12 with h |h <;> simp[cleanM,cleanS,h,kR,zS]
 rw[if_neg h12] at hl2 htt
 by_cases h345:s.kd=3∨s.kd=4∨s.kd=5
 ·rw[if_pos h345] at hl2 htt
  obtain⟨p1,p2,p3,p4⟩:=layC_inv hy ho hw hl2
  rw[p4] at htt
  dsimp only at htt
  have e1:layP [s.tx,s.pv] A1=stepW (stepW A1 s.tx 6) s.pv 6:=rfl
  rw[e1] at p1 htt
  obtain⟨f1,f2,f3,f4⟩:=w6 _ _ p1
  obtain⟨g1,g2,g3,g4⟩:=w6 _ _ f1
  rw[f4,g4,ByteArray.append_assoc,ByteArray.append_assoc] at htt
  obtain⟨a1,a2⟩:=head _ g1 htt
  obtain⟨b1,b2⟩:=r6 s.tx (Pk.beS s.pv.toNat 6++catC s) g2 g3
  obtain⟨d1,d2⟩:=r6 s.pv (catC s) f2 f3
  have hact:s.kd=actOf s:=by unfold actOf;rw[if_neg (by omega)]
  have hch:=rdChg_cat {kR s.kd with tx:=s.tx,pv:=s.pv} s ⟨#[]⟩ hy ho hw p2 p3
  rw[Pk.append_nil,← hact] at hch
  rw[a1,a2,if_neg h12,if_pos h345,b1,b2,d1,d2,hch]
  refine fin _ ?_
  rcases h345 with h |h |h <;> simp[cleanM,cleanS,h,kR,zS,putC,actOf]
 rw[if_neg h345] at hl2 htt
 by_cases h6:s.kd=6
 ·rw[if_pos h6] at hl2 htt
  obtain⟨p1,p2,p3,p4⟩:=layC_inv hy ho hw hl2
  rw[p4] at htt
  dsimp only at htt
  have e1:layP [s.tx,s.pv,s.nx] A1=stepW (stepW (stepW A1 s.tx 6) s.pv 6) s.nx 6:=rfl
  rw[e1] at p1 htt
  obtain⟨i1,i2,i3,i4⟩:=w1 _ _ p1
  obtain⟨j1,j2,j3,j4⟩:=w6 _ _ i1
  obtain⟨f1,f2,f3,f4⟩:=w6 _ _ j1
  obtain⟨g1,g2,g3,g4⟩:=w6 _ _ f1
  rw[i4,j4,f4,g4,ByteArray.append_assoc,ByteArray.append_assoc,ByteArray.append_assoc,ByteArray.append_assoc] at htt
  obtain⟨a1,a2⟩:=head _ g1 htt
  obtain⟨b1,b2⟩:=r6 s.tx (Pk.beS s.pv.toNat 6++(Pk.beS s.nx.toNat 6++(Pk.beS s.ac.toNat 1++catC s))) g2 g3
  obtain⟨d1,d2⟩:=r6 s.pv (Pk.beS s.nx.toNat 6++(Pk.beS s.ac.toNat 1++catC s)) f2 f3
  obtain⟨d3,d4⟩:=r6 s.nx (Pk.beS s.ac.toNat 1++catC s) j2 j3
  obtain⟨d5,d6⟩:=r1 s.ac (catC s) i2 i3
  have hact:s.ac=actOf s:=by unfold actOf;rw[if_pos h6]
  have hch:=rdChg_cat {kR s.kd with tx:=s.tx,pv:=s.pv,nx:=s.nx,ac:=s.ac} s ⟨#[]⟩ hy ho hw p2 p3
  rw[Pk.append_nil,← hact] at hch
  rw[a1,a2,if_neg h12,if_neg h345,if_pos h6,b1,b2,d1,d2,d3,d4,d5,d6,hch]
  refine fin _ ?_
  simp[cleanM,cleanS,h6,kR,zS,putC,actOf]
 rw[if_neg h6] at hl2 htt
 by_cases h78:s.kd=7∨s.kd=8
 ·rw[if_pos h78] at hl2 htt
  have e1:layP [s.tx,s.pv] A1=stepW (stepW A1 s.tx 6) s.pv 6:=rfl
  rw[e1] at hl2 htt
  obtain⟨f1,f2,f3,f4⟩:=w6 _ _ hl2
  obtain⟨g1,g2,g3,g4⟩:=w6 _ _ f1
  rw[f4,g4,ByteArray.append_assoc] at htt
  obtain⟨a1,a2⟩:=head _ g1 htt
  obtain⟨b1,b2⟩:=r6 s.tx (Pk.beS s.pv.toNat 6) g2 g3
  obtain⟨d1,d2⟩:=r6 s.pv ⟨#[]⟩ f2 f3
  rw[Pk.append_nil] at d1 d2
  rw[a1,a2,if_neg h12,if_neg h345,if_neg h6,if_pos h78,b1,b2,d1,d2]
  refine fin _ ?_
  rcases h78 with h |h <;> simp[cleanM,cleanS,h,kR,zS]
 rw[if_neg h78] at hl2 htt
 by_cases h9:s.kd=9
 ·rw[if_pos h9] at hl2 htt
  obtain⟨gI,e⟩:=layB_inv hl2
  obtain⟨c1,c2,c3,c4⟩:=w1 _ _ (layB_was hl2)
  rw[e] at htt
  dsimp only at htt
  rw[c4,ByteArray.append_assoc] at htt
  obtain⟨a1,a2⟩:=head _ c1 htt
  obtain⟨b1,b2⟩:=r1 (g.length:Int) (catB g) c2 c3
  obtain⟨d1,d2⟩:=rd_table g ⟨#[]⟩ gI
  rw[Pk.append_nil] at d1 d2
  rw[a1,a2,if_neg h12,if_neg h345,if_neg h6,if_neg h78,if_pos h9,b1,b2,Int.toNat_natCast,d1,d2]
  refine fin _ ?_
  simp[cleanM,cleanS,h9,kR,zS]
 rw[if_neg h9] at hl2 htt
 have h10:s.kd=10:=by omega
 rw[if_pos h10] at hl2 htt
 obtain⟨f1,f2,f3,f4⟩:=w1 _ _ hl2
 obtain⟨g1,g2,g3,g4⟩:=stepW_inv (by omega) (by omega) f1
 rw[f4,g4,show((4:Int)).toNat=4 from rfl] at htt
 dsimp only at htt
 rw[ByteArray.append_assoc] at htt
 obtain⟨a1,a2⟩:=head _ g1 htt
 obtain⟨b1,b2⟩:=sN_cat (n:=s.ep) (k:=4) (j:=4) (b:=Pk.beS s.nd.toNat 1) rfl (by omega) (by omega) g2 g3
 obtain⟨d1,d2⟩:=r1 s.nd ⟨#[]⟩ f2 f3
 rw[Pk.append_nil] at d1 d2
 rw[a1,a2,if_neg h12,if_neg h345,if_neg h6,if_neg h78,if_neg h9,if_pos h10,b1,b2,d1,d2]
 refine fin _ ?_
 simp[cleanM,cleanS,h10,kR,zS]
theorem ofM_body {m:Rm} {t:ByteArray} (hc:cleanM m=m) (hb:bodyM m=(t,0)):ofM t=(m,0):=by
 unfold ofM
 rw[rdM_body hc hb]
 dsimp only
 have e:Pk.rdEnd ⟨#[]⟩ 0=(⟨#[]⟩,0):=rfl
 rw[e]
 dsimp only
 rw[if_neg (by simp),hb,if_pos ⟨rfl,rfl⟩]
theorem cleanM_twice (m:Rm):cleanM (cleanM m)=cleanM m:=by
 obtain⟨s,l,g⟩:=m
 have hk:(cleanS s).kd=s.kd:=cleanS_kd s
 have h1:cleanS (cleanS s)=cleanS s:=by
  unfold cleanS actOf
  repeat' split
  all_goals simp_all
 unfold cleanM
 dsimp only
 rw[hk,h1]
 congr 1
 ·split <;> rfl
 ·split <;> rfl
theorem empty_rd:(rdM ⟨#[]⟩).2.2=2:=by decide
theorem body_pos {m:Rm} {Z:ByteArray} (hb:bodyM (cleanM m)=(Z,0)):1<=Z.size:=by
 rcases Nat.lt_or_ge Z.size 1 with h |h
 ·have hz:Z=⟨#[]⟩:=by
   apply ByteArray.ext
   exact Array.eq_empty_of_size_eq_zero (show Z.data.size=0 by have:Z.size=Z.data.size:=rfl;omega)
  have h1:=rdM_body (cleanM_twice m) hb
  rw[hz] at h1
  have h2:=empty_rd
  rw[h1] at h2
  dsimp only at h2
  omega
 ·exact h
theorem open_frame {m:Rm} {Z:ByteArray} (hb:bodyM (cleanM m)=(Z,0)) (a b:ByteArray):openM (a++frameB Z++b) a.size=(cleanM m,6+(Z.size:Int),0):=by
 have hz:Z.size<=4096:=by have:=bodyM_size (cleanM m);rw[hb] at this;exact this
 have hp:=body_pos hb
 have hx:(a++frameB Z++b).extract a.size (a++frameB Z++b).size=frameB Z++b:=by
  rw[ByteArray.append_assoc]
  exact Pk.extract_right a (frameB Z++b)
 have hs:=frameB_size Z
 have hfr:frM (frameB Z++b)=(Z,0):=by
  have e:frameB Z++b=Pk.beS Z.size 2++(Sm.sealV Z++b):=by unfold frameB;rw[ByteArray.append_assoc]
  obtain⟨n1,n2⟩:=sN_cat (n:=(Z.size:Int)) (k:=2) (j:=2) (b:=Sm.sealV Z++b) rfl (by omega) (by omega) (by omega) (by rw[show Pk.limI 2=65536 from Pk.limI_2];omega)
  rw[Int.toNat_natCast,← e] at n1 n2
  have hr:frR (frameB Z++b)=(Sm.sealV Z,b,0):=by
   unfold frR
   rw[n1,n2]
   have:=Pk.rdRaw_app (Sm.sealV Z) b
   rw[sealV_size] at this
   have e4:((4+Z.size:Nat):Int)=4+(Z.size:Int):=by omega
   rw[e4] at this
   exact this
  unfold frM
  rw[if_neg (by rw[ByteArray.size_append];omega),n1,if_neg (by omega),hr]
  dsimp only
  rw[if_neg (by simp)]
  exact Sm.open_seal Z
 unfold openM
 rw[if_neg (by rw[ByteArray.size_append,ByteArray.size_append];omega),Int.toNat_natCast,hx,hfr]
 dsimp only
 rw[if_neg (by simp),ofM_body (cleanM_twice m) hb]
 dsimp only
 rw[if_neg (by simp)]
theorem extract_extract1 (s:ByteArray) (a n:Nat) (h:a+n<=s.size):(s.extract a s.size).extract 0 n=s.extract a (a+n):=by
 apply ByteArray.ext
 simp only[ByteArray.data_extract]
 have e:s.size=s.data.size:=rfl
 rw[Array.extract_extract]
 congr 1
 omega
theorem nN_eq (q:Lf) (k:Int) (h1:1<=k) (h6:k<=6):nN q k=(Pk.beN (Pk.rdRaw q.1 q.2 k).1.data.toList:Nat)/\sN q k=(Pk.rdRaw q.1 q.2 k).2:=by
 unfold nN sN Pk.rdNum Pk.rdNumSt
 rw[if_neg (by omega)]
 exact⟨rfl,rfl⟩
theorem openV_yes {z:ByteArray} (h:Sm.sealV (z.extract 4 z.size)=z):Sm.openV z=(z.extract 4 z.size,0):=by
 have:=Sm.open_seal (z.extract 4 z.size)
 unfold Sm.sealV at h
 rw[h] at this
 exact this
theorem beN_foldl:∀ (l:List UInt8) (a:Nat),l.foldl (fun a b=>256*a+b.toNat) a=a*256 ^ l.length+Pk.beN l
 | [],a=>by simp[Pk.beN]
 | c :: l,a=>by
  have h1:=beN_foldl l (256*a+c.toNat)
  have h2:=beN_foldl l (256*0+c.toNat)
  rw[List.foldl_cons,h1]
  show _=_+(c ::l).foldl (fun a b=>256*a+b.toNat) 0
  rw[List.foldl_cons,h2,List.length_cons,Nat.pow_succ,Nat.add_mul,Nat.mul_zero,Nat.zero_add,Nat.mul_comm 256 a,Nat.mul_assoc,Nat.mul_comm 256 (256 ^ l.length),Nat.add_assoc]
theorem beN_cons (c:UInt8) (l:List UInt8):Pk.beN (c ::l)=c.toNat*256 ^ l.length+Pk.beN l:=by
 show(c ::l).foldl (fun a b=>256*a+b.toNat) 0=_
 rw[List.foldl_cons,beN_foldl];simp
theorem beN_inj:∀ (l m:List UInt8),l.length=m.length->Pk.beN l=Pk.beN m->l=m
 | [],[],_,_=>rfl
 | [],_ :: _,h,_=>by simp at h
 | _ :: _,[],h,_=>by simp at h
 | c :: l,d :: m,h,e=>by
  have hl:l.length=m.length:=by simpa using h
  rw[beN_cons,beN_cons,hl] at e
  have b1:=Pk.beN_lt l
  have b2:=Pk.beN_lt m
  rw[hl] at b1
  generalize 256 ^ m.length=K at *
  have hcd:c.toNat=d.toNat:=by
   rcases Nat.lt_trichotomy c.toNat d.toNat with x |x |x
   ·have y:=Nat.mul_le_mul_right K (show c.toNat+1<=d.toNat from x)
    rw[Nat.succ_mul] at y
    omega
   ·exact x
   ·have y:=Nat.mul_le_mul_right K (show d.toNat+1<=c.toNat from x)
    rw[Nat.succ_mul] at y
    omega
  rw[hcd] at e
  rw[beN_inj l m hl (by omega),UInt8.toNat_inj.1 hcd]
theorem be_beN (l:List UInt8):Pk.be (Pk.beN l) l.length=l :=
 beN_inj _ _ (Pk.be_length _ _) (Pk.beN_be _ _ (Pk.beN_lt l))
theorem openV_no {z:ByteArray} (h4:4<=z.size) (h:Sm.sealV (z.extract 4 z.size)≠z):Sm.openV z=(⟨#[]⟩,5):=by
 unfold Sm.openV
 rw[if_neg (by omega),if_neg]
 intro e
 apply h
 have hz:(z.extract 0 4).data.toList.length=4:=by
  have:(z.extract 0 4).size=4:=by rw[ByteArray.size_extract];omega
  rw[Array.length_toList]
  exact this
 have hb:=be_beN (z.extract 0 4).data.toList
 rw[hz] at hb
 unfold Sm.sealV
 rw[e,Int.toNat_natCast]
 have e2:Pk.beS (Pk.beN (z.extract 0 4).data.toList) 4=z.extract 0 4:=by
  apply ByteArray.ext
  unfold Pk.beS
  dsimp only
  rw[hb]
 rw[e2]
 apply ByteArray.ext
 rw[ByteArray.data_append,ByteArray.data_extract,ByteArray.data_extract,Array.extract_append_extract]
 rw[Nat.min_eq_left (by omega),Nat.max_eq_right (by omega)]
 exact Array.extract_size
theorem sN_two {s:ByteArray} (h:2<=s.size):sN (s,0) 2=(s.extract 2 s.size,0):=by
 rw[(nN_eq (s,0) 2 (by omega) (by omega)).2,Pk.rdRaw_fits (by omega) (by dsimp only;omega)]
 rfl
theorem frM_range {s:ByteArray} (h6:6<=s.size) (h:nN (s,0) 2<1∨4096<nN (s,0) 2):frM s=(⟨#[]⟩,4):=by
 unfold frM
 rw[if_neg (by omega),if_pos h]
theorem frM_short {s:ByteArray} {k:Nat} (h6:6<=s.size) (hk:nN (s,0) 2=(k:Int)) (h1:1<=k) (h2:k<=4096) (h:s.size<6+k):frM s=(⟨#[]⟩,2):=by
 have e:frR s=(⟨#[]⟩,⟨#[]⟩,2):=by
  unfold frR
  rw[sN_two (by omega),hk,Pk.rdRaw_short (by omega) (by dsimp only;rw[ByteArray.size_extract];omega)]
 unfold frM
 rw[if_neg (by omega),if_neg (by omega),e,if_pos (show(2:Int)≠0 by decide)]
theorem frR_fits {s:ByteArray} {k:Nat} (h6:6<=s.size) (hk:nN (s,0) 2=(k:Int)) (h:6+k<=s.size):(frR s).1=s.extract 2 (6+k)/\(frR s).2.2=0:=by
 unfold frR
 rw[sN_two (by omega),hk,Pk.rdRaw_fits (by omega) (by dsimp only;rw[ByteArray.size_extract];omega)]
 refine⟨?_,rfl⟩
 dsimp only
 rw[show((4:Int)+(k:Int)).toNat=4+k by omega,extract_extract1 s 2 (4+k) (by omega)]
 congr 1
 omega
theorem frM_open {s:ByteArray} {k:Nat} (h6:6<=s.size) (hk:nN (s,0) 2=(k:Int)) (h1:1<=k) (h2:k<=4096) (h:6+k<=s.size):frM s=Sm.openV (s.extract 2 (6+k)):=by
 obtain⟨e1,e2⟩:=frR_fits h6 hk h
 unfold frM
 rw[if_neg (by omega),if_neg (by omega),e2,if_neg (by simp),e1]
theorem nN_two {s:ByteArray} (a:Nat) (h:a+2<=s.size):nN (s.extract a s.size,0) 2=256*((s[a]'(by omega)).toNat:Int)+((s[a+1]'(by omega)).toNat:Int):=by
 rw[(nN_eq _ 2 (by omega) (by omega)).1,Pk.rdRaw_fits (by omega) (by dsimp only;rw[ByteArray.size_extract];omega)]
 dsimp only
 rw[show((2:Int)).toNat=2 from rfl,extract_extract1 s a 2 h]
 have e:(s.extract a (a+2)).data.toList=[s[a]'(by omega),s[a+1]'(by omega)]:=by
  have hz:(s.extract a (a+2)).data.toList.length=2:=by
   rw[Array.length_toList]
   show(s.extract a (a+2)).size=2
   rw[ByteArray.size_extract];omega
  refine List.ext_getElem hz ?_
  intro i h1 h2
  have hi:i<2:=by rw[hz] at h1;exact h1
  rw[Array.getElem_toList]
  have e2:(s.extract a (a+2)).data[i]'(by rw[Array.length_toList] at h1;exact h1)=s.data[a+i]'(by have:s.data.size=s.size:=rfl;omega):=by
   simp only[ByteArray.data_extract,Array.getElem_extract]
  rw[e2]
  have hi2:i=0∨i=1:=by omega
  rcases hi2 with rfl |rfl <;> rfl
 rw[e]
 simp only[Pk.beN,List.foldl_cons,List.foldl_nil]
 omega
section
variable {s:ByteArray}{a:Nat}
theorem openM_bad {E:Int} (ha:a<=s.size) (hE:E≠0) (h:frM (s.extract a s.size)=(⟨#[]⟩,E)):openM s (a:Int)=(zM,0,E):=by
 unfold openM
 rw[if_neg (by omega),Int.toNat_natCast,h,if_pos hE]
theorem openM_six (ha:a<=s.size) (h:s.size-a<6):openM s (a:Int)=(zM,0,2):=by
 refine openM_bad ha (by decide) ?_
 unfold frM
 rw[if_pos (by rw[ByteArray.size_extract];omega)]
theorem openM_good {t:ByteArray} (ha:a<=s.size) (h:frM (s.extract a s.size)=(t,0)):openM s (a:Int)=if(ofM t).2≠0 then(zM,(0:Int),(ofM t).2) else((ofM t).1,6+(t.size:Int),0):=by
 unfold openM
 rw[if_neg (by omega),Int.toNat_natCast,h,if_neg (by simp)]
end
theorem ext_ext {s:ByteArray} {a b c d:Nat} (h:a+c<=b):(s.extract a b).extract d c=s.extract (a+d) (a+c):=by
 apply ByteArray.ext
 simp only[ByteArray.data_extract]
 rw[Array.extract_extract]
 congr 1
 omega
theorem ext_size {s:ByteArray} {a b:Nat} (h:b<=s.size):(s.extract a b).size=b-a:=by
 rw[ByteArray.size_extract];omega
section
variable {s:ByteArray}{a k:Nat}
theorem nN_k (ha:a+6<=s.size) (hk:256*(s[a]'(by omega)).toNat+(s[a+1]'(by omega)).toNat=k):nN (s.extract a s.size,0) 2=(k:Int):=by
 rw[nN_two a (by omega),← hk];omega
theorem openM_form (ha:a+6<=s.size) (hk:256*(s[a]'(by omega)).toNat+(s[a+1]'(by omega)).toNat=k) (h:k<1∨4096<k):openM s (a:Int)=(zM,0,4):=by
 refine openM_bad (by omega) (by decide) (frM_range ?_ ?_)
 ·rw[ext_size (Nat.le_refl _)];omega
 ·rw[nN_k ha hk];omega
theorem openM_short (ha:a+6<=s.size) (hk:256*(s[a]'(by omega)).toNat+(s[a+1]'(by omega)).toNat=k) (h1:1<=k) (h2:k<=4096) (h:s.size<a+6+k):openM s (a:Int)=(zM,0,2):=by
 refine openM_bad (by omega) (by decide) (frM_short ?_ (nN_k ha hk) h1 h2 ?_)
 ·rw[ext_size (Nat.le_refl _)];omega
 ·rw[ext_size (Nat.le_refl _)];omega
theorem frM_at (ha:a+6<=s.size) (hk:256*(s[a]'(by omega)).toNat+(s[a+1]'(by omega)).toNat=k) (h1:1<=k) (h2:k<=4096) (h:a+6+k<=s.size):frM (s.extract a s.size)=Sm.openV (s.extract (a+2) (a+6+k)):=by
 rw[frM_open (by rw[ext_size (Nat.le_refl _)];omega) (nN_k ha hk) h1 h2 (by rw[ext_size (Nat.le_refl _)];omega),ext_ext (by omega),Nat.add_assoc]
theorem inner_at (h:a+6+k<=s.size):(s.extract (a+2) (a+6+k)).extract 4 (s.extract (a+2) (a+6+k)).size=s.extract (a+6) (a+6+k):=by
 rw[ext_size h,ext_ext (by omega)]
 congr 1
 omega
theorem openM_sum (ha:a+6<=s.size) (hk:256*(s[a]'(by omega)).toNat+(s[a+1]'(by omega)).toNat=k) (h1:1<=k) (h2:k<=4096) (h:a+6+k<=s.size) (hs:Sm.sealV (s.extract (a+6) (a+6+k))≠s.extract (a+2) (a+6+k)):openM s (a:Int)=(zM,0,5):=by
 refine openM_bad (by omega) (by decide) ?_
 rw[frM_at ha hk h1 h2 h]
 refine openV_no (by rw[ext_size h];omega) ?_
 rw[inner_at h]
 exact hs
theorem openM_of (ha:a+6<=s.size) (hk:256*(s[a]'(by omega)).toNat+(s[a+1]'(by omega)).toNat=k) (h1:1<=k) (h2:k<=4096) (h:a+6+k<=s.size) (hs:Sm.sealV (s.extract (a+6) (a+6+k))=s.extract (a+2) (a+6+k)) :
  openM s (a:Int)=if(ofM (s.extract (a+6) (a+6+k))).2≠0 then(zM,(0:Int),(ofM (s.extract (a+6) (a+6+k))).2) else((ofM (s.extract (a+6) (a+6+k))).1,6+(k:Int),0):=by
 have e:frM (s.extract a s.size)=(s.extract (a+6) (a+6+k),0):=by
  rw[frM_at ha hk h1 h2 h]
  have:=openV_yes (z:=s.extract (a+2) (a+6+k)) (by rw[inner_at h];exact hs)
  rw[inner_at h] at this
  exact this
 rw[openM_good (by omega) e,ext_size h,show a+6+k-(a+6)=k by omega]
end
theorem clean_chg (K:Int) (hK:K=3∨K=4∨K=5) (x y:Int) (q:Lf):cleanS (rdChg K {kR K with tx:=x,pv:=y} q).1=(rdChg K {kR K with tx:=x,pv:=y} q).1:=by
 rcases hK with rfl |rfl |rfl <;> simp[rdChg,cleanS,rcN,rcO,rcB,rc1,kR,zS,actOf]
theorem clean_und (a x y z:Int) (q:Lf):cleanS (rdChg a {kR 6 with tx:=x,pv:=y,nx:=z,ac:=a} q).1=(rdChg a {kR 6 with tx:=x,pv:=y,nx:=z,ac:=a} q).1:=by
 unfold rdChg
 by_cases h3:a=3
 ·rw[if_pos h3];simp[cleanS,rcN,rc1,kR,zS,actOf,h3]
 ·by_cases h4:a=4
  ·rw[if_neg h3,if_pos h4];simp[cleanS,rcO,rc1,kR,zS,actOf,h4]
  ·rw[if_neg h3,if_neg h4];simp[cleanS,rcB,rc1,kR,zS,actOf,h3,h4]
theorem cleanM_nil {s:Sc} (h:cleanS s=s):cleanM ⟨s,[],[]⟩=⟨s,[],[]⟩:=by
 unfold cleanM
 dsimp only
 rw[h,ite_self,ite_self]
theorem cleanM_rdM (t:ByteArray):cleanM (rdM t).1=(rdM t).1:=by
 unfold rdM rdK
 dsimp only
 generalize nN (t,0) 1=k
 generalize sN (t,0) 1=q
 by_cases h12:k=1∨k=2
 ·rw[if_pos h12]
  rcases h12 with rfl |rfl <;> simp[cleanM,cleanS,kR,zS]
 rw[if_neg h12]
 by_cases h345:k=3∨k=4∨k=5
 ·rw[if_pos h345]
  exact cleanM_nil (clean_chg k h345 (nN q 6) (nN (sN q 6) 6) (sN (sN q 6) 6))
 rw[if_neg h345]
 by_cases h6:k=6
 ·subst h6
  rw[if_pos rfl]
  exact cleanM_nil (clean_und (nN (sN (sN (sN q 6) 6) 6) 1) (nN q 6) (nN (sN q 6) 6) (nN (sN (sN q 6) 6) 6) (sN (sN (sN (sN q 6) 6) 6) 1))
 rw[if_neg h6]
 by_cases h78:k=7∨k=8
 ·rw[if_pos h78]
  rcases h78 with rfl |rfl <;> simp[cleanM,cleanS,kR,zS]
 rw[if_neg h78]
 by_cases h9:k=9
 ·subst h9;rw[if_pos rfl];simp[cleanM,cleanS,kR,zS]
 rw[if_neg h9]
 by_cases h10:k=10
 ·subst h10;rw[if_pos rfl];simp[cleanM,cleanS,kR,zS]
 rw[if_neg h10]
 have a3:¬ (k=3∨k=4∨k=5∨k=6):=by omega
 simp[cleanM,cleanS,kR,zS,h12,a3,h78,h9,h10]
def cat:List ByteArray->ByteArray
 | []=>⟨#[]⟩
 | f :: l=>f++cat l
theorem app_nil (s:ByteArray):s++(⟨#[]⟩:ByteArray)=s:=by apply ByteArray.ext;simp[ByteArray.data_append]
theorem cat_append (l m:List ByteArray):cat (l++m)=cat l++cat m:=by
 induction l with
 | nil=>simp only[List.nil_append,cat,nil_app]
 | cons f l ih=>simp only[List.cons_append,cat,ih,ByteArray.append_assoc]
theorem cat_snoc (l:List ByteArray) (f:ByteArray):cat (l++[f])=cat l++f:=by rw[cat_append,cat,cat,app_nil]
theorem bsz (a b:ByteArray):(a++b).size=a.size+b.size:=ByteArray.size_append
theorem nilz:(⟨#[]⟩:ByteArray).size=0:=rfl
theorem nil_of_size {s:ByteArray} (h:s.size=0):s=⟨#[]⟩:=by
 apply ByteArray.ext
 exact Array.eq_empty_of_size_eq_zero h
theorem ext_left (a b:ByteArray):(a++b).extract 0 a.size=a:=by
 apply ByteArray.ext
 rw[ByteArray.data_extract,ByteArray.data_append]
 have:a.size=a.data.size:=rfl
 rw[this]
 simp
theorem ext_right (a b:ByteArray):(a++b).extract a.size (a++b).size=b:=Pk.extract_right a b
theorem ext_split (s:ByteArray) {j:Nat} (h:j<=s.size):s.extract 0 j++s.extract j s.size=s:=by
 apply ByteArray.ext
 rw[ByteArray.data_append,ByteArray.data_extract,ByteArray.data_extract]
 have e:s.size=s.data.size:=rfl
 rw[e] at h ⊢
 rw[Array.extract_append_extract,Nat.min_eq_left (Nat.zero_le _),Nat.max_eq_right h]
 simp
theorem app_inj {a b c d:ByteArray} (h:a++b=c++d) (hs:a.size=c.size):a=c/\b=d:=by
 have e1:(a++b).extract 0 a.size=a:=ext_left a b
 have e2:(c++d).extract 0 c.size=c:=ext_left c d
 have e3:=ext_right a b
 have e4:=ext_right c d
 rw[h,hs] at e1
 rw[h,hs] at e3
 exact⟨e1.symm.trans e2,e3.symm.trans e4⟩
theorem pre_cmp {a b c d:ByteArray} (h:a++b=c++d) (hs:a.size<=c.size):∃ x,c=a++x/\b=x++d:=by
 have h1:c.extract 0 a.size++c.extract a.size c.size=c:=ext_split c hs
 have h2:a++b=c.extract 0 a.size++(c.extract a.size c.size++d):=by rw[← ByteArray.append_assoc,h1];exact h
 obtain⟨e1,e2⟩:=app_inj h2 (by rw[ByteArray.size_extract];omega)
 refine⟨c.extract a.size c.size,?_,e2⟩
 conv=>lhs;rw[← h1,← e1]
structure Frm (f:ByteArray):Prop where
 ex:∃ m Z,bodyM (cleanM m)=(Z,0)/\f=frameB Z
def recF (f:ByteArray):Rm:=(openM f 0).1
section
variable {f g s t:ByteArray}{fs gs:List ByteArray}
theorem Frm.open_ (h:Frm f) (a b:ByteArray):openM (a++f++b) (a.size:Int)=(recF f,(f.size:Int),0):=by
 obtain⟨m,Z,hb,rfl⟩:=h.ex
 have h0:=open_frame hb ⟨#[]⟩ ⟨#[]⟩
 rw[nil_app,app_nil] at h0
 have h1:openM (frameB Z) 0=(cleanM m,6+(Z.size:Int),0):=h0
 unfold recF
 rw[h1,open_frame hb a b,frameB_size]
 simp
theorem Frm.at0 (h:Frm f) (b:ByteArray):openM (f++b) 0=(recF f,(f.size:Int),0):=by
 have:=h.open_ ⟨#[]⟩ b
 rw[nil_app] at this
 exact this
theorem Frm.pos (h:Frm f):7<=f.size:=by
 obtain⟨m,Z,hb,rfl⟩:=h.ex
 have:=body_pos hb
 rw[frameB_size];omega
theorem Frm.le (h:Frm f):f.size<=4102:=by
 obtain⟨m,Z,hb,rfl⟩:=h.ex
 have:=bodyM_size (cleanM m)
 rw[hb] at this
 rw[frameB_size];dsimp only at this;omega
theorem frm_of {m:Rm} (h:frameM m=(f,0)):Frm f:=by
 unfold frameM at h
 split at h
 ·rename_i hn
  simp only[Prod.mk.injEq] at h
  exact absurd h.2 hn
 ·rename_i hn
  simp only[Prod.mk.injEq] at h
  refine⟨m,(bodyM (cleanM m)).1,?_,h.1.symm⟩
  have:(bodyM (cleanM m)).2=0:=by simpa using hn
  rw[← this]
theorem frm_good {m:Rm} (h:(frameM m).2=0):Frm (frameM m).1:=frm_of (by rw[← h])
theorem ofM_ok {t:ByteArray} (h:(ofM t).2=0):bodyM (cleanM (rdM t).1)=(t,0)/\(ofM t).1=(rdM t).1:=by
 rw[cleanM_rdM]
 unfold ofM at h ⊢
 split at h
 ·rename_i hn
  exact absurd h hn
 ·rename_i hn
  split at h
  ·rename_i hb
   rw[if_neg hn,if_pos hb]
   exact⟨Prod.ext hb.2 hb.1,rfl⟩
  ·cases h
theorem open_frm {a:Nat} {r:Rm} {k:Int} (ha:a<=s.size) (h:openM s (a:Int)=(r,k,0)):∃ f,Frm f/\k=(f.size:Int)/\r=recF f/\a+f.size<=s.size/\s.extract a (a+f.size)=f:=by
 rcases Nat.lt_or_ge (s.size-a) 6 with h6 |h6
 ·rw[openM_six ha h6] at h
  simp at h
 have ha6:a+6<=s.size:=by omega
 obtain⟨j,hj⟩:∃ j:Nat,256*(s[a]'(by omega)).toNat+(s[a+1]'(by omega)).toNat=j:=⟨_,rfl⟩
 by_cases h1:j<1∨4096<j
 ·rw[openM_form ha6 hj h1] at h
  simp at h
 have j1:1<=j:=by omega
 have j2:j<=4096:=by omega
 rcases Nat.lt_or_ge s.size (a+6+j) with h3 |h3
 ·rw[openM_short ha6 hj j1 j2 h3] at h
  simp at h
 by_cases hs:Sm.sealV (s.extract (a+6) (a+6+j))=s.extract (a+2) (a+6+j)
 ·rw[openM_of ha6 hj j1 j2 h3 hs] at h
  split at h
  ·rename_i hn
   simp only[Prod.mk.injEq] at h
   exact absurd h.2.2 hn
  ·rename_i hn
   have hn':(ofM (s.extract (a+6) (a+6+j))).2=0:=by simpa using hn
   obtain⟨hb,ho⟩:=ofM_ok hn'
   have hz:(s.extract (a+6) (a+6+j)).size=j:=by rw[ByteArray.size_extract];omega
   have hF:frameB (s.extract (a+6) (a+6+j))=s.extract a (a+6+j):=by
    unfold frameB
    rw[hs,hz]
    have e1:Pk.beS j 2=s.extract a (a+2):=by
     apply ByteArray.ext
     apply Array.ext
     ·have:=Pk.beS_size j 2
      have e2:(s.extract a (a+2)).size=2:=by rw[ByteArray.size_extract];omega
      exact this.trans e2.symm
     ·intro i i1 i2
      have i1':i<2:=by have:=Pk.beS_size j 2;have e:(Pk.beS j 2).data.size=2:=this;omega
      have x0:=(s[a]'(by omega)).toNat_lt
      have x1:=(s[a+1]'(by omega)).toNat_lt
      have hi:i=0∨i=1:=by omega
      rcases hi with rfl |rfl
      ·simp only[Pk.beS,Pk.be,ByteArray.data_extract,Array.getElem_extract]
       simp
       rw[show j / 256=(s[a]'(by omega)).toNat by omega]
       simp[ByteArray.getElem_eq_getElem_data]
      ·simp only[Pk.beS,Pk.be,ByteArray.data_extract,Array.getElem_extract]
       simp
       rw[← UInt8.toNat_inj]
       simp
       rw[show j % 256=(s[a+1]'(by omega)).toNat by omega]
       simp[ByteArray.getElem_eq_getElem_data]
    rw[e1]
    apply ByteArray.ext
    rw[ByteArray.data_append,ByteArray.data_extract,ByteArray.data_extract,ByteArray.data_extract,Array.extract_append_extract,Nat.min_eq_left (by omega),Nat.max_eq_right (by omega)]
   have hfr:Frm (s.extract a (a+6+j)):=⟨_,_,hb,hF.symm⟩
   have hfs:(s.extract a (a+6+j)).size=6+j:=by rw[ByteArray.size_extract];omega
   simp only[Prod.mk.injEq] at h
   have hh:r=recF (s.extract a (a+6+j)):=by
    have h0:=open_frame hb ⟨#[]⟩ ⟨#[]⟩
    rw[nil_app,app_nil,hF] at h0
    have h1:openM (s.extract a (a+6+j)) 0=(cleanM (rdM (s.extract (a+6) (a+6+j))).1,_,0):=h0
    unfold recF
    rw[h1,cleanM_rdM,← ho]
    exact h.1.symm
   exact⟨_,hfr,by rw[hfs];have:=h.2.1;omega,hh,by rw[hfs];omega,by rw[hfs,show a+(6+j)=a+6+j by omega]⟩
 ·rw[openM_sum ha6 hj j1 j2 h3 hs] at h
  simp at h
theorem Frm.cut (h:Frm f) {x:ByteArray} (he:f=t++x) (hx:t.size<f.size):(openM t 0).2.2≠0:=by
 intro hz
 obtain⟨g,hg,hk,hr,hl,hx2⟩:=open_frm (s:=t) (a:=0) (r:=(openM t 0).1) (k:=(openM t 0).2.1) (Nat.zero_le _) (by
  have:openM t ((0:Nat):Int)=((openM t 0).1,(openM t 0).2.1,(openM t 0).2.2):=rfl
  rw[hz] at this;exact this)
 rw[Nat.zero_add] at hl hx2
 have e1:g++t.extract g.size t.size=t:=by
  have:=ext_split t hl
  rw[hx2] at this;exact this
 have e2:=hg.at0 (t.extract g.size t.size++x)
 rw[← ByteArray.append_assoc,e1,← he] at e2
 have e3:=h.at0 ⟨#[]⟩
 rw[app_nil] at e3
 rw[e3] at e2
 simp only[Prod.mk.injEq] at e2
 have:=e2.2.1
 omega
structure Spl (s:ByteArray) (fs:List ByteArray):Prop where
 frm:∀ f∈fs,Frm f
 pre:∃ x,s=cat fs++x
 stop:(openM s ((cat fs).size:Int)).2.2≠0
theorem openM_shift (a s:ByteArray) (n:Nat):openM (a++s) ((a.size+n:Nat):Int)=openM s (n:Int):=by
 unfold openM
 have e:(a++s).extract (a.size+n) (a++s).size=s.extract n s.size:=by
  apply ByteArray.ext
  rw[ByteArray.data_extract,ByteArray.data_append,ByteArray.data_extract,bsz]
  have e1:a.size=a.data.size:=rfl
  have e2:s.size=s.data.size:=rfl
  rw[e1,e2,Array.extract_append]
  simp
 by_cases h:s.size<n
 ·rw[if_pos (Or.inr (by rw[bsz];omega)),if_pos (Or.inr (by omega))]
 ·rw[if_neg (show ¬ (((a.size+n:Nat):Int)<0∨((a++s).size:Int)<((a.size+n:Nat):Int)) by rw[bsz];omega),if_neg (show ¬ ((n:Int)<0∨(s.size:Int)<(n:Int)) by omega),Int.toNat_natCast,Int.toNat_natCast,e]
theorem Spl.tail (h:Spl (f++t) (f ::fs)):Spl t fs:=by
 refine⟨fun g hg=>h.frm g (List.mem_cons_of_mem _ hg),?_,?_⟩
 ·obtain⟨x,hx⟩:=h.pre
  rw[cat,ByteArray.append_assoc] at hx
  exact⟨x,(app_inj hx rfl).2⟩
 ·have:=h.stop
  rw[cat,bsz,openM_shift] at this
  exact this
theorem Spl.none_of (h:Spl t gs) (hz:(openM t 0).2.2≠0):gs=[]:=by
 cases gs with
 | nil=>rfl
 | cons g gs =>
  exfalso
  obtain⟨x,hx⟩:=h.pre
  have hg:=h.frm g (List.mem_cons_self ..)
  rw[cat,ByteArray.append_assoc] at hx
  rw[hx,hg.at0] at hz
  exact hz rfl
theorem Spl.take:∀ (fs gs:List ByteArray) (t x:ByteArray),(∀ f∈fs,Frm f)->cat fs=t++x->Spl t gs->∃ j,j<=fs.length/\gs=fs.take j/\∀ i,i<=fs.length->(cat (fs.take i)).size<=t.size->i<=j
 | [],gs,t,x,hF,he,h=>by
  have hz:t.size=0:=by
   have:(cat []).size=0:=rfl
   rw[he,bsz] at this;omega
  have:=nil_of_size hz
  subst this
  refine⟨0,Nat.le_refl _,?_,fun i hi _=>hi⟩
  rw[List.take_zero]
  exact h.none_of (by decide)
 | f :: fs,gs,t,x,hF,he,h=>by
  have hf:=hF f (List.mem_cons_self ..)
  rcases Nat.lt_or_ge t.size f.size with hl |hl
  ·rw[cat] at he
   obtain⟨y,hy,hy2⟩:=pre_cmp he.symm (Nat.le_of_lt hl)
   refine⟨0,Nat.zero_le _,?_,?_⟩
   ·rw[List.take_zero]
    exact h.none_of (hf.cut hy hl)
   ·intro i hi hs
    cases i with
    | zero=>exact Nat.le_refl _
    | succ i=>rw[List.take_succ_cons,cat,bsz] at hs;omega
  ·rw[cat] at he
   obtain⟨y,hy,hy2⟩:=pre_cmp he hl
   cases gs with
   | nil =>
    exfalso
    have:=h.stop
    rw[hy] at this
    have e:((cat []).size:Int)=0:=rfl
    rw[e,hf.at0] at this
    exact this rfl
   | cons g gs =>
    have hg:=h.frm g (List.mem_cons_self ..)
    obtain⟨z,hz⟩:=h.pre
    rw[cat,ByteArray.append_assoc] at hz
    have e1:=hf.at0 y
    have e2:=hg.at0 (cat gs++z)
    rw[← hz,hy,e1] at e2
    simp only[Prod.mk.injEq] at e2
    have hs:f.size=g.size:=by have:=e2.2.1;omega
    rw[hy] at hz
    obtain⟨rfl,e4⟩:=app_inj hz hs
    subst hy
    obtain⟨j,hj,hjs,hm⟩:=Spl.take fs gs y x (fun q hq=>hF q (List.mem_cons_of_mem _ hq)) hy2 h.tail
    refine⟨j+1,by simp;omega,by rw[List.take_succ_cons,← hjs],?_⟩
    intro i hi hs2
    cases i with
    | zero=>omega
    | succ i =>
     rw[List.take_succ_cons,cat,bsz,bsz] at hs2
     have:=hm i (by simpa using hi) (by omega)
     omega
def off (fs:List ByteArray) (i:Nat):Nat:=(cat (fs.take i)).size
def plc (a:Nat):List ByteArray->List Int
 | []=>[]
 | f :: l=>(a:Int) :: plc (a+f.size) l
theorem plc_length (a:Nat) (l:List ByteArray):(plc a l).length=l.length:=by
 induction l generalizing a with
 | nil=>rfl
 | cons f l ih=>simp[plc,ih]
theorem plc_append (a:Nat) (l m:List ByteArray):plc a (l++m)=plc a l++plc (a+(cat l).size) m:=by
 induction l generalizing a with
 | nil=>simp[plc,cat,nilz]
 | cons f l ih=>simp only[List.cons_append,plc,ih,cat,bsz,Nat.add_assoc]
theorem plc_snoc (a:Nat) (l:List ByteArray) (f:ByteArray):plc a (l++[f])=plc a l++[((a+(cat l).size:Nat):Int)]:=by rw[plc_append];rfl
theorem off_all (l:List ByteArray):off l l.length=(cat l).size:=by unfold off;rw[List.take_length]
theorem off_succ {l:List ByteArray} {i:Nat} (h:i<l.length):off l (i+1)=off l i+l[i].size:=by
 unfold off
 rw[List.take_succ_eq_append_getElem h,cat_snoc,bsz]
theorem off_mono {l:List ByteArray} {i j:Nat} (h:i<=j):off l i<=off l j:=by
 unfold off
 have:l.take j=l.take i++(l.take j).drop i:=by
  have:=List.take_append_drop i (l.take j)
  rw[List.take_take,Nat.min_eq_left h] at this
  exact this.symm
 rw[this,cat_append,bsz];omega
theorem off_lt {l:List ByteArray} (hF:∀ f∈l,Frm f) {i j:Nat} (h:i<j) (hj:j<=l.length):off l i<off l j:=by
 have h1:=off_mono (l:=l) (show i+1<=j by omega)
 rw[off_succ (by omega:i<l.length)] at h1
 have:=(hF l[i] (List.getElem_mem _)).pos
 omega
theorem off_inj {l:List ByteArray} (hF:∀ f∈l,Frm f) {i j:Nat} (hi:i<=l.length) (hj:j<=l.length) (h:off l i=off l j):i=j:=by
 rcases Nat.lt_trichotomy i j with k |k |k
 ·have:=off_lt hF k hj;omega
 ·exact k
 ·have:=off_lt hF k hi;omega
theorem plc_get (a:Nat) (l:List ByteArray) (i:Nat) (h:i<l.length):(plc a l)[i]?=some ((a+off l i:Nat):Int):=by
 induction l generalizing a i with
 | nil=>exact absurd h (Nat.not_lt_zero _)
 | cons f l ih =>
  cases i with
  | zero=>rfl
  | succ i =>
   have:=ih (a+f.size) i (by simpa using h)
   simp only[plc,List.getElem?_cons_succ,this,off,List.take_succ_cons,cat,bsz,Nat.add_assoc]
theorem plc_ge (a:Nat) (l:List ByteArray):∀ x∈plc a l,(a:Int)<=x:=by
 induction l generalizing a with
 | nil=>intro x hx;cases hx
 | cons f l ih =>
  intro x hx
  simp only[plc,List.mem_cons] at hx
  rcases hx with rfl |hx
  ·exact Int.le_refl _
  ·have:=ih _ x hx;omega
theorem plc_sorted (a:Nat) (l:List ByteArray):(plc a l).Pairwise (·<=·):=by
 induction l generalizing a with
 | nil=>exact List.Pairwise.nil
 | cons f l ih=>exact List.Pairwise.cons (fun x hx=>by have:=plc_ge _ l x hx;omega) (ih _)
theorem plc_has (a:Nat) (l:List ByteArray) (x:Int):(plc a l).contains x=true↔∃ i,i<l.length/\x=((a+off l i:Nat):Int):=by
 rw[List.contains_iff_mem,List.mem_iff_getElem?]
 constructor
 ·rintro⟨i,hi⟩
  have hl:i<l.length:=by
   have:=(List.getElem?_eq_some_iff.1 hi).1
   rwa [plc_length] at this
  rw[plc_get a l i hl] at hi
  exact⟨i,hl,(Option.some.inj hi).symm⟩
 ·rintro⟨i,hi,rfl⟩
  exact⟨i,plc_get a l i hi⟩
end
def iv (ps:List Int):List Value:=ps.map fun p=>.int .i64 p
structure OwnI (B:Nat) (w:World) (v:Value) (ps:List Int):Prop where
 row:w.ownsRow B 3 1 v ps.length (iv ps)
theorem OwnI.nil (B:Nat) (w:World):OwnI B w (.slice none 0 0) []:=⟨rfl,Or.inl ⟨rfl,rfl⟩⟩
theorem OwnI.below {B:Nat} {w w':World} {v:Value} {ps:List Int} (h:OwnI B w v ps) (hb:Below w.heap.size w w'):OwnI B w' v ps:=by
 obtain⟨h1,h2⟩:=h.row
 refine⟨h1,?_⟩
 rcases h2 with h2 |⟨g,cap,cur,e,hB,hg,h3⟩
 ·exact Or.inl h2
 ·exact Or.inr ⟨g,cap,cur,e,hB,(hb.block g (Array.getElem?_eq_some_iff.1 hg).1).trans hg,h3⟩
theorem OwnI.ex {B:Nat} {w:World} {v:Value} {ps:List Int} (h:OwnI B w v ps):∃ a c,v=.slice a ps.length c:=by
 obtain⟨h1,h2⟩:=h.row
 rcases h2 with⟨rfl,h2⟩ |⟨g,cap,cur,e,hB,hg,h3⟩
 ·exact⟨none,0,by rw[h2]⟩
 ·exact⟨_,_,e⟩
theorem OwnI.at_ {B:Nat} {w:World} {a:Option Addr} {n c:Nat} {ps:List Int} (h:OwnI B w (.slice a n c) ps) {i:Nat} (hi:i<ps.length):∃ g,a=some ⟨g,0,none⟩/\∀ w',Below w.heap.size w w'->w'.cell? ⟨g,i,none⟩=some (.int .i64 ps[i]):=by
 obtain⟨h1,h2⟩:=h.row
 rcases h2 with⟨_,h2⟩ |⟨g,cap,cur,e,hB,hg,h3,h4,h5,h6⟩
 ·omega
 ·cases e
  refine⟨g,rfl,fun w' hb=>?_⟩
  have hg':=(hb.block g (Array.getElem?_eq_some_iff.1 hg).1).trans hg
  rw[cell_of_row w' g i cur 3 (0,0) hg']
  have:(iv ps)[i]?=some (.int .i64 ps[i]):=by simp[iv,hi]
  rw[← h6,List.getElem?_take,if_pos (by omega)] at this
  simpa using this
theorem info_int:∃ i,Tryz.prog.info? 3=some i/\i.zero=some (.int .i64 0)/\i.size=1/\i.bytes=8 :=
 info_parts (show(Tryz.prog.info? 3).map (fun i=>(i.zero,i.size,i.bytes))=some (some (.int .i64 0),1,8) by kernel_rfl)
theorem wpList_append_int {B:Nat} {w:World} {ops:Array Oper} {rest:List Oper} {o:Oper} {act:Act} {Q:Exit->Act->World->Prop} (hgd:o.guard=none) (s x:Operand)
  (ho:o.op=.call {callee:=.builtin .append,args:=#[s,x],argTypes:=#[45,45]}) {v:Value} {ps:List Int} (hs:act.eval s=v) (h:OwnI B w v ps)
  {g:Nat} {p:Int} (hx:act.eval x=.slice (some ⟨g,0,none⟩) 1 1) (hg:w.cell? ⟨g,0,none⟩=some (.int .i64 p)) (hB:B<=w.heap.size) (hl:ps.length<=100000)
  (K:∀ v' w',OwnI B w' v' (ps++[p])->Below B w w'->wpList Tryz.prog ops Q rest (act.put o.dst v') w'):wpList Tryz.prog ops Q (o ::rest) act w:=by
 obtain⟨i,hi,hz0,hz1,hz2⟩:=info_int
 refine Go.wpList_append_own (P:=Tryz.prog) (w:=w) hgd s x 45 ho B 3 i (.int .i64 0) 1 8 Tryz.underlying45 hi hz0 hz1 hz2 rfl (by omega) v ps.length (iv ps) hs h.row ⟨g,0,none⟩ 1 1 [.int .i64 p] hx rfl ?_ ?_ (by unfold maxLen;omega) (by omega) hB ?_
 ·intro j u hu
  have:j=0:=by
   have:=(List.getElem?_eq_some_iff.1 hu).1
   simpa using this
  subst this
  simp at hu
  subst hu
  have hadd:(⟨g,0,none⟩:Addr).add 0=⟨g,0,none⟩:=by unfold Addr.add;split <;> simp_all
  rw[hadd]
  exact hg
 ·intro u hu
  simp at hu
  subst hu
  rfl
 ·intro v' w' hr hgr hn
  refine K v' w' ⟨?_⟩ ?_
  ·have e1:(ps++[p]).length=ps.length+1:=by simp
   have e2:iv (ps++[p])=iv ps++[.int .i64 p]:=by simp[iv]
   rw[e1,e2]
   exact hr
  ·refine⟨hgr.os,hgr.tape,hgr.output,hgr.size,fun k hk=>hgr.block k (by omega) (fun e=>?_)⟩
   obtain⟨_,h2⟩:=h.row
   rcases h2 with⟨rfl,_⟩ |⟨g',cap,cur,rfl,hB',_⟩
   ·simp[Value.ownBlock] at e
   ·simp[Value.ownBlock] at e
    omega
theorem cell_new1 (w:World) (v:Value) (t:TypeId):(w.alloc (.cells #[v] t)).cell? ⟨w.heap.size,0,none⟩=some v:=Joins.cell_of_block (MapKept.heap_alloc w _).1 0
section
variable {w:World}
theorem OwnI.one {B:Nat} {w:World} (p:Int) (h:B<=w.heap.size):OwnI B (w.alloc (.cells #[.int .i64 p] 3)) (.slice (some ⟨w.heap.size,0,none⟩) 1 1) [p] :=
 ⟨rfl,Or.inr ⟨w.heap.size,1,_,rfl,h,(MapKept.heap_alloc w _).1,Nat.le_refl _,(by unfold maxLen;omega),rfl,rfl⟩⟩
end
end Go.Proofs.YtdchjncnjgelhaaGreat
