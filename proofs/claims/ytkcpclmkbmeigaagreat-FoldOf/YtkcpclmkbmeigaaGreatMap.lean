import Derived.Test.YtkcpclmkbmeigaaGreatMao
import Derived.Deep.RegionHeld3
import Derived.Test.YtkcpclmkbmeigaaGreatMam
import Derived.Test.YtkcpclmkbmeigaaGreatMan
import Derived.Test.YtkcpclmkbmeigaaGreatMai
import Derived.Deep.OwnRows
import Derived.Laws.OwnMore
set_option linter.unusedVariables false
set_option linter.unusedSimpArgs false
set_option maxRecDepth 100000
namespace Go.Proofs.YtkcpclmkbmeigaaGreat
open Go.RowKit
theorem nn255 (q:Lf):(nN q 1).toNat<=255:=by have:=nN_one q;omega
theorem rdChg_size (act:Int) (s:Sc) (q:Lf) (B:Nat) (hq:q.1.size<=B) (h1:s.ol.size<=B) (h2:s.nw.size<=B):(rdChg act s q).1.ky.size<=B/\(rdChg act s q).1.ol.size<=B/\(rdChg act s q).1.nw.size<=B:=by
 have a1:=Nat.le_trans (tT_size (sN q 2) 16) (Nat.le_trans (sN_size q 2) hq)
 have a0:(rq1 q).1.size<=B:=Nat.le_trans (sT_size (sN q 2) 16) (Nat.le_trans (sN_size q 2) hq)
 have a2:=Nat.le_trans (tT_size (rq1 q) 32) a0
 have a3:=Nat.le_trans (tT_size (sT (rq1 q) 32) 32) (Nat.le_trans (sT_size (rq1 q) 32) a0)
 unfold rdChg
 split
 ·exact⟨a1,h1,a2⟩
 ·split
  ·exact⟨a1,a2,h2⟩
  ·exact⟨a1,a2,a3⟩
theorem sN_le {q:Lf} {k:Int} {B:Nat} (h:q.1.size<=B):(sN q k).1.size<=B:=Nat.le_trans (sN_size q k) h
theorem rdM_small (t:ByteArray) (ht:t.size<=140737488351232):Small (rdM t).1:=by
 have hq:(sN (t,0) 1).1.size<=140737488351232:=sN_le (q:=(t,0)) ht
 have z:(⟨#[]⟩:ByteArray).size<=9223372036854775807:=Nat.zero_le _
 have z2:(⟨#[]⟩:ByteArray).size<=140737488351232:=Nat.zero_le _
 have e0:([]:List Im).length*24<=140737488351232:=by decide
 have e1:([]:List Tb).length*16<=140737488351232:=by decide
 have e2:∀ p∈([]:List Im),p.2.size<=9223372036854775807:=fun p hp=>by cases hp
 unfold rdM rdK
 dsimp only
 generalize sN (t,0) 1=q at *
 split
 ·refine⟨?_,e1,?_,z,z,z⟩
  ·show(rdImL _ _).length*24<=140737488351232
   rw[rdImL_length];have:=nn255 q;omega
  ·intro p hp
   obtain⟨j,_,rfl⟩:=List.mem_map.1 hp
   have h1:=tT_size (sN (rdImS (sN q 1) j) 2) 224
   have h2:=sN_size (rdImS (sN q 1) j) 2
   have h3:=rdImS_size (sN q 1) j
   have h4:=sN_size q 1
   show(tT (sN (rdImS (sN q 1) j) 2) 224).size<=_
   omega
 ·split
  ·have:=rdChg_size (nN (t,0) 1) {kR (nN (t,0) 1) with tx:=nN q 6,pv:=nN (sN q 6) 6} (sN (sN q 6) 6) 140737488351232 (sN_le (sN_le hq)) z2 z2
   exact⟨e0,e1,e2,Nat.le_trans this.1 (by omega),Nat.le_trans this.2.1 (by omega),Nat.le_trans this.2.2 (by omega)⟩
  ·split
   ·have:=rdChg_size (nN (sN (sN (sN q 6) 6) 6) 1) {kR (nN (t,0) 1) with tx:=nN q 6,pv:=nN (sN q 6) 6,nx:=nN (sN (sN q 6) 6) 6,ac:=nN (sN (sN (sN q 6) 6) 6) 1} (sN (sN (sN (sN q 6) 6) 6) 1) 140737488351232 (sN_le (sN_le (sN_le (sN_le hq)))) z2 z2
    exact⟨e0,e1,e2,Nat.le_trans this.1 (by omega),Nat.le_trans this.2.1 (by omega),Nat.le_trans this.2.2 (by omega)⟩
   ·split
    ·exact⟨e0,e1,e2,z,z,z⟩
    ·split
     ·refine⟨e0,?_,e2,z,z,z⟩
      show(rdTbL _ _).length*16<=140737488351232
      rw[rdTbL_length];have:=nn255 q;omega
     ·split
      ·exact⟨e0,e1,e2,z,z,z⟩
      ·exact⟨e0,e1,e2,z,z,z⟩
theorem bytes_ext {a b:ByteArray} (h:a.toList=b.toList):a=b:=by
 rw[ByteArray.toList_eq,ByteArray.toList_eq] at h
 exact ByteArray.ext (Array.ext' h)
structure OfS (w wx:World) (b2 b4 B:Nat) (s:Sc) (I T:Value) (l:List Im) (g:List Tb):Prop where
 r:RcAt wx b2 zS nilV nilV
 c:RcAt wx b4 s I T
 im:Fr wx I (encI l) B
 tb:Fr wx T (encT g) B
 bel:Below w.heap.size w wx
 hb2:b2<B
 lB:w.heap.size<=B
 l2:w.heap.size<=b2
theorem OfS.mk' {w w1 w2 w3 w4:World} {b2 b4:Nat} {s:Sc} {I T:Value} {l:List Im} {g:List Tb} (N1:NewR w w1 b2 zS nilV nilV) (hb:Below w1.heap.size w1 w2) (hI:Fr w2 I (encI l) w1.heap.size) (hT:Fr w2 T (encT g) w1.heap.size) (N4:NewR w2 w3 b4 zS nilV nilV) (P:PutR w3 w4 b4 s I T):OfS w w4 b2 b4 w1.heap.size s I T l g:=by
 have e1:=N1.eq
 have e4:=N4.eq
 have z1:=N1.rc.lt
 have z2:=hb.size
 have z3:=N4.below.size
 have z5:=N1.below.size
 have b24:Below w2.heap.size w2 w4:=N4.below.trans (P.below (by omega) z3)
 exact⟨(N1.rc.below hb).below b24,P.rc,hI.below b24,hT.below b24,thn (thn N1.below hb) b24,z1,z5,by omega⟩
theorem OfS.below {w wx wq:World} {b2 b4 B:Nat} {s:Sc} {I T:Value} {l:List Im} {g:List Tb} (h:OfS w wx b2 b4 B s I T l g) (hb:Below wx.heap.size wx wq):OfS w wq b2 b4 B s I T l g :=
 ⟨h.r.below hb,h.c.below hb,h.im.below hb,h.tb.below hb,thn h.bel hb,h.hb2,h.lB,h.l2⟩
set_option maxHeartbeats 1000000 in
theorem Of_any {w:World} (t:ByteArray) (ht:t.size<=140737488351232):Calls Tryz.prog 111 #[.string t] w fun e w'=>(∃ v,e=.returned (.tuple #[v,.int .i64 (ofM t).2])/\RecF w' v (ofM t).1 w.heap.size)/\Below w.heap.size w w':=by
 have CR:Hid (∀ wx,Calls Tryz.prog 134 #[.string t] wx fun e w'=>(∃ v,e=.returned (.tuple #[v,.int .i64 (Pk.rdEnd (rdM t).2.1 (rdM t).2.2).2])/\RecF w' v (rdM t).1 wx.heap.size)/\Below wx.heap.size wx w'):=fun wx=>read_any t ht
 have hsm:=rdM_small t ht
 have CB:Hid (∀ wx v',RecV wx v' (rdM t).1->Calls Tryz.prog 114 #[v'] wx fun r w'=>r=.returned (.tuple #[.string (bodyM (rdM t).1).1,.int .i64 (bodyM (rdM t).1).2])/\Below wx.heap.size wx w'):=fun wx v' h'=>body_any h' hsm
 unfold ofM
 generalize (Pk.rdEnd (rdM t).2.1 (rdM t).2.2).2=E at *
 generalize (rdM t).1=m at *
 obtain⟨s,l,g⟩:=m
 by_cases hE:E=0
 ·subst hE
  rw[if_neg (by simp)]
  by_cases hb:(bodyM ⟨s,l,g⟩).2=0/\(bodyM ⟨s,l,g⟩).1=t
  ·rw[if_pos hb]
   rw[hb.1,hb.2] at CB
   have htt:(t.toList !=t.toList)=false:=by simp
   clear hb hsm
   go_enter Tryz.func111,Tryz.ntmps111
   go_wp2_with (first
    | (have:=N1;refine wpList_new_rc _ rfl rfl ?_;intro w3 b4 N4)
    | (refine wpList_new_rc _ rfl rfl ?_;intro w1 b2 N1)
    | (go_at_call 134;refine(CR.out _).mono ?_;rintro e w2 ⟨⟨v,rfl,hv⟩,b2'⟩;obtain⟨I,T,rfl,hI,hT⟩:=hv.ex;dsimp only at hI hT)
    | (refine wpList_at (Op.store 54 (.tmp 4) (.tmp 11)) rfl ?_;refine wpList_put_rc (s':=s) (I':=I) (T':=T) _ rfl (.tmp 4) (.tmp 11) rfl rfl rfl N4.rc hI.slI.one hT.slT.one ?_;intro w4 P4;have H:=OfS.mk' N1 b2' hI hT N4 P4;clear N1 N4 P4 hv hI hT this)
    | (refine wpList_load_rc _ rfl (.tmp 4) rfl rfl H.c ?_)
    | (go_at_call 114;refine(CB.out _ _ ⟨I,T,rfl,H.im.slI,H.tb.slT⟩).mono ?_;rintro e w5 ⟨rfl,b5⟩;have H1:=H.below b5;clear H;have H:=H1;clear H1)
    | (refine wpList_at (Op.store 54 (.tmp 2) (.tmp 30)) rfl ?_;refine wpList_put_rc (s':=s) (I':=I) (T':=T) _ rfl (.tmp 2) (.tmp 30) rfl rfl rfl H.r H.im.slI.one H.tb.slT.one ?_;intro w6 P6))
   refine bodyPost_ret (results_rc2 rfl _ _ rfl P6.rc) rfl ?_
   exact⟨⟨_,rfl,⟨I,T,rfl,(H.im.off P6.off H.hb2).mono H.lB,(H.tb.off P6.off H.hb2).mono H.lB⟩⟩,H.bel.trans (P6.below H.l2 H.bel.size)⟩
  ·rw[if_neg hb]
   generalize (bodyM ⟨s,l,g⟩).1=Z at *
   generalize (bodyM ⟨s,l,g⟩).2=E at *
   by_cases he:E=0
   ·have he':(E !=0)=false:=by simpa using he
    have hzt:(Z.toList==t.toList)=false:=by
     rw[beq_eq_false_iff_ne]
     exact fun e=>hb ⟨he,bytes_ext e⟩
    clear hb hsm he
    go_enter Tryz.func111,Tryz.ntmps111
    go_wp2_with (first
     | (have:=N1;refine wpList_new_rc _ rfl rfl ?_;intro w3 b4 N4)
     | (refine wpList_new_rc _ rfl rfl ?_;intro w1 b2 N1)
     | (go_at_call 134;refine(CR.out _).mono ?_;rintro e w2 ⟨⟨v,rfl,hv⟩,b2'⟩;obtain⟨I,T,rfl,hI,hT⟩:=hv.ex;dsimp only at hI hT)
     | (refine wpList_at (Op.store 54 (.tmp 4) (.tmp 11)) rfl ?_;refine wpList_put_rc (s':=s) (I':=I) (T':=T) _ rfl (.tmp 4) (.tmp 11) rfl rfl rfl N4.rc hI.slI.one hT.slT.one ?_;intro w4 P4;have H:=OfS.mk' N1 b2' hI hT N4 P4;clear N1 N4 P4 hv hI hT this)
     | (refine wpList_load_rc _ rfl (.tmp 4) rfl rfl H.c ?_)
     | (go_at_call 114;refine(CB.out _ _ ⟨I,T,rfl,H.im.slI,H.tb.slT⟩).mono ?_;rintro e w5 ⟨rfl,b5⟩;have H1:=H.below b5;clear H;have H:=H1;clear H1)
     | (refine wpList_at (Op.store 54 (.tmp 2) (.tmp 29)) rfl ?_;refine wpList_put_rc (s':=zS) (I':=nilV) (T':=nilV) _ rfl (.tmp 2) (.tmp 29) rfl rfl rfl H.r rfl rfl ?_;intro w6 P6))
    refine bodyPost_ret (results_rc2 rfl _ _ rfl P6.rc) rfl ?_
    exact⟨⟨_,rfl,RecF.zero _ _⟩,H.bel.trans (P6.below H.l2 H.bel.size)⟩
   ·have he':(E !=0)=true:=by simpa using he
    clear hb hsm he
    go_enter Tryz.func111,Tryz.ntmps111
    go_wp2_with (first
     | (have:=N1;refine wpList_new_rc _ rfl rfl ?_;intro w3 b4 N4)
     | (refine wpList_new_rc _ rfl rfl ?_;intro w1 b2 N1)
     | (go_at_call 134;refine(CR.out _).mono ?_;rintro e w2 ⟨⟨v,rfl,hv⟩,b2'⟩;obtain⟨I,T,rfl,hI,hT⟩:=hv.ex;dsimp only at hI hT)
     | (refine wpList_at (Op.store 54 (.tmp 4) (.tmp 11)) rfl ?_;refine wpList_put_rc (s':=s) (I':=I) (T':=T) _ rfl (.tmp 4) (.tmp 11) rfl rfl rfl N4.rc hI.slI.one hT.slT.one ?_;intro w4 P4;have H:=OfS.mk' N1 b2' hI hT N4 P4;clear N1 N4 P4 hv hI hT this)
     | (refine wpList_load_rc _ rfl (.tmp 4) rfl rfl H.c ?_)
     | (go_at_call 114;refine(CB.out _ _ ⟨I,T,rfl,H.im.slI,H.tb.slT⟩).mono ?_;rintro e w5 ⟨rfl,b5⟩;have H1:=H.below b5;clear H;have H:=H1;clear H1)
     | (refine wpList_at (Op.store 54 (.tmp 2) (.tmp 29)) rfl ?_;refine wpList_put_rc (s':=zS) (I':=nilV) (T':=nilV) _ rfl (.tmp 2) (.tmp 29) rfl rfl rfl H.r rfl rfl ?_;intro w6 P6))
    refine bodyPost_ret (results_rc2 rfl _ _ rfl P6.rc) rfl ?_
    exact⟨⟨_,rfl,RecF.zero _ _⟩,H.bel.trans (P6.below H.l2 H.bel.size)⟩
 ·rw[if_pos hE]
  have hE':(E !=0)=true:=by simpa using hE
  clear hsm hE
  skip
  go_enter Tryz.func111,Tryz.ntmps111
  go_wp2_with (first
   | (have:=N1;refine wpList_new_rc _ rfl rfl ?_;intro w3 b4 N4)
   | (refine wpList_new_rc _ rfl rfl ?_;intro w1 b2 N1)
   | (go_at_call 134;refine(CR.out _).mono ?_;rintro e w2 ⟨⟨v,rfl,hv⟩,b2'⟩;obtain⟨I,T,rfl,hI,hT⟩:=hv.ex;dsimp only at hI hT)
   | (refine wpList_at (Op.store 54 (.tmp 4) (.tmp 11)) rfl ?_;refine wpList_put_rc (s':=s) (I':=I) (T':=T) _ rfl (.tmp 4) (.tmp 11) rfl rfl rfl N4.rc hI.slI.one hT.slT.one ?_;intro w4 P4;have H:=OfS.mk' N1 b2' hI hT N4 P4;clear N1 N4 P4 hv hI hT this)
   | (refine wpList_load_rc _ rfl (.tmp 4) rfl rfl H.c ?_)
   | (go_at_call 114;refine(CB.out _ _ ⟨I,T,rfl,H.im.slI,H.tb.slT⟩).mono ?_;rintro e w5 ⟨rfl,b5⟩;have H1:=H.below b5;clear H;have H:=H1;clear H1)
   | (refine wpList_at (Op.store 54 (.tmp 2) (.tmp 15)) rfl ?_;refine wpList_put_rc (s':=zS) (I':=nilV) (T':=nilV) _ rfl (.tmp 2) (.tmp 15) rfl rfl rfl H.r rfl rfl ?_;intro w6 P6))
  refine bodyPost_ret (results_rc2 rfl _ _ rfl P6.rc) rfl ?_
  exact⟨⟨_,rfl,RecF.zero _ _⟩,H.bel.trans (P6.below H.l2 H.bel.size)⟩
def frR (s:ByteArray):ByteArray × ByteArray × Int:=Pk.rdRaw (sN (s,0) 2).1 (sN (s,0) 2).2 (4+nN (s,0) 2)
def frM (s:ByteArray):ByteArray × Int :=
 if s.size<6 then(⟨#[]⟩,2) else if nN (s,0) 2<1∨4096<nN (s,0) 2 then(⟨#[]⟩,4) else if(frR s).2.2≠0 then(⟨#[]⟩,(frR s).2.2) else Sm.openV (frR s).1
theorem RdS.raw {w:World} {b:Nat} {q:Lf} (h:RdS w b q) (n:Int):Calls Tryz.prog 76 #[.pointer (some ⟨b,0,none⟩),.int .i64 n] w fun r w'=>r=.returned (.string (Pk.rdRaw q.1 q.2 n).1)/\Pk.isRd w' b (Pk.rdRaw q.1 q.2 n).2.1 (Pk.rdRaw q.1 q.2 n).2.2/\Pk.Off b w w':=Pk.Raw_any b q.1 q.2 n w h.sz h.rd
set_option maxHeartbeats 1000000 in
theorem framed_any {w:World} (s:ByteArray) (hs:s.size<=140737488351232):Calls Tryz.prog 110 #[.string s] w fun e w'=>e=.returned (.tuple #[.string (frM s).1,.int .i64 (frM s).2])/\Below w.heap.size w w':=by
 unfold frM
 by_cases h6:s.size<6
 ·rw[if_pos h6]
  have h6':(s.size:Int)<6:=by omega
  go_enter Tryz.func110,Tryz.ntmps110
  go_wp2
  go_ret2
  exact⟨rfl,Below.refl _ _⟩
 rw[if_neg h6]
 have h6':¬ (s.size:Int)<6:=by omega
 have hn0:=nN_nonneg (s,0) 2
 have hn1:=nN_lt (s,0) 2
 have CN:Hid (∀ wx b,RdS wx b (s,0)->Calls Tryz.prog 74 #[.pointer (some ⟨b,0,none⟩),.int .i64 2] wx fun r w'=>r=.returned (.int .i64 (nN (s,0) 2))/\RdS w' b (sN (s,0) 2)/\Pk.Off b wx w'):=fun wx b h=>h.num 2
 have hzz:(frR s).1.size<=140737488351232:=Nat.le_trans (rdRaw_txt _ _ _) (Nat.le_trans (sN_size (s,0) 2) hs)
 have CW:Hid (∀ wx b,RdS wx b (sN (s,0) 2)->Calls Tryz.prog 76 #[.pointer (some ⟨b,0,none⟩),.int .i64 (4+nN (s,0) 2)] wx fun r w'=>r=.returned (.string (frR s).1)/\Pk.isRd w' b (frR s).2.1 (frR s).2.2/\Pk.Off b wx w'):=fun wx b h=>h.raw _
 have CO:Hid (∀ wx,Calls Tryz.prog 133 #[.string (frR s).1] wx fun e w'=>e=.returned (.tuple #[.string (Sm.openV (frR s).1).1,.int .i64 (Sm.openV (frR s).1).2])/\Below wx.heap.size wx w'):=fun wx=>Sm.Open_any _ wx hzz
 generalize nN (s,0) 2=N at *
 generalize sN (s,0) 2=q at *
 by_cases hN:N<1∨4096<N
 ·rw[if_pos hN]
  clear CW CO
  by_cases h1:N<1
  ·clear hN
   go_enter Tryz.func110,Tryz.ntmps110
   go_wp2_with (first
    | (go_at_call 73;refine(Sm.Read_any _ _).mono ?_;rintro e w1 ⟨rfl,r1,b1⟩)
    | (go_at_call 74;refine(CN.out _ _ ⟨r1,hs⟩).mono ?_;rintro e w2 ⟨rfl,r2,o2⟩))
   go_ret2
   exact⟨rfl,b1.trans (o2.below (Nat.le_refl _) b1.size)⟩
  ·have h2:4096<N:=by omega
   clear hN
   go_enter Tryz.func110,Tryz.ntmps110
   go_wp2_with (first
    | (go_at_call 73;refine(Sm.Read_any _ _).mono ?_;rintro e w1 ⟨rfl,r1,b1⟩)
    | (go_at_call 74;refine(CN.out _ _ ⟨r1,hs⟩).mono ?_;rintro e w2 ⟨rfl,r2,o2⟩))
   go_ret2
   exact⟨rfl,b1.trans (o2.below (Nat.le_refl _) b1.size)⟩
 rw[if_neg hN]
 have h1:¬ N<1:=by omega
 have h2:¬ 4096<N:=by omega
 clear hN
 generalize (frR s).1=Z at *
 generalize (frR s).2.1=L at *
 generalize (frR s).2.2=E at *
 have CE:Hid (∀ wx b,Pk.isRd wx b L E->Calls Tryz.prog 109 #[.pointer (some ⟨b,0,none⟩)] wx fun r w'=>r=.returned (.int .i64 E)/\w'=wx):=fun wx b h=>Pk.Err_any b L E wx h
 by_cases hE:E=0
 ·subst hE
  rw[if_neg (by simp)]
  generalize (Sm.openV Z).1=OZ at *
  generalize (Sm.openV Z).2=OE at *
  go_enter Tryz.func110,Tryz.ntmps110
  go_wp2_with (first
   | (go_at_call 73;refine(Sm.Read_any _ _).mono ?_;rintro e w1 ⟨rfl,r1,b1⟩)
   | (go_at_call 74;refine(CN.out _ _ ⟨r1,hs⟩).mono ?_;rintro e w2 ⟨rfl,r2,o2⟩)
   | (go_at_call 76;refine(CW.out _ _ r2).mono ?_;rintro e w3 ⟨rfl,r3,o3⟩)
   | (go_at_call 109;refine(CE.out _ _ r3).mono ?_;rintro e w4 ⟨rfl,rfl⟩)
   | (go_at_call 133;refine(CO.out _).mono ?_;rintro e w5 ⟨rfl,b5⟩))
  go_ret2
  have bb:=b1.trans ((o2.trans o3).below (Nat.le_refl _) b1.size)
  exact⟨rfl,thn bb b5⟩
 ·rw[if_pos hE]
  have hE':(E !=0)=true:=by simpa using hE
  clear CO
  go_enter Tryz.func110,Tryz.ntmps110
  go_wp2_with (first
   | (go_at_call 73;refine(Sm.Read_any _ _).mono ?_;rintro e w1 ⟨rfl,r1,b1⟩)
   | (go_at_call 74;refine(CN.out _ _ ⟨r1,hs⟩).mono ?_;rintro e w2 ⟨rfl,r2,o2⟩)
   | (go_at_call 76;refine(CW.out _ _ r2).mono ?_;rintro e w3 ⟨rfl,r3,o3⟩)
   | (go_at_call 109;refine(CE.out _ _ r3).mono ?_;rintro e w4 ⟨rfl,rfl⟩))
  go_ret2
  exact⟨rfl,b1.trans ((o2.trans o3).below (Nat.le_refl _) b1.size)⟩
theorem openV_size (s:ByteArray):(Sm.openV s).1.size<=s.size:=by
 unfold Sm.openV
 repeat' split
 all_goals simp[ByteArray.size_extract,Pk.size_nil]
theorem frM_size (s:ByteArray):(frM s).1.size<=s.size:=by
 unfold frM
 repeat' split
 ·exact Nat.zero_le _
 ·exact Nat.zero_le _
 ·exact Nat.zero_le _
 ·exact Nat.le_trans (openV_size _) (Nat.le_trans (rdRaw_txt _ _ _) (sN_size (s,0) 2))
def openM (s:ByteArray) (a:Int):Rm × Int × Int :=
 if a<0∨(s.size:Int)<a then(zM,0,6) else if(frM (s.extract a.toNat s.size)).2≠0 then(zM,0,(frM (s.extract a.toNat s.size)).2)
 else if(ofM (frM (s.extract a.toNat s.size)).1).2≠0 then(zM,0,(ofM (frM (s.extract a.toNat s.size)).1).2) else((ofM (frM (s.extract a.toNat s.size)).1).1,6+(frM (s.extract a.toNat s.size)).1.size,0)
set_option maxHeartbeats 1000000 in
theorem Open_any {w:World} (s:ByteArray) (a:Int) (hs:s.size<=140737488351232):Calls Tryz.prog 78 #[.string s,.int .i64 a] w fun e w'=>(∃ v,e=.returned (.tuple #[v,.int .i64 (openM s a).2.1,.int .i64 (openM s a).2.2])/\RecF w' v (openM s a).1 w.heap.size)/\Below w.heap.size w w':=by
 unfold openM
 by_cases h0:a<0
 ·rw[if_pos (Or.inl h0)]
  go_enter Tryz.func78,Tryz.ntmps78
  go_wp2_with (first
   | (refine wpList_new_rc _ rfl rfl ?_;intro w1 b4 N1)
   | (refine wpList_put_rc (s':=zS) (I':=nilV) (T':=nilV) _ rfl (.tmp 4) (.tmp 18) rfl rfl rfl N1.rc rfl rfl ?_;intro w6 P6))
  refine bodyPost_ret (results_rc3 rfl _ _ rfl P6.rc) rfl ?_
  exact⟨⟨_,rfl,RecF.zero _ _⟩,N1.below.trans (P6.below (by have:=N1.eq;omega) N1.below.size)⟩
 by_cases h1:(s.size:Int)<a
 ·rw[if_pos (Or.inr h1)]
  go_enter Tryz.func78,Tryz.ntmps78
  go_wp2_with (first
   | (refine wpList_new_rc _ rfl rfl ?_;intro w1 b4 N1)
   | (refine wpList_put_rc (s':=zS) (I':=nilV) (T':=nilV) _ rfl (.tmp 4) (.tmp 18) rfl rfl rfl N1.rc rfl rfl ?_;intro w6 P6))
  refine bodyPost_ret (results_rc3 rfl _ _ rfl P6.rc) rfl ?_
  exact⟨⟨_,rfl,RecF.zero _ _⟩,N1.below.trans (P6.below (by have:=N1.eq;omega) N1.below.size)⟩
 rw[if_neg (by omega)]
 obtain⟨m,rfl⟩:∃ m:Nat,a=m:=⟨a.toNat,by omega⟩
 rw[Int.toNat_natCast]
 have hm:m<=s.size:=by omega
 have hxz:(s.extract m s.size).size<=140737488351232:=by rw[ByteArray.size_extract];omega
 have CF:Hid (∀ wx,Calls Tryz.prog 110 #[.string (s.extract m s.size)] wx fun e w'=>e=.returned (.tuple #[.string (frM (s.extract m s.size)).1,.int .i64 (frM (s.extract m s.size)).2])/\Below wx.heap.size wx w'):=fun wx=>framed_any _ hxz
 have hfz:=Nat.le_trans (frM_size (s.extract m s.size)) hxz
 have CO:Hid (∀ wx,Calls Tryz.prog 111 #[.string (frM (s.extract m s.size)).1] wx fun e w'=>(∃ v,e=.returned (.tuple #[v,.int .i64 (ofM (frM (s.extract m s.size)).1).2])/\RecF w' v (ofM (frM (s.extract m s.size)).1).1 wx.heap.size)/\Below wx.heap.size wx w'):=fun wx=>Of_any _ hfz
 obtain⟨x,hx⟩:∃ x,s.extract m s.size=x:=⟨_,rfl⟩
 rw[hx] at CF CO hfz ⊢
 clear hxz
 generalize (frM x).2=E at *
 generalize (frM x).1=Z at *
 by_cases hE:E=0
 ·subst hE
  rw[if_neg (by simp)]
  generalize (ofM Z).2=F at *
  generalize (ofM Z).1=M at *
  obtain⟨s9,l9,g9⟩:=M
  by_cases hF:F=0
  ·subst hF
   rw[if_neg (by simp)]
   go_enter Tryz.func78,Tryz.ntmps78
   go_wp2_with (first
    | (have:=N1;refine wpList_new_rc _ rfl rfl ?_;intro w3 b9 N4)
    | (refine wpList_new_rc _ rfl rfl ?_;intro w1 b4 N1)
    | (go_at_call 110;refine(CF.out _).mono ?_;rintro e w8 ⟨rfl,bf⟩)
    | (go_at_call 111;refine(CO.out _).mono ?_;rintro e w2 ⟨⟨v,rfl,hv⟩,b2'⟩;obtain⟨I,T,rfl,hI,hT⟩:=hv.ex;dsimp only at hI hT)
    | (refine wpList_at (Op.store 54 (.tmp 9) (.tmp 33)) rfl ?_;refine wpList_put_rc (s':=s9) (I':=I) (T':=T) _ rfl (.tmp 9) (.tmp 33) rfl rfl rfl N4.rc hI.slI.one hT.slT.one ?_;intro w4 P4;have H:=OfS.mk' N1 (thn bf b2') (hI.mono bf.size) (hT.mono bf.size) N4 P4;clear N1 N4 P4 hv hI hT this)
    | (refine wpList_load_rc _ rfl (.tmp 9) rfl rfl H.c ?_)
    | (refine wpList_at (Op.store 54 (.tmp 4) (.tmp 39)) rfl ?_;refine wpList_put_rc (s':=s9) (I':=I) (T':=T) _ rfl (.tmp 4) (.tmp 39) rfl rfl rfl H.r H.im.slI.one H.tb.slT.one ?_;intro w6 P6))
   refine bodyPost_ret (results_rc3 rfl _ _ rfl P6.rc) rfl ?_
   exact⟨⟨_,rfl,⟨I,T,rfl,(H.im.off P6.off H.hb2).mono H.lB,(H.tb.off P6.off H.hb2).mono H.lB⟩⟩,H.bel.trans (P6.below H.l2 H.bel.size)⟩
  ·rw[if_pos hF]
   have hF':(F !=0)=true:=by simpa using hF
   go_enter Tryz.func78,Tryz.ntmps78
   go_wp2_with (first
    | (have:=N1;refine wpList_new_rc _ rfl rfl ?_;intro w3 b9 N4)
    | (refine wpList_new_rc _ rfl rfl ?_;intro w1 b4 N1)
    | (go_at_call 110;refine(CF.out _).mono ?_;rintro e w8 ⟨rfl,bf⟩)
    | (go_at_call 111;refine(CO.out _).mono ?_;rintro e w2 ⟨⟨v,rfl,hv⟩,b2'⟩;obtain⟨I,T,rfl,hI,hT⟩:=hv.ex;dsimp only at hI hT)
    | (refine wpList_at (Op.store 54 (.tmp 9) (.tmp 33)) rfl ?_;refine wpList_put_rc (s':=s9) (I':=I) (T':=T) _ rfl (.tmp 9) (.tmp 33) rfl rfl rfl N4.rc hI.slI.one hT.slT.one ?_;intro w4 P4;have H:=OfS.mk' N1 (thn bf b2') (hI.mono bf.size) (hT.mono bf.size) N4 P4;clear N1 N4 P4 hv hI hT this)
    | (refine wpList_at (Op.store 54 (.tmp 4) (.tmp 37)) rfl ?_;refine wpList_put_rc (s':=zS) (I':=nilV) (T':=nilV) _ rfl (.tmp 4) (.tmp 37) rfl rfl rfl H.r rfl rfl ?_;intro w6 P6))
   refine bodyPost_ret (results_rc3 rfl _ _ rfl P6.rc) rfl ?_
   exact⟨⟨_,rfl,RecF.zero _ _⟩,H.bel.trans (P6.below H.l2 H.bel.size)⟩
 ·rw[if_pos hE]
  have hE':(E !=0)=true:=by simpa using hE
  clear CO
  go_enter Tryz.func78,Tryz.ntmps78
  go_wp2_with (first
   | (refine wpList_new_rc _ rfl rfl ?_;intro w1 b4 N1)
   | (go_at_call 110;refine(CF.out _).mono ?_;rintro e w8 ⟨rfl,bf⟩)
   | (refine wpList_put_rc (s':=zS) (I':=nilV) (T':=nilV) _ rfl (.tmp 4) (.tmp 28) rfl rfl rfl (N1.rc.below bf) rfl rfl ?_;intro w6 P6))
  refine bodyPost_ret (results_rc3 rfl _ _ rfl P6.rc) rfl ?_
  have bb:=thn N1.below bf
  exact⟨⟨_,rfl,RecF.zero _ _⟩,bb.trans (P6.below (by have:=N1.eq;omega) bb.size)⟩
theorem stepW_inv {A:ByteArray × Int} {n k:Int} (hk:1<=k) (hk6:k<=6) (h:(stepW A n k).2=0):A.2=0/\0<=n/\n<Pk.limI k.toNat/\stepW A n k=(A.1++Pk.beS n.toNat k.toNat,0):=by
 obtain⟨a,e⟩:=A
 by_cases he:e=0
 ·subst he
  by_cases hn:n<0∨Pk.limI k.toNat<=n
  ·rw[stepW_bad hk hk6 hn] at h
   exact absurd h (by decide)
  ·exact⟨rfl,by omega,by omega,stepW_good hk hk6 (by omega) (by omega)⟩
 ·rw[stepW_had he] at h
  exact absurd h he
theorem stepT_inv {A:ByteArray × Int} {t:ByteArray} (ht:t.size<=65535) (h:(stepT A t).2=0):A.2=0/\stepT A t=(A.1++(Pk.beS t.size 2++t),0):=by
 obtain⟨a,e⟩:=A
 by_cases he:e=0
 ·subst he
  refine⟨rfl,?_⟩
  rw[stepT_good ht,ByteArray.append_assoc]
 ·rw[stepT_had he] at h
  exact absurd h he
theorem rd_num {n k:Int} {b:ByteArray} (h1:1<=k) (h6:k<=6) (h0:0<=n) (hn:n<Pk.limI k.toNat):nN (Pk.beS n.toNat k.toNat++b,0) k=n/\sN (Pk.beS n.toNat k.toNat++b,0) k=(b,0):=by
 obtain⟨m,rfl⟩:∃ m:Nat,n=m:=⟨n.toNat,by omega⟩
 obtain⟨j,rfl⟩:∃ j:Nat,k=j:=⟨k.toNat,by omega⟩
 rw[Int.toNat_natCast,Int.toNat_natCast] at *
 have:=Pk.rdNum_app m j b (by omega) (by omega) (by rw[Pk.limI_nat] at hn;omega)
 unfold nN sN
 dsimp only
 rw[this]
 exact⟨rfl,rfl⟩
theorem rd_text {t b:ByteArray} {M:Int} (h:t.size<=M) (hM:M<=65535):tT (Pk.beS t.size 2++t++b,0) M=t/\sT (Pk.beS t.size 2++t++b,0) M=(b,0):=by
  have h2 := Pk.rdNum_app t.size 2 (t ++ b) (by omega) (by omega) (by have : 256 ^ 2 = 65536 := by decide
                                                                      omega)
  rw[← ByteArray.append_assoc] at h2
  have e:Pk.rdText (Pk.beS t.size 2++t++b) 0 M=(t,b,0):=by
    unfold Pk.rdText Pk.rdTextSt
    rw[show((2:Nat):Int)=2 from rfl] at h2
    rw[h2]
    dsimp only
    rw[if_neg (by omega)]
    exact Pk.rdRaw_app t b
  unfold tT sT
  dsimp only
  rw[e]
  exact⟨rfl,rfl⟩
def catI:List Im->ByteArray
 | []=>⟨#[]⟩
 | p :: r=>Pk.beS p.1.toNat 2++(Pk.beS p.2.size 2++p.2)++catI r
def catB:List Tb->ByteArray
 | []=>⟨#[]⟩
 | p :: r=>Pk.beS p.1.toNat 6++Pk.beS p.2.toNat 6++catB r
def goodI (p:Im):Prop:=0<=p.1/\p.1<65536
def goodB (p:Tb):Prop:=0<=p.1/\p.1<281474976710656/\0<=p.2/\p.2<281474976710656
theorem layI_was {l:List Im} {A:ByteArray × Int} (h:(layI l A).2=0):A.2=0:=by
 induction l generalizing A with
 | nil=>exact h
 | cons p r ih=>exact stepW_err (stepT_err (ih h))
theorem layB_was {l:List Tb} {A:ByteArray × Int} (h:(layB l A).2=0):A.2=0:=by
 induction l generalizing A with
 | nil=>exact h
 | cons p r ih=>exact stepW_err (stepW_err (ih h))
theorem layI_inv {l:List Im} {A:ByteArray × Int} (hl:∀ p∈l,p.2.size<=65535) (h:(layI l A).2=0):(∀ p∈l,goodI p)/\layI l A=(A.1++catI l,0):=by
 induction l generalizing A with
 | nil =>
  refine⟨(fun p hp=>by cases hp),?_⟩
  show A=(A.1++⟨#[]⟩,0)
  rw[Pk.append_nil]
  exact Prod.ext rfl h
 | cons p r ih =>
  have h1:(layI r (stepT (stepW A p.1 2) p.2)).2=0:=h
  obtain⟨g,e⟩:=ih (fun x hx=>hl x (List.mem_cons_of_mem _ hx)) h1
  obtain⟨e1,e2⟩:=stepT_inv (hl p (List.mem_cons_self ..)) (layI_was h1)
  obtain⟨f1,f2,f3,f4⟩:=stepW_inv (by omega) (by omega) e1
  rw[Pk.limI_2] at f3
  refine⟨fun x hx=>?_,?_⟩
  ·rcases List.mem_cons.1 hx with rfl |hx
   ·exact⟨f2,f3⟩
   ·exact g x hx
  ·show layI r (stepT (stepW A p.1 2) p.2)=_
   rw[e,e2,f4]
   simp only[catI,ByteArray.append_assoc]
   rfl
theorem layB_inv {l:List Tb} {A:ByteArray × Int} (h:(layB l A).2=0):(∀ p∈l,goodB p)/\layB l A=(A.1++catB l,0):=by
 induction l generalizing A with
 | nil =>
  refine⟨(fun p hp=>by cases hp),?_⟩
  show A=(A.1++⟨#[]⟩,0)
  rw[Pk.append_nil]
  exact Prod.ext rfl h
 | cons p r ih =>
  have h1:(layB r (stepW (stepW A p.1 6) p.2 6)).2=0:=h
  obtain⟨g,e⟩:=ih h1
  obtain⟨e1,e2,e3,e4⟩:=stepW_inv (by omega) (by omega) (layB_was h1)
  obtain⟨f1,f2,f3,f4⟩:=stepW_inv (by omega) (by omega) e1
  rw[Pk.limI_6] at f3 e3
  refine⟨fun x hx=>?_,?_⟩
  ·rcases List.mem_cons.1 hx with rfl |hx
   ·exact⟨f2,f3,e2,e3⟩
   ·exact g x hx
  ·show layB r (stepW (stepW A p.1 6) p.2 6)=_
   rw[e,e4,f4]
   simp only[catB,ByteArray.append_assoc]
   rfl
theorem rdImS_shift (q:Lf) (n:Nat):rdImS q (n+1)=rdImS (sT (sN q 2) 224) n:=by
 induction n with
 | zero=>rfl
 | succ n ih=>show sT (sN (rdImS q (n+1)) 2) 224=sT (sN (rdImS _ n) 2) 224;rw[ih]
theorem rdTbS_shift (q:Lf) (n:Nat):rdTbS q (n+1)=rdTbS (sN (sN q 6) 6) n:=by
 induction n with
 | zero=>rfl
 | succ n ih=>show sN (sN (rdTbS q (n+1)) 6) 6=sN (sN (rdTbS _ n) 6) 6;rw[ih]
theorem rdImL_cons (q:Lf) (n:Nat):rdImL q (n+1)=rdImF q 0 ::rdImL (sT (sN q 2) 224) n:=by
 unfold rdImL
 rw[List.range_succ_eq_map,List.map_cons,List.map_map]
 congr 1
 apply List.map_congr_left
 intro j _
 show rdImF q (j+1)=rdImF _ j
 unfold rdImF
 rw[rdImS_shift]
theorem rdTbL_cons (q:Lf) (n:Nat):rdTbL q (n+1)=rdTbF q 0 ::rdTbL (sN (sN q 6) 6) n:=by
 unfold rdTbL
 rw[List.range_succ_eq_map,List.map_cons,List.map_map]
 congr 1
 apply List.map_congr_left
 intro j _
 show rdTbF q (j+1)=rdTbF _ j
 unfold rdTbF
 rw[rdTbS_shift]
theorem rdImF_zero (q:Lf):rdImF q 0=(nN q 2,tT (sN q 2) 224):=rfl
theorem rdTbF_zero (q:Lf):rdTbF q 0=(nN q 6,nN (sN q 6) 6):=rfl
theorem rd_images (l:List Im) (b:ByteArray) (hg:∀ p∈l,goodI p) (ht:∀ p∈l,p.2.size<=224):rdImL (catI l++b,0) l.length=l/\rdImS (catI l++b,0) l.length=(b,0):=by
 induction l with
 | nil =>
  refine⟨rfl,?_⟩
  show(⟨#[]⟩++b,(0:Int))=(b,0)
  rw[nil_app]
 | cons p r ih =>
  obtain⟨h1,h2⟩:=ih (fun x hx=>hg x (List.mem_cons_of_mem _ hx)) (fun x hx=>ht x (List.mem_cons_of_mem _ hx))
  obtain⟨g1,g2⟩:=hg p (List.mem_cons_self ..)
  have ht':=ht p (List.mem_cons_self ..)
  have e:catI (p ::r)++b=Pk.beS p.1.toNat 2++(Pk.beS p.2.size 2++p.2++(catI r++b)):=by simp only[catI,ByteArray.append_assoc]
  obtain⟨n1,n2⟩:=rd_num (n:=p.1) (k:=2) (b:=Pk.beS p.2.size 2++p.2++(catI r++b)) (by omega) (by omega) g1 (by rw[Pk.limI_2];exact g2)
  rw[show((2:Int)).toNat=2 from rfl,← e] at n1 n2
  obtain⟨t1,t2⟩:=rd_text (t:=p.2) (b:=catI r++b) (M:=224) (by omega) (by omega)
  rw[← n2] at t1 t2
  rw[List.length_cons,rdImL_cons,rdImS_shift,t2,h1,h2,rdImF_zero,n1,t1]
  exact⟨rfl,rfl⟩
theorem rd_table (l:List Tb) (b:ByteArray) (hg:∀ p∈l,goodB p):rdTbL (catB l++b,0) l.length=l/\rdTbS (catB l++b,0) l.length=(b,0):=by
 induction l with
 | nil =>
  refine⟨rfl,?_⟩
  show(⟨#[]⟩++b,(0:Int))=(b,0)
  rw[nil_app]
 | cons p r ih =>
  obtain⟨h1,h2⟩:=ih (fun x hx=>hg x (List.mem_cons_of_mem _ hx))
  obtain⟨g1,g2,g3,g4⟩:=hg p (List.mem_cons_self ..)
  have e:catB (p ::r)++b=Pk.beS p.1.toNat 6++(Pk.beS p.2.toNat 6++(catB r++b)):=by simp only[catB,ByteArray.append_assoc]
  obtain⟨n1,n2⟩:=rd_num (n:=p.1) (k:=6) (b:=Pk.beS p.2.toNat 6++(catB r++b)) (by omega) (by omega) g1 (by rw[Pk.limI_6];exact g2)
  rw[show((6:Int)).toNat=6 from rfl,← e] at n1 n2
  obtain⟨t1,t2⟩:=rd_num (n:=p.2) (k:=6) (b:=catB r++b) (by omega) (by omega) g3 (by rw[Pk.limI_6];exact g4)
  rw[show((6:Int)).toNat=6 from rfl,← n2] at t1 t2
  rw[List.length_cons,rdTbL_cons,rdTbS_shift,t2,h1,h2,rdTbF_zero,n1,t1]
  exact⟨rfl,rfl⟩
def catT (t:ByteArray):ByteArray:=Pk.beS t.size 2++t
def catV (s:Sc):ByteArray:=if actOf s=3 then catT s.nw else if actOf s=4 then catT s.ol else catT s.ol++catT s.nw
def catC (s:Sc):ByteArray:=Pk.beS s.pg.toNat 2++(catT s.ky++catV s)
theorem stepT_cat {A:ByteArray × Int} {t:ByteArray} (ht:t.size<=65535) (h:(stepT A t).2=0):A.2=0/\stepT A t=(A.1++catT t,0):=stepT_inv ht h
theorem layC_inv {s:Sc} {A:ByteArray × Int} (hy:s.ky.size<=16) (ho:s.ol.size<=32) (hw:s.nw.size<=32) (h:(layC s A).2=0):A.2=0/\0<=s.pg/\s.pg<65536/\layC s A=(A.1++catC s,0):=by
 have key:∀ B:ByteArray × Int,B=stepT (stepW A s.pg 2) s.ky->B.2=0->A.2=0/\0<=s.pg/\s.pg<65536/\B.1=A.1++Pk.beS s.pg.toNat 2++catT s.ky:=by
  intro B hB hB0
  rw[hB] at hB0
  obtain⟨e1,e2⟩:=stepT_cat (by omega) hB0
  obtain⟨f1,f2,f3,f4⟩:=stepW_inv (by omega) (by omega) e1
  rw[Pk.limI_2] at f3
  refine⟨f1,f2,f3,?_⟩
  rw[hB,e2,f4]
  rfl
 unfold layC layV at h ⊢
 unfold catC catV
 obtain⟨B,hB⟩:∃ B,B=stepT (stepW A s.pg 2) s.ky:=⟨_,rfl⟩
 rw[← hB] at h ⊢
 have K:=key B hB
 clear key hB
 by_cases h3:actOf s=3
 ·rw[if_pos h3] at h ⊢
  rw[if_pos h3]
  obtain⟨e1,e2⟩:=stepT_cat (by omega) h
  obtain⟨k1,k2,k3,k4⟩:=K e1
  refine⟨k1,k2,k3,?_⟩
  rw[e2,k4]
  simp only[ByteArray.append_assoc]
 ·by_cases h4:actOf s=4
  ·rw[if_neg h3,if_pos h4] at h ⊢
   rw[if_neg h3,if_pos h4]
   obtain⟨e1,e2⟩:=stepT_cat (by omega) h
   obtain⟨k1,k2,k3,k4⟩:=K e1
   refine⟨k1,k2,k3,?_⟩
   rw[e2,k4]
   simp only[ByteArray.append_assoc]
  ·rw[if_neg h3,if_neg h4] at h ⊢
   rw[if_neg h3,if_neg h4]
   obtain⟨e1,e2⟩:=stepT_cat (by omega) h
   obtain⟨f1,f2⟩:=stepT_cat (by omega) e1
   obtain⟨k1,k2,k3,k4⟩:=K f1
   refine⟨k1,k2,k3,?_⟩
   rw[e2,f2,k4]
   simp only[ByteArray.append_assoc]
theorem rd_cat {t b:ByteArray} {M:Int} (h:t.size<=M) (hM:M<=65535):tT (catT t++b,0) M=t/\sT (catT t++b,0) M=(b,0):=rd_text h hM
def putC (s0 s:Sc):Sc:={s0 with pg:=s.pg,ky:=s.ky,ol:=if actOf s=3 then s0.ol else s.ol,nw:=if actOf s=4 then s0.nw else s.nw}
theorem rdChg_cat (s0 s:Sc) (b:ByteArray) (hy:s.ky.size<=16) (ho:s.ol.size<=32) (hw:s.nw.size<=32) (h0:0<=s.pg) (h1:s.pg<65536):rdChg (actOf s) s0 (catC s++b,0)=(putC s0 s,(b,0)):=by
 have e0:catC s++b=Pk.beS s.pg.toNat 2++(catT s.ky++(catV s++b)):=by unfold catC;simp only[ByteArray.append_assoc]
 obtain⟨n1,n2⟩:=rd_num (n:=s.pg) (k:=2) (b:=catT s.ky++(catV s++b)) (by omega) (by omega) h0 (by rw[Pk.limI_2];exact h1)
 rw[show((2:Int)).toNat=2 from rfl,← e0] at n1 n2
 obtain⟨t1,t2⟩:=rd_cat (t:=s.ky) (b:=catV s++b) (M:=16) (by omega) (by omega)
 rw[← n2] at t1 t2
 have q1:rq1 (catC s++b,0)=(catV s++b,0):=t2
 have c1:rc1 s0 (catC s++b,0)={s0 with pg:=s.pg,ky:=s.ky}:=by unfold rc1;rw[n1,t1]
 unfold rdChg rcN rcO rcB
 rw[q1,c1]
 unfold putC catV
 by_cases h3:actOf s=3
 ·rw[if_pos h3,if_pos h3,if_pos h3,if_neg (by rw[h3];decide)]
  obtain⟨u1,u2⟩:=rd_cat (t:=s.nw) (b:=b) (M:=32) (by omega) (by omega)
  rw[u1,u2]
 ·by_cases h4:actOf s=4
  ·rw[if_neg h3,if_pos h4,if_neg h3,if_pos h4,if_neg h3,if_pos h4]
   obtain⟨u1,u2⟩:=rd_cat (t:=s.ol) (b:=b) (M:=32) (by omega) (by omega)
   rw[u1,u2]
  ·rw[if_neg h3,if_neg h4,if_neg h3,if_neg h4,if_neg h3,if_neg h4]
   obtain⟨u1,u2⟩:=rd_cat (t:=s.ol) (b:=catT s.nw++b) (M:=32) (by omega) (by omega)
   obtain⟨v1,v2⟩:=rd_cat (t:=s.nw) (b:=b) (M:=32) (by omega) (by omega)
   rw[ByteArray.append_assoc,u1,u2,v1,v2]
theorem sN_cat {n k:Int} {b:ByteArray} {j:Nat} (hj:k=(j:Int)) (h1:1<=k) (h6:k<=6) (h0:0<=n) (hn:n<Pk.limI j):nN (Pk.beS n.toNat j++b,0) k=n/\sN (Pk.beS n.toNat j++b,0) k=(b,0):=by
 subst hj
 have:=rd_num (n:=n) (k:=(j:Int)) (b:=b) h1 h6 h0 (by rw[Int.toNat_natCast];exact hn)
 rw[Int.toNat_natCast] at this
 exact this
theorem rdM_body {m:Rm} {t:ByteArray} (hc:cleanM m=m) (hb:bodyM m=(t,0)):rdM t=(m,(⟨#[]⟩,0)):=by
 have hr:refM m=0:=by
  rcases Classical.em (refM m=0) with h |h
  ·exact h
  ·rw[bodyM_ref h] at hb;exact absurd (congrArg Prod.snd hb) h
 have hl:laidM m=(t,0):=by
  rcases Classical.em ((laidM m).2=0) with h |h
  ·rcases Classical.em (4096<(laidM m).1.size) with h' |h'
   ·rw[bodyM_long hr h h'] at hb;exact absurd (congrArg Prod.snd hb) (by dsimp only;omega)
   ·rw[bodyM_good hr h h'] at hb
    have h9:(laidM m).1=t:=congrArg (fun x:ByteArray × Int=>x.1) hb
    exact Prod.ext h9 h
  ·rw[bodyM_err hr h] at hb;exact absurd (congrArg Prod.snd hb) h
 have hf:=fine_of hr
 have hx:=hf.texts
 have hwh:=hf.whole
 obtain⟨s,l,g⟩:=m
 have k1:=hf.k1
 have k2:=hf.k2
 have hy:=hf.ky
 have ho:=hf.ol
 have hw:=hf.nw
 dsimp only at *
 have hl2:(laidM ⟨s,l,g⟩).2=0:=by rw[hl]
 have htt:t=(laidM ⟨s,l,g⟩).1:=by rw[hl]
 clear hl hb
 unfold laidM laidF at hl2 htt
 dsimp only at hl2 htt
 have z0:∀ (X:ByteArray),(⟨#[]⟩:ByteArray)++X=X:=nil_app
 -- the kind's byte,and what is behind it
 have head:∀ u:ByteArray,(stepW (⟨#[]⟩,0) s.kd 1).2=0->t=(stepW (⟨#[]⟩,0) s.kd 1).1++u->nN (t,0) 1=s.kd/\sN (t,0) 1=(u,0):=by
  intro u h0 hu
  obtain⟨f1,f2,f3,f4⟩:=stepW_inv (by omega) (by omega) h0
  rw[f4] at hu
  dsimp only at hu
  rw[z0,show((1:Int)).toNat=1 from rfl] at hu
  rw[hu]
  exact sN_cat (j:=1) rfl (by omega) (by omega) f2 f3
 have hcs:cleanS s=s:=congrArg Rm.s hc
 have hci:(if s.kd=1∨s.kd=2 then l else [])=l:=congrArg Rm.im hc
 have hcg:(if s.kd=9 then g else [])=g:=congrArg Rm.tb hc
 have w6:∀ (n:Int) (X:ByteArray × Int),(stepW X n 6).2=0->X.2=0/\0<=n/\n<281474976710656/\(stepW X n 6).1=X.1++Pk.beS n.toNat 6:=by
  intro n X h0
  obtain⟨f1,f2,f3,f4⟩:=stepW_inv (by omega) (by omega) h0
  rw[Pk.limI_6] at f3
  exact⟨f1,f2,f3,by rw[f4];rfl⟩
 have r6:∀ (n:Int) (b:ByteArray),0<=n->n<281474976710656->nN (Pk.beS n.toNat 6++b,0) 6=n/\sN (Pk.beS n.toNat 6++b,0) 6=(b,0):=by
  intro n b h0 h1
  exact sN_cat (j:=6) rfl (by omega) (by omega) h0 (by rw[show Pk.limI 6=281474976710656 from Pk.limI_6];exact h1)
 have w1:∀ (n:Int) (X:ByteArray × Int),(stepW X n 1).2=0->X.2=0/\0<=n/\n<256/\(stepW X n 1).1=X.1++Pk.beS n.toNat 1:=by
  intro n X h0
  obtain⟨f1,f2,f3,f4⟩:=stepW_inv (by omega) (by omega) h0
  rw[Pk.limI_1] at f3
  exact⟨f1,f2,f3,by rw[f4];rfl⟩
 have r1:∀ (n:Int) (b:ByteArray),0<=n->n<256->nN (Pk.beS n.toNat 1++b,0) 1=n/\sN (Pk.beS n.toNat 1++b,0) 1=(b,0):=by
  intro n b h0 h1
  exact sN_cat (j:=1) rfl (by omega) (by omega) h0 (by rw[show Pk.limI 1=256 from Pk.limI_1];exact h1)
 have fin:∀ (x:Rm),x=cleanM ⟨s,l,g⟩->(x,((⟨#[]⟩:ByteArray),(0:Int)))=(⟨s,l,g⟩,(⟨#[]⟩,0)):=by
  intro x hx;rw[hx,hc]
 obtain⟨A1,hA1⟩:∃ A1,A1=stepW (⟨#[]⟩,0) s.kd 1:=⟨_,rfl⟩
 rw[← hA1] at hl2 htt head
 clear hA1
 unfold rdM rdK
 dsimp only
 by_cases h12:s.kd=1∨s.kd=2
 ·rw[if_pos h12] at hl2 htt
  obtain⟨gI,e⟩:=layI_inv (fun p hp=>by have:=hx h12 p hp;omega) hl2
  obtain⟨c1,c2,c3,c4⟩:=w1 _ _ (layI_was hl2)
  rw[e] at htt
  dsimp only at htt
  rw[c4,ByteArray.append_assoc] at htt
  obtain⟨a1,a2⟩:=head _ c1 htt
  obtain⟨b1,b2⟩:=r1 (l.length:Int) (catI l) c2 c3
  have h224:∀ p∈l,p.2.size<=224:=fun p hp=>by
   have:=(List.all_eq_true.1 (hwh h12)) p hp
   simp at this
   omega
  obtain⟨d1,d2⟩:=rd_images l ⟨#[]⟩ gI h224
  rw[Pk.append_nil] at d1 d2
  rw[a1,a2,if_pos h12,b1,b2,Int.toNat_natCast,d1,d2]
  refine fin _ ?_
  rcases h12 with h |h <;> simp[cleanM,cleanS,h,kR,zS]
 rw[if_neg h12] at hl2 htt
 by_cases h345:s.kd=3∨s.kd=4∨s.kd=5
 ·rw[if_pos h345] at hl2 htt
  obtain⟨p1,p2,p3,p4⟩:=layC_inv hy ho hw hl2
  rw[p4] at htt
  dsimp only at htt
  have e1:layP [s.tx,s.pv] A1=stepW (stepW A1 s.tx 6) s.pv 6:=rfl
  rw[e1] at p1 htt
  obtain⟨f1,f2,f3,f4⟩:=w6 _ _ p1
  obtain⟨g1,g2,g3,g4⟩:=w6 _ _ f1
  rw[f4,g4,ByteArray.append_assoc,ByteArray.append_assoc] at htt
  obtain⟨a1,a2⟩:=head _ g1 htt
  obtain⟨b1,b2⟩:=r6 s.tx (Pk.beS s.pv.toNat 6++catC s) g2 g3
  obtain⟨d1,d2⟩:=r6 s.pv (catC s) f2 f3
  have hact:s.kd=actOf s:=by unfold actOf;rw[if_neg (by omega)]
  have hch:=rdChg_cat {kR s.kd with tx:=s.tx,pv:=s.pv} s ⟨#[]⟩ hy ho hw p2 p3
  rw[Pk.append_nil,← hact] at hch
  rw[a1,a2,if_neg h12,if_pos h345,b1,b2,d1,d2,hch]
  refine fin _ ?_
  rcases h345 with h |h |h <;> simp[cleanM,cleanS,h,kR,zS,putC,actOf]
 rw[if_neg h345] at hl2 htt
 by_cases h6:s.kd=6
 ·rw[if_pos h6] at hl2 htt
  obtain⟨p1,p2,p3,p4⟩:=layC_inv hy ho hw hl2
  rw[p4] at htt
  dsimp only at htt
  have e1:layP [s.tx,s.pv,s.nx] A1=stepW (stepW (stepW A1 s.tx 6) s.pv 6) s.nx 6:=rfl
  rw[e1] at p1 htt
  obtain⟨i1,i2,i3,i4⟩:=w1 _ _ p1
  obtain⟨j1,j2,j3,j4⟩:=w6 _ _ i1
  obtain⟨f1,f2,f3,f4⟩:=w6 _ _ j1
  obtain⟨g1,g2,g3,g4⟩:=w6 _ _ f1
  rw[i4,j4,f4,g4,ByteArray.append_assoc,ByteArray.append_assoc,ByteArray.append_assoc,ByteArray.append_assoc] at htt
  obtain⟨a1,a2⟩:=head _ g1 htt
  obtain⟨b1,b2⟩:=r6 s.tx (Pk.beS s.pv.toNat 6++(Pk.beS s.nx.toNat 6++(Pk.beS s.ac.toNat 1++catC s))) g2 g3
  obtain⟨d1,d2⟩:=r6 s.pv (Pk.beS s.nx.toNat 6++(Pk.beS s.ac.toNat 1++catC s)) f2 f3
  obtain⟨d3,d4⟩:=r6 s.nx (Pk.beS s.ac.toNat 1++catC s) j2 j3
  obtain⟨d5,d6⟩:=r1 s.ac (catC s) i2 i3
  have hact:s.ac=actOf s:=by unfold actOf;rw[if_pos h6]
  have hch:=rdChg_cat {kR s.kd with tx:=s.tx,pv:=s.pv,nx:=s.nx,ac:=s.ac} s ⟨#[]⟩ hy ho hw p2 p3
  rw[Pk.append_nil,← hact] at hch
  rw[a1,a2,if_neg h12,if_neg h345,if_pos h6,b1,b2,d1,d2,d3,d4,d5,d6,hch]
  refine fin _ ?_
  simp[cleanM,cleanS,h6,kR,zS,putC,actOf]
 rw[if_neg h6] at hl2 htt
 by_cases h78:s.kd=7∨s.kd=8
 ·rw[if_pos h78] at hl2 htt
  have e1:layP [s.tx,s.pv] A1=stepW (stepW A1 s.tx 6) s.pv 6:=rfl
  rw[e1] at hl2 htt
  obtain⟨f1,f2,f3,f4⟩:=w6 _ _ hl2
  obtain⟨g1,g2,g3,g4⟩:=w6 _ _ f1
  rw[f4,g4,ByteArray.append_assoc] at htt
  obtain⟨a1,a2⟩:=head _ g1 htt
  obtain⟨b1,b2⟩:=r6 s.tx (Pk.beS s.pv.toNat 6) g2 g3
  obtain⟨d1,d2⟩:=r6 s.pv ⟨#[]⟩ f2 f3
  rw[Pk.append_nil] at d1 d2
  rw[a1,a2,if_neg h12,if_neg h345,if_neg h6,if_pos h78,b1,b2,d1,d2]
  refine fin _ ?_
  rcases h78 with h |h <;> simp[cleanM,cleanS,h,kR,zS]
 rw[if_neg h78] at hl2 htt
 by_cases h9:s.kd=9
 ·rw[if_pos h9] at hl2 htt
  obtain⟨gI,e⟩:=layB_inv hl2
  obtain⟨c1,c2,c3,c4⟩:=w1 _ _ (layB_was hl2)
  rw[e] at htt
  dsimp only at htt
  rw[c4,ByteArray.append_assoc] at htt
  obtain⟨a1,a2⟩:=head _ c1 htt
  obtain⟨b1,b2⟩:=r1 (g.length:Int) (catB g) c2 c3
  obtain⟨d1,d2⟩:=rd_table g ⟨#[]⟩ gI
  rw[Pk.append_nil] at d1 d2
  rw[a1,a2,if_neg h12,if_neg h345,if_neg h6,if_neg h78,if_pos h9,b1,b2,Int.toNat_natCast,d1,d2]
  refine fin _ ?_
  simp[cleanM,cleanS,h9,kR,zS]
 rw[if_neg h9] at hl2 htt
 have h10:s.kd=10:=by omega
 rw[if_pos h10] at hl2 htt
 obtain⟨f1,f2,f3,f4⟩:=w1 _ _ hl2
 obtain⟨g1,g2,g3,g4⟩:=stepW_inv (by omega) (by omega) f1
 rw[f4,g4,show((4:Int)).toNat=4 from rfl] at htt
 dsimp only at htt
 rw[ByteArray.append_assoc] at htt
 obtain⟨a1,a2⟩:=head _ g1 htt
 obtain⟨b1,b2⟩:=sN_cat (n:=s.ep) (k:=4) (j:=4) (b:=Pk.beS s.nd.toNat 1) rfl (by omega) (by omega) g2 g3
 obtain⟨d1,d2⟩:=r1 s.nd ⟨#[]⟩ f2 f3
 rw[Pk.append_nil] at d1 d2
 rw[a1,a2,if_neg h12,if_neg h345,if_neg h6,if_neg h78,if_neg h9,if_pos h10,b1,b2,d1,d2]
 refine fin _ ?_
 simp[cleanM,cleanS,h10,kR,zS]
theorem ofM_body {m:Rm} {t:ByteArray} (hc:cleanM m=m) (hb:bodyM m=(t,0)):ofM t=(m,0):=by
 unfold ofM
 rw[rdM_body hc hb]
 dsimp only
 have e:Pk.rdEnd ⟨#[]⟩ 0=(⟨#[]⟩,0):=rfl
 rw[e]
 dsimp only
 rw[if_neg (by simp),hb,if_pos ⟨rfl,rfl⟩]
theorem cleanM_twice (m:Rm):cleanM (cleanM m)=cleanM m:=by
 obtain⟨s,l,g⟩:=m
 have hk:(cleanS s).kd=s.kd:=cleanS_kd s
 have h1:cleanS (cleanS s)=cleanS s:=by
  unfold cleanS actOf
  repeat' split
  all_goals simp_all
 unfold cleanM
 dsimp only
 rw[hk,h1]
 congr 1
 ·split <;> rfl
 ·split <;> rfl
theorem empty_rd:(rdM ⟨#[]⟩).2.2=2:=by decide
theorem body_pos {m:Rm} {Z:ByteArray} (hb:bodyM (cleanM m)=(Z,0)):1<=Z.size:=by
 rcases Nat.lt_or_ge Z.size 1 with h |h
 ·have hz:Z=⟨#[]⟩:=by
   apply ByteArray.ext
   exact Array.eq_empty_of_size_eq_zero (show Z.data.size=0 by have:Z.size=Z.data.size:=rfl;omega)
  have h1:=rdM_body (cleanM_twice m) hb
  rw[hz] at h1
  have h2:=empty_rd
  rw[h1] at h2
  dsimp only at h2
  omega
 ·exact h
theorem open_frame {m:Rm} {Z:ByteArray} (hb:bodyM (cleanM m)=(Z,0)) (a b:ByteArray):openM (a++frameB Z++b) a.size=(cleanM m,6+(Z.size:Int),0):=by
 have hz:Z.size<=4096:=by have:=bodyM_size (cleanM m);rw[hb] at this;exact this
 have hp:=body_pos hb
 have hx:(a++frameB Z++b).extract a.size (a++frameB Z++b).size=frameB Z++b:=by
  rw[ByteArray.append_assoc]
  exact Pk.extract_right a (frameB Z++b)
 have hs:=frameB_size Z
 have hfr:frM (frameB Z++b)=(Z,0):=by
  have e:frameB Z++b=Pk.beS Z.size 2++(Sm.sealV Z++b):=by unfold frameB;rw[ByteArray.append_assoc]
  obtain⟨n1,n2⟩:=sN_cat (n:=(Z.size:Int)) (k:=2) (j:=2) (b:=Sm.sealV Z++b) rfl (by omega) (by omega) (by omega) (by rw[show Pk.limI 2=65536 from Pk.limI_2];omega)
  rw[Int.toNat_natCast,← e] at n1 n2
  have hr:frR (frameB Z++b)=(Sm.sealV Z,b,0):=by
   unfold frR
   rw[n1,n2]
   have:=Pk.rdRaw_app (Sm.sealV Z) b
   rw[sealV_size] at this
   have e4:((4+Z.size:Nat):Int)=4+(Z.size:Int):=by omega
   rw[e4] at this
   exact this
  unfold frM
  rw[if_neg (by rw[ByteArray.size_append];omega),n1,if_neg (by omega),hr]
  dsimp only
  rw[if_neg (by simp)]
  exact Sm.open_seal Z
 unfold openM
 rw[if_neg (by rw[ByteArray.size_append,ByteArray.size_append];omega),Int.toNat_natCast,hx,hfr]
 dsimp only
 rw[if_neg (by simp),ofM_body (cleanM_twice m) hb]
 dsimp only
 rw[if_neg (by simp)]
theorem extract_extract1 (s:ByteArray) (a n:Nat) (h:a+n<=s.size):(s.extract a s.size).extract 0 n=s.extract a (a+n):=by
 apply ByteArray.ext
 simp only[ByteArray.data_extract]
 have e:s.size=s.data.size:=rfl
 rw[Array.extract_extract]
 congr 1
 omega
theorem nN_eq (q:Lf) (k:Int) (h1:1<=k) (h6:k<=6):nN q k=(Pk.beN (Pk.rdRaw q.1 q.2 k).1.data.toList:Nat)/\sN q k=(Pk.rdRaw q.1 q.2 k).2:=by
 unfold nN sN Pk.rdNum Pk.rdNumSt
 rw[if_neg (by omega)]
 exact⟨rfl,rfl⟩
theorem openV_yes {z:ByteArray} (h:Sm.sealV (z.extract 4 z.size)=z):Sm.openV z=(z.extract 4 z.size,0):=by
 have:=Sm.open_seal (z.extract 4 z.size)
 unfold Sm.sealV at h
 rw[h] at this
 exact this
theorem beN_foldl:∀ (l:List UInt8) (a:Nat),l.foldl (fun a b=>256*a+b.toNat) a=a*256 ^ l.length+Pk.beN l
 | [],a=>by simp[Pk.beN]
 | c :: l,a=>by
  have h1:=beN_foldl l (256*a+c.toNat)
  have h2:=beN_foldl l (256*0+c.toNat)
  rw[List.foldl_cons,h1]
  show _=_+(c ::l).foldl (fun a b=>256*a+b.toNat) 0
  rw[List.foldl_cons,h2,List.length_cons,Nat.pow_succ,Nat.add_mul,Nat.mul_zero,Nat.zero_add,Nat.mul_comm 256 a,Nat.mul_assoc,Nat.mul_comm 256 (256 ^ l.length),Nat.add_assoc]
theorem beN_cons (c:UInt8) (l:List UInt8):Pk.beN (c ::l)=c.toNat*256 ^ l.length+Pk.beN l:=by
 show(c ::l).foldl (fun a b=>256*a+b.toNat) 0=_
 rw[List.foldl_cons,beN_foldl];simp
theorem beN_inj:∀ (l m:List UInt8),l.length=m.length->Pk.beN l=Pk.beN m->l=m
 | [],[],_,_=>rfl
 | [],_ :: _,h,_=>by simp at h
 | _ :: _,[],h,_=>by simp at h
 | c :: l,d :: m,h,e=>by
  have hl:l.length=m.length:=by simpa using h
  rw[beN_cons,beN_cons,hl] at e
  have b1:=Pk.beN_lt l
  have b2:=Pk.beN_lt m
  rw[hl] at b1
  generalize 256 ^ m.length=K at *
  have hcd:c.toNat=d.toNat:=by
   rcases Nat.lt_trichotomy c.toNat d.toNat with x |x |x
   ·have y:=Nat.mul_le_mul_right K (show c.toNat+1<=d.toNat from x)
    rw[Nat.succ_mul] at y
    omega
   ·exact x
   ·have y:=Nat.mul_le_mul_right K (show d.toNat+1<=c.toNat from x)
    rw[Nat.succ_mul] at y
    omega
  rw[hcd] at e
  rw[beN_inj l m hl (by omega),UInt8.toNat_inj.1 hcd]
theorem be_beN (l:List UInt8):Pk.be (Pk.beN l) l.length=l :=
 beN_inj _ _ (Pk.be_length _ _) (Pk.beN_be _ _ (Pk.beN_lt l))
theorem openV_no {z:ByteArray} (h4:4<=z.size) (h:Sm.sealV (z.extract 4 z.size)≠z):Sm.openV z=(⟨#[]⟩,5):=by
 unfold Sm.openV
 rw[if_neg (by omega),if_neg]
 intro e
 apply h
 have hz:(z.extract 0 4).data.toList.length=4:=by
  have:(z.extract 0 4).size=4:=by rw[ByteArray.size_extract];omega
  rw[Array.length_toList]
  exact this
 have hb:=be_beN (z.extract 0 4).data.toList
 rw[hz] at hb
 unfold Sm.sealV
 rw[e,Int.toNat_natCast]
 have e2:Pk.beS (Pk.beN (z.extract 0 4).data.toList) 4=z.extract 0 4:=by
  apply ByteArray.ext
  unfold Pk.beS
  dsimp only
  rw[hb]
 rw[e2]
 apply ByteArray.ext
 rw[ByteArray.data_append,ByteArray.data_extract,ByteArray.data_extract,Array.extract_append_extract]
 rw[Nat.min_eq_left (by omega),Nat.max_eq_right (by omega)]
 exact Array.extract_size
theorem sN_two {s:ByteArray} (h:2<=s.size):sN (s,0) 2=(s.extract 2 s.size,0):=by
 rw[(nN_eq (s,0) 2 (by omega) (by omega)).2,Pk.rdRaw_fits (by omega) (by dsimp only;omega)]
 rfl
theorem frM_range {s:ByteArray} (h6:6<=s.size) (h:nN (s,0) 2<1∨4096<nN (s,0) 2):frM s=(⟨#[]⟩,4):=by
 unfold frM
 rw[if_neg (by omega),if_pos h]
theorem frM_short {s:ByteArray} {k:Nat} (h6:6<=s.size) (hk:nN (s,0) 2=(k:Int)) (h1:1<=k) (h2:k<=4096) (h:s.size<6+k):frM s=(⟨#[]⟩,2):=by
 have e:frR s=(⟨#[]⟩,⟨#[]⟩,2):=by
  unfold frR
  rw[sN_two (by omega),hk,Pk.rdRaw_short (by omega) (by dsimp only;rw[ByteArray.size_extract];omega)]
 unfold frM
 rw[if_neg (by omega),if_neg (by omega),e,if_pos (show(2:Int)≠0 by decide)]
theorem frR_fits {s:ByteArray} {k:Nat} (h6:6<=s.size) (hk:nN (s,0) 2=(k:Int)) (h:6+k<=s.size):(frR s).1=s.extract 2 (6+k)/\(frR s).2.2=0:=by
 unfold frR
 rw[sN_two (by omega),hk,Pk.rdRaw_fits (by omega) (by dsimp only;rw[ByteArray.size_extract];omega)]
 refine⟨?_,rfl⟩
 dsimp only
 rw[show((4:Int)+(k:Int)).toNat=4+k by omega,extract_extract1 s 2 (4+k) (by omega)]
 congr 1
 omega
theorem frM_open {s:ByteArray} {k:Nat} (h6:6<=s.size) (hk:nN (s,0) 2=(k:Int)) (h1:1<=k) (h2:k<=4096) (h:6+k<=s.size):frM s=Sm.openV (s.extract 2 (6+k)):=by
 obtain⟨e1,e2⟩:=frR_fits h6 hk h
 unfold frM
 rw[if_neg (by omega),if_neg (by omega),e2,if_neg (by simp),e1]
theorem nN_two {s:ByteArray} (a:Nat) (h:a+2<=s.size):nN (s.extract a s.size,0) 2=256*((s[a]'(by omega)).toNat:Int)+((s[a+1]'(by omega)).toNat:Int):=by
 rw[(nN_eq _ 2 (by omega) (by omega)).1,Pk.rdRaw_fits (by omega) (by dsimp only;rw[ByteArray.size_extract];omega)]
 dsimp only
 rw[show((2:Int)).toNat=2 from rfl,extract_extract1 s a 2 h]
 have e:(s.extract a (a+2)).data.toList=[s[a]'(by omega),s[a+1]'(by omega)]:=by
  have hz:(s.extract a (a+2)).data.toList.length=2:=by
   rw[Array.length_toList]
   show(s.extract a (a+2)).size=2
   rw[ByteArray.size_extract];omega
  refine List.ext_getElem hz ?_
  intro i h1 h2
  have hi:i<2:=by rw[hz] at h1;exact h1
  rw[Array.getElem_toList]
  have e2:(s.extract a (a+2)).data[i]'(by rw[Array.length_toList] at h1;exact h1)=s.data[a+i]'(by have:s.data.size=s.size:=rfl;omega):=by
   simp only[ByteArray.data_extract,Array.getElem_extract]
  rw[e2]
  have hi2:i=0∨i=1:=by omega
  rcases hi2 with rfl |rfl <;> rfl
 rw[e]
 simp only[Pk.beN,List.foldl_cons,List.foldl_nil]
 omega
section
variable {s:ByteArray}{a:Nat}
theorem openM_bad {E:Int} (ha:a<=s.size) (hE:E≠0) (h:frM (s.extract a s.size)=(⟨#[]⟩,E)):openM s (a:Int)=(zM,0,E):=by
 unfold openM
 rw[if_neg (by omega),Int.toNat_natCast,h,if_pos hE]
theorem openM_six (ha:a<=s.size) (h:s.size-a<6):openM s (a:Int)=(zM,0,2):=by
 refine openM_bad ha (by decide) ?_
 unfold frM
 rw[if_pos (by rw[ByteArray.size_extract];omega)]
theorem openM_good {t:ByteArray} (ha:a<=s.size) (h:frM (s.extract a s.size)=(t,0)):openM s (a:Int)=if(ofM t).2≠0 then(zM,(0:Int),(ofM t).2) else((ofM t).1,6+(t.size:Int),0):=by
 unfold openM
 rw[if_neg (by omega),Int.toNat_natCast,h,if_neg (by simp)]
end
theorem ext_ext {s:ByteArray} {a b c d:Nat} (h:a+c<=b):(s.extract a b).extract d c=s.extract (a+d) (a+c):=by
 apply ByteArray.ext
 simp only[ByteArray.data_extract]
 rw[Array.extract_extract]
 congr 1
 omega
theorem ext_size {s:ByteArray} {a b:Nat} (h:b<=s.size):(s.extract a b).size=b-a:=by
 rw[ByteArray.size_extract];omega
section
variable {s:ByteArray}{a k:Nat}
theorem nN_k (ha:a+6<=s.size) (hk:256*(s[a]'(by omega)).toNat+(s[a+1]'(by omega)).toNat=k):nN (s.extract a s.size,0) 2=(k:Int):=by
 rw[nN_two a (by omega),← hk];omega
theorem openM_form (ha:a+6<=s.size) (hk:256*(s[a]'(by omega)).toNat+(s[a+1]'(by omega)).toNat=k) (h:k<1∨4096<k):openM s (a:Int)=(zM,0,4):=by
 refine openM_bad (by omega) (by decide) (frM_range ?_ ?_)
 ·rw[ext_size (Nat.le_refl _)];omega
 ·rw[nN_k ha hk];omega
theorem openM_short (ha:a+6<=s.size) (hk:256*(s[a]'(by omega)).toNat+(s[a+1]'(by omega)).toNat=k) (h1:1<=k) (h2:k<=4096) (h:s.size<a+6+k):openM s (a:Int)=(zM,0,2):=by
 refine openM_bad (by omega) (by decide) (frM_short ?_ (nN_k ha hk) h1 h2 ?_)
 ·rw[ext_size (Nat.le_refl _)];omega
 ·rw[ext_size (Nat.le_refl _)];omega
theorem frM_at (ha:a+6<=s.size) (hk:256*(s[a]'(by omega)).toNat+(s[a+1]'(by omega)).toNat=k) (h1:1<=k) (h2:k<=4096) (h:a+6+k<=s.size):frM (s.extract a s.size)=Sm.openV (s.extract (a+2) (a+6+k)):=by
 rw[frM_open (by rw[ext_size (Nat.le_refl _)];omega) (nN_k ha hk) h1 h2 (by rw[ext_size (Nat.le_refl _)];omega),ext_ext (by omega),Nat.add_assoc]
theorem inner_at (h:a+6+k<=s.size):(s.extract (a+2) (a+6+k)).extract 4 (s.extract (a+2) (a+6+k)).size=s.extract (a+6) (a+6+k):=by
 rw[ext_size h,ext_ext (by omega)]
 congr 1
 omega
theorem openM_sum (ha:a+6<=s.size) (hk:256*(s[a]'(by omega)).toNat+(s[a+1]'(by omega)).toNat=k) (h1:1<=k) (h2:k<=4096) (h:a+6+k<=s.size) (hs:Sm.sealV (s.extract (a+6) (a+6+k))≠s.extract (a+2) (a+6+k)):openM s (a:Int)=(zM,0,5):=by
 refine openM_bad (by omega) (by decide) ?_
 rw[frM_at ha hk h1 h2 h]
 refine openV_no (by rw[ext_size h];omega) ?_
 rw[inner_at h]
 exact hs
theorem openM_of (ha:a+6<=s.size) (hk:256*(s[a]'(by omega)).toNat+(s[a+1]'(by omega)).toNat=k) (h1:1<=k) (h2:k<=4096) (h:a+6+k<=s.size) (hs:Sm.sealV (s.extract (a+6) (a+6+k))=s.extract (a+2) (a+6+k)) :
  openM s (a:Int)=if(ofM (s.extract (a+6) (a+6+k))).2≠0 then(zM,(0:Int),(ofM (s.extract (a+6) (a+6+k))).2) else((ofM (s.extract (a+6) (a+6+k))).1,6+(k:Int),0):=by
 have e:frM (s.extract a s.size)=(s.extract (a+6) (a+6+k),0):=by
  rw[frM_at ha hk h1 h2 h]
  have:=openV_yes (z:=s.extract (a+2) (a+6+k)) (by rw[inner_at h];exact hs)
  rw[inner_at h] at this
  exact this
 rw[openM_good (by omega) e,ext_size h,show a+6+k-(a+6)=k by omega]
end
theorem clean_chg (K:Int) (hK:K=3∨K=4∨K=5) (x y:Int) (q:Lf):cleanS (rdChg K {kR K with tx:=x,pv:=y} q).1=(rdChg K {kR K with tx:=x,pv:=y} q).1:=by
 rcases hK with rfl |rfl |rfl <;> simp[rdChg,cleanS,rcN,rcO,rcB,rc1,kR,zS,actOf]
theorem clean_und (a x y z:Int) (q:Lf):cleanS (rdChg a {kR 6 with tx:=x,pv:=y,nx:=z,ac:=a} q).1=(rdChg a {kR 6 with tx:=x,pv:=y,nx:=z,ac:=a} q).1:=by
 unfold rdChg
 by_cases h3:a=3
 ·rw[if_pos h3];simp[cleanS,rcN,rc1,kR,zS,actOf,h3]
 ·by_cases h4:a=4
  ·rw[if_neg h3,if_pos h4];simp[cleanS,rcO,rc1,kR,zS,actOf,h4]
  ·rw[if_neg h3,if_neg h4];simp[cleanS,rcB,rc1,kR,zS,actOf,h3,h4]
theorem cleanM_nil {s:Sc} (h:cleanS s=s):cleanM ⟨s,[],[]⟩=⟨s,[],[]⟩:=by
 unfold cleanM
 dsimp only
 rw[h,ite_self,ite_self]
theorem cleanM_rdM (t:ByteArray):cleanM (rdM t).1=(rdM t).1:=by
 unfold rdM rdK
 dsimp only
 generalize nN (t,0) 1=k
 generalize sN (t,0) 1=q
 by_cases h12:k=1∨k=2
 ·rw[if_pos h12]
  rcases h12 with rfl |rfl <;> simp[cleanM,cleanS,kR,zS]
 rw[if_neg h12]
 by_cases h345:k=3∨k=4∨k=5
 ·rw[if_pos h345]
  exact cleanM_nil (clean_chg k h345 (nN q 6) (nN (sN q 6) 6) (sN (sN q 6) 6))
 rw[if_neg h345]
 by_cases h6:k=6
 ·subst h6
  rw[if_pos rfl]
  exact cleanM_nil (clean_und (nN (sN (sN (sN q 6) 6) 6) 1) (nN q 6) (nN (sN q 6) 6) (nN (sN (sN q 6) 6) 6) (sN (sN (sN (sN q 6) 6) 6) 1))
 rw[if_neg h6]
 by_cases h78:k=7∨k=8
 ·rw[if_pos h78]
  rcases h78 with rfl |rfl <;> simp[cleanM,cleanS,kR,zS]
 rw[if_neg h78]
 by_cases h9:k=9
 ·subst h9;rw[if_pos rfl];simp[cleanM,cleanS,kR,zS]
 rw[if_neg h9]
 by_cases h10:k=10
 ·subst h10;rw[if_pos rfl];simp[cleanM,cleanS,kR,zS]
 rw[if_neg h10]
 have a3:¬ (k=3∨k=4∨k=5∨k=6):=by omega
 simp[cleanM,cleanS,kR,zS,h12,a3,h78,h9,h10]
def cat:List ByteArray->ByteArray
 | []=>⟨#[]⟩
 | f :: l=>f++cat l
theorem app_nil (s:ByteArray):s++(⟨#[]⟩:ByteArray)=s:=by apply ByteArray.ext;simp[ByteArray.data_append]
theorem cat_append (l m:List ByteArray):cat (l++m)=cat l++cat m:=by
 induction l with
 | nil=>simp only[List.nil_append,cat,nil_app]
 | cons f l ih=>simp only[List.cons_append,cat,ih,ByteArray.append_assoc]
theorem cat_snoc (l:List ByteArray) (f:ByteArray):cat (l++[f])=cat l++f:=by rw[cat_append,cat,cat,app_nil]
theorem bsz (a b:ByteArray):(a++b).size=a.size+b.size:=ByteArray.size_append
theorem nilz:(⟨#[]⟩:ByteArray).size=0:=rfl
theorem nil_of_size {s:ByteArray} (h:s.size=0):s=⟨#[]⟩:=by
 apply ByteArray.ext
 exact Array.eq_empty_of_size_eq_zero h
theorem ext_left (a b:ByteArray):(a++b).extract 0 a.size=a:=by
 apply ByteArray.ext
 rw[ByteArray.data_extract,ByteArray.data_append]
 have:a.size=a.data.size:=rfl
 rw[this]
 simp
theorem ext_right (a b:ByteArray):(a++b).extract a.size (a++b).size=b:=Pk.extract_right a b
theorem ext_split (s:ByteArray) {j:Nat} (h:j<=s.size):s.extract 0 j++s.extract j s.size=s:=by
 apply ByteArray.ext
 rw[ByteArray.data_append,ByteArray.data_extract,ByteArray.data_extract]
 have e:s.size=s.data.size:=rfl
 rw[e] at h ⊢
 rw[Array.extract_append_extract,Nat.min_eq_left (Nat.zero_le _),Nat.max_eq_right h]
 simp
theorem app_inj {a b c d:ByteArray} (h:a++b=c++d) (hs:a.size=c.size):a=c/\b=d:=by
 have e1:(a++b).extract 0 a.size=a:=ext_left a b
 have e2:(c++d).extract 0 c.size=c:=ext_left c d
 have e3:=ext_right a b
 have e4:=ext_right c d
 rw[h,hs] at e1
 rw[h,hs] at e3
 exact⟨e1.symm.trans e2,e3.symm.trans e4⟩
theorem pre_cmp {a b c d:ByteArray} (h:a++b=c++d) (hs:a.size<=c.size):∃ x,c=a++x/\b=x++d:=by
 have h1:c.extract 0 a.size++c.extract a.size c.size=c:=ext_split c hs
 have h2:a++b=c.extract 0 a.size++(c.extract a.size c.size++d):=by rw[← ByteArray.append_assoc,h1];exact h
 obtain⟨e1,e2⟩:=app_inj h2 (by rw[ByteArray.size_extract];omega)
 refine⟨c.extract a.size c.size,?_,e2⟩
 conv=>lhs;rw[← h1,← e1]
structure Frm (f:ByteArray):Prop where
 ex:∃ m Z,bodyM (cleanM m)=(Z,0)/\f=frameB Z
def recF (f:ByteArray):Rm:=(openM f 0).1
section
variable {f g s t:ByteArray}{fs gs:List ByteArray}
theorem Frm.open_ (h:Frm f) (a b:ByteArray):openM (a++f++b) (a.size:Int)=(recF f,(f.size:Int),0):=by
 obtain⟨m,Z,hb,rfl⟩:=h.ex
 have h0:=open_frame hb ⟨#[]⟩ ⟨#[]⟩
 rw[nil_app,app_nil] at h0
 have h1:openM (frameB Z) 0=(cleanM m,6+(Z.size:Int),0):=h0
 unfold recF
 rw[h1,open_frame hb a b,frameB_size]
 simp
theorem Frm.at0 (h:Frm f) (b:ByteArray):openM (f++b) 0=(recF f,(f.size:Int),0):=by
 have:=h.open_ ⟨#[]⟩ b
 rw[nil_app] at this
 exact this
theorem Frm.pos (h:Frm f):7<=f.size:=by
 obtain⟨m,Z,hb,rfl⟩:=h.ex
 have:=body_pos hb
 rw[frameB_size];omega
theorem Frm.le (h:Frm f):f.size<=4102:=by
 obtain⟨m,Z,hb,rfl⟩:=h.ex
 have:=bodyM_size (cleanM m)
 rw[hb] at this
 rw[frameB_size];dsimp only at this;omega
theorem frm_of {m:Rm} (h:frameM m=(f,0)):Frm f:=by
 unfold frameM at h
 split at h
 ·rename_i hn
  simp only[Prod.mk.injEq] at h
  exact absurd h.2 hn
 ·rename_i hn
  simp only[Prod.mk.injEq] at h
  refine⟨m,(bodyM (cleanM m)).1,?_,h.1.symm⟩
  have:(bodyM (cleanM m)).2=0:=by simpa using hn
  rw[← this]
theorem frm_good {m:Rm} (h:(frameM m).2=0):Frm (frameM m).1:=frm_of (by rw[← h])
theorem ofM_ok {t:ByteArray} (h:(ofM t).2=0):bodyM (cleanM (rdM t).1)=(t,0)/\(ofM t).1=(rdM t).1:=by
 rw[cleanM_rdM]
 unfold ofM at h ⊢
 split at h
 ·rename_i hn
  exact absurd h hn
 ·rename_i hn
  split at h
  ·rename_i hb
   rw[if_neg hn,if_pos hb]
   exact⟨Prod.ext hb.2 hb.1,rfl⟩
  ·cases h
theorem open_frm {a:Nat} {r:Rm} {k:Int} (ha:a<=s.size) (h:openM s (a:Int)=(r,k,0)):∃ f,Frm f/\k=(f.size:Int)/\r=recF f/\a+f.size<=s.size/\s.extract a (a+f.size)=f:=by
 rcases Nat.lt_or_ge (s.size-a) 6 with h6 |h6
 ·rw[openM_six ha h6] at h
  simp at h
 have ha6:a+6<=s.size:=by omega
 obtain⟨j,hj⟩:∃ j:Nat,256*(s[a]'(by omega)).toNat+(s[a+1]'(by omega)).toNat=j:=⟨_,rfl⟩
 by_cases h1:j<1∨4096<j
 ·rw[openM_form ha6 hj h1] at h
  simp at h
 have j1:1<=j:=by omega
 have j2:j<=4096:=by omega
 rcases Nat.lt_or_ge s.size (a+6+j) with h3 |h3
 ·rw[openM_short ha6 hj j1 j2 h3] at h
  simp at h
 by_cases hs:Sm.sealV (s.extract (a+6) (a+6+j))=s.extract (a+2) (a+6+j)
 ·rw[openM_of ha6 hj j1 j2 h3 hs] at h
  split at h
  ·rename_i hn
   simp only[Prod.mk.injEq] at h
   exact absurd h.2.2 hn
  ·rename_i hn
   have hn':(ofM (s.extract (a+6) (a+6+j))).2=0:=by simpa using hn
   obtain⟨hb,ho⟩:=ofM_ok hn'
   have hz:(s.extract (a+6) (a+6+j)).size=j:=by rw[ByteArray.size_extract];omega
   have hF:frameB (s.extract (a+6) (a+6+j))=s.extract a (a+6+j):=by
    unfold frameB
    rw[hs,hz]
    have e1:Pk.beS j 2=s.extract a (a+2):=by
     apply ByteArray.ext
     apply Array.ext
     ·have:=Pk.beS_size j 2
      have e2:(s.extract a (a+2)).size=2:=by rw[ByteArray.size_extract];omega
      exact this.trans e2.symm
     ·intro i i1 i2
      have i1':i<2:=by have:=Pk.beS_size j 2;have e:(Pk.beS j 2).data.size=2:=this;omega
      have x0:=(s[a]'(by omega)).toNat_lt
      have x1:=(s[a+1]'(by omega)).toNat_lt
      have hi:i=0∨i=1:=by omega
      rcases hi with rfl |rfl
      ·simp only[Pk.beS,Pk.be,ByteArray.data_extract,Array.getElem_extract]
       simp
       rw[show j / 256=(s[a]'(by omega)).toNat by omega]
       simp[ByteArray.getElem_eq_getElem_data]
      ·simp only[Pk.beS,Pk.be,ByteArray.data_extract,Array.getElem_extract]
       simp
       rw[← UInt8.toNat_inj]
       simp
       rw[show j % 256=(s[a+1]'(by omega)).toNat by omega]
       simp[ByteArray.getElem_eq_getElem_data]
    rw[e1]
    apply ByteArray.ext
    rw[ByteArray.data_append,ByteArray.data_extract,ByteArray.data_extract,ByteArray.data_extract,Array.extract_append_extract,Nat.min_eq_left (by omega),Nat.max_eq_right (by omega)]
   have hfr:Frm (s.extract a (a+6+j)):=⟨_,_,hb,hF.symm⟩
   have hfs:(s.extract a (a+6+j)).size=6+j:=by rw[ByteArray.size_extract];omega
   simp only[Prod.mk.injEq] at h
   have hh:r=recF (s.extract a (a+6+j)):=by
    have h0:=open_frame hb ⟨#[]⟩ ⟨#[]⟩
    rw[nil_app,app_nil,hF] at h0
    have h1:openM (s.extract a (a+6+j)) 0=(cleanM (rdM (s.extract (a+6) (a+6+j))).1,_,0):=h0
    unfold recF
    rw[h1,cleanM_rdM,← ho]
    exact h.1.symm
   exact⟨_,hfr,by rw[hfs];have:=h.2.1;omega,hh,by rw[hfs];omega,by rw[hfs,show a+(6+j)=a+6+j by omega]⟩
 ·rw[openM_sum ha6 hj j1 j2 h3 hs] at h
  simp at h
theorem Frm.cut (h:Frm f) {x:ByteArray} (he:f=t++x) (hx:t.size<f.size):(openM t 0).2.2≠0:=by
 intro hz
 obtain⟨g,hg,hk,hr,hl,hx2⟩:=open_frm (s:=t) (a:=0) (r:=(openM t 0).1) (k:=(openM t 0).2.1) (Nat.zero_le _) (by
  have:openM t ((0:Nat):Int)=((openM t 0).1,(openM t 0).2.1,(openM t 0).2.2):=rfl
  rw[hz] at this;exact this)
 rw[Nat.zero_add] at hl hx2
 have e1:g++t.extract g.size t.size=t:=by
  have:=ext_split t hl
  rw[hx2] at this;exact this
 have e2:=hg.at0 (t.extract g.size t.size++x)
 rw[← ByteArray.append_assoc,e1,← he] at e2
 have e3:=h.at0 ⟨#[]⟩
 rw[app_nil] at e3
 rw[e3] at e2
 simp only[Prod.mk.injEq] at e2
 have:=e2.2.1
 omega
structure Spl (s:ByteArray) (fs:List ByteArray):Prop where
 frm:∀ f∈fs,Frm f
 pre:∃ x,s=cat fs++x
 stop:(openM s ((cat fs).size:Int)).2.2≠0
theorem openM_shift (a s:ByteArray) (n:Nat):openM (a++s) ((a.size+n:Nat):Int)=openM s (n:Int):=by
 unfold openM
 have e:(a++s).extract (a.size+n) (a++s).size=s.extract n s.size:=by
  apply ByteArray.ext
  rw[ByteArray.data_extract,ByteArray.data_append,ByteArray.data_extract,bsz]
  have e1:a.size=a.data.size:=rfl
  have e2:s.size=s.data.size:=rfl
  rw[e1,e2,Array.extract_append]
  simp
 by_cases h:s.size<n
 ·rw[if_pos (Or.inr (by rw[bsz];omega)),if_pos (Or.inr (by omega))]
 ·rw[if_neg (show ¬ (((a.size+n:Nat):Int)<0∨((a++s).size:Int)<((a.size+n:Nat):Int)) by rw[bsz];omega),if_neg (show ¬ ((n:Int)<0∨(s.size:Int)<(n:Int)) by omega),Int.toNat_natCast,Int.toNat_natCast,e]
theorem Spl.tail (h:Spl (f++t) (f ::fs)):Spl t fs:=by
 refine⟨fun g hg=>h.frm g (List.mem_cons_of_mem _ hg),?_,?_⟩
 ·obtain⟨x,hx⟩:=h.pre
  rw[cat,ByteArray.append_assoc] at hx
  exact⟨x,(app_inj hx rfl).2⟩
 ·have:=h.stop
  rw[cat,bsz,openM_shift] at this
  exact this
theorem Spl.none_of (h:Spl t gs) (hz:(openM t 0).2.2≠0):gs=[]:=by
 cases gs with
 | nil=>rfl
 | cons g gs =>
  exfalso
  obtain⟨x,hx⟩:=h.pre
  have hg:=h.frm g (List.mem_cons_self ..)
  rw[cat,ByteArray.append_assoc] at hx
  rw[hx,hg.at0] at hz
  exact hz rfl
theorem Spl.take:∀ (fs gs:List ByteArray) (t x:ByteArray),(∀ f∈fs,Frm f)->cat fs=t++x->Spl t gs->∃ j,j<=fs.length/\gs=fs.take j/\∀ i,i<=fs.length->(cat (fs.take i)).size<=t.size->i<=j
 | [],gs,t,x,hF,he,h=>by
  have hz:t.size=0:=by
   have:(cat []).size=0:=rfl
   rw[he,bsz] at this;omega
  have:=nil_of_size hz
  subst this
  refine⟨0,Nat.le_refl _,?_,fun i hi _=>hi⟩
  rw[List.take_zero]
  exact h.none_of (by decide)
 | f :: fs,gs,t,x,hF,he,h=>by
  have hf:=hF f (List.mem_cons_self ..)
  rcases Nat.lt_or_ge t.size f.size with hl |hl
  ·rw[cat] at he
   obtain⟨y,hy,hy2⟩:=pre_cmp he.symm (Nat.le_of_lt hl)
   refine⟨0,Nat.zero_le _,?_,?_⟩
   ·rw[List.take_zero]
    exact h.none_of (hf.cut hy hl)
   ·intro i hi hs
    cases i with
    | zero=>exact Nat.le_refl _
    | succ i=>rw[List.take_succ_cons,cat,bsz] at hs;omega
  ·rw[cat] at he
   obtain⟨y,hy,hy2⟩:=pre_cmp he hl
   cases gs with
   | nil =>
    exfalso
    have:=h.stop
    rw[hy] at this
    have e:((cat []).size:Int)=0:=rfl
    rw[e,hf.at0] at this
    exact this rfl
   | cons g gs =>
    have hg:=h.frm g (List.mem_cons_self ..)
    obtain⟨z,hz⟩:=h.pre
    rw[cat,ByteArray.append_assoc] at hz
    have e1:=hf.at0 y
    have e2:=hg.at0 (cat gs++z)
    rw[← hz,hy,e1] at e2
    simp only[Prod.mk.injEq] at e2
    have hs:f.size=g.size:=by have:=e2.2.1;omega
    rw[hy] at hz
    obtain⟨rfl,e4⟩:=app_inj hz hs
    subst hy
    obtain⟨j,hj,hjs,hm⟩:=Spl.take fs gs y x (fun q hq=>hF q (List.mem_cons_of_mem _ hq)) hy2 h.tail
    refine⟨j+1,by simp;omega,by rw[List.take_succ_cons,← hjs],?_⟩
    intro i hi hs2
    cases i with
    | zero=>omega
    | succ i =>
     rw[List.take_succ_cons,cat,bsz,bsz] at hs2
     have:=hm i (by simpa using hi) (by omega)
     omega
def off (fs:List ByteArray) (i:Nat):Nat:=(cat (fs.take i)).size
def plc (a:Nat):List ByteArray->List Int
 | []=>[]
 | f :: l=>(a:Int) :: plc (a+f.size) l
theorem plc_length (a:Nat) (l:List ByteArray):(plc a l).length=l.length:=by
 induction l generalizing a with
 | nil=>rfl
 | cons f l ih=>simp[plc,ih]
theorem plc_append (a:Nat) (l m:List ByteArray):plc a (l++m)=plc a l++plc (a+(cat l).size) m:=by
 induction l generalizing a with
 | nil=>simp[plc,cat,nilz]
 | cons f l ih=>simp only[List.cons_append,plc,ih,cat,bsz,Nat.add_assoc]
theorem plc_snoc (a:Nat) (l:List ByteArray) (f:ByteArray):plc a (l++[f])=plc a l++[((a+(cat l).size:Nat):Int)]:=by rw[plc_append];rfl
theorem off_all (l:List ByteArray):off l l.length=(cat l).size:=by unfold off;rw[List.take_length]
theorem off_succ {l:List ByteArray} {i:Nat} (h:i<l.length):off l (i+1)=off l i+l[i].size:=by
 unfold off
 rw[List.take_succ_eq_append_getElem h,cat_snoc,bsz]
theorem off_mono {l:List ByteArray} {i j:Nat} (h:i<=j):off l i<=off l j:=by
 unfold off
 have:l.take j=l.take i++(l.take j).drop i:=by
  have:=List.take_append_drop i (l.take j)
  rw[List.take_take,Nat.min_eq_left h] at this
  exact this.symm
 rw[this,cat_append,bsz];omega
theorem off_lt {l:List ByteArray} (hF:∀ f∈l,Frm f) {i j:Nat} (h:i<j) (hj:j<=l.length):off l i<off l j:=by
 have h1:=off_mono (l:=l) (show i+1<=j by omega)
 rw[off_succ (by omega:i<l.length)] at h1
 have:=(hF l[i] (List.getElem_mem _)).pos
 omega
theorem plc_get (a:Nat) (l:List ByteArray) (i:Nat) (h:i<l.length):(plc a l)[i]?=some ((a+off l i:Nat):Int):=by
 induction l generalizing a i with
 | nil=>exact absurd h (Nat.not_lt_zero _)
 | cons f l ih =>
  cases i with
  | zero=>rfl
  | succ i =>
   have:=ih (a+f.size) i (by simpa using h)
   simp only[plc,List.getElem?_cons_succ,this,off,List.take_succ_cons,cat,bsz,Nat.add_assoc]
end
def iv (ps:List Int):List Value:=ps.map fun p=>.int .i64 p
structure OwnI (B:Nat) (w:World) (v:Value) (ps:List Int):Prop where
 row:w.ownsRow B 3 1 v ps.length (iv ps)
theorem OwnI.nil (B:Nat) (w:World):OwnI B w (.slice none 0 0) []:=⟨rfl,Or.inl ⟨rfl,rfl⟩⟩
theorem OwnI.below {B:Nat} {w w':World} {v:Value} {ps:List Int} (h:OwnI B w v ps) (hb:Below w.heap.size w w'):OwnI B w' v ps:=by
 obtain⟨h1,h2⟩:=h.row
 refine⟨h1,?_⟩
 rcases h2 with h2 |⟨g,cap,cur,e,hB,hg,h3⟩
 ·exact Or.inl h2
 ·exact Or.inr ⟨g,cap,cur,e,hB,(hb.block g (Array.getElem?_eq_some_iff.1 hg).1).trans hg,h3⟩
theorem OwnI.ex {B:Nat} {w:World} {v:Value} {ps:List Int} (h:OwnI B w v ps):∃ a c,v=.slice a ps.length c:=by
 obtain⟨h1,h2⟩:=h.row
 rcases h2 with⟨rfl,h2⟩ |⟨g,cap,cur,e,hB,hg,h3⟩
 ·exact⟨none,0,by rw[h2]⟩
 ·exact⟨_,_,e⟩
theorem OwnI.at_ {B:Nat} {w:World} {a:Option Addr} {n c:Nat} {ps:List Int} (h:OwnI B w (.slice a n c) ps) {i:Nat} (hi:i<ps.length):∃ g,a=some ⟨g,0,none⟩/\∀ w',Below w.heap.size w w'->w'.cell? ⟨g,i,none⟩=some (.int .i64 ps[i]):=by
 obtain⟨h1,h2⟩:=h.row
 rcases h2 with⟨_,h2⟩ |⟨g,cap,cur,e,hB,hg,h3,h4,h5,h6⟩
 ·omega
 ·cases e
  refine⟨g,rfl,fun w' hb=>?_⟩
  have hg':=(hb.block g (Array.getElem?_eq_some_iff.1 hg).1).trans hg
  rw[cell_of_row w' g i cur 3 (0,0) hg']
  have:(iv ps)[i]?=some (.int .i64 ps[i]):=by simp[iv,hi]
  rw[← h6,List.getElem?_take,if_pos (by omega)] at this
  simpa using this
theorem info_int:∃ i,Tryz.prog.info? 3=some i/\i.zero=some (.int .i64 0)/\i.size=1/\i.bytes=8 :=
 info_parts (show(Tryz.prog.info? 3).map (fun i=>(i.zero,i.size,i.bytes))=some (some (.int .i64 0),1,8) by kernel_rfl)
theorem wpList_append_int {B:Nat} {w:World} {ops:Array Oper} {rest:List Oper} {o:Oper} {act:Act} {Q:Exit->Act->World->Prop} (hgd:o.guard=none) (s x:Operand)
  (ho:o.op=.call {callee:=.builtin .append,args:=#[s,x],argTypes:=#[45,45]}) {v:Value} {ps:List Int} (hs:act.eval s=v) (h:OwnI B w v ps)
  {g:Nat} {p:Int} (hx:act.eval x=.slice (some ⟨g,0,none⟩) 1 1) (hg:w.cell? ⟨g,0,none⟩=some (.int .i64 p)) (hB:B<=w.heap.size) (hl:ps.length<=100000)
  (K:∀ v' w',OwnI B w' v' (ps++[p])->Below B w w'->wpList Tryz.prog ops Q rest (act.put o.dst v') w'):wpList Tryz.prog ops Q (o ::rest) act w:=by
 obtain⟨i,hi,hz0,hz1,hz2⟩:=info_int
 refine Go.wpList_append_own (P:=Tryz.prog) (w:=w) hgd s x 45 ho B 3 i (.int .i64 0) 1 8 Tryz.underlying45 hi hz0 hz1 hz2 rfl (by omega) v ps.length (iv ps) hs h.row ⟨g,0,none⟩ 1 1 [.int .i64 p] hx rfl ?_ ?_ (by unfold maxLen;omega) (by omega) hB ?_
 ·intro j u hu
  have:j=0:=by
   have:=(List.getElem?_eq_some_iff.1 hu).1
   simpa using this
  subst this
  simp at hu
  subst hu
  have hadd:(⟨g,0,none⟩:Addr).add 0=⟨g,0,none⟩:=by unfold Addr.add;split <;> simp_all
  rw[hadd]
  exact hg
 ·intro u hu
  simp at hu
  subst hu
  rfl
 ·intro v' w' hr hgr hn
  refine K v' w' ⟨?_⟩ ?_
  ·have e1:(ps++[p]).length=ps.length+1:=by simp
   have e2:iv (ps++[p])=iv ps++[.int .i64 p]:=by simp[iv]
   rw[e1,e2]
   exact hr
  ·refine⟨hgr.os,hgr.tape,hgr.output,hgr.size,fun k hk=>hgr.block k (by omega) (fun e=>?_)⟩
   obtain⟨_,h2⟩:=h.row
   rcases h2 with⟨rfl,_⟩ |⟨g',cap,cur,rfl,hB',_⟩
   ·simp[Value.ownBlock] at e
   ·simp[Value.ownBlock] at e
    omega
theorem cell_new1 (w:World) (v:Value) (t:TypeId):(w.alloc (.cells #[v] t)).cell? ⟨w.heap.size,0,none⟩=some v:=Joins.cell_of_block (MapKept.heap_alloc w _).1 0
section
variable {w:World}
theorem OwnI.one {B:Nat} {w:World} (p:Int) (h:B<=w.heap.size):OwnI B (w.alloc (.cells #[.int .i64 p] 3)) (.slice (some ⟨w.heap.size,0,none⟩) 1 1) [p] :=
 ⟨rfl,Or.inr ⟨w.heap.size,1,_,rfl,h,(MapKept.heap_alloc w _).1,Nat.le_refl _,(by unfold maxLen;omega),rfl,rfl⟩⟩
end
open Go.RowKit Go.Maps Go.ChangeMaps
structure Lr where
 db:Nat
 base:Int
 secs:Int
 run:Int
 T:ByteArray
 ps:List Int
 dur:Int
 dead:Bool
def Lr.A (R:Lr) (l:Nat) (p v pv:Value):Array Value :=
 #[.pointer (some ⟨l,0,none⟩),.pointer (some ⟨R.db,0,none⟩),.int .i64 R.base,.int .i64 R.secs,.int .i64 R.run,p,v,pv,.int .i64 R.dur,.bool R.dead]
structure LrIs [Inhabited PrSet] (B:Nat) (w:World) (l:Nat) (R:Lr):Prop where
 ex:∃ p v pv,w.heap[l]?=some (.cells (R.A l p v pv) 98 (0,0))/\(p=.pointer none∨p=.pointer (some ⟨l,5,none⟩))/\w.ownsRowF B 5 1 v R.T.size (Lib.strCells R.T)/\OwnI B w pv R.ps/\npv v/\npv pv
 ge:Ow B l
 le:B<=w.heap.size
 lp:Ltp w
section
variable {B:Nat}{w w':World}
theorem OwnI.of_block {v:Value} {ps:List Int} (h:OwnI B w v ps) (hb:∀ (k:Nat) (cur:Array Value) (fz:Nat × Nat),w.heap[k]?=some (Obj.cells cur 3 fz)->w'.heap[k]?=some (Obj.cells cur 3 fz)):OwnI B w' v ps:=by
 obtain⟨h1,h2⟩:=h.row
 refine⟨h1,?_⟩
 rcases h2 with h2 |⟨g,cap,cur,e,hB,hg,h3⟩
 ·exact Or.inl h2
 ·exact Or.inr ⟨g,cap,cur,e,hB,hb _ _ _ hg,h3⟩
end
section
variable [Inhabited PrSet]{B l:Nat}{w w':World}{R:Lr}
theorem LrIs.c0 (h:LrIs B w l R):w.cell? ⟨l,0,none⟩=some (.pointer (some ⟨l,0,none⟩)):=by obtain⟨p,v,pv,hb,_⟩:=h.ex;rw[Lib.cell_of_heap hb];rfl
theorem LrIs.c1 (h:LrIs B w l R):w.cell? ⟨l,1,none⟩=some (.pointer (some ⟨R.db,0,none⟩)):=by obtain⟨p,v,pv,hb,_⟩:=h.ex;rw[Lib.cell_of_heap hb];rfl
theorem LrIs.c2 (h:LrIs B w l R):w.cell? ⟨l,2,none⟩=some (.int .i64 R.base):=by obtain⟨p,v,pv,hb,_⟩:=h.ex;rw[Lib.cell_of_heap hb];rfl
theorem LrIs.c3 (h:LrIs B w l R):w.cell? ⟨l,3,none⟩=some (.int .i64 R.secs):=by obtain⟨p,v,pv,hb,_⟩:=h.ex;rw[Lib.cell_of_heap hb];rfl
theorem LrIs.c4 (h:LrIs B w l R):w.cell? ⟨l,4,none⟩=some (.int .i64 R.run):=by obtain⟨p,v,pv,hb,_⟩:=h.ex;rw[Lib.cell_of_heap hb];rfl
theorem LrIs.c8 (h:LrIs B w l R):w.cell? ⟨l,8,none⟩=some (.int .i64 R.dur):=by obtain⟨p,v,pv,hb,_⟩:=h.ex;rw[Lib.cell_of_heap hb];rfl
theorem LrIs.c9 (h:LrIs B w l R):w.cell? ⟨l,9,none⟩=some (.bool R.dead):=by obtain⟨p,v,pv,hb,_⟩:=h.ex;rw[Lib.cell_of_heap hb];rfl
theorem LrIs.c7 (h:LrIs B w l R):∃ a c,w.cell? ⟨l,7,none⟩=some (.slice a R.ps.length c)/\OwnI B w (.slice a R.ps.length c) R.ps:=by
 obtain⟨p,v,pv,hb,_,_,ho,_⟩:=h.ex
 obtain⟨a,c,rfl⟩:=ho.ex
 exact⟨a,c,by rw[Lib.cell_of_heap hb];rfl,ho⟩
theorem LrIs.f (h:LrIs B w l R) (i:Nat):w.frozen? ⟨l,i,none⟩=false:=by obtain⟨p,v,pv,hb,_⟩:=h.ex;exact Lib.frozen_of_heap hb i
theorem LrIs.below (h:LrIs B w l R) (hb:Below w.heap.size w w'):LrIs B w' l R:=by
 obtain⟨p,v,pv,h1,h2,h3,h4,n3,n4⟩:=h.ex
 exact⟨⟨p,v,pv,(hb.block l (lt_of_some h1)).trans h1,h2,ownF_below h3 hb,h4.below hb,n3,n4⟩,h.ge,Nat.le_trans h.le hb.size,h.lp.below hb⟩
theorem LrIs.drewN (h:LrIs B w l R) (n:Nat):LrIs B (w.drewN n) l R:=h.below (Sm.below_dr (Below.refl _ _) n)
theorem LrIs.keptD (h:LrIs B w l R) {B':Nat} (hb:Kp isD B' w w'):LrIs B w' l R:=by
 obtain⟨p,v,pv,h1,h2,h3,h4,n3,n4⟩:=h.ex
 exact⟨⟨p,v,pv,hb.block l _ h1 (by simp[isD]),h2,ownF_of h3 (fun k cur fz e=>hb.block k _ e (by simp[isD])),h4.of_block (fun k cur fz e=>hb.block k _ e (by simp[isD])),n3,n4⟩,h.ge,Nat.le_trans h.le hb.size,h.lp.kp hb⟩
theorem LrIs.set (h:LrIs B w l R) {k:Nat} {u:Value} {R':Lr} (hT:R'.T=R.T) (hp:R'.ps=R.ps) (hA:∀ p v pv,(R.A l p v pv).setIfInBounds k u=R'.A l p v pv):LrIs B (w.setCell ⟨l,k,none⟩ u) l R'/\Kp isL B w (w.setCell ⟨l,k,none⟩ u):=by
 obtain⟨p,v,pv,h1,h2,h3,h4,n3,n4⟩:=h.ex
 have hk:Kp isL B w (w.setCell ⟨l,k,none⟩ u):=Kp.cell h1 (Or.inr (Or.inr rfl)) h.ge
 have hO:∀ (t:TypeId),t≠98->∀ (j:Nat) (cur:Array Value) (fz:Nat × Nat),w.heap[j]?=some (Obj.cells cur t fz)->(w.setCell ⟨l,k,none⟩ u).heap[j]?=some (Obj.cells cur t fz):=fun t ht j cur fz e=>by
  have hj:j≠l:=fun ej=>by subst ej;rw[h1] at e;cases e;exact ht rfl
  rw[Below.heap_setCell _ _ _ _ hj];exact e
 refine⟨⟨⟨p,v,pv,?_,h2,?_,?_,n3,n4⟩,h.ge,Nat.le_trans h.le hk.size,h.lp.kp hk⟩,hk⟩
 ·rw[← hA];exact Joins.block_setCell h1 _
 ·rw[hT];exact ownF_of h3 (hO 5 (by decide))
 ·rw[hp];exact h4.of_block (hO 3 (by decide))
end
section
theorem ptr_info:∃ j,Tryz.prog.info? 98=some j:=by
 have:(Tryz.prog.info? 98).map (·.size)=some 10:=by kernel_rfl
 obtain⟨j,hj,_⟩:=Option.map_eq_some_iff.1 this
 exact⟨j,hj⟩
end
section
variable [Inhabited PrSet]{B l:Nat}{w w':World}{R:Lr}
theorem isOpen_any (h:LrIs B w l R):Calls Tryz.prog 52 #[.pointer (some ⟨l,0,none⟩)] w fun e w'=>e=.returned (.bool true)/\w'=w:=by
 obtain⟨j,hj⟩:=ptr_info
 have c0:=h.c0
 have he:∀ W,(binOp .eql 27 (.pointer (some ⟨l,0,none⟩)) (.pointer (some ⟨l,0,none⟩))).run Tryz.prog W=.ok (.bool true) W:=fun W=>by
  have hq:∀ d:Nat,(Op.equalIn (d+1) 27 (.pointer (some ⟨l,0,none⟩)) (.pointer (some ⟨l,0,none⟩))).run Tryz.prog W=.ok true W:=fun d=>by
   simp[Op.equalIn,run_underlying Tryz.underlying27,sizeOf,typeInfo,hj,run_sameAddr_same]
  simp only[binOp]
  simp[Op.equal,Op.maxDepth,hq 9999]
 clear h
 go_enter Tryz.func52,Tryz.ntmps52
 go_wp2
 go_ret
 exact⟨rfl,rfl⟩
theorem Len_log (h:LrIs B w l R):Calls Tryz.prog 79 #[.pointer (some ⟨l,5,none⟩)] w fun e w'=>e=.returned (.int .i64 (R.T.size:Int))/\w'=w:=by
 obtain⟨p,v,pv,h1,h2,h3,h4,n3,n4⟩:=h.ex
 obtain⟨ao,cap,rfl⟩:=ownF_slice h3
 exact Bf_Len ao cap h1
theorem String_log2 (h:LrIs B w l R):Calls Tryz.prog 77 #[.pointer (some ⟨l,5,none⟩)] w fun e w'=>e=.returned (.string R.T)/\LrIs B w' l R/\Kp isL B w w'/\Ce w w':=by
 obtain⟨p,v,pv,h1,h2,h3,h4,n3,n4⟩:=h.ex
 refine(Bf_String R.T h1 h3 h.le n3).mono ?_
 rintro e w' ⟨rfl,b1,o1,k1,c1⟩
 have k2:Kp isL B w w':=is5_L k1
 exact⟨rfl,⟨⟨p,v,pv,b1,h2,o1,h4.of_block (fun k cur fz e=>k1.block k _ e (by simp[is5])),n3,n4⟩,h.ge,Nat.le_trans h.le k1.size,h.lp.kp k1⟩,k2,c1⟩
theorem String_log (h:LrIs B w l R):Calls Tryz.prog 77 #[.pointer (some ⟨l,5,none⟩)] w fun e w'=>e=.returned (.string R.T)/\LrIs B w' l R/\Kp isL B w w':=by
 refine(String_log2 h).mono ?_
 rintro e w' ⟨he,h1,k1,_⟩
 exact⟨he,h1,k1⟩
theorem End_any (h:LrIs B w l R) (hz:R.T.size<=1000000):Calls Tryz.prog 42 #[.pointer (some ⟨l,0,none⟩)] w fun e w'=>e=.returned (.int .i64 ((R.T.size:Int)+1))/\w'=w:=by
 have CI:Hid (Calls Tryz.prog 52 #[.pointer (some ⟨l,0,none⟩)] w fun e w'=>e=.returned (.bool true)/\w'=w):=isOpen_any h
 have CL:Hid (Calls Tryz.prog 79 #[.pointer (some ⟨l,5,none⟩)] w fun e w'=>e=.returned (.int .i64 (R.T.size:Int))/\w'=w):=Len_log h
 clear h
 have hz':(R.T.size:Int)<=1000000:=by omega
 have hz0:(0:Int)<=R.T.size:=by omega
 generalize (R.T.size:Int)=n at *
 clear hz
 go_enter Tryz.func42,Tryz.ntmps42
 go_wp2_with (first
  | (go_at_call 52;refine CI.out.mono ?_;rintro e w' ⟨rfl,rfl⟩)
  | (go_at_call 79;refine CL.out.mono ?_;rintro e w' ⟨rfl,rfl⟩))
 go_ret
 exact⟨rfl,rfl⟩
set_option maxHeartbeats 1000000 in
theorem Left_any (h:LrIs B w l R) (hz:R.T.size<=1000000) (s0:0<=R.secs) (s1:R.secs<=10000):Calls Tryz.prog 118 #[.pointer (some ⟨l,0,none⟩)] w fun e w'=>e=.returned (.int .i64 (R.secs*58-(R.T.size:Int)))/\Below w.heap.size w w':=by
 have CI:Hid (Calls Tryz.prog 52 #[.pointer (some ⟨l,0,none⟩)] w fun e w'=>e=.returned (.bool true)/\w'=w):=isOpen_any h
 have CL:Hid (∀ wx,LrIs B wx l R->Calls Tryz.prog 79 #[.pointer (some ⟨l,5,none⟩)] wx fun e w'=>e=.returned (.int .i64 (R.T.size:Int))/\w'=wx):=fun wx h=>Len_log h
 have c3:=h.c3
 have H:Hid (LrIs B w l R):=h
 clear h
 have hz':(R.T.size:Int)<=1000000:=by omega
 have hz0:(0:Int)<=R.T.size:=by omega
 generalize (R.T.size:Int)=n at *
 clear hz
 generalize R.secs=sc at *
 have hw1:IntKind.i64.wrap (sc*58)=sc*58:=by rw[IntKind.wrap_i64];omega
 have hw2:IntKind.i64.wrap (sc*58-n)=sc*58-n:=by rw[IntKind.wrap_i64];omega
 go_enter Tryz.func118,Tryz.ntmps118
 go_wp2_with (go_at_call 52;refine CI.out.mono ?_;rintro e w' ⟨rfl,rfl⟩)
 go_quiet ((go_at_call 79;exact Calls.quiet_of_same (CL.out _ (H.out.drewN _))))
 go_wp2
 go_ret
 exact⟨rfl,Sm.below_dr (Below.refl _ _) nq⟩
end
abbrev Sec:=Nat × ByteArray
def part (t:ByteArray) (i:Nat):ByteArray:=t.extract (58*i) (58*i+58)
def secT (t:ByteArray) (r i:Nat):Sec:=(r,part t i)
theorem part_size (t:ByteArray) (i:Nat):(part t i).size=min 58 (t.size-58*i):=by unfold part;rw[ByteArray.size_extract];omega
theorem part_le (t:ByteArray) (i:Nat):(part t i).size<=58:=by rw[part_size];omega
theorem part_pre {t x:ByteArray} {i:Nat} (h:58*i+58<=t.size):part (t++x) i=part t i:=by
 apply ByteArray.ext
 unfold part
 rw[ByteArray.data_extract,ByteArray.data_extract,ByteArray.data_append,Array.extract_append]
 have:t.size=t.data.size:=rfl
 rw[show 58*i-t.data.size=0 by omega,show 58*i+58-t.data.size=0 by omega]
 simp
def stK (Q:Nat->Sec) (run:Nat):Nat->Nat->Nat->ByteArray
 | 0,_,_=>⟨#[]⟩
 | n+1,i,least=>if(Q i).1<least∨run<(Q i).1 then⟨#[]⟩ else if(Q i).2.size<58 then(Q i).2 else(Q i).2++stK Q run n (i+1) (Q i).1
def stand (Q:Nat->Sec) (run secs:Nat):ByteArray:=stK Q run secs 0 1
def rest (t:ByteArray) (i:Nat):ByteArray:=t.extract (58*i) t.size
theorem ext_whole (t:ByteArray):t.extract 0 t.size=t:=by
 apply ByteArray.ext
 rw[ByteArray.data_extract]
 have:t.size=t.data.size:=rfl
 rw[this]
 simp
theorem ext_join (t:ByteArray) {a b c:Nat} (h1:a<=b) (h2:b<=c):t.extract a b++t.extract b c=t.extract a c:=by
 apply ByteArray.ext
 rw[ByteArray.data_append,ByteArray.data_extract,ByteArray.data_extract,ByteArray.data_extract,Array.extract_append_extract,Nat.min_eq_left h1,Nat.max_eq_right h2]
theorem rest_last {t:ByteArray} {i:Nat} (h:t.size<58*i+58):rest t i=part t i:=by
 unfold rest part
 apply ByteArray.ext
 rw[ByteArray.data_extract,ByteArray.data_extract]
 have:t.size=t.data.size:=rfl
 rw[this] at h ⊢
 apply Array.ext'
 simp only[Array.toList_extract,List.extract]
 rw[List.take_of_length_le (by simp),List.take_of_length_le (by simp;omega)]
section
variable {Q:Nat->Sec}{B T x:ByteArray}{r run n secs:Nat}
structure Std (Q:Nat->Sec) (secs r:Nat) (B:ByteArray):Prop where
 fit:B.size<=58*secs
 pos:1<=r
 all:∀ i,i<secs->(Q i).1<=r
 full:∀ i,58*i+58<=B.size->(Q i).2=part B i/\1<=(Q i).1
 mono:∀ i,58*(i+1)+58<=B.size->(Q i).1<=(Q (i+1)).1
 here:∀ k,58*k<=B.size->B.size<58*k+58->k<secs->Q k=(r,part B k)∨(B.size=58*k/\1<=k/\(Q (k-1)).1=r/\(Q k).1<r)
 beyond:∀ i,B.size<58*i->i<secs->(Q i).1<r
def putQ (Q:Nat->Sec) (T:ByteArray) (r a b:Nat) (i:Nat):Sec:=if a<=i/\i<b then(r,part T i) else Q i
theorem putQ_in {T:ByteArray} {a b i:Nat} (h1:a<=i) (h2:i<b):putQ Q T r a b i=(r,part T i):=by unfold putQ;rw[if_pos ⟨h1,h2⟩]
theorem putQ_out {T:ByteArray} {a b i:Nat} (h:i<a∨b<=i):putQ Q T r a b i=Q i:=by unfold putQ;rw[if_neg (by omega)]
theorem part_app {a b:ByteArray} (h:a.size=58) (j:Nat):part (a++b) (j+1)=part b j:=by
 apply ByteArray.ext
 unfold part
 have:a.data.size=58:=h
 rw[ByteArray.data_extract,ByteArray.data_extract,ByteArray.data_append,Array.extract_append,this,show 58*(j+1)-58=58*j by omega,show 58*(j+1)+58-58=58*j+58 by omega]
 have e:a.data.extract (58*(j+1)) (58*(j+1)+58)=#[]:=by
  apply Array.eq_empty_of_size_eq_zero
  rw[Array.size_extract];omega
 rw[e]
 simp
theorem part_zero {a b:ByteArray} (h:a.size=58):part (a++b) 0=a:=by
 have:=ext_left a b
 rw[h] at this
 exact this
theorem stK_inv (Q:Nat->Sec) (run:Nat):∀ (n k least:Nat),1<=least->(∀ i,k<=i->i<k+n->(Q i).2.size<=58)->∀ i,k<=i->58*(i-k)+58<=(stK Q run n k least).size ->
  i<k+n/\(Q i).2=part (stK Q run n k least) (i-k)/\1<=(Q i).1/\(Q i).1<=run/\(k<i->(Q (i-1)).1<=(Q i).1)/\(i=k->least<=(Q i).1):=by
 intro n
 induction n with
 | zero=>intro k l hl hz i hi hs;rw[stK,nilz] at hs;omega
 | succ n ih =>
  intro k l hl hz i hi hs
  rw[stK] at hs ⊢
  by_cases h1:(Q k).1<l∨run<(Q k).1
  ·rw[if_pos h1,nilz] at hs;omega
  ·rw[if_neg h1] at hs ⊢
   by_cases h2:(Q k).2.size<58
   ·rw[if_pos h2] at hs
    omega
   ·rw[if_neg h2] at hs ⊢
    have h58:(Q k).2.size=58:=by have:=hz k (Nat.le_refl _) (by omega);omega
    by_cases hk:i=k
    ·subst hk
     rw[Nat.sub_self,part_zero h58]
     exact⟨by omega,rfl,by omega,by omega,fun h=>by omega,fun _=>by omega⟩
    ·rw[bsz,h58] at hs
     obtain⟨a1,a2,a3,a4,a5,a6⟩:=ih (k+1) (Q k).1 (by omega) (fun j h3 h4=>hz j (by omega) (by omega)) i (by omega) (by omega)
     obtain⟨j,hj⟩:∃ j,i-k=j+1:=⟨i-k-1,by omega⟩
     rw[hj,part_app h58,a2,show i-(k+1)=j by omega]
     refine⟨by omega,rfl,a3,a4,fun h=>?_,fun h=>by omega⟩
     by_cases e:i=k+1
     ·subst e;exact a6 rfl
     ·exact a5 (by omega)
theorem std_new (ha:∀ i,i<secs->(Q i).1<r) (hz:∀ i,i<secs->(Q i).2.size<=58) (hT:stand Q r secs=T++x) (hfit:T.size<=58*secs) (hr:1<=r):Std (putQ Q T r (T.size / 58) (min (T.size / 58+1) secs)) secs r T:=by
 have key:∀ i,58*i+58<=T.size->(Q i).2=part T i/\1<=(Q i).1/\(0<i->(Q (i-1)).1<=(Q i).1):=fun i hi=>by
  have hs:58*(i-0)+58<=(stK Q r secs 0 1).size:=by
   have:(stK Q r secs 0 1).size=T.size+x.size:=by rw[← bsz,← hT];rfl
   omega
  obtain⟨_,a2,a3,_,a5,_⟩:=stK_inv Q r secs 0 1 (Nat.le_refl _) (fun j _ h=>hz j (by omega)) i (Nat.zero_le _) hs
  have e:stK Q r secs 0 1=T++x:=hT
  rw[e,Nat.sub_zero,part_pre hi] at a2
  exact⟨a2,a3,a5⟩
 refine⟨hfit,hr,?_,?_,?_,?_,?_⟩
 ·intro i hi
  unfold putQ
  split
  ·exact Nat.le_refl _
  ·exact Nat.le_of_lt (ha i hi)
 ·intro i hi
  rw[putQ_out (Or.inl (by omega))]
  exact⟨(key i hi).1,(key i hi).2.1⟩
 ·intro i hi
  rw[putQ_out (Or.inl (by omega)),putQ_out (Or.inl (by omega))]
  exact(key (i+1) hi).2.2 (by omega)
 ·intro k h1 h2 hk
  left
  rw[putQ_in (by omega) (by omega)]
 ·intro i h1 hi
  rw[putQ_out (Or.inr (by omega))]
  exact ha i hi
end
theorem sectorOf_any (p:Int) (h:1<=p) (h2:p<=1000000) (w:World):Calls Tryz.prog 80 #[.int .i64 p] w fun e w'=>e=.returned (.int .i64 ((p-1) / 58))/\w'=w:=by
 have hq:Int.tdiv (p-1) 58=(p-1) / 58:=Int.tdiv_eq_ediv_of_nonneg (by omega)
 go_enter Tryz.func80,Tryz.ntmps80
 go_wp2
 go_ret
 exact⟨rfl,rfl⟩
def secB (q:Sec):ByteArray:=Pk.beS q.1 4++Pk.beS q.2.size 2++q.2
theorem secB_size (q:Sec):(secB q).size=6+q.2.size:=by unfold secB;rw[bsz,bsz,Pk.beS_size,Pk.beS_size]
theorem put_run (r:Nat) (hr:r<4294967296) (w:World):Calls Tryz.prog 116 #[.string ⟨#[]⟩,.int .i64 (r:Int),.int .i64 4] w fun e w'=>e=.returned (.tuple #[.string (Pk.beS r 4),.int .i64 0])/\Below w.heap.size w w':=by
 have:=Pk.Put_any ⟨#[]⟩ (r:Int) 4 w (by simp[ByteArray.size])
 have e:Pk.putV ⟨#[]⟩ (r:Int) 4=(Pk.beS r 4,0):=by
  rw[Pk.putV_fits (by omega) (by have:Pk.limI (4:Int).toNat=4294967296:=rfl;omega),nil_app];rfl
 rw[e] at this
 exact this
theorem put_many (s:ByteArray) (hs:s.size<=1000) (n:Nat) (hn:n<65536) (w:World):Calls Tryz.prog 116 #[.string s,.int .i64 (n:Int),.int .i64 2] w fun e w'=>e=.returned (.tuple #[.string (s++Pk.beS n 2),.int .i64 0])/\Below w.heap.size w w':=by
 have:=Pk.Put_any s (n:Int) 2 w (by omega)
 have e:Pk.putV s (n:Int) 2=(s++Pk.beS n 2,0):=by
  rw[Pk.putV_fits (by omega) (by have:Pk.limI (2:Int).toNat=65536:=rfl;omega)];rfl
 rw[e] at this
 exact this
theorem slc_min (t:ByteArray) (i:Nat) (h:58*i<=t.size):∀ W,(Instr.slice 9 (.string t) (some (.int .i64 ((i:Int)*58))) (some (.int .i64 (min ((i:Int)*58+58) (t.size:Int)))) none).run Tryz.prog W=.ok (.string (part t i)) W:=by
 intro W
 have hm:(min ((i:Int)*58+58) (t.size:Int))=((min (58*i+58) t.size:Nat):Int):=by omega
 rw[hm,show(i:Int)*58=((58*i:Nat):Int) by omega]
 have:=run_slice_string (P:=Tryz.prog) W 9 t .i64 .i64 ((58*i:Nat):Int) ((min (58*i+58) t.size:Nat):Int) Tryz.underlying9 (by omega) (by omega) (by omega)
 rw[Int.toNat_natCast,Int.toNat_natCast] at this
 rw[this]
 have e:t.extract (58*i) (min (58*i+58) t.size)=part t i:=by
  unfold part
  rcases Nat.le_total (58*i+58) t.size with h1 |h1
  ·rw[Nat.min_eq_left h1]
  ·rw[Nat.min_eq_right h1]
   rcases Nat.lt_or_ge t.size (58*i+58) with h2 |h2
   ·exact rest_last h2
   ·rw[show t.size=58*i+58 by omega]
 rw[e]
set_option maxHeartbeats 1000000 in
theorem sector_any (t:ByteArray) (r i:Nat) (hr:r<4294967296) (h:58*i<=t.size) (ht:t.size<=1000000) (w:World):Calls Tryz.prog 136 #[.string t,.int .i64 (r:Int),.int .i64 (i:Int)] w fun e w'=>e=.returned (.string (secB (secT t r i)))/\Below w.heap.size w w':=by
 have hp:=part_le t i
 have C1:Hid (∀ wx,Calls Tryz.prog 116 #[.string ⟨#[]⟩,.int .i64 (r:Int),.int .i64 4] wx fun e w'=>e=.returned (.tuple #[.string (Pk.beS r 4),.int .i64 0])/\Below wx.heap.size wx w'):=fun wx=>put_run r hr wx
 have C2:Hid (∀ wx,Calls Tryz.prog 116 #[.string (Pk.beS r 4),.int .i64 ((part t i).size:Int),.int .i64 2] wx fun e w'=>e=.returned (.tuple #[.string (Pk.beS r 4++Pk.beS (part t i).size 2),.int .i64 0])/\Below wx.heap.size wx w'):=fun wx=>put_many _ (by rw[Pk.beS_size];omega) _ (by omega) wx
 have hs:=slc_min t i h
 have hz1:(Pk.beS r 4++Pk.beS (part t i).size 2).size=6:=by rw[bsz,Pk.beS_size,Pk.beS_size]
 have hz2:(part t i).size<=58:=hp
 have hf:secB (secT t r i)=Pk.beS r 4++Pk.beS (part t i).size 2++part t i:=rfl
 rw[hf]
 have hw1:IntKind.i64.wrap ((i:Int)*58)=(i:Int)*58:=by rw[IntKind.wrap_i64];omega
 have hw2:IntKind.i64.wrap ((i:Int)*58+58)=(i:Int)*58+58:=by rw[IntKind.wrap_i64];omega
 have hi0:(0:Int)<=(i:Int):=by omega
 have hi1:(i:Int)<=20000:=by omega
 generalize part t i=P at *
 generalize Pk.beS P.size 2=M at *
 generalize Pk.beS r 4=U at *
 generalize (i:Int)=j at *
 clear hr h hp hf
 go_enter Tryz.func136,Tryz.ntmps136
 go_wp2_with (first
  | (have:=b1;go_at_call 116;refine(C2.out _).mono ?_;rintro e w2 ⟨rfl,b2⟩)
  | (go_at_call 116;refine(C1.out _).mono ?_;rintro e w1 ⟨rfl,b1⟩))
 go_ret
 exact⟨rfl,thn b1 b2⟩
structure Lx [Inhabited PrSet] (B:Nat) (w:World) (l k:Nat) (S:Dk) (R:Lr):Prop where
 d:Ds B w R.db k S
 g:LrIs B w l R
section
variable [Inhabited PrSet]{B l k:Nat}{w w':World}{S S':Dk}{R R':Lr}
theorem Lx.below (h:Lx B w l k S R) (hb:Below w.heap.size w w'):Lx B w' l k S R:=⟨h.d.below hb,h.g.below hb⟩
theorem Lx.drew (h:Lx B w l k S R):Lx B w.drew l k S R:=h.below ((Below.refl _ _).drew)
theorem Lx.mono {k':Nat} (h:Lx B w l k S R) (hk:k<=k'):Lx B w l k' S R:=⟨h.d.mono hk,h.g⟩
theorem Lx.le (h:Lx B w l k S R):B<=w.heap.size:=h.d.lt
theorem Lx.write (h:Lx B w l k S R) (hk:k<=1000000000000) (i:Int) (s:ByteArray) (hs:s.size<=9223372036854775807):Calls Tryz.prog 135 #[.pointer (some ⟨R.db,0,none⟩),.int .i64 i,.string s] w fun e w' =>
  e=.returned (.int .i64 (writeE S i s))/\Lx B w' l (k+1) (writeDk S i s) R/\Kp isD B w w':=by
 refine(h.d.write hk i s hs).mono ?_
 rintro e w' ⟨rfl,d,o⟩
 exact⟨rfl,⟨d,h.g.keptD o⟩,o⟩
theorem Lx.sync (h:Lx B w l k S R) (hk:k<=1000000000000):Calls Tryz.prog 113 #[.pointer (some ⟨R.db,0,none⟩)] w fun e w' =>
  e=.returned (.int .i64 (syncE S))/\Lx B w' l (k+1) (syncDk S) R/\Kp isD B w w':=by
 refine(h.d.sync hk).mono ?_
 rintro e w' ⟨rfl,d,o⟩
 exact⟨rfl,⟨d,h.g.keptD o⟩,o⟩
theorem Lx.set (h:Lx B w l k S R) {j:Nat} {u:Value} {R':Lr} (hd:R'.db=R.db) (hT:R'.T=R.T) (hp:R'.ps=R.ps) (hA:∀ p v pv,(R.A l p v pv).setIfInBounds j u=R'.A l p v pv):Lx B (w.setCell ⟨l,j,none⟩ u) l k S R'/\Kp isL B w (w.setCell ⟨l,j,none⟩ u):=by
 obtain⟨g,o⟩:=h.g.set hT hp hA
 exact⟨⟨by rw[hd];exact h.d.kept o,g⟩,o⟩
structure Wrt (S S':Dk) (N:Nat->Option ByteArray) (e:Int):Prop where
 n:S'.n=S.n
 ok:e=0->S'.up=true/\∀ i,S'.now i=(N i).getD (S.now i)
 bad:e≠0->e=9/\S'.up=false/\∀ i,S'.wait i=none
 all:∀ R:Nat->ByteArray->Prop,AllR R S->(∀ i c,N i=some c->R i c)->AllR R S'
 calm:S.set=false->e=0/\S'.set=false
end
section
variable {S:Dk}
theorem act_calm (h:S.set=false):actE S=0/\(actDk S).set=false:=by
 unfold actE actDk
 rw[h]
 simp[h]
end
section
variable {S:Dk}
theorem act_bad (h:actE S≠0):actE S=9/\(actDk S).up=false/\∀ i,(actDk S).wait i=none:=by
 unfold actE at h ⊢
 unfold actDk
 split
 ·exact⟨rfl,rfl,fun _=>rfl⟩
 ·rename_i hc
  rw[if_neg hc] at h
  exact absurd rfl h
end
section
variable {S:Dk}{R:Lr}
theorem Wrt.refl (S:Dk) (hu:S.up=true):Wrt S S (fun _=>none) 0:=⟨rfl,fun _=>⟨hu,fun i=>rfl⟩,fun h=>absurd rfl h,fun R h _=>h,fun h=>⟨rfl,h⟩⟩
end
section
variable {S:Dk}
theorem writeE_up (hu:S.up=true) {i:Nat} (hi:i<S.n) {s:ByteArray} (hs:s.size<=64):writeE S (i:Int) s=actE S/\writeDk S (i:Int) s=if actE S≠0 then actDk S else {actDk S with wait:=upd S.wait i (some (pad s))}:=by
 have hr:refAt S.up S.n (i:Int)=0:=by unfold refAt;rw[hu,if_pos rfl,if_neg (by omega)]
 unfold writeE writeDk
 rw[hr,if_neg (by simp),if_neg (by omega),if_neg (by simp),if_neg (by omega),Int.toNat_natCast]
 exact⟨rfl,rfl⟩
end
section
variable {S:Dk}{R:Lr}
theorem Wrt.step {S1:Dk} {N N':Nat->Option ByteArray} (h:Wrt S S1 N 0) {i:Nat} (hi:i<S.n) {s:ByteArray} (hs:s.size<=64) (hNi:N i=none) (hN:∀ j,N' j=if j=i then some (pad s) else N j):Wrt S (writeDk S1 (i:Int) s) N' (writeE S1 (i:Int) s):=by
 obtain⟨hu,hnow⟩:=h.ok rfl
 obtain⟨e1,e2⟩:=writeE_up (S:=S1) hu (i:=i) (by rw[h.n];exact hi) hs
 have hall:∀ R:Nat->ByteArray->Prop,AllR R S->(∀ i c,N' i=some c->R i c)->AllR R (writeDk S1 (i:Int) s):=fun R hR hc=>by
  refine(h.all R hR (fun j c hj=>?_)).write i s (hc i _ (by rw[hN,if_pos rfl]))
  by_cases e:j=i
  ·subst e
   rw[hNi] at hj;cases hj
  ·exact hc j c (by rw[hN,if_neg e];exact hj)
 refine⟨?_,?_,?_,hall,?_⟩
 ·rw[writeDk_n];exact h.n
 ·rw[e1,e2]
  intro h0
  rw[if_neg (by simpa using h0)]
  obtain⟨g1,g2,g3⟩:=actDk_go h0
  refine⟨by rw[← hu,← g3],fun j=>?_⟩
  show((upd S1.wait i (some (pad s))) j).getD ((actDk S1).sure j)=_
  rw[g2,hN]
  by_cases e:j=i
  ·subst e
   rw[upd_same,if_pos rfl];rfl
  ·rw[upd_other _ _ e,if_neg e]
   exact hnow j
 ·rw[e1,e2]
  intro h0
  rw[if_pos h0]
  exact act_bad h0
 ·intro hc
  obtain⟨_,hc2⟩:=h.calm hc
  obtain⟨a1,a2⟩:=act_calm hc2
  rw[e1,e2,a1,if_neg (by simp)]
  exact⟨rfl,a2⟩
end
section
variable [Inhabited PrSet]
def nw (base:Nat) (t:ByteArray) (r a b i:Nat):Option ByteArray:=if base+a<=i/\i<base+b then some (pad (secB (secT t r (i-base)))) else none
end
section
theorem nw_nil (base:Nat) (t:ByteArray) (r a:Nat):nw base t r a a=fun _=>none:=by
 funext i
 unfold nw
 rw[if_neg (by omega)]
end
section
theorem nw_succ (base:Nat) (t:ByteArray) (r a j:Nat) (i:Nat):nw base t r a (a+j+1) i=if i=base+a+j then some (pad (secB (secT t r (a+j)))) else nw base t r a (a+j) i:=by
 unfold nw
 by_cases e:i=base+a+j
 ·subst e
  rw[if_pos (by omega),if_pos rfl,show base+a+j-base=a+j by omega]
 ·rw[if_neg e]
  by_cases h:base+a<=i/\i<base+(a+j)
  ·rw[if_pos h,if_pos (by omega)]
  ·rw[if_neg h,if_neg (by omega)]
end
section
variable {S S':Dk}
theorem Wrt.more {base r a b c:Nat} {t:ByteArray} {x:Int} (h:Wrt S S' (nw base t r a b) x) (hx:x≠0) (hbc:b<=c):Wrt S S' (nw base t r a c) x :=
 ⟨h.n,fun e=>absurd e hx,h.bad,fun Q hQ hc=>h.all Q hQ (fun i c' hi=>hc i c' (by
  unfold nw at hi ⊢
  split at hi
  ·rename_i hb
   rw[if_pos (by omega)];exact hi
  ·cases hi)),fun hs=>absurd (h.calm hs).1 hx⟩
end
section
variable [Inhabited PrSet]{B l k:Nat}{w w':World}{S S':Dk}{R:Lr}
set_option maxHeartbeats 2000000 in
theorem write_any (h:Lx B w l k S R) (hk:k<=500000000000) {bs:Nat} (hbs:R.base=(bs:Int)) (t:ByteArray) (ht:t.size<=1000000) (r a b:Nat) (hr:r<4294967296) (hab:a<=b) (hb:b<=10000) (hfit:bs+b<=S.n) (hin:∀ i,a<=i->i<b->58*i<=t.size) (hu:S.up=true) :
  Calls Tryz.prog 112 #[.pointer (some ⟨l,0,none⟩),.string t,.int .i64 (r:Int),.int .i64 (a:Int),.int .i64 (b:Int)] w fun e w' =>
   ∃ S' x,e=.returned (.int .i64 x)/\Lx B w' l (k+(b-a)) S' R/\Kp isD B w w'/\Wrt S S' (nw bs t r a b) x:=by
 have hn2:=h.d.q.ok.n2
 have W0:Hid (Wrt S S (nw bs t r a a) 0):=by rw[nw_nil];exact Wrt.refl S hu
 have H0:Hid (Lx B w l k S R):=h
 have WS:Hid (∀ S1 j,a+j<b->Wrt S S1 (nw bs t r a (a+j)) 0->Wrt S (writeDk S1 ((bs+a+j:Nat):Int) (secB (secT t r (a+j)))) (nw bs t r a (a+j+1)) (writeE S1 ((bs+a+j:Nat):Int) (secB (secT t r (a+j))))):=fun S1 j hj hw =>
  hw.step (i:=bs+a+j) (by omega) (by rw[secB_size];have:=part_le t (a+j);simp only[secT];omega) (by unfold nw;rw[if_neg (by omega)]) (nw_succ bs t r a j)
 have CS:Hid (∀ wx (j:Nat),a+j<b->Calls Tryz.prog 136 #[.string t,.int .i64 (r:Int),.int .i64 ((a:Int)+(j:Int))] wx fun e w'=>e=.returned (.string (secB (secT t r (a+j))))/\Below wx.heap.size wx w'):=fun wx j hj=>by
  have:=sector_any t r (a+j) hr (hin _ (by omega) hj) ht wx
  rw[show((a+j:Nat):Int)=(a:Int)+(j:Int) by omega] at this
  exact this
 have hsz:Hid (∀ j,(secB (secT t r (a+j))).size<=9223372036854775807):=fun j=>by rw[secB_size];have:=part_le t (a+j);simp only[secT];omega
 have CW:Hid (∀ wx (j:Nat) S1,a+j<b->Lx B wx l (k+j) S1 R->Wrt S S1 (nw bs t r a (a+j)) 0->Calls Tryz.prog 135 #[.pointer (some ⟨R.db,0,none⟩),.int .i64 ((bs:Int)+(a:Int)+(j:Int)),.string (secB (secT t r (a+j)))] wx fun e w' =>
   ∃ x S2,e=.returned (.int .i64 x)/\Lx B w' l (k+j+1) S2 R/\Kp isD B wx w'/\Wrt S S2 (nw bs t r a (a+j+1)) x):=fun wx j S1 hj hd hw=>by
  have:=hd.write (by omega) ((bs+a+j:Nat):Int) (secB (secT t r (a+j))) (hsz.out j)
  rw[show((bs+a+j:Nat):Int)=(bs:Int)+(a:Int)+(j:Int) by omega] at this
  refine this.mono ?_
  rintro e w' ⟨he,hl,hk'⟩
  have hs:=WS.out S1 j hj hw
  rw[show((bs+a+j:Nat):Int)=(bs:Int)+(a:Int)+(j:Int) by omega] at hs
  exact⟨_,_,he,hl,hk',hs⟩
 clear h hin
 have hw0:IntKind.i64.wrap ((b:Int)-(a:Int))=(b:Int)-(a:Int):=by rw[IntKind.wrap_i64];omega
 go_enter Tryz.func112,Tryz.ntmps112
 go_wp2
 go_loopw [16] (fun ix wr=>∃ (j:Nat) (S1:Dk),a+j<=b/\ix=.int .i64 (j:Int)/\Wrt S S1 (nw bs t r a (a+j)) 0/\Lx B wr l (k+j) S1 R/\Kp isD B w wr) (fun ix _=>b-(intOf ix).toNat)
 case atStart=>exact⟨0,S,by omega,rfl,W0.out,H0.out,Kp.refl _ _ _⟩
 case round =>
  obtain⟨j,S1,hj,rfl,HW,hd0,hK⟩:=hrel
  by_cases hlt:a+j<b
  ·have hd:=hd0.drew
   have c1:=hd.g.c1
   have c2:=hd.g.c2
   rw[hbs] at c2
   have HK:Hid (Kp isD B w wr.drew):=hK.below ((Below.refl _ _).drew) (H0.out.le)
   have HW':Hid _:=HW
   clear hd0 hK HW
   have hi2:(j:Int)<(b:Int)-(a:Int):=by omega
   have hw1:IntKind.i64.wrap ((bs:Int)+(a:Int))=(bs:Int)+(a:Int):=by rw[IntKind.wrap_i64];omega
   have hw2:IntKind.i64.wrap ((bs:Int)+(a:Int)+(j:Int))=(bs:Int)+(a:Int)+(j:Int):=by rw[IntKind.wrap_i64];omega
   have hw3:IntKind.i64.wrap ((a:Int)+(j:Int))=(a:Int)+(j:Int):=by rw[IntKind.wrap_i64];omega
   go_wp2
   go_region_held3 (fun W=>W.cell? ⟨l,1,none⟩=some (.pointer (some ⟨R.db,0,none⟩))/\W.cell? ⟨l,2,none⟩=some (.int .i64 (bs:Int))) (first |exact⟨keep1,keep2⟩ |exact⟨c1,c2⟩ |go_keep) (first
    | (go_at_call 136;refine(CS.out _ j ?_).mono ?_;exact hlt;rintro e wA ⟨rfl,bA⟩;have hn:=hd.below bA;have HKn:Hid (Kp isD B w wA):=HK.out.below bA H0.out.le;clear hd HK;have hd:=hn;have HK:=HKn;clear hn HKn;have keep1:=hd.g.c1;have keep2:=hd.g.c2;rw[hbs] at keep2)
    | (go_at_call 135;refine(CW.out _ j S1 ?_ ?_ ?_).mono ?_;exact hlt;exact hd;exact HW'.out;rintro e wB ⟨x,S2,rfl,hn,oB,HWn⟩;have HKn:Hid (Kp isD B w wB):=HK.out.trans oB;clear hd HK;have hd:=hn;have HK:=HKn;clear hn HKn;have keep1:=hd.g.c1;have keep2:=hd.g.c2;rw[hbs] at keep2))
   by_cases he:x=0
   ·subst he
    go_wp2
    go_roundw
    case rel=>exact⟨j+1,S2,by omega,by go_num,HWn,hd,HK.out⟩
    case measure=>simp[intOf];omega
   ·have heb:(x !=0)=true:=by simpa using he
    go_wp2
    go_ret
    exact⟨S2,x,rfl,hd.mono (by omega),HK.out,HWn.more he (by omega)⟩
  ·have hi2:¬ (j:Int)<(b:Int)-(a:Int):=by omega
   obtain rfl:b=a+j:=by omega
   clear hlt
   go_wp2
   go_ret
   exact⟨S1,0,rfl,hd0.mono (by omega),hK,HW⟩
end
structure Laid (S S':Dk) (N:Nat->Option ByteArray) (e:Int):Prop where
 n:S'.n=S.n
 ok:e=0->S'.up=true/\(∀ i,S'.wait i=none)/\∀ i,S'.sure i=(N i).getD (S.now i)
 bad:e≠0->e=9/\S'.up=false/\∀ i,S'.wait i=none
 all:∀ R:Nat->ByteArray->Prop,AllR R S->(∀ i c,N i=some c->R i c)->AllR R S'
 calm:S.set=false->e=0/\S'.set=false
section
variable {S S':Dk}
theorem Wrt.laid {N:Nat->Option ByteArray} {x:Int} (h:Wrt S S' N x) (hx:x≠0):Laid S S' N x:=⟨h.n,fun e=>absurd e hx,h.bad,h.all,h.calm⟩
end
section
variable {S S':Dk}
theorem Wrt.sync {N:Nat->Option ByteArray} (h:Wrt S S' N 0):Laid S (syncDk S') N (syncE S'):=by
 obtain⟨hu,hnow⟩:=h.ok rfl
 have e1:syncE S'=actE S':=by unfold syncE;rw[hu];rfl
 have e2:syncDk S'=if actE S'=0 then {actDk S' with sure:=S'.now,wait:=fun _=>none} else actDk S':=by unfold syncDk;rw[hu];rfl
 refine⟨by rw[syncDk_n];exact h.n,?_,?_,fun Q hQ hc=>(h.all Q hQ hc).sync,?_⟩
 ·rw[e1,e2]
  intro h0
  rw[if_pos h0]
  obtain⟨g1,g2,g3⟩:=actDk_go h0
  exact⟨by rw[← hu,← g3],fun _=>rfl,hnow⟩
 ·rw[e1,e2]
  intro h0
  rw[if_neg h0]
  exact act_bad h0
 ·intro hc
  obtain⟨_,hc2⟩:=h.calm hc
  obtain⟨a1,a2⟩:=act_calm hc2
  rw[e1,e2,a1,if_pos rfl]
  exact⟨rfl,a2⟩
end
section
variable [Inhabited PrSet]{B l k:Nat}{w w':World}{S S':Dk}{R:Lr}
theorem lay_none (h:Lx B w l k S R) (t:ByteArray) (r a b:Int) (hab:b<=a):Calls Tryz.prog 81 #[.pointer (some ⟨l,0,none⟩),.string t,.int .i64 r,.int .i64 a,.int .i64 b] w fun e w'=>e=.returned (.int .i64 0)/\w'=w:=by
 clear h
 go_enter Tryz.func81,Tryz.ntmps81
 go_wp2
 go_ret
 exact⟨rfl,rfl⟩
set_option maxHeartbeats 1000000 in
theorem lay_any (h:Lx B w l k S R) (hk:k<=400000000000) {bs:Nat} (hbs:R.base=(bs:Int)) (t:ByteArray) (ht:t.size<=1000000) (r a b:Nat) (hr:r<4294967296) (hab:a<b) (hb:b<=10000) (hfit:bs+b<=S.n) (hin:∀ i,a<=i->i<b->58*i<=t.size) (hu:S.up=true) :
  Calls Tryz.prog 81 #[.pointer (some ⟨l,0,none⟩),.string t,.int .i64 (r:Int),.int .i64 (a:Int),.int .i64 (b:Int)] w fun e w' =>
   ∃ S' x,e=.returned (.int .i64 x)/\Lx B w' l (k+(b-a)+1) S' {R with dead:=x !=0}/\Kp isA B w w'/\Laid S S' (nw bs t r a b) x:=by
 have hn2:=h.d.q.ok.n2
 have CW:Hid (Calls Tryz.prog 112 #[.pointer (some ⟨l,0,none⟩),.string t,.int .i64 (r:Int),.int .i64 (a:Int),.int .i64 (b:Int)] w fun e w' =>
   ∃ S' x,e=.returned (.int .i64 x)/\Lx B w' l (k+(b-a)) S' R/\Kp isD B w w'/\Wrt S S' (nw bs t r a b) x):=write_any h (by omega) hbs t ht r a b hr (by omega) hb hfit hin hu
 have CY:Hid (∀ wx S1 (x:Int),(x==0)=true->Lx B wx l (k+(b-a)) S1 R->Wrt S S1 (nw bs t r a b) x->Calls Tryz.prog 113 #[.pointer (some ⟨R.db,0,none⟩)] wx fun e w' =>
   ∃ S2 x,e=.returned (.int .i64 x)/\Lx B w' l (k+(b-a)+1) S2 R/\Kp isD B wx w'/\Laid S S2 (nw bs t r a b) x):=fun wx S1 x h0 h1 h2=>by
  obtain rfl:x=0:=by simpa using h0
  refine(h1.sync (by omega)).mono ?_
  rintro e w' ⟨he,hl,hk'⟩
  exact⟨_,_,he,hl,hk',h2.sync⟩
 have hab':¬ (b:Int)<=(a:Int):=by omega
 have hA:∀ (x:Int) p v pv,(R.A l p v pv).setIfInBounds 9 (.bool (x !=0))=({R with dead:=x !=0}:Lr).A l p v pv:=fun x p v pv=>rfl
 have HS:Hid (∀ wx k' S1 (x:Int),Lx B wx l k' S1 R->Lx B (wx.setCell ⟨l,9,none⟩ (.bool (x !=0))) l k' S1 {R with dead:=x !=0}/\Kp isL B wx (wx.setCell ⟨l,9,none⟩ (.bool (x !=0)))):=fun wx k' S1 x hx=>hx.set rfl rfl rfl (hA x)
 clear h hin hA
 go_enter Tryz.func81,Tryz.ntmps81
 go_wp2_with (first
  | (go_at_call 112;refine CW.out.mono ?_;rintro e w1 ⟨S1,x,rfl,h1,k1,W1⟩;have c9:=h1.g.c9;have f9:=h1.g.f 9;have c1:=h1.g.c1;have H1:Hid (Lx B w1 l (k+(b-a)) S1 R):=h1;have HW1:Hid (Wrt S S1 (nw bs t r a b) x):=W1;clear h1 W1)
  | (go_at_call 113;refine(CY.out _ S1 x ?_ H1.out HW1.out).mono ?_;assumption;rintro e w2 ⟨S2,y,rfl,h2,k2,L2⟩;have d9:=h2.g.c9;have g9:=h2.g.f 9))
 ·go_ret
  obtain⟨q1,q2⟩:=HS.out _ _ _ y h2
  exact⟨S2,y,rfl,q1,(k1.d.trans k2.d).trans q2.l,L2⟩
 ·have hx:x≠0:=by simpa using ‹(x==0)=false›
  go_ret
  obtain⟨q1,q2⟩:=HS.out _ _ _ x H1.out
  exact⟨S1,x,rfl,q1.mono (by omega),k1.d.trans q2.l,HW1.out.laid hx⟩
end
section
theorem slc_to (t:ByteArray) (en:Int) (e:Nat) (he:en=(e:Int)+1) (h:e<=t.size):∀ W,(Instr.slice 9 (.string t) none (some (.int .i64 (en-1))) none).run Tryz.prog W=.ok (.string (t.extract 0 e)) W:=by
 intro W
 rw[show en-1=(e:Int) by omega,run_slice_string_to_if W 9 t .i64 (e:Int) Tryz.underlying9]
 rw[if_pos (by omega),Int.toNat_natCast]
end
section
variable [Inhabited PrSet]{B l k:Nat}{w w':World}{S S':Dk}{R R':Lr}
def Stl (S S':Dk) (N:Nat->Option ByteArray) (x:Int) (R R':Lr) (a b:Nat):Prop:=(b<=a/\x=0/\S'=S/\R'=R)∨(a<b/\R'={R with dead:=x !=0}/\Laid S S' N x)
set_option maxHeartbeats 1000000 in
theorem settle_any (h:Lx B w l k S R) (hk:k<=400000000000) {bs sc d:Nat} (hbs:R.base=(bs:Int)) (hsc:R.secs=(sc:Int)) (hd:R.dur=(d:Int)+1) (hT:R.T.size<=500000) (hd2:d<=500000) (hsc2:sc<=10000) (en:Int) (e:Nat) (he:en=(e:Int)+1) (heT:e<=R.T.size) (r:Nat) (hr:r<4294967296) (hfit:bs+sc<=S.n) (hu:S.up=true) :
  Calls Tryz.prog 43 #[.pointer (some ⟨l,0,none⟩),.int .i64 en,.int .i64 (r:Int)] w fun v w' =>
   ∃ S' x R',v=.returned (.int .i64 x)/\Lx B w' l (k+sc+1) S' R'/\Kp isA B w w'/\Stl S S' (nw bs (R.T.extract 0 e) r (min d e / 58) (min (e / 58+1) sc)) x R R' (min d e / 58) (min (e / 58+1) sc):=by
 have c8:=h.g.c8
 have c3:=h.g.c3
 have hsl:=slc_to R.T en e he heT
 have C1:Hid (∀ wx,Calls Tryz.prog 80 #[.int .i64 (min R.dur en)] wx fun v w'=>v=.returned (.int .i64 ((min d e / 58:Nat):Int))/\w'=wx):=fun wx=>by
  have:=sectorOf_any (min R.dur en) (by omega) (by omega) wx
  rw[show(min R.dur en-1) / 58=((min d e / 58:Nat):Int) by omega] at this
  exact this
 have C2:Hid (∀ wx,Calls Tryz.prog 80 #[.int .i64 en] wx fun v w'=>v=.returned (.int .i64 ((e / 58:Nat):Int))/\w'=wx):=fun wx=>by
  have:=sectorOf_any en (by omega) (by omega) wx
  rw[show(en-1) / 58=((e / 58:Nat):Int) by omega] at this
  exact this
 have CS:Hid (∀ wx,LrIs B wx l R->Calls Tryz.prog 77 #[.pointer (some ⟨l,5,none⟩)] wx fun v w'=>v=.returned (.string R.T)/\LrIs B w' l R/\Kp isL B wx w'):=fun wx h=>String_log h
 have CL:Hid (∀ wx,Lx B wx l k S R->Calls Tryz.prog 81 #[.pointer (some ⟨l,0,none⟩),.string (R.T.extract 0 e),.int .i64 (r:Int),.int .i64 ((min d e / 58:Nat):Int),.int .i64 (min (((e / 58:Nat):Int)+1) R.secs)] wx fun v w' =>
   ∃ S' x R',v=.returned (.int .i64 x)/\Lx B w' l (k+sc+1) S' R'/\Kp isA B wx w'/\Stl S S' (nw bs (R.T.extract 0 e) r (min d e / 58) (min (e / 58+1) sc)) x R R' (min d e / 58) (min (e / 58+1) sc)):=fun wx h=>by
  rw[show min (((e / 58:Nat):Int)+1) R.secs=((min (e / 58+1) sc:Nat):Int) by omega]
  have hz:(R.T.extract 0 e).size=e:=by rw[ByteArray.size_extract];omega
  rcases Nat.lt_or_ge (min d e / 58) (min (e / 58+1) sc) with hab |hab
  ·refine(lay_any h hk hbs (R.T.extract 0 e) (by omega) r _ _ hr hab (by omega) (by omega) (fun i h1 h2=>by omega) hu).mono ?_
   rintro v w' ⟨S',x,hv,hl,hk',hL⟩
   exact⟨S',x,_,hv,hl.mono (by omega),hk',Or.inr ⟨hab,rfl,hL⟩⟩
  ·refine(lay_none h (R.T.extract 0 e) (r:Int) _ _ (by omega)).mono ?_
   rintro v w' ⟨hv,rfl⟩
   exact⟨S,0,R,hv,h.mono (by omega),Kp.refl _ _ _,Or.inl ⟨hab,rfl,rfl,rfl⟩⟩
 have H:Hid (Lx B w l k S R):=h
 have hq0:(0:Int)<=((e / 58:Nat):Int):=by omega
 have hq1:((e / 58:Nat):Int)<=10000:=by omega
 have he0:(1:Int)<=en:=by omega
 have he1:en<=1000000:=by omega
 clear h he heT hd hT hfit hsc hbs hk hu
 generalize ((e / 58:Nat):Int)=q at *
 generalize ((min d e / 58:Nat):Int)=a0 at *
 generalize R.T.extract 0 e=t at *
 have hw1:IntKind.i64.wrap (q+1)=q+1:=by rw[IntKind.wrap_i64];omega
 go_enter Tryz.func43,Tryz.ntmps43
 go_wp2_with (go_at_call 80;refine(C1.out _).mono ?_;rintro v w' ⟨rfl,rfl⟩)
 have hd:=H.out.drew
 have d3:=hd.g.c3
 go_region_held3 (fun W=>W.cell? ⟨l,3,none⟩=some (.int .i64 R.secs)) (first |exact d3 |go_keep) ((go_at_call 80;refine(C2.out _).mono ?_;rintro v w' ⟨rfl,rfl⟩))
 go_wp2_with (first
  | (go_at_call 77;refine(CS.out _ hd.g).mono ?_;rintro v w1 ⟨rfl,g1,k1⟩;have h1:Lx B w1 l k S R:=⟨hd.d.kept k1,g1⟩)
  | (go_at_call 81;refine(CL.out _ h1).mono ?_;rintro v w2 ⟨S',x,R',rfl,h2,k2,Z2⟩))
 go_ret
 exact⟨S',x,R',rfl,h2,((Kp.of_below ((Below.refl _ _).drew) H.out.le).trans k1.l).trans k2,Z2⟩
end
theorem append_int {B:Nat} {w:World} {v:Value} {ps:List Int} (h:OwnI B w v ps) {g:Nat} {p:Int} (hg:w.cell? ⟨g,0,none⟩=some (.int .i64 p)) (hB:B<=w.heap.size) (hl:ps.length<=100000) (ty:TypeId) :
  ∃ v' w',(Builtin.append_ #[45,45] ty #[v,.slice (some ⟨g,0,none⟩) 1 1]).run Tryz.prog w=.ok v' w'/\OwnI B w' v' (ps++[p])/\w.grownBy w' v.ownBlock/\(v'.ownBlock=v.ownBlock∨v'.ownBlock=some w.heap.size):=by
 obtain⟨i,hi,hz0,hz1,hz2⟩:=info_int
 have hnews:∀ j u,[Value.int .i64 p][j]?=some u->w.cell? ((⟨g,0,none⟩:Addr).add j)=some u:=by
  intro j u hu
  have:j=0:=by
   have:=(List.getElem?_eq_some_iff.1 hu).1
   simpa using this
  subst this
  simp at hu
  subst hu
  have hadd:(⟨g,0,none⟩:Addr).add 0=⟨g,0,none⟩:=by unfold Addr.add;split <;> simp_all
  rw[hadd]
  exact hg
 have h1:∀ u∈[Value.int .i64 p],u.oneCell'=true:=by
  intro u hu
  simp at hu
  subst hu
  rfl
 obtain⟨v',w',hr,ho,hgr,_⟩:=run_append_own (P:=Tryz.prog) w B 45 ty 3 i (.int .i64 0) 1 8 Tryz.underlying45 hi hz0 hz1 hz2 rfl (by omega) v ps.length (iv ps) h.row ⟨g,0,none⟩ 1 1 [.int .i64 p] rfl hnews h1 (by unfold maxLen;omega) (by omega) hB
 refine⟨v',w',hr,⟨?_⟩,hgr,?_⟩
 ·have e1:(ps++[p]).length=ps.length+1:=by simp
  have e2:iv (ps++[p])=iv ps++[.int .i64 p]:=by simp[iv]
  rw[e1,e2]
  exact ho
 ·have hl1:[Value.int .i64 p].length=1*i.size:=by rw[hz1];rfl
  rcases h.row.2 with⟨rfl,hn⟩ |⟨b,cap,cur,rfl,hbg,hgg,hnc,hcm,hcs,htake⟩
  ·have hr2:=run_append_nil (P:=Tryz.prog) w 45 ty 3 i (.int .i64 0) Tryz.underlying45 hi hz0 ⟨g,0,none⟩ 1 1 [.int .i64 p] hl1 hnews (by omega) (by omega) (by rw[hz2];omega)
   rw[hr2] at hr
   injection hr with e1 e2
   subst e1
   exact Or.inr rfl
  ·by_cases hroom:ps.length+1<=cap
   ·have hr2:=run_append_room (P:=Tryz.prog) w 45 ty 3 i Tryz.underlying45 hi b ps.length cap cur hgg ⟨g,0,none⟩ 1 1 [.int .i64 p] hl1 hnews h1 hroom (by rw[hz1,hcs];simp;omega)
    rw[hr2] at hr
    injection hr with e1 e2
    subst e1
    exact Or.inl rfl
   ·have holds:∀ j u,(iv ps)[j]?=some u->w.cell? ((⟨b,0,none⟩:Addr).add j)=some u:=by
     intro j u hu
     have hadd:(⟨b,0,none⟩:Addr).add j=⟨b,j,none⟩:=by unfold Addr.add;split <;> simp_all
     rw[hadd,cell_of_row w b j cur 3 (0,0) hgg]
     rw[← htake,List.getElem?_take] at hu
     split at hu
     ·simpa using hu
     ·cases hu
    have hr2:=run_append_grow (P:=Tryz.prog) w 45 ty 3 i (.int .i64 0) Tryz.underlying45 hi hz0 ⟨b,0,none⟩ ps.length cap (iv ps) (by rw[hz1,h.row.1]) holds ⟨g,0,none⟩ 1 1 [.int .i64 p] hl1 hnews (by omega) (by omega) (by rw[hz2];exact growslice_fits (by omega) (by omega))
    rw[hr2] at hr
    injection hr with e1 e2
    subst e1
    exact Or.inr rfl
theorem wpList_append_int2 {B:Nat} {w:World} {ops:Array Oper} {rest:List Oper} {o:Oper} {act:Act} {Q:Exit->Act->World->Prop} (hgd:o.guard=none) (s x:Operand)
  (ho:o.op=.call {callee:=.builtin .append,args:=#[s,x],argTypes:=#[45,45]}) {v:Value} {ps:List Int} (hs:act.eval s=v) (h:OwnI B w v ps)
  {g:Nat} {p:Int} (hx:act.eval x=.slice (some ⟨g,0,none⟩) 1 1) (hg:w.cell? ⟨g,0,none⟩=some (.int .i64 p)) (hB:B<=w.heap.size) (hl:ps.length<=100000)
  (K:∀ v' w',OwnI B w' v' (ps++[p])->w.grownBy w' v.ownBlock->(v'.ownBlock=v.ownBlock∨v'.ownBlock=some w.heap.size)->wpList Tryz.prog ops Q rest (act.put o.dst v') w'):wpList Tryz.prog ops Q (o ::rest) act w:=by
 refine wpList_plain hgd fun K' hK=>?_
 obtain⟨v',w',hr,h2,h3,h4⟩:=append_int h hg hB hl o.type
 unfold Oper.wp execOp
 simp only[ho,resolve,invoke,builtin,Sem.run_bind,Sem.run_pure,Result.andThen_ok,List.map_toArray,List.map_cons,List.map_nil,hs,hx,hr]
 exact hK _ _ (K v' w' h2 h3 h4)
structure LrE [Inhabited PrSet] (B:Nat) (w:World) (l:Nat) (R:Lr) (pv:Value):Prop where
 ex:∃ p v,w.heap[l]?=some (.cells (R.A l p v pv) 98 (0,0))/\(p=.pointer none∨p=.pointer (some ⟨l,5,none⟩))/\w.ownsRowF B 5 1 v R.T.size (Lib.strCells R.T)/\npv v
 pl:OwnI B w pv R.ps
 ge:Ow B l
 le:B<=w.heap.size
 lp:Ltp w
 pn:npv pv
section
variable [Inhabited PrSet]{B l k:Nat}{w w':World}{R:Lr}{pv:Value}
theorem LrE.is (h:LrE B w l R pv):LrIs B w l R:=by
 obtain⟨p,v,h1,h2,h3,n3⟩:=h.ex
 exact⟨⟨p,v,pv,h1,h2,h3,h.pl,n3,h.pn⟩,h.ge,h.le,h.lp⟩
theorem LrIs.e (h:LrIs B w l R):∃ pv,LrE B w l R pv:=by
 obtain⟨p,v,pv,h1,h2,h3,h4,n3,n4⟩:=h.ex
 exact⟨pv,⟨⟨p,v,h1,h2,h3,n3⟩,h4,h.ge,h.le,h.lp,n4⟩⟩
theorem LrE.below (h:LrE B w l R pv) (hb:Below w.heap.size w w'):LrE B w' l R pv:=by
 obtain⟨p,v,h1,h2,h3,n3⟩:=h.ex
 exact⟨⟨p,v,(hb.block l (lt_of_some h1)).trans h1,h2,ownF_below h3 hb,n3⟩,h.pl.below hb,h.ge,Nat.le_trans h.le hb.size,h.lp.below hb,h.pn⟩
theorem LrE.cell (h:LrE B w l R pv):w.cell? ⟨l,7,none⟩=some pv:=by
 obtain⟨p,v,h1,h2,h3,n3⟩:=h.ex
 rw[Lib.cell_of_heap h1];rfl
theorem LrE.grown (h:LrE B w l R pv) {w2:World} (hg:w.grownBy w2 pv.ownBlock):w2.cell? ⟨l,7,none⟩=some pv/\w2.frozen? ⟨l,7,none⟩=false:=by
 obtain⟨p,v,h1,h2,h3,n3⟩:=h.ex
 have hl:some l≠pv.ownBlock:=fun e=>by
  rcases h.pl.row.2 with⟨rfl,_⟩ |⟨b,cap,cur,rfl,hbg,hgg,_⟩
  ·simp[Value.ownBlock] at e
  ·simp[Value.ownBlock] at e
   subst e
   rw[h1] at hgg;cases hgg
 have b2:w2.heap[l]?=some (.cells (R.A l p v pv) 98 (0,0)):=(hg.block l (lt_of_some h1) hl).trans h1
 exact⟨by rw[Lib.cell_of_heap b2];rfl,Lib.frozen_of_heap b2 7⟩
theorem LrE.put (h:LrE B w l R pv) {w2:World} {v':Value} {ps':List Int} (ho:OwnI B w2 v' ps') (hg:w.grownBy w2 pv.ownBlock) (hob:v'.ownBlock=pv.ownBlock∨v'.ownBlock=some w.heap.size):LrE B (w2.setCell ⟨l,7,none⟩ v') l {R with ps:=ps'} v'/\Kp isL B w (w2.setCell ⟨l,7,none⟩ v')/\∀ (j:Nat) (o:Obj),w.heap[j]?=some o->some j≠pv.ownBlock->j≠l->(w2.setCell ⟨l,7,none⟩ v').heap[j]?=some o:=by
 obtain⟨p,v,h1,h2,h3,n3⟩:=h.ex
 have hrow:∀ g,pv.ownBlock=some g->B<=g/\∃ cur,w.heap[g]?=some (.cells cur 3 (0,0)):=by
  intro g e
  rcases h.pl.row.2 with⟨rfl,_⟩ |⟨b,cap,cur,rfl,hbg,hgg,_⟩
  ·simp[Value.ownBlock] at e
  ·simp[Value.ownBlock] at e
   subst e
   exact⟨hbg,cur,hgg⟩
 have hl:some l≠pv.ownBlock:=fun e=>by
  obtain⟨_,cur,e2⟩:=hrow l e.symm
  rw[h1] at e2;cases e2
 have b2:w2.heap[l]?=some (.cells (R.A l p v pv) 98 (0,0)):=(hg.block l (lt_of_some h1) hl).trans h1
 have hkeep:∀ (j:Nat) (o:Obj),w.heap[j]?=some o->some j≠pv.ownBlock->j≠l->(w2.setCell ⟨l,7,none⟩ v').heap[j]?=some o:=fun j o e n1 n2=>by
  rw[Below.heap_setCell _ _ _ _ n2]
  exact(hg.block j (lt_of_some e) n1).trans e
 have hz:(w2.setCell ⟨l,7,none⟩ v').heap.size=w2.heap.size:=by simp[World.setCell]
 have hpr:∀ (j:Nat) (o:Obj),w.heap[j]?=some o->isP j->(w2.setCell ⟨l,7,none⟩ v').heap[j]?=some o:=fun j o e hn=>hkeep j o e (fun e2=>h.pn j e2.symm hn) (fun e2=>by subst e2;exact h.ge.np hn)
 have hnv:npv v':=h.pn.of h.lp (hob.elim Or.inl (fun e=>Or.inr (Or.inl e)))
 refine⟨⟨⟨p,v,Joins.block_setCell b2 _,h2,?_,n3⟩,?_,h.ge,by have:=hg.size;have:=h.le;omega,fun j o e=>hpr j o (h.lp j o e) (isP_of e),hnv⟩,⟨?_,?_,hpr⟩,hkeep⟩
 ·refine ownF_of h3 (fun j cur fz e=>hkeep j _ e (fun e2=>?_) (fun e2=>?_))
  ·obtain⟨_,cur',e3⟩:=hrow j e2.symm
   rw[e] at e3;cases e3
  ·subst e2;rw[h1] at e;cases e
 ·refine ho.of_block (fun j cur fz e=>?_)
  have hj:j≠l:=fun e2=>by subst e2;rw[b2] at e;cases e
  rw[Below.heap_setCell _ _ _ _ hj];exact e
 ·exact((Below.refl B w).grown hg h.le (fun g e=>(hrow g e).1)).setCell (p:=⟨l,7,none⟩) h.ge.ge _
 ·intro j o e hn
  by_cases hj:j=l
  ·subst hj;rw[h1] at e;cases e;exact absurd (Or.inr (Or.inr rfl)) hn
  ·refine hkeep j o e (fun e2=>?_) hj
   obtain⟨_,cur,e3⟩:=hrow j e2.symm
   rw[e] at e3;cases e3;exact hn (Or.inl rfl)
theorem WriteString_log (h:LrIs B w l R) (s:ByteArray) (hs:R.T.size+s.size<=1000000):Calls Tryz.prog 75 #[.pointer (some ⟨l,5,none⟩),.string s] w fun e w'=>e=.returned (.tuple #[.int .i64 s.size,.nilIface])/\LrIs B w' l {R with T:=R.T++s}/\Kp isL B w w':=by
 obtain⟨p,v,pv,h1,h2,h3,h4,n3,n4⟩:=h.ex
 refine(Bf_WriteString h1 h2 h3 s (by omega) h.ge h.le n3 h.lp).mono ?_
 rintro e w' ⟨⟨v',b1,o1,nv⟩,rfl,k1⟩
 refine⟨rfl,⟨⟨_,v',pv,b1,Or.inr rfl,?_,h4.of_block (fun k cur fz e=>k1.block k _ e (by simp[isT])),nv,n4⟩,h.ge,Nat.le_trans h.le k1.size,h.lp.kp k1⟩,isT_L k1⟩
 have e1:(R.T++s).size=R.T.size+s.size:=bsz _ _
 have e2:Lib.strCells (R.T++s)=Lib.strCells R.T++Lib.strCells s:=by
  rw[Lib.strCells_eq,Lib.strCells_eq,Lib.strCells_eq,← Lib.byteCells_append,ByteArray.data_append,Array.toList_append]
 show w'.ownsRowF B 5 1 v' (R.T++s).size (Lib.strCells (R.T++s))
 rw[e1,e2]
 exact o1
def moved (e:Int) (st:List Int):List Int:=st.map (fun x=>e+x)
set_option maxHeartbeats 2000000 in
theorem gather_some (h:LrE B w l R pv) (s:ByteArray) (hs:R.T.size+s.size<=1000000) (gs c:Nat) (cs:Array Value) (st:List Int) (hgs:w.heap[gs]?=some (.cells cs 3 (0,0))) (hst:∀ i,(hi:i<st.length)->cs[i]?=some (.int .i64 st[i])) (hne:pv.ownBlock≠some gs) (hb:∀ x∈st,0<=x/\x<=1000000) (hlen:R.ps.length+st.length<=100000) :
  Calls Tryz.prog 41 #[.pointer (some ⟨l,0,none⟩),.string s,.slice (some ⟨gs,0,none⟩) st.length c] w fun e w'=>e=.returned (.tuple #[])/\LrIs B w' l {R with T:=R.T++s,ps:=R.ps++moved ((R.T.size:Int)+1) st}/\Kp isL B w w':=by
 have CE:Hid (Calls Tryz.prog 42 #[.pointer (some ⟨l,0,none⟩)] w fun e w'=>e=.returned (.int .i64 ((R.T.size:Int)+1))/\w'=w):=End_any h.is (by omega)
 have CW:Hid (∀ wx ps,LrIs B wx l {R with ps:=ps}->Calls Tryz.prog 75 #[.pointer (some ⟨l,5,none⟩),.string s] wx fun e w'=>e=.returned (.tuple #[.int .i64 s.size,.nilIface])/\LrIs B w' l {R with T:=R.T++s,ps:=ps}/\Kp isL B wx w'):=fun wx ps h=>WriteString_log h s hs
 have hE0:(0:Int)<=(R.T.size:Int)+1:=by omega
 have hE1:(R.T.size:Int)+1<=1000001:=by omega
 have H:Hid (LrE B w l R pv):=h
 have HG:Hid (w.heap[gs]?=some (.cells cs 3 (0,0))):=hgs
 have HB:Hid (∀ x∈st,0<=x/\x<=1000000):=hb
 have HS:Hid (∀ i,(hi:i<st.length)->cs[i]?=some (.int .i64 st[i])):=hst
 have HL:Hid (R.ps.length+st.length<=100000):=hlen
 clear h hgs hb hst hlen hs
 generalize (R.T.size:Int)+1=E at *
 go_enter Tryz.func41,Tryz.ntmps41
 go_wp2_with (go_at_call 42;refine CE.out.mono ?_;rintro e w0 ⟨rfl,rfl⟩)
 go_loopw [13] (fun ix wr=>∃ (j:Nat) (pj:Value),j<=st.length/\ix=.int .i64 (j:Int)/\LrE B wr l {R with ps:=R.ps++moved E (st.take j)} pj/\wr.heap[gs]?=some (.cells cs 3 (0,0))/\pj.ownBlock≠some gs/\Kp isL B w0 wr) (fun ix _=>st.length-(intOf ix).toNat)
 case atStart=>exact⟨0,pv,Nat.zero_le _,rfl,by simpa[moved] using H.out,HG.out,hne,Kp.refl _ _ _⟩
 case round =>
  obtain⟨j,pj,hj,rfl,hE,hg,hn,hK⟩:=hrel
  by_cases hlt:j<st.length
  ·obtain⟨a',c',rfl⟩:=hE.pl.ex
   have c7:=hE.cell
   have cg:wr.cell? ⟨gs,j,none⟩=some (.int .i64 st[j]):=by rw[Lib.cell_of_heap hg];exact HS.out j hlt
   have hx:=HB.out st[j] (List.getElem_mem _)
   have hm:Hid (moved E (st.take (j+1))=moved E (st.take j)++[E+st[j]]):=(by unfold moved;rw[List.take_succ_eq_append_getElem hlt,List.map_append];rfl:moved E (st.take (j+1))=moved E (st.take j)++[E+st[j]])
   have hlen:(R.ps++moved E (st.take j)).length<=100000:=by have:=HL.out;simp[moved];omega
   have bA:Below wr.heap.size wr (wr.alloc (.cells #[.int .i64 (E+st[j])] 3)):=(Below.refl _ _).alloc (Nat.le_refl _) _
   have EA:Hid (LrE B (wr.alloc (.cells #[.int .i64 (E+st[j])] 3)) l {R with ps:=R.ps++moved E (st.take j)} (.slice a' (R.ps++moved E (st.take j)).length c')):=hE.below bA
   have OA:Hid (OwnI B (wr.alloc (.cells #[.int .i64 (E+st[j])] 3)) (.slice a' (R.ps++moved E (st.take j)).length c') (R.ps++moved E (st.take j))):=hE.pl.below bA
   have cA:(wr.alloc (.cells #[.int .i64 (E+st[j])] 3)).cell? ⟨wr.heap.size,0,none⟩=some (.int .i64 (E+st[j])):=by simp
   have gA:Hid ((wr.alloc (.cells #[.int .i64 (E+st[j])] 3)).heap[gs]?=some (.cells cs 3 (0,0))):=(bA.block gs (lt_of_some hg)).trans hg
   have KA:Hid (Kp isL B w0 (wr.alloc (.cells #[.int .i64 (E+st[j])] 3))):=hK.below bA H.out.le
   have hgl:Hid (gs≠l):=by
    intro e
    obtain⟨p,v,h1,_⟩:=hE.ex
    rw[← e,hg] at h1
    cases h1
   have hgz:gs<wr.heap.size+1:=by have:=lt_of_some hg;omega
   have HN:Hid _:=hn
   have hi2:(j:Int)<(st.length:Int):=by omega
   have f7:=hE.is.f 7
   clear hE hg hK hn bA
   obtain⟨hx0,hx1⟩:=hx
   have hj1:j+1<=st.length:=hlt
   have hj2:(j:Int)<=100000:=by have:=HL.out;omega
   have hP:Hid (R.ps++moved E (st.take (j+1))=(R.ps++moved E (st.take j))++[E+st[j]]):=(by rw[hm.out,List.append_assoc]:R.ps++moved E (st.take (j+1))=(R.ps++moved E (st.take j))++[E+st[j]])
   clear hm
   generalize st[j]=X at *
   obtain⟨P1,hP1⟩:∃ P1,P1=R.ps++moved E (st.take (j+1)):=⟨_,rfl⟩
   rw[← hP1] at hP
   have HP1:Hid _:=hP1
   clear hP1
   generalize R.ps++moved E (st.take j)=P at *
   have hw1:IntKind.i64.wrap (E+X)=E+X:=by rw[IntKind.wrap_i64];omega
   go_wp2_with (at_builtin;refine wpList_append_int2 (B:=B) rfl (.tmp 21) (.tmp 25) rfl rfl OA.out rfl cA EA.out.le hlen ?_;intro v' w2 ho2 hg2 hown2;obtain⟨d7,e7⟩:=EA.out.grown hg2;rw[← hP.out] at ho2;obtain⟨a2,c2,rfl⟩:=ho2.ex)
   go_roundw
   case rel =>
    obtain⟨q1,q2,q3⟩:=EA.out.put ho2 hg2 hown2
    refine⟨j+1,.slice a2 P1.length c2,hj1,by go_num,?_,q3 gs _ gA.out (fun e=>HN.out e.symm) hgl.out,fun e=>?_,KA.out.trans q2⟩
    ·rw[← HP1.out];exact q1
    ·rcases hown2 with e2 |e2
     ·exact HN.out (e2.symm.trans e)
     ·rw[e2] at e
      simp at e
      omega
   case measure=>simp[intOf];omega
  ·obtain rfl:j=st.length:=by omega
   have hi2:¬ (st.length:Int)<(st.length:Int):=by omega
   rw[List.take_length] at hE
   have hE':Hid _:=hE.is
   have HK:Hid _:=hK
   clear hE hg hn hK
   go_wp2_with (go_at_call 75;refine(CW.out _ _ hE'.out).mono ?_;rintro e w3 ⟨rfl,h3,k3⟩)
   go_end0
   exact⟨rfl,h3,HK.out.trans k3⟩
set_option maxHeartbeats 1000000 in
theorem gather_nil (h:LrIs B w l R) (s:ByteArray) (hs:R.T.size+s.size<=1000000) :
  Calls Tryz.prog 41 #[.pointer (some ⟨l,0,none⟩),.string s,.slice none 0 0] w fun e w'=>e=.returned (.tuple #[])/\LrIs B w' l {R with T:=R.T++s}/\Kp isL B w w':=by
 have CE:Hid (Calls Tryz.prog 42 #[.pointer (some ⟨l,0,none⟩)] w fun e w'=>e=.returned (.int .i64 ((R.T.size:Int)+1))/\w'=w):=End_any h (by omega)
 have CW:Hid (∀ wx,LrIs B wx l R->Calls Tryz.prog 75 #[.pointer (some ⟨l,5,none⟩),.string s] wx fun e w'=>e=.returned (.tuple #[.int .i64 s.size,.nilIface])/\LrIs B w' l {R with T:=R.T++s}/\Kp isL B wx w'):=fun wx h=>WriteString_log h s hs
 have H:Hid (LrIs B w l R):=h
 clear h hs
 generalize (R.T.size:Int)+1=E at *
 go_enter Tryz.func41,Tryz.ntmps41
 go_wp2_with (go_at_call 42;refine CE.out.mono ?_;rintro e w0 ⟨rfl,rfl⟩)
 go_loopw [13] (fun ix wr=>ix=.int .i64 0/\wr=w0) (fun _ _=>0)
 case atStart=>exact⟨rfl,rfl⟩
 case round =>
  obtain⟨rfl,rfl⟩:=hrel
  go_wp2_with (go_at_call 75;refine(CW.out _ H.out).mono ?_;rintro e w3 ⟨rfl,h3,k3⟩)
  go_end0
  exact⟨rfl,h3,k3⟩
theorem gather_any {w0:World} {v:Value} {st:List Int} (h:LrIs B w0 l R) (hb:Below w0.heap.size w0 w) (ho:OwnI w0.heap.size w v st) (s:ByteArray) (hs:R.T.size+s.size<=1000000) (hx:∀ x∈st,0<=x/\x<=1000000) (hlen:R.ps.length+st.length<=100000) :
  Calls Tryz.prog 41 #[.pointer (some ⟨l,0,none⟩),.string s,v] w fun e w'=>e=.returned (.tuple #[])/\LrIs B w' l {R with T:=R.T++s,ps:=R.ps++moved ((R.T.size:Int)+1) st}/\Kp isL B w w':=by
 obtain⟨pv,hE⟩:=h.e
 rcases ho.row.2 with⟨rfl,hn⟩ |⟨g,cap,cur,rfl,hbg,hgg,hnc,hcm,hcs,htake⟩
 ·have:st=[]:=List.eq_nil_of_length_eq_zero hn
  subst this
  refine(gather_nil (h.below hb) s hs).mono ?_
  rintro e w' ⟨he,h1,h2⟩
  refine⟨he,?_,h2⟩
  simpa[moved] using h1
 ·refine gather_some (hE.below hb) s hs g cap cur st hgg (fun i hi=>?_) (fun e=>?_) hx hlen
  ·have:(iv st)[i]?=some (.int .i64 st[i]):=by simp[iv,hi]
   rw[← htake,List.getElem?_take,if_pos (by omega)] at this
   simpa using this
  ·rcases hE.pl.row.2 with⟨rfl,_⟩ |⟨b,cap',cur',rfl,_,hgg',_⟩
   ·simp[Value.ownBlock] at e
   ·simp[Value.ownBlock] at e
    have:=lt_of_some hgg'
    omega
end
theorem cat_len {fs:List ByteArray} (h:∀ f∈fs,Frm f):fs.length*7<=(cat fs).size:=by
 induction fs with
 | nil=>exact Nat.le_refl _
 | cons f l ih =>
  have:=(h f (List.mem_cons_self ..)).pos
  have:=ih (fun g hg=>h g (List.mem_cons_of_mem _ hg))
  rw[cat,bsz,List.length_cons];omega
theorem plc0_snoc (l:List ByteArray) (f:ByteArray):plc 0 (l++[f])=plc 0 l++[((cat l).size:Int)]:=by
 rw[plc_snoc,Nat.zero_add]
set_option maxHeartbeats 2000000 in
theorem frames_any {w:World} (s:ByteArray) (hs:s.size<=500000):Calls Tryz.prog 40 #[.string s] w fun e w'=>∃ v fs,e=.returned (.tuple #[v,.int .i64 ((cat fs).size:Int)])/\OwnI w.heap.size w' v (plc 0 fs)/\Spl s fs/\Below w.heap.size w w':=by
 have hz:(s.size:Int)<=500000:=by omega
 go_enter Tryz.func40,Tryz.ntmps40
 go_wp2
 go_loopw [4,5] (fun sv at_ wr=>∃ fs:List ByteArray,(∀ f∈fs,Frm f)/\(∃ x,s=cat fs++x)/\at_=.int .i64 ((cat fs).size:Int)/\OwnI w.heap.size wr sv (plc 0 fs)/\Below w.heap.size w wr) (fun _ at_ _=>s.size-(intOf at_).toNat)
 case atStart=>exact⟨[],(fun f hf=>by cases hf),⟨s,(nil_app s).symm⟩,rfl,OwnI.nil _ _,Below.refl _ _⟩
 case round =>
  obtain⟨fs,hF,⟨x,hx⟩,rfl,hO,hb⟩:=hrel
  have hle:(cat fs).size<=s.size:=by rw[hx,bsz];omega
  have CO:Hid (∀ wx,Calls Tryz.prog 78 #[.string s,.int .i64 ((cat fs).size:Int)] wx fun e w'=>(∃ v,e=.returned (.tuple #[v,.int .i64 (openM s (cat fs).size).2.1,.int .i64 (openM s (cat fs).size).2.2])/\RecF w' v (openM s (cat fs).size).1 wx.heap.size)/\Below wx.heap.size wx w'):=fun wx=>Open_any s _ (by omega)
  have hcl:=cat_len hF
  have hpl:=plc_length 0 fs
  by_cases he:(openM s (cat fs).size).2.2=0
  ·obtain⟨f,hf,hk,hr,hfl,hfe⟩:=open_frm (s:=s) (a:=(cat fs).size) (r:=(openM s (cat fs).size).1) (k:=(openM s (cat fs).size).2.1) hle (by rw[← he])
   have HF:Hid (∀ g∈fs++[f],Frm g):=(fun g hg=>by
    rcases List.mem_append.1 hg with h |h
    ·exact hF g h
    ·rw[List.mem_singleton] at h;subst h;exact hf:∀ g∈fs++[f],Frm g)
   have hfx:f++s.extract ((cat fs).size+f.size) s.size=x:=by
    have e1:s.extract (cat fs).size s.size=x:=by rw[hx];exact ext_right _ _
    rw[← e1,← ext_join s (a:=(cat fs).size) (b:=(cat fs).size+f.size) (c:=s.size) (by omega) hfl,hfe]
   have HX:Hid (∃ y,s=cat (fs++[f])++y):=(⟨s.extract ((cat fs).size+f.size) s.size,by rw[cat_snoc,ByteArray.append_assoc,hfx];exact hx⟩:∃ y,s=cat (fs++[f])++y)
   have hfp:=hf.pos
   have hcs:Hid ((cat (fs++[f])).size=(cat fs).size+f.size):=(by rw[cat_snoc,bsz]:(cat (fs++[f])).size=(cat fs).size+f.size)
   rw[he,hk] at CO
   have HP:Hid (plc 0 (fs++[f])=plc 0 fs++[((cat fs).size:Int)]):=plc0_snoc fs f
   have hl2:(plc 0 fs).length<=100000:=by omega
   have HB:Hid (Below w.heap.size w wr):=hb
   have hc0:(0:Int)<=((cat fs).size:Int):=by omega
   have hc1:((cat fs).size:Int)+(f.size:Int)<=500000:=by omega
   have hf0:(0:Int)<=(f.size:Int):=by omega
   have HM:Hid (s.size-((cat fs).size+f.size)<s.size-(cat fs).size):=(by omega:s.size-((cat fs).size+f.size)<s.size-(cat fs).size)
   obtain⟨ao,co,rfl⟩:=hO.ex
   have HO:Hid _:=hO
   clear hF hx hle hk hr hfl hfe hfx hb hcl hpl hf he hO hfp
   generalize (openM s (cat fs).size).1=M at *
   obtain⟨s9,l9,g9⟩:=M
   generalize plc 0 fs=P at *
   generalize hC:((cat fs).size:Int)=C at *
   have HC:Hid _:=hC
   clear hC
   generalize hFf:(f.size:Int)=Z at *
   have HZ:Hid _:=hFf
   clear hFf
   have hw1:IntKind.i64.wrap (C+Z)=C+Z:=by rw[IntKind.wrap_i64];omega
   go_wp2_with (first
    | (go_at_call 78;refine(CO.out _).mono ?_;rintro e w1 ⟨⟨v,rfl,hv⟩,b1⟩;obtain⟨I,T,rfl,hI,hT⟩:=hv.ex;dsimp only at hI hT)
    | (refine wpList_new_rc _ rfl rfl ?_;intro w2 b6 N2)
    | (refine wpList_put_rc (s':=s9) (I':=I) (T':=T) _ rfl (.tmp 6) (.tmp 13) rfl rfl rfl N2.rc hI.slI.one hT.slT.one ?_;intro w3 P3;have b3:Below w1.heap.size w1 w3:=N2.below.trans (P3.below (by have:=N2.eq;omega) N2.below.size);have HO3:=(HO.out.below b1).below b3;have HB3:Hid (Below w.heap.size w w3):=(thn (thn HB.out b1) b3);clear N2 P3 b3 hI hT hv b1 HO;have bA:Below w3.heap.size w3 (w3.alloc (.cells #[.int .i64 C] 3)):=(Below.refl _ _).alloc (Nat.le_refl _) _;have HOA:Hid _:=HO3.below bA;have HBA:Hid _:=thn HB3.out bA;have cA:(w3.alloc (.cells #[.int .i64 C] 3)).cell? ⟨w3.heap.size,0,none⟩=some (.int .i64 C):=cell_new1 w3 _ 3;clear bA HO3)
    | (at_builtin;refine wpList_append_int (B:=w.heap.size) rfl (.tmp 20) (.tmp 22) rfl rfl HOA.out rfl cA HBA.out.size hl2 ?_;intro v' w4 hO4 hb4))
   go_roundw
   case rel =>
    refine⟨fs++[f],HF.out,HX.out,?_,?_,HBA.out.trans hb4⟩
    ·rw[hcs.out]
     have:=HC.out
     have:=HZ.out
     congr 1
     omega
    ·rw[HP.out];exact hO4
   case measure =>
    have:=HC.out
    have:=HZ.out
    have:=HM.out
    simp[intOf]
    omega
  ·have he':((openM s (cat fs).size).2.2 !=0)=true:=by simpa using he
   have HS:Hid (Spl s fs):=⟨hF,⟨x,hx⟩,he⟩
   obtain⟨ao,co,rfl⟩:=hO.ex
   have HO:Hid (OwnI w.heap.size wr (.slice ao (plc 0 fs).length co) (plc 0 fs)):=hO
   have HB:Hid (Below w.heap.size w wr):=hb
   clear hF hx hle hO hb hcl hpl he
   generalize (openM s (cat fs).size).1=M at *
   generalize (openM s (cat fs).size).2.1=K1 at *
   generalize (openM s (cat fs).size).2.2=K2 at *
   obtain⟨s9,l9,g9⟩:=M
   generalize hC:((cat fs).size:Int)=C at *
   have HC:Hid _:=hC
   clear hC
   generalize hP:(plc 0 fs).length=PL at *
   clear hP
   go_wp2_with (first
    | (go_at_call 78;refine(CO.out _).mono ?_;rintro e w1 ⟨⟨v,rfl,hv⟩,b1⟩;obtain⟨I,T,rfl,hI,hT⟩:=hv.ex;dsimp only at hI hT)
    | (refine wpList_new_rc _ rfl rfl ?_;intro w2 b6 N2)
    | (refine wpList_put_rc (s':=s9) (I':=I) (T':=T) _ rfl (.tmp 6) (.tmp 13) rfl rfl rfl N2.rc hI.slI.one hT.slT.one ?_;intro w3 P3;have b3:Below w1.heap.size w1 w3:=N2.below.trans (P3.below (by have:=N2.eq;omega) N2.below.size);have HO3:=(HO.out.below b1).below b3;have HB3:Hid (Below w.heap.size w w3):=(thn (thn HB.out b1) b3)))
   go_ret2
   refine⟨_,fs,?_,HO3,HS.out,HB3.out⟩
   rw[HC.out];rfl
end Go.Proofs.YtkcpclmkbmeigaaGreat
