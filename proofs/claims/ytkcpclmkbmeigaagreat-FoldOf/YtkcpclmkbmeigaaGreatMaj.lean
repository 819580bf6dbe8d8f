import Derived.Test.YtkcpclmkbmeigaaGreatMai
import Derived.Deep.RegionHeld3
import Derived.WalkKit
import Derived.Test.YtkcpclmkbmeigaaGreatProg
import Derived.ProofKit
import Derived.WalkSpells
import Derived.WalkLawsBesides
import Derived.Deep.QuietTactic
import Derived.BigQuiet
set_option linter.unusedVariables false
set_option linter.unusedSimpArgs false
set_option maxRecDepth 100000
namespace Go.Proofs.YtkcpclmkbmeigaaGreat
open Go.RowKit
theorem whole_take_succ {l:List Im} {i:Nat} (hi:i<l.length):whole (l.take (i+1))=(whole (l.take i)&&decide (l[i].2.size=224)):=by
 rw[List.take_succ_eq_append_getElem hi];simp only[whole,List.all_append,List.all_cons,List.all_nil,Bool.and_true]
theorem whole_false {l:List Im} {i:Nat} (hi:i<l.length) (h:¬ l[i].2.size=224):whole l=false:=by
 unfold whole
 rw[List.all_eq_false]
 exact⟨l[i],List.getElem_mem hi,by simpa using h⟩
set_option maxHeartbeats 400000 in
theorem areWhole_any {w:World} {a:Option Addr} {n c:Nat} (l:List Im) (hl:l.length=n) (hn:n<=10000000000000) (hcs:Cs w a (encI l)) (ht:∀ p∈l,p.2.size<=9223372036854775807) :
  Calls Tryz.prog 195 #[.slice a n c] w fun r w'=>r=.returned (.bool (whole l))/\Below w.heap.size w w':=by
 go_enter Tryz.func195,Tryz.ntmps195
 go_wp2
 go_loopw [7] (fun ix wr=>∃ i:Nat,i<=n/\ix=.int .i64 (i:Int)/\whole (l.take i)=true/\Below w.heap.size w wr) (fun ix _=>n-(intOf ix).toNat)
 case atStart=>exact⟨0,Nat.zero_le _,rfl,rfl,Below.refl _ _⟩
 case round =>
  obtain⟨i,hi,rfl,hw,hb⟩:=hrel
  by_cases hlt:i<n
  ·obtain⟨b',off,rfl,hb',HC⟩:=csI_at hcs (i:=i) (by omega)
   obtain⟨q0,q1⟩:=HC wr hb
   have hz:=ht (l[i]'(by omega)) (List.getElem_mem _)
   have hi2:(i:Int)<(n:Int):=by omega
   have HS:Hid _:=whole_take_succ (l:=l) (i:=i) (by omega)
   have HF:Hid _:=whole_false (l:=l) (i:=i) (by omega)
   have HW:Hid (whole (l.take i)=true):=hw
   have HB:Hid (Below w.heap.size w wr):=hb
   clear HC hcs ht hw hb
   generalize l[i]'(by omega)=p at *
   obtain⟨p,t⟩:=p
   dsimp only at q0 q1 hz HS HF
   by_cases h2:t.size=224
   ·have e:((t.size:Int) !=224)=false:=by simp[h2]
    go_wp2
    go_roundw
    case rel =>
     refine⟨i+1,by omega,by go_num,?_,HB.out.alloc HB.out.size _⟩
     rw[HS.out,HW.out];simp[h2]
    case measure=>simp[intOf];omega
   ·have e:((t.size:Int) !=224)=true:=by simp;omega
    go_wp2
    go_ret
    rw[HF.out h2]
    exact⟨rfl,HB.out.alloc HB.out.size _⟩
  ·have hin:i=n:=by omega
   subst hin
   have hi2:¬ (i:Int)<(i:Int):=by omega
   go_wp2
   go_ret
   rw[List.take_of_length_le (by omega)] at hw
   rw[hw]
   exact⟨rfl,hb⟩
theorem tooLong_1 {w:World} {g:Nat} {t:ByteArray} (m:Int) (hg:w.cell? ⟨g,0,none⟩=some (.string t)) (ht:t.size<=9223372036854775807) :
  Calls Tryz.prog 167 #[.int .i64 m,.slice (some ⟨g,0,none⟩) 1 1] w fun r w'=>r=.returned (.bool (decide (m<t.size)))/\w'=w:=by
 by_cases h:m<(t.size:Int)
 ·go_enter Tryz.func167,Tryz.ntmps167
  go_wp2
  refine wp_loop_rounds 2 ?_
  rw[rounds_succ]
  go_wp2
  go_ret
  exact⟨by simp[h],rfl⟩
 ·go_enter Tryz.func167,Tryz.ntmps167
  go_wp2
  refine wp_loop_rounds 2 ?_
  rw[rounds_succ]
  go_wp2
  rw[rounds_succ]
  go_wp2
  go_ret
  exact⟨by simp[h],rfl⟩
theorem tooLong_2 {w:World} {g:Nat} {t u:ByteArray} (m:Int) (hg:w.cell? ⟨g,0,none⟩=some (.string t)) (hg':w.cell? ⟨g,1,none⟩=some (.string u)) (ht:t.size<=9223372036854775807) (hu:u.size<=9223372036854775807) :
  Calls Tryz.prog 167 #[.int .i64 m,.slice (some ⟨g,0,none⟩) 2 2] w fun r w'=>r=.returned (.bool (decide (m<t.size)||decide (m<u.size)))/\w'=w:=by
 by_cases h:m<(t.size:Int)
 ·go_enter Tryz.func167,Tryz.ntmps167
  go_wp2
  refine wp_loop_rounds 3 ?_
  rw[rounds_succ]
  go_wp2
  go_ret
  exact⟨by simp[h],rfl⟩
 ·by_cases h2:m<(u.size:Int)
  ·go_enter Tryz.func167,Tryz.ntmps167
   go_wp2
   refine wp_loop_rounds 3 ?_
   rw[rounds_succ]
   go_wp2
   rw[rounds_succ]
   go_wp2
   go_ret
   exact⟨by simp[h2],rfl⟩
  ·go_enter Tryz.func167,Tryz.ntmps167
   go_wp2
   refine wp_loop_rounds 3 ?_
   rw[rounds_succ]
   go_wp2
   rw[rounds_succ]
   go_wp2
   rw[rounds_succ]
   go_wp2
   go_ret
   exact⟨by simp[h,h2],rfl⟩
section
variable {w:World}{s:Sc}{T:Value}{a:Option Addr}{c:Nat}{l:List Im}{g:List Tb}
set_option maxHeartbeats 400000 in
theorem isFormed_any (hn:l.length<=10000000000000) (hcs:Cs w a (encI l)) (ht:∀ p∈l,p.2.size<=9223372036854775807) :
  Calls Tryz.prog 166 #[.agg (s.A (.slice a l.length c) T)] w fun r w'=>r=.returned (.bool (formed ⟨s,l,g⟩))/\Below w.heap.size w w':=by
 have CW:Hid (∀ w',Below w.heap.size w w'->Calls Tryz.prog 195 #[.slice a l.length c] w' fun r w''=>r=.returned (.bool (whole l))/\Below w'.heap.size w' w''):=fun w' hb=>areWhole_any l rfl hn (hcs.below hb) ht
 clear hcs ht
 unfold formed
 dsimp only
 by_cases h1:s.kd=1
 ·rw[if_pos h1]
  have e1:(s.kd==1)=true:=by simpa using h1
  by_cases hl:l.length=1
  ·have e2:((l.length:Int)==1)=true:=by simp[hl]
   have hd:decide (l.length=1)=true:=by simpa using hl
   rw[hd,Bool.true_and]
   generalize whole l=q at *
   clear h1 hl hd
   go_enter Tryz.func166,Tryz.ntmps166
   go_wp2_with (first
    | (refine wpList_box_rc (s:=s) (I:=_) (T:=_) _ rfl _ rfl rfl ?_;intro w0 b0 N0;have k0:=N0.rc.c0;have k9:=N0.rc.c9)
    | (go_at_call 195;refine(CW.out _ N0.below).mono ?_;rintro e w1 ⟨rfl,b1⟩))
   go_ret
   exact⟨rfl,thn N0.below b1⟩
  ·have e2:((l.length:Int)==1)=false:=by simp;omega
   have hd:decide (l.length=1)=false:=by simpa using hl
   rw[hd,Bool.false_and]
   clear h1 hl hd
   go_enter Tryz.func166,Tryz.ntmps166
   go_wp2_with (refine wpList_box_rc (s:=s) (I:=_) (T:=_) _ rfl _ rfl rfl ?_;intro w0 b0 N0;have k0:=N0.rc.c0;have k9:=N0.rc.c9)
   go_ret
   exact⟨rfl,N0.below⟩
 ·rw[if_neg h1]
  have e1:(s.kd==1)=false:=by simpa using h1
  by_cases h2:s.kd=2
  ·rw[if_pos h2]
   have e2:(s.kd==2)=true:=by simpa using h2
   generalize whole l=q at *
   clear h1 h2
   go_enter Tryz.func166,Tryz.ntmps166
   go_wp2_with (first
    | (refine wpList_box_rc (s:=s) (I:=_) (T:=_) _ rfl _ rfl rfl ?_;intro w0 b0 N0;have k0:=N0.rc.c0;have k9:=N0.rc.c9)
    | (go_at_call 195;refine(CW.out _ N0.below).mono ?_;rintro e w1 ⟨rfl,b1⟩))
   go_ret
   exact⟨rfl,thn N0.below b1⟩
  ·rw[if_neg h2]
   have e2:(s.kd==2)=false:=by simpa using h2
   by_cases h6:s.kd=6
   ·rw[if_pos h6]
    have e6:(s.kd==6)=true:=by simpa using h6
    clear h1 h2 h6
    by_cases a3:s.ac=3
    ·have f3:(s.ac==3)=true:=by simpa using a3
     have hd:decide (s.ac=3∨s.ac=4∨s.ac=5)=true:=by simp[a3]
     rw[hd]
     clear a3 hd
     go_enter Tryz.func166,Tryz.ntmps166
     go_wp2_with (refine wpList_box_rc (s:=s) (I:=_) (T:=_) _ rfl _ rfl rfl ?_;intro w0 b0 N0;have k0:=N0.rc.c0;have k4:=N0.rc.c4)
     go_ret
     exact⟨rfl,N0.below⟩
    ·have f3:(s.ac==3)=false:=by simpa using a3
     by_cases a4:s.ac=4
     ·have f4:(s.ac==4)=true:=by simpa using a4
      have hd:decide (s.ac=3∨s.ac=4∨s.ac=5)=true:=by simp[a4]
      rw[hd]
      clear a3 a4 hd
      go_enter Tryz.func166,Tryz.ntmps166
      go_wp2_with (refine wpList_box_rc (s:=s) (I:=_) (T:=_) _ rfl _ rfl rfl ?_;intro w0 b0 N0;have k0:=N0.rc.c0;have k4:=N0.rc.c4)
      go_ret
      exact⟨rfl,N0.below⟩
     ·have f4:(s.ac==4)=false:=by simpa using a4
      have hd:decide (s.ac=3∨s.ac=4∨s.ac=5)=(s.ac==5):=by by_cases a5:s.ac=5 <;> simp[a3,a4,a5]
      rw[hd]
      clear a3 a4 hd
      generalize hq:(s.ac==5)=q at *
      go_enter Tryz.func166,Tryz.ntmps166
      go_wp2_with (refine wpList_box_rc (s:=s) (I:=_) (T:=_) _ rfl _ rfl rfl ?_;intro w0 b0 N0;have k0:=N0.rc.c0;have k4:=N0.rc.c4)
      go_ret
      exact⟨rfl,N0.below⟩
   ·rw[if_neg h6]
    have e6:(s.kd==6)=false:=by simpa using h6
    clear h1 h2 h6
    go_enter Tryz.func166,Tryz.ntmps166
    go_wp2_with (refine wpList_box_rc (s:=s) (I:=_) (T:=_) _ rfl _ rfl rfl ?_;intro w0 b0 N0;have k0:=N0.rc.c0;have k4:=N0.rc.c4)
    go_ret
    exact⟨rfl,N0.below⟩
end
section
variable {w:World}{s:Sc}{T:Value}{a:Option Addr}{c:Nat}{l:List Im}{g:List Tb}
set_option maxHeartbeats 1000000 in
theorem refusalR_any (hn:l.length<=10000000000000) (hcs:Cs w a (encI l)) (ht:∀ p∈l,p.2.size<=9223372036854775807) (hk:s.ky.size<=9223372036854775807) (ho:s.ol.size<=9223372036854775807) (hw:s.nw.size<=9223372036854775807) :
  Calls Tryz.prog 138 #[.agg (s.A (.slice a l.length c) T)] w fun r w'=>r=.returned (.int .i64 (refM ⟨s,l,g⟩))/\Below w.heap.size w w':=by
 have CF:Hid (∀ w',Below w.heap.size w w'->Calls Tryz.prog 166 #[.agg (s.A (.slice a l.length c) T)] w' fun r w''=>r=.returned (.bool (formed ⟨s,l,g⟩))/\Below w'.heap.size w' w''):=fun w' hb=>isFormed_any hn (hcs.below hb) ht
 clear hcs ht
 unfold refM
 dsimp only
 by_cases h1:s.kd<1
 ·rw[if_pos (Or.inl h1)]
  go_enter Tryz.func138,Tryz.ntmps138
  go_wp2_with (refine wpList_box_rc (s:=s) (I:=_) (T:=_) _ rfl _ rfl rfl ?_;intro w0 b0 N0;have k0:=N0.rc.c0)
  go_ret
  exact⟨rfl,N0.below⟩
 by_cases h2:10<s.kd
 ·rw[if_pos (Or.inr h2)]
  go_enter Tryz.func138,Tryz.ntmps138
  go_wp2_with (refine wpList_box_rc (s:=s) (I:=_) (T:=_) _ rfl _ rfl rfl ?_;intro w0 b0 N0;have k0:=N0.rc.c0)
  go_ret
  exact⟨rfl,N0.below⟩
 rw[if_neg (by omega)]
 by_cases h3:formed ⟨s,l,g⟩=false
 ·rw[if_pos h3]
  rw[h3] at CF
  go_enter Tryz.func138,Tryz.ntmps138
  go_wp2_with (first
   | (refine wpList_box_rc (s:=s) (I:=_) (T:=_) _ rfl _ rfl rfl ?_;intro w0 b0 N0;have k0:=N0.rc.c0)
   | (refine wpList_load_rc _ rfl _ rfl rfl N0.rc ?_)
   | (go_at_call 166;refine(CF.out _ N0.below).mono ?_;rintro e w1 ⟨rfl,b1⟩))
  go_ret
  exact⟨rfl,thn N0.below b1⟩
 rw[if_neg h3]
 have h3':formed ⟨s,l,g⟩=true:=by simpa using h3
 rw[h3'] at CF
 clear h3 h3'
 obtain⟨K,hK⟩:∃ K,K=decide ((16:Int)<s.ky.size):=⟨_,rfl⟩
 obtain⟨V,hV⟩:∃ V,V=(decide ((32:Int)<s.ol.size)||decide ((32:Int)<s.nw.size)):=⟨_,rfl⟩
 have C1:Hid (∀ w1:World,Calls Tryz.prog 167 #[.int .i64 16,.slice (some ⟨w1.heap.size,0,none⟩) 1 1] (w1.alloc (.cells #[.string s.ky] 9)) fun r w'=>r=.returned (.bool K)/\w'=w1.alloc (.cells #[.string s.ky] 9)):=fun w1=>by
  rw[hK]
  exact tooLong_1 16 (Joins.cell_of_block (MapKept.heap_alloc w1 _).1 0) hk
 have C2:Hid (∀ w1:World,Calls Tryz.prog 167 #[.int .i64 32,.slice (some ⟨w1.heap.size+1,0,none⟩) 2 2] ((w1.alloc (.cells #[.string s.ky] 9)).alloc (.cells #[.string s.ol,.string s.nw] 9)) fun r w'=>r=.returned (.bool V)/\w'=(w1.alloc (.cells #[.string s.ky] 9)).alloc (.cells #[.string s.ol,.string s.nw] 9)):=fun w1=>by
  rw[hV]
  have hz:(w1.alloc (.cells #[.string s.ky] 9)).heap.size=w1.heap.size+1:=by simp
  have hb:=(MapKept.heap_alloc (w1.alloc (.cells #[.string s.ky] 9)) (.cells #[.string s.ol,.string s.nw] 9)).1
  rw[hz] at hb
  exact tooLong_2 32 (Joins.cell_of_block hb 0) (Joins.cell_of_block hb 1) ho hw
 by_cases h4:16<s.ky.size
 ·rw[if_pos h4]
  have hK':K=true:=by rw[hK];simp;omega
  subst hK'
  clear hK hV C2 h4 hk ho hw
  go_enter Tryz.func138,Tryz.ntmps138
  go_wp2_with (first
   | (refine wpList_box_rc (s:=s) (I:=_) (T:=_) _ rfl _ rfl rfl ?_;intro w0 b0 N0;have k0:=N0.rc.c0)
   | (refine wpList_load_rc _ rfl _ rfl rfl N0.rc ?_)
   | (go_at_call 166;refine(CF.out _ N0.below).mono ?_;rintro e w1 ⟨rfl,b1⟩;have k5:=(N0.rc.below b1).c5)
   | (go_at_call 167;refine(C1.out _).mono ?_;rintro e w2 ⟨rfl,rfl⟩))
  go_ret
  exact⟨rfl,thn (thn N0.below b1) ((Below.refl _ _).alloc (Nat.le_refl _) _)⟩
 rw[if_neg h4]
 have hK':K=false:=by rw[hK];simp;omega
 subst hK'
 by_cases h5:32<s.ol.size∨32<s.nw.size
 ·rw[if_pos h5]
  have hV':V=true:=by rw[hV];simp;omega
  subst hV'
  clear hK hV h4 h5 hk ho hw
  go_enter Tryz.func138,Tryz.ntmps138
  go_wp2_with (first
   | (refine wpList_box_rc (s:=s) (I:=_) (T:=_) _ rfl _ rfl rfl ?_;intro w0 b0 N0;have k0:=N0.rc.c0)
   | (refine wpList_load_rc _ rfl _ rfl rfl N0.rc ?_)
   | (go_at_call 166;refine(CF.out _ N0.below).mono ?_;rintro e w1 ⟨rfl,b1⟩;have k5:=(N0.rc.below b1).c5;have k6:=(N0.rc.below b1).c6;have k7:=(N0.rc.below b1).c7;have hlt:=(N0.rc.below b1).lt)
   | (go_at_call 167;refine(C1.out _).mono ?_;clear C1;rintro e w2 ⟨rfl,rfl⟩;have B2:Below w1.heap.size w1 (w1.alloc (.cells #[.string s.ky] 9)):=(Below.refl _ _).alloc (Nat.le_refl _) _)
   | (go_at_call 167;refine(C2.out _).mono ?_;clear C2;rintro e w3 ⟨rfl,rfl⟩))
  go_ret
  exact⟨rfl,thn (thn (thn N0.below b1) B2) ((Below.refl _ _).alloc (Nat.le_refl _) _)⟩
 ·rw[if_neg h5]
  have hV':V=false:=by rw[hV];simp;omega
  subst hV'
  clear hK hV h4 h5 hk ho hw
  go_enter Tryz.func138,Tryz.ntmps138
  go_wp2_with (first
   | (refine wpList_box_rc (s:=s) (I:=_) (T:=_) _ rfl _ rfl rfl ?_;intro w0 b0 N0;have k0:=N0.rc.c0)
   | (refine wpList_load_rc _ rfl _ rfl rfl N0.rc ?_)
   | (go_at_call 166;refine(CF.out _ N0.below).mono ?_;rintro e w1 ⟨rfl,b1⟩;have k5:=(N0.rc.below b1).c5;have k6:=(N0.rc.below b1).c6;have k7:=(N0.rc.below b1).c7;have hlt:=(N0.rc.below b1).lt)
   | (go_at_call 167;refine(C1.out _).mono ?_;clear C1;rintro e w2 ⟨rfl,rfl⟩;have B2:Below w1.heap.size w1 (w1.alloc (.cells #[.string s.ky] 9)):=(Below.refl _ _).alloc (Nat.le_refl _) _)
   | (go_at_call 167;refine(C2.out _).mono ?_;clear C2;rintro e w3 ⟨rfl,rfl⟩))
  go_ret
  exact⟨rfl,thn (thn (thn N0.below b1) B2) ((Below.refl _ _).alloc (Nat.le_refl _) _)⟩
end
end Go.Proofs.YtkcpclmkbmeigaaGreat
namespace Go.Proofs.YtkcpclmkbmeigaaGreat.Sm
abbrev R:=BitVec 32
def taps:R:=0x82f63b78#32
def st (c:R):R:=if c.getLsbD 0 then(c >>> 1) ^^^ taps else c >>> 1
def stn:Nat->R->R
 | 0,c=>c
 | n+1,c=>stn n (st c)
theorem st_xor (a b:R):st (a ^^^ b)=st a ^^^ st b:=by
 unfold st
 rw[BitVec.getLsbD_xor,BitVec.ushiftRight_xor_distrib]
 cases a.getLsbD 0 <;> cases b.getLsbD 0 <;> simp
 ·rw[BitVec.xor_assoc]
 ·rw[BitVec.xor_assoc,BitVec.xor_assoc]
  congr 1
  rw[BitVec.xor_comm]
 ·have:a >>> 1 ^^^ taps ^^^ (b >>> 1 ^^^ taps)=a >>> 1 ^^^ b >>> 1 ^^^ (taps ^^^ taps):=by
   simp only[BitVec.xor_assoc]
   congr 1
   rw[← BitVec.xor_assoc,BitVec.xor_comm taps,BitVec.xor_assoc]
  rw[this,BitVec.xor_self]
  simp
theorem stn_add (m n:Nat) (c:R):stn (m+n) c=stn n (stn m c):=by
 induction m generalizing c with
 | zero=>simp[stn]
 | succ m ih=>rw[Nat.succ_add];exact ih (st c)
theorem stn_succ (n:Nat) (c:R):stn (n+1) c=st (stn n c):=by rw[stn_add];rfl
theorem stn_xor (n:Nat) (a b:R):stn n (a ^^^ b)=stn n a ^^^ stn n b:=by
 induction n generalizing a b with
 | zero=>rfl
 | succ n ih=>show stn n (st (a ^^^ b))=_;rw[st_xor,ih];rfl
theorem four_steps (c:R):stn 4 c=(c >>> 4) ^^^ stn 4 (c &&& 15#32):=by
 have e:c=((c >>> 4) <<< 4) ^^^ (c &&& 15#32):=by
  apply BitVec.eq_of_getLsbD_eq
  intro i hi
  have h15:(15#32:R).getLsbD i=decide (i<4):=by
   have:∀ j:Fin 32,(15#32:R).getLsbD j.val=decide (j.val<4):=by decide
   exact this ⟨i,hi⟩
  by_cases h:i<4
  ·simp[h,h15]
  ·simp only[BitVec.getLsbD_xor,BitVec.getLsbD_and,BitVec.getLsbD_shiftLeft,BitVec.getLsbD_ushiftRight,h15,h,hi,decide_true,decide_false,Bool.not_false,Bool.true_and,Bool.and_false,Bool.bne_false]
   rw[show 4+(i-4)=i by omega]
 have e2:stn 4 ((c >>> 4) <<< 4)=c >>> 4:=by
  have s:∀ z:R,z.getLsbD 0=false->st z=z >>> 1:=by
   intro z hz
   unfold st
   rw[hz]
   rfl
  show st (st (st (st ((c >>> 4) <<< 4))))=_
  have s1:st ((c >>> 4) <<< 4)=((c >>> 4) <<< 4) >>> 1:=s _ (by simp)
  have s2:st (((c >>> 4) <<< 4) >>> 1)=((c >>> 4) <<< 4) >>> 1 >>> 1:=s _ (by simp)
  have s3:st (((c >>> 4) <<< 4) >>> 1 >>> 1)=((c >>> 4) <<< 4) >>> 1 >>> 1 >>> 1:=s _ (by simp)
  have s4:st (((c >>> 4) <<< 4) >>> 1 >>> 1 >>> 1)=((c >>> 4) <<< 4) >>> 1 >>> 1 >>> 1 >>> 1:=s _ (by simp)
  rw[s1,s2,s3,s4]
  apply BitVec.eq_of_getLsbD_eq
  intro i hi
  simp only[BitVec.getLsbD_ushiftRight,BitVec.getLsbD_shiftLeft]
  have e5:¬ (1+(1+(1+(1+i)))<4):=by omega
  have e6:4+(1+(1+(1+(1+i)))-4)=4+i:=by omega
  rw[e6]
  by_cases h:1+(1+(1+(1+i)))<32
  ·simp only[h,e5,decide_true,decide_false,Bool.not_false,Bool.true_and]
  ·have:32<=4+i:=by omega
   rw[BitVec.getLsbD_of_ge c (4+i) this,Bool.and_false]
 conv=>lhs;rw[e]
 rw[stn_xor,e2]
def ofB (b:UInt8):R:=BitVec.ofNat 32 b.toNat
def runB:R->List UInt8->R
 | c,[]=>c
 | c,b :: l=>runB (stn 8 (c ^^^ ofB b)) l
theorem runB_append (c:R) (l m:List UInt8):runB c (l++m)=runB (runB c l) m:=by
 induction l generalizing c with
 | nil=>rfl
 | cons b l ih=>exact ih _
def ones:R:=0xffffffff#32
def sumB (l:List UInt8):R:=runB ones l ^^^ ones
def moreB (c:R) (l:List UInt8):R:=runB (c ^^^ ones) l ^^^ ones
theorem more_zero (t:List UInt8):moreB 0#32 t=sumB t:=by
 unfold moreB sumB
 simp
open Go.RowKit
def vI (c:R):Int:=c.toNat
theorem vI_nonneg (c:R):0<=vI c:=Int.natCast_nonneg _
theorem vI_lt (c:R):vI c<4294967296:=by unfold vI;have:=c.isLt;omega
theorem ofInt_vI (c:R):BitVec.ofInt 32 (vI c)=c:=by unfold vI;rw[BitVec.ofInt_natCast,BitVec.ofNat_toNat];simp
theorem vI_lit (n:Nat) (h:n<4294967296):vI (BitVec.ofNat 32 n)=n:=by unfold vI;rw[BitVec.toNat_ofNat];omega
theorem xor32 (a b:R):bits .xor .u32 (vI a) (vI b)=vI (a ^^^ b):=by
 show IntKind.u32.wrap ((BitVec.ofInt 32 (vI a) ^^^ BitVec.ofInt 32 (vI b)).toNat:Int)=_
 rw[ofInt_vI,ofInt_vI,IntKind.wrap_u32]
 have:=vI_lt (a ^^^ b)
 have:=vI_nonneg (a ^^^ b)
 unfold vI at *
 omega
theorem and32 (a b:R):bits .and .u32 (vI a) (vI b)=vI (a &&& b):=by
 show IntKind.u32.wrap ((BitVec.ofInt 32 (vI a) &&& BitVec.ofInt 32 (vI b)).toNat:Int)=_
 rw[ofInt_vI,ofInt_vI,IntKind.wrap_u32]
 have:=vI_lt (a &&& b)
 have:=vI_nonneg (a &&& b)
 unfold vI at *
 omega
theorem shr32 (c:R):vI c / (2:Int)=vI (c >>> 1):=by unfold vI;rw[BitVec.toNat_ushiftRight,Nat.shiftRight_eq_div_pow];omega
theorem shr32_4 (c:R):vI c / (16:Int)=vI (c >>> 4):=by unfold vI;rw[BitVec.toNat_ushiftRight,Nat.shiftRight_eq_div_pow];omega
theorem and_one (c:R):c &&& 1#32=if c.getLsbD 0 then 1#32 else 0#32:=by
 apply BitVec.eq_of_getLsbD_eq
 intro i hi
 rw[BitVec.getLsbD_and,BitVec.getLsbD_one]
 by_cases h:i=0
 ·subst h
  cases c.getLsbD 0 <;> simp
 ·simp only[h,decide_false,Bool.and_false]
  split
  ·rw[BitVec.getLsbD_one];simp[h]
  ·simp
theorem odd_test (c:R) (h:c.getLsbD 0=true):(bits .and .u32 (vI c) 1==0)=false:=by
 have:(1:Int)=vI 1#32:=rfl
 rw[this,and32,and_one,h]
 rfl
theorem even_test (c:R) (h:c.getLsbD 0=false):(bits .and .u32 (vI c) 1==0)=true:=by
 have:(1:Int)=vI 1#32:=rfl
 rw[this,and32,and_one,h]
 rfl
theorem shift_any (c:R) (w:World) :
  Calls Tryz.prog 205 #[.int .u32 (vI c)] w fun e w'=>e=.returned (.int .u32 (vI (st c)))/\w'=w:=by
 cases h:c.getLsbD 0
 ·have h1:=even_test c h
  have e1:Hid _:=shr32 c
  have e2:Hid (st c=c >>> 1):=by show st c=_;unfold st;rw[h];rfl
  clear h
  go_enter Tryz.func205,Tryz.ntmps205
  go_wp2
  go_ret
  rw[e1.out,e2.out]
  exact⟨rfl,rfl⟩
 ·have h1:=odd_test c h
  have e1:Hid _:=shr32 c
  have e2:Hid (st c=c >>> 1 ^^^ taps):=by show st c=_;unfold st;rw[h];rfl
  have e3:Hid _:=xor32 (c >>> 1) taps
  clear h
  go_enter Tryz.func205,Tryz.ntmps205
  go_wp2
  go_ret
  rw[e1.out,e2.out,← e3.out]
  exact⟨rfl,rfl⟩
theorem wrap64_vI (c:R):wrap64 (vI c)=vI c:=by
 have h1:=vI_nonneg c
 have h2:=vI_lt c
 unfold wrap64
 omega
end Go.Proofs.YtkcpclmkbmeigaaGreat.Sm
