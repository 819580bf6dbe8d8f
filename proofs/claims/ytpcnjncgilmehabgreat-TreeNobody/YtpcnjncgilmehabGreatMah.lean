import Derived.Test.YtpcnjncgilmehabGreatMag
import Derived.Test.YtpcnjncgilmehabGreatMae
import Derived.Deep.RegionHeld3
set_option linter.unusedVariables false
set_option linter.unusedSimpArgs false
set_option maxRecDepth 100000
namespace Go.Proofs.YtpcnjncgilmehabGreat
open Go.RowKit
structure LdS (w wx:World) (b0 b:Nat) (s:Sc) (I T:Value) (A:ByteArray × Int) (j:Nat):Prop where
 rc:RcAt wx b0 s I T
 wS:WrS wx b A j
 ne:b0≠b
 off:Pk.Off b w wx
section
variable {w wr wq:World}{b0 b j j':Nat}{s:Sc}{I T:Value}{A A':ByteArray × Int}
theorem LdS.step (h:LdS w wr b0 b s I T A j) (h':WrS wq b A' j') (o:Pk.Off b wr wq):LdS w wq b0 b s I T A' j':=⟨h.rc.off o h.ne,h',h.ne,h.off.trans o⟩
theorem LdS.below (h:LdS w wr b0 b s I T A j) (hb:Below wr.heap.size wr wq):LdS w wq b0 b s I T A j:=⟨h.rc.below hb,h.wS.below hb,h.ne,h.off.trans (Pk.Off.of_below hb)⟩
theorem LdS.num (h:LdS w wr b0 b s I T A j) (hj:j<=1000000000000) (n k:Int):Calls Tryz.prog 206 #[.pointer (some ⟨b,0,none⟩),.int .i64 n,.int .i64 k] wr fun r w'=>r=.returned (.tuple #[])/\LdS w w' b0 b s I T (stepW A n k) (j+6) :=
 (h.wS.num (by omega) n k).mono fun e w' ⟨he,h1,o1⟩=>⟨he,h.step h1 o1⟩
theorem LdS.text (h:LdS w wr b0 b s I T A j) (hj:j<=1000000000000) (t:ByteArray) (ht:t.size<=140737488351232):Calls Tryz.prog 237 #[.pointer (some ⟨b,0,none⟩),.string t] wr fun r w'=>r=.returned (.tuple #[])/\LdS w w' b0 b s I T (stepT A t) (j+65537) :=
 (h.wS.text (by omega) t ht).mono fun e w' ⟨he,h1,o1⟩=>⟨he,h.step h1 o1⟩
structure LvS (w wx:World) (b0 b:Nat) (s:Sc) (I T:Value) (A:ByteArray × Int) (j g:Nat) (P:Array Value):Prop where
 ld:LdS w wx b0 b s I T A j
 pg:wx.heap[g]?=some (.cells P 250)
 ne:g≠b
theorem LvS.text {g:Nat} {P:Array Value} (h:LvS w wr b0 b s I T A j g P) (hj:j<=1000000000000) (t:ByteArray) (ht:t.size<=140737488351232):Calls Tryz.prog 237 #[.pointer (some ⟨b,0,none⟩),.string t] wr fun r w'=>r=.returned (.tuple #[])/\LvS w w' b0 b s I T (stepT A t) (j+65537) g P :=
 (h.ld.wS.text (by omega) t ht).mono fun e w' ⟨he,h1,o1⟩=>⟨he,h.ld.step h1 o1,(o1.block g (Array.getElem?_eq_some_iff.1 h.pg).1 h.ne).trans h.pg,h.ne⟩
end
section
variable {w:World}{b j:Nat}{s:Sc}{I T:Value}{A:ByteArray × Int}
set_option maxHeartbeats 1000000 in
theorem layChange_3 (h:WrS w b A j) (hj:j<=100000000000) (ha:actOf s=3) (hk:s.ky.size<=1000) (ho:s.ol.size<=1000) (hw:s.nw.size<=1000) :
  Calls Tryz.prog 209 #[.pointer (some ⟨b,0,none⟩),.agg (s.A I T)] w fun r w'=>r=.returned (.tuple #[])/\WrS w' b (stepT (stepT (stepW A s.pg 2) s.ky) s.nw) (j+300000)/\Pk.Off b w w':=by
 have hk':s.ky.size<=140737488351232:=by omega
 have ho':s.ol.size<=140737488351232:=by omega
 have hw':s.nw.size<=140737488351232:=by omega
 have hbl:=h.lt
 have CV:Hid (∀ wr A' j',LdS w wr w.heap.size b s I T A' j'->Calls Tryz.prog 203 #[.pointer (some ⟨w.heap.size,0,none⟩)] wr fun e w'=>∃ g,e=.returned (.slice (some ⟨g,0,none⟩) 1 1)/\LvS w w' w.heap.size b s I T A' j' g #[.pointer (some ⟨w.heap.size,7,none⟩)]):=fun wr A' j' H=>by
  refine(values_3 H.rc ha).mono ?_
  rintro e w' ⟨he,hw'⟩
  refine⟨wr.heap.size,he,?_⟩
  subst hw'
  refine⟨H.below ((Below.refl _ _).alloc (Nat.le_refl _) _),(MapKept.heap_alloc wr _).1,by have:=H.wS.lt;omega⟩
 clear hk ho hw
 go_enter Tryz.func209,Tryz.ntmps209
 go_wp2_with (first
  | (refine wpList_box_rc (s:=s) (I:=I) (T:=T) _ rfl _ rfl rfl ?_;intro w0 b0 N0;obtain rfl:=N0.eq;have L:LdS w w0 w.heap.size b s I T A j:=⟨N0.rc,h.below N0.below,(fun e=>absurd e (by omega)),Pk.Off.of_below N0.below⟩;clear N0;have k3:=L.rc.c3;have k5:=L.rc.c5)
  | (go_at_call 206;refine(L.num (by omega) _ _).mono ?_;clear L;rintro e w2 ⟨rfl,L⟩;have k5:=L.rc.c5)
  | (go_at_call 237;refine(L.text (by omega) _ hk').mono ?_;clear L;rintro e w3 ⟨rfl,L⟩)
  | (go_at_call 203;refine(CV.out _ _ _ L).mono ?_;clear L;rintro e w4 ⟨g,rfl,LV⟩;have f7:=LV.ld.rc.c7;have g0:=Joins.cell_of_block LV.pg 0;simp only[List.getElem?_toArray,List.getElem?_cons_zero,List.getElem?_cons_succ] at g0))
 refine wp_loop_rounds 2 ?_
 rw[rounds_succ]
 go_wp2_with (go_at_call 237;refine(LV.text (by omega) _ (by assumption)).mono ?_;clear LV;rintro e w4 ⟨rfl,LV⟩;have f7:=LV.ld.rc.c7;have g0:=Joins.cell_of_block LV.pg 0;simp only[List.getElem?_toArray,List.getElem?_cons_zero,List.getElem?_cons_succ] at g0)
 rw[rounds_succ]
 go_wp2
 go_end0
 exact⟨rfl,⟨LV.ld.wS.wr,Nat.le_trans LV.ld.wS.sz (by omega)⟩,LV.ld.off⟩
set_option maxHeartbeats 1000000 in
theorem layChange_4 (h:WrS w b A j) (hj:j<=100000000000) (ha:actOf s=4) (hk:s.ky.size<=1000) (ho:s.ol.size<=1000) (hw:s.nw.size<=1000) :
  Calls Tryz.prog 209 #[.pointer (some ⟨b,0,none⟩),.agg (s.A I T)] w fun r w'=>r=.returned (.tuple #[])/\WrS w' b (stepT (stepT (stepW A s.pg 2) s.ky) s.ol) (j+300000)/\Pk.Off b w w':=by
 have hk':s.ky.size<=140737488351232:=by omega
 have ho':s.ol.size<=140737488351232:=by omega
 have hw':s.nw.size<=140737488351232:=by omega
 have hbl:=h.lt
 have CV:Hid (∀ wr A' j',LdS w wr w.heap.size b s I T A' j'->Calls Tryz.prog 203 #[.pointer (some ⟨w.heap.size,0,none⟩)] wr fun e w'=>∃ g,e=.returned (.slice (some ⟨g,0,none⟩) 1 1)/\LvS w w' w.heap.size b s I T A' j' g #[.pointer (some ⟨w.heap.size,6,none⟩)]):=fun wr A' j' H=>by
  refine(values_4 H.rc ha).mono ?_
  rintro e w' ⟨he,hw'⟩
  refine⟨wr.heap.size,he,?_⟩
  subst hw'
  refine⟨H.below ((Below.refl _ _).alloc (Nat.le_refl _) _),(MapKept.heap_alloc wr _).1,by have:=H.wS.lt;omega⟩
 clear hk ho hw
 go_enter Tryz.func209,Tryz.ntmps209
 go_wp2_with (first
  | (refine wpList_box_rc (s:=s) (I:=I) (T:=T) _ rfl _ rfl rfl ?_;intro w0 b0 N0;obtain rfl:=N0.eq;have L:LdS w w0 w.heap.size b s I T A j:=⟨N0.rc,h.below N0.below,(fun e=>absurd e (by omega)),Pk.Off.of_below N0.below⟩;clear N0;have k3:=L.rc.c3;have k5:=L.rc.c5)
  | (go_at_call 206;refine(L.num (by omega) _ _).mono ?_;clear L;rintro e w2 ⟨rfl,L⟩;have k5:=L.rc.c5)
  | (go_at_call 237;refine(L.text (by omega) _ hk').mono ?_;clear L;rintro e w3 ⟨rfl,L⟩)
  | (go_at_call 203;refine(CV.out _ _ _ L).mono ?_;clear L;rintro e w4 ⟨g,rfl,LV⟩;have f6:=LV.ld.rc.c6;have g0:=Joins.cell_of_block LV.pg 0;simp only[List.getElem?_toArray,List.getElem?_cons_zero,List.getElem?_cons_succ] at g0))
 refine wp_loop_rounds 2 ?_
 rw[rounds_succ]
 go_wp2_with (go_at_call 237;refine(LV.text (by omega) _ (by assumption)).mono ?_;clear LV;rintro e w4 ⟨rfl,LV⟩;have f6:=LV.ld.rc.c6;have g0:=Joins.cell_of_block LV.pg 0;simp only[List.getElem?_toArray,List.getElem?_cons_zero,List.getElem?_cons_succ] at g0)
 rw[rounds_succ]
 go_wp2
 go_end0
 exact⟨rfl,⟨LV.ld.wS.wr,Nat.le_trans LV.ld.wS.sz (by omega)⟩,LV.ld.off⟩
set_option maxHeartbeats 1000000 in
theorem layChange_o (h:WrS w b A j) (hj:j<=100000000000) (h3:actOf s≠3) (h4:actOf s≠4) (hk:s.ky.size<=1000) (ho:s.ol.size<=1000) (hw:s.nw.size<=1000) :
  Calls Tryz.prog 209 #[.pointer (some ⟨b,0,none⟩),.agg (s.A I T)] w fun r w'=>r=.returned (.tuple #[])/\WrS w' b (stepT (stepT (stepT (stepW A s.pg 2) s.ky) s.ol) s.nw) (j+300000)/\Pk.Off b w w':=by
 have hk':s.ky.size<=140737488351232:=by omega
 have ho':s.ol.size<=140737488351232:=by omega
 have hw':s.nw.size<=140737488351232:=by omega
 have hbl:=h.lt
 have CV:Hid (∀ wr A' j',LdS w wr w.heap.size b s I T A' j'->Calls Tryz.prog 203 #[.pointer (some ⟨w.heap.size,0,none⟩)] wr fun e w'=>∃ g,e=.returned (.slice (some ⟨g,0,none⟩) 2 2)/\LvS w w' w.heap.size b s I T A' j' g #[.pointer (some ⟨w.heap.size,6,none⟩),.pointer (some ⟨w.heap.size,7,none⟩)]):=fun wr A' j' H=>by
  refine(values_o H.rc h3 h4).mono ?_
  rintro e w' ⟨he,hw'⟩
  refine⟨wr.heap.size,he,?_⟩
  subst hw'
  refine⟨H.below (((Below.refl _ _).drew).alloc (Nat.le_refl _) _),(MapKept.heap_alloc wr.drew _).1,by have:=H.wS.lt;omega⟩
 clear hk ho hw
 go_enter Tryz.func209,Tryz.ntmps209
 go_wp2_with (first
  | (refine wpList_box_rc (s:=s) (I:=I) (T:=T) _ rfl _ rfl rfl ?_;intro w0 b0 N0;obtain rfl:=N0.eq;have L:LdS w w0 w.heap.size b s I T A j:=⟨N0.rc,h.below N0.below,(fun e=>absurd e (by omega)),Pk.Off.of_below N0.below⟩;clear N0;have k3:=L.rc.c3;have k5:=L.rc.c5)
  | (go_at_call 206;refine(L.num (by omega) _ _).mono ?_;clear L;rintro e w2 ⟨rfl,L⟩;have k5:=L.rc.c5)
  | (go_at_call 237;refine(L.text (by omega) _ hk').mono ?_;clear L;rintro e w3 ⟨rfl,L⟩)
  | (go_at_call 203;refine(CV.out _ _ _ L).mono ?_;clear L;rintro e w4 ⟨g,rfl,LV⟩;have f6:=LV.ld.rc.c6;have f7:=LV.ld.rc.c7;have g0:=Joins.cell_of_block LV.pg 0;simp only[List.getElem?_toArray,List.getElem?_cons_zero,List.getElem?_cons_succ] at g0;have g1:=Joins.cell_of_block LV.pg 1;simp only[List.getElem?_toArray,List.getElem?_cons_zero,List.getElem?_cons_succ] at g1))
 refine wp_loop_rounds 3 ?_
 rw[rounds_succ]
 go_wp2_with (go_at_call 237;refine(LV.text (by omega) _ (by assumption)).mono ?_;clear LV;rintro e w4 ⟨rfl,LV⟩;have f6:=LV.ld.rc.c6;have f7:=LV.ld.rc.c7;have g0:=Joins.cell_of_block LV.pg 0;simp only[List.getElem?_toArray,List.getElem?_cons_zero,List.getElem?_cons_succ] at g0;have g1:=Joins.cell_of_block LV.pg 1;simp only[List.getElem?_toArray,List.getElem?_cons_zero,List.getElem?_cons_succ] at g1)
 rw[rounds_succ]
 go_wp2_with (go_at_call 237;refine(LV.text (by omega) _ (by assumption)).mono ?_;clear LV;rintro e w4 ⟨rfl,LV⟩;have f6:=LV.ld.rc.c6;have f7:=LV.ld.rc.c7;have g0:=Joins.cell_of_block LV.pg 0;simp only[List.getElem?_toArray,List.getElem?_cons_zero,List.getElem?_cons_succ] at g0;have g1:=Joins.cell_of_block LV.pg 1;simp only[List.getElem?_toArray,List.getElem?_cons_zero,List.getElem?_cons_succ] at g1)
 rw[rounds_succ]
 go_wp2
 go_end0
 exact⟨rfl,⟨LV.ld.wS.wr,Nat.le_trans LV.ld.wS.sz (by omega)⟩,LV.ld.off⟩
theorem layChange_any (h:WrS w b A j) (hj:j<=100000000000) (hk:s.ky.size<=1000) (ho:s.ol.size<=1000) (hw:s.nw.size<=1000) :
  Calls Tryz.prog 209 #[.pointer (some ⟨b,0,none⟩),.agg (s.A I T)] w fun r w'=>r=.returned (.tuple #[])/\WrS w' b (layC s A) (j+300000)/\Pk.Off b w w':=by
 unfold layC layV
 by_cases h3:actOf s=3
 ·rw[if_pos h3]
  exact layChange_3 h hj h3 hk ho hw
 ·by_cases h4:actOf s=4
  ·rw[if_neg h3,if_pos h4]
   exact layChange_4 h hj h4 hk ho hw
  ·rw[if_neg h3,if_neg h4]
   exact layChange_o h hj h3 h4 hk ho hw
end
theorem whole_take_succ {l:List Im} {i:Nat} (hi:i<l.length):whole (l.take (i+1))=(whole (l.take i)&&decide (l[i].2.size=224)):=by
 rw[List.take_succ_eq_append_getElem hi];simp only[whole,List.all_append,List.all_cons,List.all_nil,Bool.and_true]
theorem whole_false {l:List Im} {i:Nat} (hi:i<l.length) (h:¬ l[i].2.size=224):whole l=false:=by
 unfold whole
 rw[List.all_eq_false]
 exact⟨l[i],List.getElem_mem hi,by simpa using h⟩
set_option maxHeartbeats 400000 in
theorem areWhole_any {w:World} {a:Option Addr} {n c:Nat} (l:List Im) (hl:l.length=n) (hn:n<=1000) (hcs:Cs w a (encI l)) (ht:∀ p∈l,p.2.size<=9223372036854775807) :
  Calls Tryz.prog 235 #[.slice a n c] w fun r w'=>r=.returned (.bool (whole l))/\Below w.heap.size w w':=by
 go_enter Tryz.func235,Tryz.ntmps235
 go_wp2
 go_loopw [7] (fun ix wr=>∃ i:Nat,i<=n/\ix=.int .i64 (i:Int)/\whole (l.take i)=true/\Below w.heap.size w wr) (fun ix _=>n-(intOf ix).toNat)
 case atStart=>exact⟨0,Nat.zero_le _,rfl,rfl,Below.refl _ _⟩
 case round =>
  obtain⟨i,hi,rfl,hw,hb⟩:=hrel
  by_cases hlt:i<n
  ·obtain⟨b',off,rfl,hb',HC⟩:=csI_at hcs (i:=i) (by omega)
   obtain⟨q0,q1⟩:=HC wr hb
   have hz:=ht (l[i]'(by omega)) (List.getElem_mem _)
   have hi2:(i:Int)<(n:Int):=by omega
   have HS:Hid _:=whole_take_succ (l:=l) (i:=i) (by omega)
   have HF:Hid _:=whole_false (l:=l) (i:=i) (by omega)
   have HW:Hid (whole (l.take i)=true):=hw
   have HB:Hid (Below w.heap.size w wr):=hb
   clear HC hcs ht hw hb
   generalize l[i]'(by omega)=p at *
   obtain⟨p,t⟩:=p
   dsimp only at q0 q1 hz HS HF
   by_cases h2:t.size=224
   ·have e:((t.size:Int) !=224)=false:=by simp[h2]
    go_wp2
    go_roundw
    case rel =>
     refine⟨i+1,by omega,by go_num,?_,HB.out.alloc HB.out.size _⟩
     rw[HS.out,HW.out];simp[h2]
    case measure=>simp[intOf];omega
   ·have e:((t.size:Int) !=224)=true:=by simp;omega
    go_wp2
    go_ret
    rw[HF.out h2]
    exact⟨rfl,HB.out.alloc HB.out.size _⟩
  ·have hin:i=n:=by omega
   subst hin
   have hi2:¬ (i:Int)<(i:Int):=by omega
   go_wp2
   go_ret
   rw[List.take_of_length_le (by omega)] at hw
   rw[hw]
   exact⟨rfl,hb⟩
theorem tooLong_1 {w:World} {g:Nat} {t:ByteArray} (m:Int) (hg:w.cell? ⟨g,0,none⟩=some (.string t)) (ht:t.size<=9223372036854775807) :
  Calls Tryz.prog 205 #[.int .i64 m,.slice (some ⟨g,0,none⟩) 1 1] w fun r w'=>r=.returned (.bool (decide (m<t.size)))/\w'=w:=by
 by_cases h:m<(t.size:Int)
 ·go_enter Tryz.func205,Tryz.ntmps205
  go_wp2
  refine wp_loop_rounds 2 ?_
  rw[rounds_succ]
  go_wp2
  go_ret
  exact⟨by simp[h],rfl⟩
 ·go_enter Tryz.func205,Tryz.ntmps205
  go_wp2
  refine wp_loop_rounds 2 ?_
  rw[rounds_succ]
  go_wp2
  rw[rounds_succ]
  go_wp2
  go_ret
  exact⟨by simp[h],rfl⟩
theorem tooLong_2 {w:World} {g:Nat} {t u:ByteArray} (m:Int) (hg:w.cell? ⟨g,0,none⟩=some (.string t)) (hg':w.cell? ⟨g,1,none⟩=some (.string u)) (ht:t.size<=9223372036854775807) (hu:u.size<=9223372036854775807) :
  Calls Tryz.prog 205 #[.int .i64 m,.slice (some ⟨g,0,none⟩) 2 2] w fun r w'=>r=.returned (.bool (decide (m<t.size)||decide (m<u.size)))/\w'=w:=by
 by_cases h:m<(t.size:Int)
 ·go_enter Tryz.func205,Tryz.ntmps205
  go_wp2
  refine wp_loop_rounds 3 ?_
  rw[rounds_succ]
  go_wp2
  go_ret
  exact⟨by simp[h],rfl⟩
 ·by_cases h2:m<(u.size:Int)
  ·go_enter Tryz.func205,Tryz.ntmps205
   go_wp2
   refine wp_loop_rounds 3 ?_
   rw[rounds_succ]
   go_wp2
   rw[rounds_succ]
   go_wp2
   go_ret
   exact⟨by simp[h2],rfl⟩
  ·go_enter Tryz.func205,Tryz.ntmps205
   go_wp2
   refine wp_loop_rounds 3 ?_
   rw[rounds_succ]
   go_wp2
   rw[rounds_succ]
   go_wp2
   rw[rounds_succ]
   go_wp2
   go_ret
   exact⟨by simp[h,h2],rfl⟩
section
variable {w:World}{s:Sc}{T:Value}{a:Option Addr}{c:Nat}{l:List Im}{g:List Tb}
set_option maxHeartbeats 400000 in
theorem isFormed_any (hn:l.length<=1000) (hcs:Cs w a (encI l)) (ht:∀ p∈l,p.2.size<=9223372036854775807) :
  Calls Tryz.prog 204 #[.agg (s.A (.slice a l.length c) T)] w fun r w'=>r=.returned (.bool (formed ⟨s,l,g⟩))/\Below w.heap.size w w':=by
 have CW:Hid (∀ w',Below w.heap.size w w'->Calls Tryz.prog 235 #[.slice a l.length c] w' fun r w''=>r=.returned (.bool (whole l))/\Below w'.heap.size w' w''):=fun w' hb=>areWhole_any l rfl hn (hcs.below hb) ht
 clear hcs ht
 unfold formed
 dsimp only
 by_cases h1:s.kd=1
 ·rw[if_pos h1]
  have e1:(s.kd==1)=true:=by simpa using h1
  by_cases hl:l.length=1
  ·have e2:((l.length:Int)==1)=true:=by simp[hl]
   have hd:decide (l.length=1)=true:=by simpa using hl
   rw[hd,Bool.true_and]
   generalize whole l=q at *
   clear h1 hl hd
   go_enter Tryz.func204,Tryz.ntmps204
   go_wp2_with (first
    | (refine wpList_box_rc (s:=s) (I:=_) (T:=_) _ rfl _ rfl rfl ?_;intro w0 b0 N0;have k0:=N0.rc.c0;have k9:=N0.rc.c9)
    | (go_at_call 235;refine(CW.out _ N0.below).mono ?_;rintro e w1 ⟨rfl,b1⟩))
   go_ret
   exact⟨rfl,thn N0.below b1⟩
  ·have e2:((l.length:Int)==1)=false:=by simp;omega
   have hd:decide (l.length=1)=false:=by simpa using hl
   rw[hd,Bool.false_and]
   clear h1 hl hd
   go_enter Tryz.func204,Tryz.ntmps204
   go_wp2_with (refine wpList_box_rc (s:=s) (I:=_) (T:=_) _ rfl _ rfl rfl ?_;intro w0 b0 N0;have k0:=N0.rc.c0;have k9:=N0.rc.c9)
   go_ret
   exact⟨rfl,N0.below⟩
 ·rw[if_neg h1]
  have e1:(s.kd==1)=false:=by simpa using h1
  by_cases h2:s.kd=2
  ·rw[if_pos h2]
   have e2:(s.kd==2)=true:=by simpa using h2
   generalize whole l=q at *
   clear h1 h2
   go_enter Tryz.func204,Tryz.ntmps204
   go_wp2_with (first
    | (refine wpList_box_rc (s:=s) (I:=_) (T:=_) _ rfl _ rfl rfl ?_;intro w0 b0 N0;have k0:=N0.rc.c0;have k9:=N0.rc.c9)
    | (go_at_call 235;refine(CW.out _ N0.below).mono ?_;rintro e w1 ⟨rfl,b1⟩))
   go_ret
   exact⟨rfl,thn N0.below b1⟩
  ·rw[if_neg h2]
   have e2:(s.kd==2)=false:=by simpa using h2
   by_cases h6:s.kd=6
   ·rw[if_pos h6]
    have e6:(s.kd==6)=true:=by simpa using h6
    clear h1 h2 h6
    by_cases a3:s.ac=3
    ·have f3:(s.ac==3)=true:=by simpa using a3
     have hd:decide (s.ac=3∨s.ac=4∨s.ac=5)=true:=by simp[a3]
     rw[hd]
     clear a3 hd
     go_enter Tryz.func204,Tryz.ntmps204
     go_wp2_with (refine wpList_box_rc (s:=s) (I:=_) (T:=_) _ rfl _ rfl rfl ?_;intro w0 b0 N0;have k0:=N0.rc.c0;have k4:=N0.rc.c4)
     go_ret
     exact⟨rfl,N0.below⟩
    ·have f3:(s.ac==3)=false:=by simpa using a3
     by_cases a4:s.ac=4
     ·have f4:(s.ac==4)=true:=by simpa using a4
      have hd:decide (s.ac=3∨s.ac=4∨s.ac=5)=true:=by simp[a4]
      rw[hd]
      clear a3 a4 hd
      go_enter Tryz.func204,Tryz.ntmps204
      go_wp2_with (refine wpList_box_rc (s:=s) (I:=_) (T:=_) _ rfl _ rfl rfl ?_;intro w0 b0 N0;have k0:=N0.rc.c0;have k4:=N0.rc.c4)
      go_ret
      exact⟨rfl,N0.below⟩
     ·have f4:(s.ac==4)=false:=by simpa using a4
      have hd:decide (s.ac=3∨s.ac=4∨s.ac=5)=(s.ac==5):=by by_cases a5:s.ac=5 <;> simp[a3,a4,a5]
      rw[hd]
      clear a3 a4 hd
      generalize hq:(s.ac==5)=q at *
      go_enter Tryz.func204,Tryz.ntmps204
      go_wp2_with (refine wpList_box_rc (s:=s) (I:=_) (T:=_) _ rfl _ rfl rfl ?_;intro w0 b0 N0;have k0:=N0.rc.c0;have k4:=N0.rc.c4)
      go_ret
      exact⟨rfl,N0.below⟩
   ·rw[if_neg h6]
    have e6:(s.kd==6)=false:=by simpa using h6
    clear h1 h2 h6
    go_enter Tryz.func204,Tryz.ntmps204
    go_wp2_with (refine wpList_box_rc (s:=s) (I:=_) (T:=_) _ rfl _ rfl rfl ?_;intro w0 b0 N0;have k0:=N0.rc.c0;have k4:=N0.rc.c4)
    go_ret
    exact⟨rfl,N0.below⟩
end
section
variable {w:World}{s:Sc}{T:Value}{a:Option Addr}{c:Nat}{l:List Im}{g:List Tb}
set_option maxHeartbeats 1000000 in
theorem refusalR_any (hn:l.length<=1000) (hcs:Cs w a (encI l)) (ht:∀ p∈l,p.2.size<=9223372036854775807) (hk:s.ky.size<=9223372036854775807) (ho:s.ol.size<=9223372036854775807) (hw:s.nw.size<=9223372036854775807) :
  Calls Tryz.prog 163 #[.agg (s.A (.slice a l.length c) T)] w fun r w'=>r=.returned (.int .i64 (refM ⟨s,l,g⟩))/\Below w.heap.size w w':=by
 have CF:Hid (∀ w',Below w.heap.size w w'->Calls Tryz.prog 204 #[.agg (s.A (.slice a l.length c) T)] w' fun r w''=>r=.returned (.bool (formed ⟨s,l,g⟩))/\Below w'.heap.size w' w''):=fun w' hb=>isFormed_any hn (hcs.below hb) ht
 clear hcs ht
 unfold refM
 dsimp only
 by_cases h1:s.kd<1
 ·rw[if_pos (Or.inl h1)]
  go_enter Tryz.func163,Tryz.ntmps163
  go_wp2_with (refine wpList_box_rc (s:=s) (I:=_) (T:=_) _ rfl _ rfl rfl ?_;intro w0 b0 N0;have k0:=N0.rc.c0)
  go_ret
  exact⟨rfl,N0.below⟩
 by_cases h2:10<s.kd
 ·rw[if_pos (Or.inr h2)]
  go_enter Tryz.func163,Tryz.ntmps163
  go_wp2_with (refine wpList_box_rc (s:=s) (I:=_) (T:=_) _ rfl _ rfl rfl ?_;intro w0 b0 N0;have k0:=N0.rc.c0)
  go_ret
  exact⟨rfl,N0.below⟩
 rw[if_neg (by omega)]
 by_cases h3:formed ⟨s,l,g⟩=false
 ·rw[if_pos h3]
  rw[h3] at CF
  go_enter Tryz.func163,Tryz.ntmps163
  go_wp2_with (first
   | (refine wpList_box_rc (s:=s) (I:=_) (T:=_) _ rfl _ rfl rfl ?_;intro w0 b0 N0;have k0:=N0.rc.c0)
   | (refine wpList_load_rc _ rfl _ rfl rfl N0.rc ?_)
   | (go_at_call 204;refine(CF.out _ N0.below).mono ?_;rintro e w1 ⟨rfl,b1⟩))
  go_ret
  exact⟨rfl,thn N0.below b1⟩
 rw[if_neg h3]
 have h3':formed ⟨s,l,g⟩=true:=by simpa using h3
 rw[h3'] at CF
 clear h3 h3'
 obtain⟨K,hK⟩:∃ K,K=decide ((16:Int)<s.ky.size):=⟨_,rfl⟩
 obtain⟨V,hV⟩:∃ V,V=(decide ((32:Int)<s.ol.size)||decide ((32:Int)<s.nw.size)):=⟨_,rfl⟩
 have C1:Hid (∀ w1:World,Calls Tryz.prog 205 #[.int .i64 16,.slice (some ⟨w1.heap.size,0,none⟩) 1 1] (w1.alloc (.cells #[.string s.ky] 9)) fun r w'=>r=.returned (.bool K)/\w'=w1.alloc (.cells #[.string s.ky] 9)):=fun w1=>by
  rw[hK]
  exact tooLong_1 16 (Joins.cell_of_block (MapKept.heap_alloc w1 _).1 0) hk
 have C2:Hid (∀ w1:World,Calls Tryz.prog 205 #[.int .i64 32,.slice (some ⟨w1.heap.size+1,0,none⟩) 2 2] ((w1.alloc (.cells #[.string s.ky] 9)).alloc (.cells #[.string s.ol,.string s.nw] 9)) fun r w'=>r=.returned (.bool V)/\w'=(w1.alloc (.cells #[.string s.ky] 9)).alloc (.cells #[.string s.ol,.string s.nw] 9)):=fun w1=>by
  rw[hV]
  have hz:(w1.alloc (.cells #[.string s.ky] 9)).heap.size=w1.heap.size+1:=by simp
  have hb:=(MapKept.heap_alloc (w1.alloc (.cells #[.string s.ky] 9)) (.cells #[.string s.ol,.string s.nw] 9)).1
  rw[hz] at hb
  exact tooLong_2 32 (Joins.cell_of_block hb 0) (Joins.cell_of_block hb 1) ho hw
 by_cases h4:16<s.ky.size
 ·rw[if_pos h4]
  have hK':K=true:=by rw[hK];simp;omega
  subst hK'
  clear hK hV C2 h4 hk ho hw
  go_enter Tryz.func163,Tryz.ntmps163
  go_wp2_with (first
   | (refine wpList_box_rc (s:=s) (I:=_) (T:=_) _ rfl _ rfl rfl ?_;intro w0 b0 N0;have k0:=N0.rc.c0)
   | (refine wpList_load_rc _ rfl _ rfl rfl N0.rc ?_)
   | (go_at_call 204;refine(CF.out _ N0.below).mono ?_;rintro e w1 ⟨rfl,b1⟩;have k5:=(N0.rc.below b1).c5)
   | (go_at_call 205;refine(C1.out _).mono ?_;rintro e w2 ⟨rfl,rfl⟩))
  go_ret
  exact⟨rfl,thn (thn N0.below b1) ((Below.refl _ _).alloc (Nat.le_refl _) _)⟩
 rw[if_neg h4]
 have hK':K=false:=by rw[hK];simp;omega
 subst hK'
 by_cases h5:32<s.ol.size∨32<s.nw.size
 ·rw[if_pos h5]
  have hV':V=true:=by rw[hV];simp;omega
  subst hV'
  clear hK hV h4 h5 hk ho hw
  go_enter Tryz.func163,Tryz.ntmps163
  go_wp2_with (first
   | (refine wpList_box_rc (s:=s) (I:=_) (T:=_) _ rfl _ rfl rfl ?_;intro w0 b0 N0;have k0:=N0.rc.c0)
   | (refine wpList_load_rc _ rfl _ rfl rfl N0.rc ?_)
   | (go_at_call 204;refine(CF.out _ N0.below).mono ?_;rintro e w1 ⟨rfl,b1⟩;have k5:=(N0.rc.below b1).c5;have k6:=(N0.rc.below b1).c6;have k7:=(N0.rc.below b1).c7;have hlt:=(N0.rc.below b1).lt)
   | (go_at_call 205;refine(C1.out _).mono ?_;clear C1;rintro e w2 ⟨rfl,rfl⟩;have B2:Below w1.heap.size w1 (w1.alloc (.cells #[.string s.ky] 9)):=(Below.refl _ _).alloc (Nat.le_refl _) _)
   | (go_at_call 205;refine(C2.out _).mono ?_;clear C2;rintro e w3 ⟨rfl,rfl⟩))
  go_ret
  exact⟨rfl,thn (thn (thn N0.below b1) B2) ((Below.refl _ _).alloc (Nat.le_refl _) _)⟩
 ·rw[if_neg h5]
  have hV':V=false:=by rw[hV];simp;omega
  subst hV'
  clear hK hV h4 h5 hk ho hw
  go_enter Tryz.func163,Tryz.ntmps163
  go_wp2_with (first
   | (refine wpList_box_rc (s:=s) (I:=_) (T:=_) _ rfl _ rfl rfl ?_;intro w0 b0 N0;have k0:=N0.rc.c0)
   | (refine wpList_load_rc _ rfl _ rfl rfl N0.rc ?_)
   | (go_at_call 204;refine(CF.out _ N0.below).mono ?_;rintro e w1 ⟨rfl,b1⟩;have k5:=(N0.rc.below b1).c5;have k6:=(N0.rc.below b1).c6;have k7:=(N0.rc.below b1).c7;have hlt:=(N0.rc.below b1).lt)
   | (go_at_call 205;refine(C1.out _).mono ?_;clear C1;rintro e w2 ⟨rfl,rfl⟩;have B2:Below w1.heap.size w1 (w1.alloc (.cells #[.string s.ky] 9)):=(Below.refl _ _).alloc (Nat.le_refl _) _)
   | (go_at_call 205;refine(C2.out _).mono ?_;clear C2;rintro e w3 ⟨rfl,rfl⟩))
  go_ret
  exact⟨rfl,thn (thn (thn N0.below b1) B2) ((Below.refl _ _).alloc (Nat.le_refl _) _)⟩
end
end Go.Proofs.YtpcnjncgilmehabGreat
