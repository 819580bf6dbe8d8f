import Derived.Test.YtpcnjncgilmehabGreatMae
import Derived.WalkKit
import Derived.Test.YtpcnjncgilmehabGreatProg
import Derived.ProofKit
import Derived.WalkSpells
import Derived.WalkLawsBesides
import Derived.Deep.QuietTactic
import Derived.BigQuiet
import Derived.Lib.SmallJoins
import Derived.Lib.SlBytesRow
import Derived.Test.YtpcnjncgilmehabGreatMab
import Derived.Test.YtpcnjncgilmehabGreatMac
import Derived.Deep.RegionHeld3
set_option linter.unusedVariables false
set_option linter.unusedSimpArgs false
set_option maxRecDepth 100000
namespace Go.Proofs.YtpcnjncgilmehabGreat
open Go.RowKit
section
variable {w w':World}{b:Nat}{s:Sc}{I T:Value}
theorem values_3 (h:RcAt w b s I T) (ha:actOf s=3):Calls Tryz.prog 203 #[.pointer (some ⟨b,0,none⟩)] w fun e w'=>e=.returned (.slice (some ⟨w.heap.size,0,none⟩) 1 1)/\w'=w.alloc (.cells #[.pointer (some ⟨b,7,none⟩)] 250):=by
 have hc0:=h.c0
 have hc4:=h.c4
 clear h
 unfold actOf at ha
 by_cases hk:s.kd=6
 ·rw[if_pos hk] at ha
  rw[hk] at hc0
  rw[ha] at hc4
  go_enter Tryz.func203,Tryz.ntmps203
  go_wp2
  go_ret
  exact⟨rfl,rfl⟩
 ·rw[if_neg hk] at ha
  rw[ha] at hc0
  go_enter Tryz.func203,Tryz.ntmps203
  go_wp2
  go_ret
  exact⟨rfl,rfl⟩
theorem values_4 (h:RcAt w b s I T) (ha:actOf s=4):Calls Tryz.prog 203 #[.pointer (some ⟨b,0,none⟩)] w fun e w'=>e=.returned (.slice (some ⟨w.heap.size,0,none⟩) 1 1)/\w'=w.alloc (.cells #[.pointer (some ⟨b,6,none⟩)] 250):=by
 have hc0:=h.c0
 have hc4:=h.c4
 clear h
 unfold actOf at ha
 by_cases hk:s.kd=6
 ·rw[if_pos hk] at ha
  rw[hk] at hc0
  rw[ha] at hc4
  go_enter Tryz.func203,Tryz.ntmps203
  go_wp2
  go_ret
  exact⟨rfl,rfl⟩
 ·rw[if_neg hk] at ha
  rw[ha] at hc0
  go_enter Tryz.func203,Tryz.ntmps203
  go_wp2
  go_ret
  exact⟨rfl,rfl⟩
theorem values_o (h:RcAt w b s I T) (h3:actOf s≠3) (h4:actOf s≠4):Calls Tryz.prog 203 #[.pointer (some ⟨b,0,none⟩)] w fun e w'=>e=.returned (.slice (some ⟨w.heap.size,0,none⟩) 2 2)/\w'=w.drew.alloc (.cells #[.pointer (some ⟨b,6,none⟩),.pointer (some ⟨b,7,none⟩)] 250):=by
 have hc0:=h.c0
 have hc4:=h.c4
 clear h
 unfold actOf at h3 h4
 by_cases hk:s.kd=6
 ·rw[if_pos hk] at h3 h4
  rw[hk] at hc0
  have e3:(s.ac==3)=false:=by simpa using h3
  have e4:(s.ac==4)=false:=by simpa using h4
  go_enter Tryz.func203,Tryz.ntmps203
  go_wp2
  go_region
  go_wp2
  go_ret
  exact⟨rfl,rfl⟩
 ·rw[if_neg hk] at h3 h4
  have e6:(s.kd==6)=false:=by simpa using hk
  have e3:(s.kd==3)=false:=by simpa using h3
  have e4:(s.kd==4)=false:=by simpa using h4
  go_enter Tryz.func203,Tryz.ntmps203
  go_wp2
  go_region
  go_wp2
  go_ret
  exact⟨rfl,rfl⟩
end
section
variable {w w':World}{b c:Nat}{s t:Sc}{I T J U:Value}
def chg (s t:Sc):Sc:={s with pg:=t.pg,ky:=t.ky}
theorem copy_start (h:RcAt w b s I T) (h':RcAt w c t J U) (hne:b≠c) :
  RcAt ((w.setCell ⟨b,3,none⟩ (.int .i64 t.pg)).setCell ⟨b,5,none⟩ (.string t.ky)).drew b (chg s t) I T/\RcAt ((w.setCell ⟨b,3,none⟩ (.int .i64 t.pg)).setCell ⟨b,5,none⟩ (.string t.ky)).drew c t J U/\Pk.Off b w ((w.setCell ⟨b,3,none⟩ (.int .i64 t.pg)).setCell ⟨b,5,none⟩ (.string t.ky)).drew:=by
 have o:Pk.Off b w ((w.setCell ⟨b,3,none⟩ (.int .i64 t.pg)).setCell ⟨b,5,none⟩ (.string t.ky)).drew:=(((Pk.Off.refl _ _).setCell _ _).setCell _ _).drew
 refine⟨RcAt.drew ((h.set (k:=3) (s':={s with pg:=t.pg}) (I':=I) (T':=T) rfl).set (k:=5) (s':=chg s t) (I':=I) (T':=T) rfl),h'.off o (fun e=>hne e.symm),o⟩
structure Vl (w w':World) (b c g d:Nat) (s t:Sc) (I T J U:Value) (P G:Array Value):Prop where
 tb:RcAt w' b s I T
 fc:RcAt w' c t J U
 pg:w'.heap[g]?=some (.cells P 250)
 pd:w'.heap[d]?=some (.cells G 250)
 off:Pk.Off b w w'
theorem Vl.mk' {w w1:World} {P G:Array Value} (h:RcAt w1 b s I T) (h':RcAt w1 c t J U) (o:Pk.Off b w w1) {w2 w3:World} (h2:w2=w1.alloc (.cells P 250)) (h3:w3=w2.alloc (.cells G 250)):Vl w w3 b c w1.heap.size w2.heap.size s t I T J U P G:=by
 subst h2 h3
 have b1:Below w1.heap.size w1 (w1.alloc (.cells P 250)):=(Below.refl _ _).alloc (Nat.le_refl _) _
 have b2:Below (w1.alloc (.cells P 250)).heap.size (w1.alloc (.cells P 250)) ((w1.alloc (.cells P 250)).alloc (.cells G 250)):=(Below.refl _ _).alloc (Nat.le_refl _) _
 refine⟨(h.below b1).below b2,(h'.below b1).below b2,(b2.block _ ?_).trans (MapKept.heap_alloc w1 _).1,(MapKept.heap_alloc _ _).1,(o.alloc _).alloc _⟩
 simp
theorem Vl.mk2 {w w1:World} {P G:Array Value} (h:RcAt w1 b s I T) (h':RcAt w1 c t J U) (o:Pk.Off b w w1) {w2 w3:World} (h2:w2=w1.drew.alloc (.cells P 250)) (h3:w3=w2.drew.alloc (.cells G 250)):Vl w w3 b c w1.heap.size w2.heap.size s t I T J U P G:=by
 subst h2 h3
 have b1:Below w1.heap.size w1 (w1.drew.alloc (.cells P 250)):=((Below.refl _ _).drew).alloc (Nat.le_refl _) _
 have b2:Below (w1.drew.alloc (.cells P 250)).heap.size (w1.drew.alloc (.cells P 250)) ((w1.drew.alloc (.cells P 250)).drew.alloc (.cells G 250)):=((Below.refl (w1.drew.alloc (.cells P 250)).heap.size (w1.drew.alloc (.cells P 250))).drew).alloc (Nat.le_refl _) _
 refine⟨(h.below b1).below b2,(h'.below b1).below b2,(b2.block _ ?_).trans (MapKept.heap_alloc w1.drew _).1,(MapKept.heap_alloc _ _).1,((o.drew.alloc _).drew).alloc _⟩
 simp
theorem copy_3 (h:RcAt w b s I T) (h':RcAt w c t J U) (hne:b≠c) (ha:actOf s=3) (ha':actOf t=3):Calls Tryz.prog 200 #[.pointer (some ⟨b,0,none⟩),.pointer (some ⟨c,0,none⟩)] w fun e w'=>e=.returned (.tuple #[])/\RcAt w' b {chg s t with nw:=t.nw} I T/\Pk.Off b w w':=by
 have a3:=h.c3
 have a5:=h.c5
 have af:=h.f
 have b3:=h'.c3
 have b5:=h'.c5
 have K:=copy_start h h' hne
 clear h h'
 go_enter Tryz.func200,Tryz.ntmps200
 go_wp2
 go_region
 generalize ((w.setCell ⟨b,3,none⟩ (.int .i64 t.pg)).setCell ⟨b,5,none⟩ (.string t.ky)).drew=w1 at K ⊢
 obtain⟨r1,q1,o1⟩:=K
 have hx:actOf (chg s t)=3:=ha
 have C1:=values_3 q1 ha'
 have C2:∀ w2,w2=w1.alloc (.cells #[.pointer (some ⟨c,7,none⟩)] 250)->Calls Tryz.prog 203 #[.pointer (some ⟨b,0,none⟩)] w2 fun e w'=>e=.returned (.slice (some ⟨w1.heap.size+1,0,none⟩) 1 1)/\Vl w w' b c w1.heap.size (w1.heap.size+1) (chg s t) t I T J U #[.pointer (some ⟨c,7,none⟩)] #[.pointer (some ⟨b,7,none⟩)]:=fun w2 h2=>by
  have r2:=r1.below (show Below w1.heap.size w1 w2 by subst h2;exact(Below.refl _ _).alloc (Nat.le_refl _) _)
  refine(values_3 r2 hx).mono ?_
  rintro e w3 ⟨he,hw⟩
  have hz:w2.heap.size=w1.heap.size+1:=by subst h2;simp
  have V:=Vl.mk' r1 q1 o1 h2 hw
  rw[hz] at he V
  exact⟨he,V⟩
 have D1:Hid (∀ w2,w2=w1->Calls Tryz.prog 203 #[.pointer (some ⟨c,0,none⟩)] w2 fun e w'=>e=.returned (.slice (some ⟨w1.heap.size,0,none⟩) 1 1)/\w'=w1.alloc (.cells #[.pointer (some ⟨c,7,none⟩)] 250)):=fun w2 h2=>by subst h2;exact C1
 have D2:Hid _:=C2
 clear C1 C2 r1 q1 o1 a3 a5 af b3 b5 ha ha' hx
 go_wp2_with (first |(go_at_call 203;refine(D1.out _ rfl).mono ?_;clear D1;rintro e w2 ⟨rfl,rfl⟩) |(go_at_call 203;refine(D2.out _ rfl).mono ?_;clear D2;rintro e w3 ⟨rfl,V⟩))
 have k1:=V.tb.c7
 have k2:=V.fc.c7
 have k3:=Joins.cell_of_block V.pg 0
 have k4:=Joins.cell_of_block V.pd 0
 have k5:=V.tb.f
 simp only[List.getElem?_toArray,List.getElem?_cons_zero] at k3 k4
 refine wp_loop_rounds 2 ?_
 rw[rounds_succ]
 go_wp2
 rw[rounds_succ]
 go_wp2
 go_end0
 exact⟨rfl,V.tb.set rfl,V.off.setCell _ _⟩
theorem copy_4 (h:RcAt w b s I T) (h':RcAt w c t J U) (hne:b≠c) (ha:actOf s=4) (ha':actOf t=4):Calls Tryz.prog 200 #[.pointer (some ⟨b,0,none⟩),.pointer (some ⟨c,0,none⟩)] w fun e w'=>e=.returned (.tuple #[])/\RcAt w' b {chg s t with ol:=t.ol} I T/\Pk.Off b w w':=by
 have a3:=h.c3
 have a5:=h.c5
 have af:=h.f
 have b3:=h'.c3
 have b5:=h'.c5
 have K:=copy_start h h' hne
 clear h h'
 go_enter Tryz.func200,Tryz.ntmps200
 go_wp2
 go_region
 generalize ((w.setCell ⟨b,3,none⟩ (.int .i64 t.pg)).setCell ⟨b,5,none⟩ (.string t.ky)).drew=w1 at K ⊢
 obtain⟨r1,q1,o1⟩:=K
 have hx:actOf (chg s t)=4:=ha
 have C1:=values_4 q1 ha'
 have C2:∀ w2,w2=w1.alloc (.cells #[.pointer (some ⟨c,6,none⟩)] 250)->Calls Tryz.prog 203 #[.pointer (some ⟨b,0,none⟩)] w2 fun e w'=>e=.returned (.slice (some ⟨w1.heap.size+1,0,none⟩) 1 1)/\Vl w w' b c w1.heap.size (w1.heap.size+1) (chg s t) t I T J U #[.pointer (some ⟨c,6,none⟩)] #[.pointer (some ⟨b,6,none⟩)]:=fun w2 h2=>by
  have r2:=r1.below (show Below w1.heap.size w1 w2 by subst h2;exact(Below.refl _ _).alloc (Nat.le_refl _) _)
  refine(values_4 r2 hx).mono ?_
  rintro e w3 ⟨he,hw⟩
  have hz:w2.heap.size=w1.heap.size+1:=by subst h2;simp
  have V:=Vl.mk' r1 q1 o1 h2 hw
  rw[hz] at he V
  exact⟨he,V⟩
 have D1:Hid (∀ w2,w2=w1->Calls Tryz.prog 203 #[.pointer (some ⟨c,0,none⟩)] w2 fun e w'=>e=.returned (.slice (some ⟨w1.heap.size,0,none⟩) 1 1)/\w'=w1.alloc (.cells #[.pointer (some ⟨c,6,none⟩)] 250)):=fun w2 h2=>by subst h2;exact C1
 have D2:Hid _:=C2
 clear C1 C2 r1 q1 o1 a3 a5 af b3 b5 ha ha' hx
 go_wp2_with (first |(go_at_call 203;refine(D1.out _ rfl).mono ?_;clear D1;rintro e w2 ⟨rfl,rfl⟩) |(go_at_call 203;refine(D2.out _ rfl).mono ?_;clear D2;rintro e w3 ⟨rfl,V⟩))
 have k1:=V.tb.c6
 have k2:=V.fc.c6
 have k3:=Joins.cell_of_block V.pg 0
 have k4:=Joins.cell_of_block V.pd 0
 have k5:=V.tb.f
 simp only[List.getElem?_toArray,List.getElem?_cons_zero] at k3 k4
 refine wp_loop_rounds 2 ?_
 rw[rounds_succ]
 go_wp2
 rw[rounds_succ]
 go_wp2
 go_end0
 exact⟨rfl,V.tb.set rfl,V.off.setCell _ _⟩
theorem copy_o (h:RcAt w b s I T) (h':RcAt w c t J U) (hne:b≠c) (h3:actOf s≠3) (h4:actOf s≠4) (ha:actOf t=actOf s):Calls Tryz.prog 200 #[.pointer (some ⟨b,0,none⟩),.pointer (some ⟨c,0,none⟩)] w fun e w'=>e=.returned (.tuple #[])/\RcAt w' b {chg s t with ol:=t.ol,nw:=t.nw} I T/\Pk.Off b w w':=by
 have a3:=h.c3
 have a5:=h.c5
 have af:=h.f
 have b3:=h'.c3
 have b5:=h'.c5
 have K:=copy_start h h' hne
 clear h h'
 go_enter Tryz.func200,Tryz.ntmps200
 go_wp2
 go_region
 generalize ((w.setCell ⟨b,3,none⟩ (.int .i64 t.pg)).setCell ⟨b,5,none⟩ (.string t.ky)).drew=w1 at K ⊢
 obtain⟨r1,q1,o1⟩:=K
 have hx3:actOf (chg s t)≠3:=h3
 have hx4:actOf (chg s t)≠4:=h4
 have C1:=values_o q1 (by rw[ha];exact h3) (by rw[ha];exact h4)
 have C2:∀ w2,w2=w1.drew.alloc (.cells #[.pointer (some ⟨c,6,none⟩),.pointer (some ⟨c,7,none⟩)] 250)->Calls Tryz.prog 203 #[.pointer (some ⟨b,0,none⟩)] w2 fun e w'=>e=.returned (.slice (some ⟨w1.heap.size+1,0,none⟩) 2 2)/\Vl w w' b c w1.heap.size (w1.heap.size+1) (chg s t) t I T J U #[.pointer (some ⟨c,6,none⟩),.pointer (some ⟨c,7,none⟩)] #[.pointer (some ⟨b,6,none⟩),.pointer (some ⟨b,7,none⟩)]:=fun w2 h2=>by
  have r2:=r1.below (show Below w1.heap.size w1 w2 by subst h2;exact((Below.refl _ _).drew).alloc (Nat.le_refl _) _)
  refine(values_o r2 hx3 hx4).mono ?_
  rintro e w3 ⟨he,hw⟩
  have hz:w2.heap.size=w1.heap.size+1:=by subst h2;simp
  have V:=Vl.mk2 r1 q1 o1 h2 hw
  rw[hz] at he V
  exact⟨he,V⟩
 have D1:Hid (∀ w2,w2=w1->Calls Tryz.prog 203 #[.pointer (some ⟨c,0,none⟩)] w2 fun e w'=>e=.returned (.slice (some ⟨w1.heap.size,0,none⟩) 2 2)/\w'=w1.drew.alloc (.cells #[.pointer (some ⟨c,6,none⟩),.pointer (some ⟨c,7,none⟩)] 250)):=fun w2 h2=>by subst h2;exact C1
 have D2:Hid _:=C2
 clear C1 C2 r1 q1 o1 a3 a5 af b3 b5 ha h3 h4 hx3 hx4
 go_wp2_with (first |(go_at_call 203;refine(D1.out _ rfl).mono ?_;clear D1;rintro e w2 ⟨rfl,rfl⟩) |(go_at_call 203;refine(D2.out _ rfl).mono ?_;clear D2;rintro e w3 ⟨rfl,V⟩))
 have k1:=V.tb.c6
 have k2:=V.fc.c6
 have k1':=V.tb.c7
 have k2':=V.fc.c7
 have k3:=Joins.cell_of_block V.pg 0
 have k4:=Joins.cell_of_block V.pd 0
 have k3':=Joins.cell_of_block V.pg 1
 have k4':=Joins.cell_of_block V.pd 1
 have k5:=V.tb.f
 simp only[List.getElem?_toArray,List.getElem?_cons_zero,List.getElem?_cons_succ] at k3 k4 k3' k4'
 refine wp_loop_rounds 3 ?_
 rw[rounds_succ]
 go_wp2
 rw[rounds_succ]
 go_wp2
 rw[rounds_succ]
 go_wp2
 go_end0
 exact⟨rfl,(V.tb.set (k:=6) (s':={chg s t with ol:=t.ol}) (I':=I) (T':=T) rfl).set rfl,(V.off.setCell _ _).setCell _ _⟩
def copyS (s t:Sc):Sc:={s with pg:=t.pg,ky:=t.ky,ol:=if actOf t=3 then s.ol else t.ol,nw:=if actOf t=4 then s.nw else t.nw}
theorem copy_any (h:RcAt w b s I T) (h':RcAt w c t J U) (hne:b≠c) (ha:actOf t=actOf s):Calls Tryz.prog 200 #[.pointer (some ⟨b,0,none⟩),.pointer (some ⟨c,0,none⟩)] w fun e w'=>e=.returned (.tuple #[])/\RcAt w' b (copyS s t) I T/\Pk.Off b w w':=by
 unfold copyS
 by_cases h3:actOf s=3
 ·rw[ha,if_pos h3,if_neg (by rw[h3];decide)]
  exact copy_3 h h' hne h3 (ha.trans h3)
 ·by_cases h4:actOf s=4
  ·rw[ha,if_neg h3,if_pos h4]
   exact copy_4 h h' hne h4 (ha.trans h4)
  ·rw[ha,if_neg h3,if_neg h4]
   exact copy_o h h' hne h3 h4 ha
end
end Go.Proofs.YtpcnjncgilmehabGreat
namespace Go.Proofs.YtpcnjncgilmehabGreat.Sm
abbrev R:=BitVec 32
def taps:R:=0x82f63b78#32
def st (c:R):R:=if c.getLsbD 0 then(c >>> 1) ^^^ taps else c >>> 1
def stn:Nat->R->R
 | 0,c=>c
 | n+1,c=>stn n (st c)
theorem st_xor (a b:R):st (a ^^^ b)=st a ^^^ st b:=by
 unfold st
 rw[BitVec.getLsbD_xor,BitVec.ushiftRight_xor_distrib]
 cases a.getLsbD 0 <;> cases b.getLsbD 0 <;> simp
 ·rw[BitVec.xor_assoc]
 ·rw[BitVec.xor_assoc,BitVec.xor_assoc]
  congr 1
  rw[BitVec.xor_comm]
 ·have:a >>> 1 ^^^ taps ^^^ (b >>> 1 ^^^ taps)=a >>> 1 ^^^ b >>> 1 ^^^ (taps ^^^ taps):=by
   simp only[BitVec.xor_assoc]
   congr 1
   rw[← BitVec.xor_assoc,BitVec.xor_comm taps,BitVec.xor_assoc]
  rw[this,BitVec.xor_self]
  simp
theorem stn_add (m n:Nat) (c:R):stn (m+n) c=stn n (stn m c):=by
 induction m generalizing c with
 | zero=>simp[stn]
 | succ m ih=>rw[Nat.succ_add];exact ih (st c)
theorem stn_succ (n:Nat) (c:R):stn (n+1) c=st (stn n c):=by rw[stn_add];rfl
theorem stn_xor (n:Nat) (a b:R):stn n (a ^^^ b)=stn n a ^^^ stn n b:=by
 induction n generalizing a b with
 | zero=>rfl
 | succ n ih=>show stn n (st (a ^^^ b))=_;rw[st_xor,ih];rfl
theorem four_steps (c:R):stn 4 c=(c >>> 4) ^^^ stn 4 (c &&& 15#32):=by
 have e:c=((c >>> 4) <<< 4) ^^^ (c &&& 15#32):=by
  apply BitVec.eq_of_getLsbD_eq
  intro i hi
  have h15:(15#32:R).getLsbD i=decide (i<4):=by
   have:∀ j:Fin 32,(15#32:R).getLsbD j.val=decide (j.val<4):=by decide
   exact this ⟨i,hi⟩
  by_cases h:i<4
  ·simp[h,h15]
  ·simp only[BitVec.getLsbD_xor,BitVec.getLsbD_and,BitVec.getLsbD_shiftLeft,BitVec.getLsbD_ushiftRight,h15,h,hi,decide_true,decide_false,Bool.not_false,Bool.true_and,Bool.and_false,Bool.bne_false]
   rw[show 4+(i-4)=i by omega]
 have e2:stn 4 ((c >>> 4) <<< 4)=c >>> 4:=by
  have s:∀ z:R,z.getLsbD 0=false->st z=z >>> 1:=by
   intro z hz
   unfold st
   rw[hz]
   rfl
  show st (st (st (st ((c >>> 4) <<< 4))))=_
  have s1:st ((c >>> 4) <<< 4)=((c >>> 4) <<< 4) >>> 1:=s _ (by simp)
  have s2:st (((c >>> 4) <<< 4) >>> 1)=((c >>> 4) <<< 4) >>> 1 >>> 1:=s _ (by simp)
  have s3:st (((c >>> 4) <<< 4) >>> 1 >>> 1)=((c >>> 4) <<< 4) >>> 1 >>> 1 >>> 1:=s _ (by simp)
  have s4:st (((c >>> 4) <<< 4) >>> 1 >>> 1 >>> 1)=((c >>> 4) <<< 4) >>> 1 >>> 1 >>> 1 >>> 1:=s _ (by simp)
  rw[s1,s2,s3,s4]
  apply BitVec.eq_of_getLsbD_eq
  intro i hi
  simp only[BitVec.getLsbD_ushiftRight,BitVec.getLsbD_shiftLeft]
  have e5:¬ (1+(1+(1+(1+i)))<4):=by omega
  have e6:4+(1+(1+(1+(1+i)))-4)=4+i:=by omega
  rw[e6]
  by_cases h:1+(1+(1+(1+i)))<32
  ·simp only[h,e5,decide_true,decide_false,Bool.not_false,Bool.true_and]
  ·have:32<=4+i:=by omega
   rw[BitVec.getLsbD_of_ge c (4+i) this,Bool.and_false]
 conv=>lhs;rw[e]
 rw[stn_xor,e2]
def ofB (b:UInt8):R:=BitVec.ofNat 32 b.toNat
def runB:R->List UInt8->R
 | c,[]=>c
 | c,b :: l=>runB (stn 8 (c ^^^ ofB b)) l
theorem runB_append (c:R) (l m:List UInt8):runB c (l++m)=runB (runB c l) m:=by
 induction l generalizing c with
 | nil=>rfl
 | cons b l ih=>exact ih _
def ones:R:=0xffffffff#32
def sumB (l:List UInt8):R:=runB ones l ^^^ ones
def moreB (c:R) (l:List UInt8):R:=runB (c ^^^ ones) l ^^^ ones
theorem more_zero (t:List UInt8):moreB 0#32 t=sumB t:=by
 unfold moreB sumB
 simp
open Go.RowKit
def vI (c:R):Int:=c.toNat
theorem vI_nonneg (c:R):0<=vI c:=Int.natCast_nonneg _
theorem vI_lt (c:R):vI c<4294967296:=by unfold vI;have:=c.isLt;omega
theorem ofInt_vI (c:R):BitVec.ofInt 32 (vI c)=c:=by unfold vI;rw[BitVec.ofInt_natCast,BitVec.ofNat_toNat];simp
theorem vI_lit (n:Nat) (h:n<4294967296):vI (BitVec.ofNat 32 n)=n:=by unfold vI;rw[BitVec.toNat_ofNat];omega
theorem xor32 (a b:R):bits .xor .u32 (vI a) (vI b)=vI (a ^^^ b):=by
 show IntKind.u32.wrap ((BitVec.ofInt 32 (vI a) ^^^ BitVec.ofInt 32 (vI b)).toNat:Int)=_
 rw[ofInt_vI,ofInt_vI,IntKind.wrap_u32]
 have:=vI_lt (a ^^^ b)
 have:=vI_nonneg (a ^^^ b)
 unfold vI at *
 omega
theorem and32 (a b:R):bits .and .u32 (vI a) (vI b)=vI (a &&& b):=by
 show IntKind.u32.wrap ((BitVec.ofInt 32 (vI a) &&& BitVec.ofInt 32 (vI b)).toNat:Int)=_
 rw[ofInt_vI,ofInt_vI,IntKind.wrap_u32]
 have:=vI_lt (a &&& b)
 have:=vI_nonneg (a &&& b)
 unfold vI at *
 omega
theorem shr32 (c:R):vI c / (2:Int)=vI (c >>> 1):=by unfold vI;rw[BitVec.toNat_ushiftRight,Nat.shiftRight_eq_div_pow];omega
theorem shr32_4 (c:R):vI c / (16:Int)=vI (c >>> 4):=by unfold vI;rw[BitVec.toNat_ushiftRight,Nat.shiftRight_eq_div_pow];omega
theorem and_one (c:R):c &&& 1#32=if c.getLsbD 0 then 1#32 else 0#32:=by
 apply BitVec.eq_of_getLsbD_eq
 intro i hi
 rw[BitVec.getLsbD_and,BitVec.getLsbD_one]
 by_cases h:i=0
 ·subst h
  cases c.getLsbD 0 <;> simp
 ·simp only[h,decide_false,Bool.and_false]
  split
  ·rw[BitVec.getLsbD_one];simp[h]
  ·simp
theorem odd_test (c:R) (h:c.getLsbD 0=true):(bits .and .u32 (vI c) 1==0)=false:=by
 have:(1:Int)=vI 1#32:=rfl
 rw[this,and32,and_one,h]
 rfl
theorem even_test (c:R) (h:c.getLsbD 0=false):(bits .and .u32 (vI c) 1==0)=true:=by
 have:(1:Int)=vI 1#32:=rfl
 rw[this,and32,and_one,h]
 rfl
theorem shift_any (c:R) (w:World) :
  Calls Tryz.prog 247 #[.int .u32 (vI c)] w fun e w'=>e=.returned (.int .u32 (vI (st c)))/\w'=w:=by
 cases h:c.getLsbD 0
 ·have h1:=even_test c h
  have e1:Hid _:=shr32 c
  have e2:Hid (st c=c >>> 1):=by show st c=_;unfold st;rw[h];rfl
  clear h
  go_enter Tryz.func247,Tryz.ntmps247
  go_wp2
  go_ret
  rw[e1.out,e2.out]
  exact⟨rfl,rfl⟩
 ·have h1:=odd_test c h
  have e1:Hid _:=shr32 c
  have e2:Hid (st c=c >>> 1 ^^^ taps):=by show st c=_;unfold st;rw[h];rfl
  have e3:Hid _:=xor32 (c >>> 1) taps
  clear h
  go_enter Tryz.func247,Tryz.ntmps247
  go_wp2
  go_ret
  rw[e1.out,e2.out,← e3.out]
  exact⟨rfl,rfl⟩
theorem wrap64_vI (c:R):wrap64 (vI c)=vI c:=by
 have h1:=vI_nonneg c
 have h2:=vI_lt c
 unfold wrap64
 omega
def tab (i:Nat):Array Value:=(Array.range 16).map fun j=>.int .u32 (vI (if j<i then stn 4 (BitVec.ofNat 32 j) else 0#32))
theorem tab_size (i:Nat):(tab i).size=16:=by simp[tab]
theorem tab_get (i j:Nat) (h:j<16):(tab i)[j]?=some (.int .u32 (vI (if j<i then stn 4 (BitVec.ofNat 32 j) else 0#32))):=by
 unfold tab
 rw[Array.getElem?_map,Array.getElem?_range]
 simp[h]
theorem range16:Array.range 16=#[0,1,2,3,4,5,6,7,8,9,10,11,12,13,14,15]:=by decide
theorem tab_zero:#[.int .u32 0,.int .u32 0,.int .u32 0,.int .u32 0,.int .u32 0,.int .u32 0,.int .u32 0,.int .u32 0,.int .u32 0,.int .u32 0,.int .u32 0,.int .u32 0,.int .u32 0,.int .u32 0,.int .u32 0,.int .u32 0]=tab 0:=by
 unfold tab
 rw[range16]
 simp only[List.map_toArray,List.map_cons,List.map_nil]
 rfl
theorem tab_set (i:Nat) (h:i<16):(tab i).setIfInBounds i (.int .u32 (vI (stn 4 (BitVec.ofNat 32 i))))=tab (i+1):=by
 apply Array.ext_getElem?
 intro j
 by_cases hj:j<16
 ·rw[Array.getElem?_setIfInBounds,tab_get _ _ hj,tab_get _ _ hj,tab_size]
  by_cases hij:i=j
  ·subst hij
   simp[h]
  ·have:(j<i+1)=(j<i):=by simp;omega
   simp[hij,this]
 ·rw[Array.getElem?_eq_none (by simp[tab_size];omega),Array.getElem?_eq_none (by simp[tab_size];omega)]
def xT (j:Nat):Int:=vI (stn 4 (BitVec.ofNat 32 j))
theorem tab_full:tab 16=#[.int .u32 (xT 0),.int .u32 (xT 1),.int .u32 (xT 2),.int .u32 (xT 3),.int .u32 (xT 4),.int .u32 (xT 5),.int .u32 (xT 6),.int .u32 (xT 7),.int .u32 (xT 8),.int .u32 (xT 9),.int .u32 (xT 10),.int .u32 (xT 11),.int .u32 (xT 12),.int .u32 (xT 13),.int .u32 (xT 14),.int .u32 (xT 15)]:=by
 unfold tab
 rw[range16]
 simp only[List.map_toArray,List.map_cons,List.map_nil]
 rfl
theorem fourShifts_any (w:World) :
  Calls Tryz.prog 234 #[] w fun e w'=>e=.returned (.agg (tab 16))/\Below w.heap.size w w':=by
 go_enter Tryz.func234,Tryz.ntmps234
 go_wp2
 rw[tab_zero]
 go_loopw [4] (fun x wr=>∃ i:Nat,i<=16/\x=.int .i64 i/\wr=(w.alloc (.cells (tab 0) 284)).alloc (.cells (tab i) 284)) (fun x _=>16-(intOf x).toNat)
 case atStart=>exact⟨0,by omega,rfl,rfl⟩
 case round =>
  obtain⟨i,hi,rfl,rfl⟩:=hrel
  by_cases hlt:i<16
  ·have hd:decide ((i:Int)<16)=true:=by simp;omega
   have hg:=tab_get i i hlt
   rw[if_neg (Nat.lt_irrefl i)] at hg
   go_wp2
   go_loop [3,9] (fun r j=>∃ k:Nat,k<=4/\j=.int .i64 k/\r=.int .u32 (vI (stn k (BitVec.ofNat 32 i)))) (fun _ j=>4-(intOf j).toNat)
   case atStart =>
    refine⟨0,by omega,rfl,?_⟩
    show _=Value.int .u32 (vI (BitVec.ofNat 32 i))
    rw[vI_lit i (by omega)]
   case round =>
    obtain⟨k,hk,rfl,rfl⟩:=hrel
    by_cases hlt2:k<4
    ·go_wp2_with (go_at_call 247;refine(shift_any _ _).mono ?_;rintro e w' ⟨rfl,rfl⟩)
     go_round
     case rel=>exact⟨k+1,by omega,by go_num,by rw[stn_succ]⟩
     case measure=>simp[intOf];omega
    ·have:k=4:=by omega
     subst this
     go_wp2
     go_roundw
     case rel =>
      exact⟨i+1,by omega,by go_num,by rw[← tab_set i hlt]⟩
     case measure=>simp[intOf];omega
  ·have:i=16:=by omega
   subst this
   rw[tab_full,← tab_zero]
   go_wp2
   refine bodyPost_ret (v:=.agg (tab 16)) ?_ rfl ⟨rfl,?_⟩
   ·rw[tab_full]
    simp[results,Tryz.results19,go_sem]
   ·exact((Below.refl _ _).alloc (Nat.le_refl _) _).alloc (by simp) _
theorem fourShifts_lit (w:World) :
  Calls Tryz.prog 234 #[] w fun e w'=>e=.returned (.agg #[.int .u32 (xT 0),.int .u32 (xT 1),.int .u32 (xT 2),.int .u32 (xT 3),.int .u32 (xT 4),.int .u32 (xT 5),.int .u32 (xT 6),.int .u32 (xT 7),.int .u32 (xT 8),.int .u32 (xT 9),.int .u32 (xT 10),.int .u32 (xT 11),.int .u32 (xT 12),.int .u32 (xT 13),.int .u32 (xT 14),.int .u32 (xT 15)])/\Below w.heap.size w w':=by
 have:=fourShifts_any w
 rw[tab_full] at this
 exact this
theorem ofB_vI (b:UInt8):(b.toNat:Int)=vI (ofB b):=by
 unfold vI ofB
 have:=b.toNat_lt
 rw[BitVec.toNat_ofNat]
 omega
theorem ofB_mod (b:UInt8):(b.toNat:Int) % 4294967296=vI (ofB b):=by
 rw[← ofB_vI]
 have:=b.toNat_lt
 omega
theorem half_facts (c:R):∃ (n:Nat) (s d:R),bits .and .u32 (vI c) 15=(n:Int)/\n<16/\(tab 16)[n]?=some (.int .u32 (vI d))/\vI c / (16:Int)=vI s/\bits .xor .u32 (vI s) (vI d)=vI (stn 4 c):=by
 have e15:(15:Int)=vI 15#32:=rfl
 have hlt:(c &&& 15#32).toNat<16:=by
  rw[BitVec.toNat_and]
  have:c.toNat &&& (15#32).toNat<=15:=Nat.and_le_right
  omega
 refine⟨(c &&& 15#32).toNat,c >>> 4,stn 4 (c &&& 15#32),?_,hlt,?_,shr32_4 c,?_⟩
 ·rw[e15,and32];rfl
 ·rw[tab_get 16 _ hlt,if_pos hlt,BitVec.ofNat_toNat]
  simp
 ·rw[xor32,← four_steps]
theorem not32 (n:Int):bits .xor .u32 IntKind.u32.max (n % 4294967296)=vI (BitVec.ofInt 32 n ^^^ ones):=by
 have e1:IntKind.u32.max=vI ones:=rfl
 have e2:n % 4294967296=vI (BitVec.ofInt 32 n):=by
  unfold vI
  rw[BitVec.toNat_ofInt]
  omega
 rw[e1,e2,xor32,BitVec.xor_comm]
theorem not32_vI (c:R):bits .xor .u32 IntKind.u32.max (vI c)=vI (c ^^^ ones):=by
 have e1:IntKind.u32.max=vI ones:=rfl
 rw[e1,xor32,BitVec.xor_comm]
theorem take_snoc (s:ByteArray) (k:Nat) (h:k<s.size):s.data.toList.take (k+1)=s.data.toList.take k++[s[k]]:=by
 rw[List.take_succ_eq_append_getElem (by simpa using h)];rfl
theorem bytesRow_cell (w:World) (s:ByteArray) (c m:Nat) (k:Nat) (h:k<s.size) :
  (w.alloc (.cells (bytesRow s c) 5 (m,m+1))).cell? ⟨w.heap.size,k,none⟩=some (.int .u8 (s[k].toNat:Int)):=by
 rw[World.cell?_alloc_mark]
 have h':k<s.data.size:=h
 simp only[bytesRow]
 rw[Array.getElem?_append_left (by simpa using h')]
 rw[Array.getElem?_map,Array.getElem?_eq_getElem h']
 rfl
theorem runB_snoc (c:R) (l:List UInt8) (b:UInt8):runB c (l++[b])=stn 4 (stn 4 (runB c l ^^^ ofB b)):=by
 rw[runB_append,← stn_add]
 rfl
theorem More_any (n:Int) (s:ByteArray) (w:World) (hs:s.size<=281474976710656) :
  Calls Tryz.prog 201 #[.int .i64 n,.string s] w fun e w'=>e=.returned (.int .i64 (vI (moreB (BitVec.ofInt 32 n) s.data.toList)))/\Below w.heap.size w w':=by
 have hcv:=fun w s=>run_bytes_of_string (P:=Tryz.prog) w 9 80 5 s Tryz.underlying9 Tryz.underlying80 Tryz.underlying5
 obtain⟨C,hC⟩:∃ C,BitVec.ofInt 32 n ^^^ ones=C:=⟨_,rfl⟩
 have h0:=not32 n
 have hm:moreB (BitVec.ofInt 32 n) s.data.toList=runB C s.data.toList ^^^ ones:=by rw[moreB,hC]
 rw[hC] at h0
 rw[hm]
 clear hm hC
 go_enter Tryz.func201,Tryz.ntmps201
 go_wp2_with (go_at_call 234;refine(fourShifts_lit _).mono ?_;rintro e w1 ⟨rfl,hb1⟩)
 rw[← tab_full]
 generalize grownCap (w1.alloc (Obj.cells (tab 16) 284)) s.size 0 5=gc
 have hrow:∀ j (hj:j<s.size),((w1.alloc (Obj.cells (tab 16) 284)).alloc (Obj.cells (bytesRow s gc) 5 ((bytesRow s gc).size,(bytesRow s gc).size+1))).drew.cell? ⟨w1.heap.size+1,j,none⟩=some (.int .u8 (s[j].toNat:Int)):=by
  intro j hj
  have:=bytesRow_cell (w1.alloc (Obj.cells (tab 16) 284)) s gc (bytesRow s gc).size j hj
  simpa[go_sem] using this
 have htab:∀ j,((w1.alloc (Obj.cells (tab 16) 284)).alloc (Obj.cells (bytesRow s gc) 5 ((bytesRow s gc).size,(bytesRow s gc).size+1))).drew.cell? ⟨w1.heap.size,j,none⟩=(tab 16)[j]?:=by
  intro j
  simp[go_sem]
 have hbel:Below w.heap.size w ((w1.alloc (Obj.cells (tab 16) 284)).alloc (Obj.cells (bytesRow s gc) 5 ((bytesRow s gc).size,(bytesRow s gc).size+1))).drew :=
  ((hb1.alloc hb1.size _).alloc (by have:=hb1.size;simp;omega) _).drew
 generalize ((w1.alloc (Obj.cells (tab 16) 284)).alloc (Obj.cells (bytesRow s gc) 5 ((bytesRow s gc).size,(bytesRow s gc).size+1))).drew=W at hrow htab hbel ⊢
 have HR:Hid _:=hrow
 have HT:Hid _:=htab
 have HB:Hid _:=hbel
 clear hrow htab hbel hcv
 go_loop [6,16] (fun r i=>∃ j:Nat,j<=s.size/\i=.int .i64 j/\r=.int .u32 (vI (runB C (s.data.toList.take j)))) (fun _ i=>s.size-(intOf i).toNat)
 case atStart=>exact⟨0,Nat.zero_le _,rfl,rfl⟩
 case round =>
  obtain⟨j,hj,rfl,rfl⟩:=hrel
  by_cases hlt:j<s.size
  ·have hc:=HR.out j hlt
   have HS:Hid _:=runB_snoc C (s.data.toList.take j) s[j]
   have HS2:Hid _:=take_snoc s j hlt
   have e1:=xor32 (runB C (s.data.toList.take j)) (ofB s[j])
   rw[← ofB_mod] at e1
   generalize runB C (s.data.toList.take j)=c0 at *
   generalize c0 ^^^ ofB s[j]=c1 at *
   obtain⟨n1,s1,d1,f1,g1,t1,k1,x1⟩:=half_facts c1
   have T1:=HT.out n1
   rw[t1] at T1
   generalize stn 4 c1=c2 at *
   obtain⟨n2,s2,d2,f2,g2,t2,k2,x2⟩:=half_facts c2
   have T2:=HT.out n2
   rw[t2] at T2
   generalize stn 4 c2=c3 at *
   clear t1 t2
   go_wp2
   go_round
   case rel=>exact⟨j+1,by omega,by go_num,by rw[HS2.out,HS.out]⟩
   case measure=>simp[intOf];omega
  ·have hn:=not32_vI (runB C (s.data.toList.take j))
   have hw:=wrap64_vI (runB C (s.data.toList.take j) ^^^ ones)
   rw[List.take_of_length_le (by simp;omega)] at *
   go_wp2
   go_ret
   exact⟨rfl,HB.out⟩
theorem Sum_any (s:ByteArray) (w:World) (hs:s.size<=281474976710656) :
  Calls Tryz.prog 157 #[.string s] w fun e w'=>e=.returned (.int .i64 (vI (sumB s.data.toList)))/\Below w.heap.size w w':=by
 have C1:Hid (∀ w,Calls Tryz.prog 201 #[.int .i64 0,.string s] w fun e w'=>e=.returned (.int .i64 (vI (sumB s.data.toList)))/\Below w.heap.size w w'):=by
  intro w
  have:=More_any 0 s w hs
  rw[show BitVec.ofInt 32 0=0#32 from rfl,more_zero] at this
  exact this
 clear hs
 go_enter Tryz.func157,Tryz.ntmps157
 go_wp2_with (go_at_call 201;refine(C1.out _).mono ?_;rintro e w1 ⟨rfl,hb1⟩)
 go_ret
 exact⟨rfl,hb1⟩
open Go.RowKit Go.Proofs.YtpcnjncgilmehabGreat.Pk
def sumI (s:ByteArray):Int:=vI (sumB s.data.toList)
theorem Sum_I (s:ByteArray) (w:World) (hs:s.size<=281474976710656) :
  Calls Tryz.prog 157 #[.string s] w fun e w'=>e=.returned (.int .i64 (sumI s))/\Below w.heap.size w w':=Sum_any s w hs
theorem below_dr {b:Nat} {a w:World} (h:Below b a w) (n:Nat):Below b a (w.drewN n):=⟨h.os,h.tape,h.output,h.size,h.block⟩
theorem nil_append (s:ByteArray):(⟨#[]⟩:ByteArray)++s=s:=by apply ByteArray.ext;simp[ByteArray.data_append]
theorem Put_four (n:Int) (w:World) (h0:0<=n) (hn:n<4294967296) :
  Calls Tryz.prog 116 #[.string ⟨#[]⟩,.int .i64 n,.int .i64 4] w fun e w'=>e=.returned (.tuple #[.string (beS n.toNat 4),.int .i64 0])/\Below w.heap.size w w':=by
 have hz:(beS n.toNat 4).size<=6:=by rw[beS_size];omega
 have C1:Hid (∀ w,Calls Tryz.prog 178 #[.int .i64 n,.int .i64 4] w fun e w'=>e=.returned (.string (beS n.toNat 4))/\Below w.heap.size w w'):=by
  intro w
  have h:=num_4 n.toNat w (by omega)
  rw[Int.toNat_of_nonneg h0] at h
  exact h
 go_enter Tryz.func116,Tryz.ntmps116
 go_wp2_with (first |(go_at_call 145;refine(isWidth_any _ _).mono ?_;rintro e w' ⟨rfl,rfl⟩) |(go_at_call 178;refine(C1.out _).mono ?_;rintro e w1 ⟨rfl,hb⟩))
 go_ret2
 rw[nil_append]
 exact⟨rfl,hb⟩
theorem Read_any (s:ByteArray) (w:World) :
  Calls Tryz.prog 94 #[.string s] w fun e w'=>e=.returned (.pointer (some ⟨w.heap.size,0,none⟩))/\isRd w' w.heap.size s 0/\Below w.heap.size w w':=by
 go_enter Tryz.func94,Tryz.ntmps94
 go_wp2
 go_ret
 exact⟨rfl,(MapKept.heap_alloc w _).1,(Below.refl _ _).alloc (Nat.le_refl _) _⟩
theorem sumI_nonneg (s:ByteArray):0<=sumI s:=vI_nonneg _
theorem sumI_lt (s:ByteArray):sumI s<4294967296:=vI_lt _
def sealV (s:ByteArray):ByteArray:=beS (sumI s).toNat 4++s
theorem Seal_any (s:ByteArray) (w:World) (hs:s.size<=140737488351232) :
  Calls Tryz.prog 155 #[.string s] w fun e w'=>e=.returned (.string (sealV s))/\Below w.heap.size w w':=by
 have hz:(beS (sumI s).toNat 4).size<=6:=by rw[beS_size];omega
 have C1:Hid _:=fun w=>Sum_I s w (by omega)
 have C2:Hid _:=fun w=>Put_four (sumI s) w (sumI_nonneg s) (sumI_lt s)
 have HV:Hid (sealV s=beS (sumI s).toNat 4++s):=by rfl
 generalize sumI s=n at *
 generalize sealV s=v at *
 generalize beS n.toNat 4=b at *
 go_enter Tryz.func155,Tryz.ntmps155
 go_wp2_with (first |(go_at_call 157;refine(C1.out _).mono ?_;rintro e w1 ⟨rfl,hb1⟩) |(go_at_call 116;refine(C2.out _).mono ?_;rintro e w2 ⟨rfl,hb2⟩))
 go_ret
 rw[HV.out]
 exact⟨rfl,hb1.trans (hb2.mono hb1.size)⟩
def openV (s:ByteArray):ByteArray × Int :=
 if s.size<4 then(⟨#[]⟩,2) else if sumI (s.extract 4 s.size)=beN (s.extract 0 4).data.toList then(s.extract 4 s.size,0) else(⟨#[]⟩,5)
theorem rdNum_four (s:ByteArray) (h:¬ s.size<4):rdNum s 0 4=(beN (s.extract 0 4).data.toList,s.extract 4 s.size,0):=by
 have e1:rdNumSt s 0 4=(s,0):=by unfold rdNumSt;rw[if_neg (by omega)]
 have e2:rdRaw s 0 4=(s.extract 0 4,s.extract 4 s.size,0):=rdRaw_fits (by omega) (by omega)
 unfold rdNum
 rw[e1]
 dsimp only
 rw[e2]
theorem rdNum_short (s:ByteArray) (h:s.size<4):rdNum s 0 4=(0,⟨#[]⟩,2):=by
 have e1:rdNumSt s 0 4=(s,0):=by unfold rdNumSt;rw[if_neg (by omega)]
 have e2:rdRaw s 0 4=(⟨#[]⟩,⟨#[]⟩,2):=rdRaw_short (by omega) (by omega)
 unfold rdNum
 rw[e1]
 dsimp only
 rw[e2]
 rfl
theorem rdRaw_all (l:ByteArray):rdRaw l 0 (l.size:Int)=(l,⟨#[]⟩,0):=by
 rw[rdRaw_fits (by omega) (by omega),Int.toNat_natCast]
 have e1:l.extract 0 l.size=l:=by apply ByteArray.ext;simp[ByteArray.data_extract]
 have e2:l.extract l.size l.size=⟨#[]⟩:=by apply ByteArray.ext;simp[ByteArray.data_extract]
 rw[e1,e2]
set_option maxHeartbeats 1000000 in
theorem Open_any (s:ByteArray) (w:World) (hs:s.size<=140737488351232) :
  Calls Tryz.prog 108 #[.string s] w fun e w'=>e=.returned (.tuple #[.string (openV s).1,.int .i64 (openV s).2])/\Below w.heap.size w w':=by
 unfold openV
 by_cases h4:s.size<4
 ·rw[if_pos h4]
  have c1:=fun b w h=>Num_any b s 0 4 w hs h
  rw[rdNum_short s h4] at c1
  dsimp only at c1
  have C1:Hid _:=c1
  have C2:Hid _:=fun b w h=>Left_any b ⟨#[]⟩ 2 w (Nat.zero_le _) h
  have c3:=fun b w h=>Raw_any b ⟨#[]⟩ 2 0 w (Nat.zero_le _) h
  rw[rdRaw_had (by decide)] at c3
  dsimp only at c3
  have C3:Hid _:=c3
  have C4:Hid _:=fun b w h=>Err_any b ⟨#[]⟩ 2 w h
  clear c1 c3 hs h4
  go_enter Tryz.func108,Tryz.ntmps108
  go_wp2_with (first |(go_at_call 94;refine(Read_any _ _).mono ?_;rintro e w1 ⟨rfl,h1,b1⟩) |(go_at_call 95;refine(C1.out _ _ h1).mono ?_;rintro e w2 ⟨rfl,h2,o2⟩) |(go_at_call 148;refine(C2.out _ _ h2).mono ?_;rintro e w3 ⟨rfl,rfl⟩) |(go_at_call 97;refine(C3.out _ _ h2).mono ?_;rintro e w4 ⟨rfl,h4,o4⟩) |(go_at_call 107;refine(C4.out _ _ h4).mono ?_;rintro e w5 ⟨rfl,rfl⟩))
  go_ret2
  exact⟨rfl,b1.trans ((o2.trans o4).below (Nat.le_refl _) b1.size)⟩
 ·rw[if_neg h4]
  have c1:=fun b w h=>Num_any b s 0 4 w hs h
  rw[rdNum_four s h4] at c1
  dsimp only at c1
  have hl:(s.extract 4 s.size).size<=140737488351232:=by rw[ByteArray.size_extract];omega
  generalize s.extract 4 s.size=l at *
  generalize beN (s.extract 0 4).data.toList=k at *
  have C1:Hid _:=c1
  have C2:Hid _:=fun b w h=>Left_any b l 0 w hl h
  have c3:=fun b w h=>Raw_any b l 0 l.size w hl h
  rw[rdRaw_all] at c3
  dsimp only at c3
  have C3:Hid _:=c3
  have C4:Hid _:=fun b w h=>Err_any b ⟨#[]⟩ 0 w h
  have C5:Hid _:=fun w=>Sum_I l w (by omega)
  clear c1 c3 hs h4 hl
  by_cases he:sumI l=k
  ·rw[if_pos he]
   have ht:(sumI l !=(k:Int))=false:=by rw[he];simp
   clear he
   go_enter Tryz.func108,Tryz.ntmps108
   go_wp2_with (first |(go_at_call 94;refine(Read_any _ _).mono ?_;rintro e w1 ⟨rfl,h1,b1⟩) |(go_at_call 95;refine(C1.out _ _ h1).mono ?_;rintro e w2 ⟨rfl,h2,o2⟩) |(go_at_call 148;refine(C2.out _ _ h2).mono ?_;rintro e w3 ⟨rfl,rfl⟩) |(go_at_call 97;refine(C3.out _ _ h2).mono ?_;rintro e w4 ⟨rfl,h4,o4⟩) |(go_at_call 107;refine(C4.out _ _ h4).mono ?_;rintro e w5 ⟨rfl,rfl⟩) |(go_at_call 157;refine(C5.out _).mono ?_;rintro e w6 ⟨rfl,b6⟩))
   go_ret2
   have b4:=b1.trans ((o2.trans o4).below (Nat.le_refl _) b1.size)
   exact⟨rfl,b4.trans (b6.mono b4.size)⟩
  ·rw[if_neg he]
   have ht:(sumI l !=(k:Int))=true:=by simpa using he
   clear he
   go_enter Tryz.func108,Tryz.ntmps108
   go_wp2_with (first |(go_at_call 94;refine(Read_any _ _).mono ?_;rintro e w1 ⟨rfl,h1,b1⟩) |(go_at_call 95;refine(C1.out _ _ h1).mono ?_;rintro e w2 ⟨rfl,h2,o2⟩) |(go_at_call 148;refine(C2.out _ _ h2).mono ?_;rintro e w3 ⟨rfl,rfl⟩) |(go_at_call 97;refine(C3.out _ _ h2).mono ?_;rintro e w4 ⟨rfl,h4,o4⟩) |(go_at_call 107;refine(C4.out _ _ h4).mono ?_;rintro e w5 ⟨rfl,rfl⟩) |(go_at_call 157;refine(C5.out _).mono ?_;rintro e w6 ⟨rfl,b6⟩))
   go_ret2
   have b4:=b1.trans ((o2.trans o4).below (Nat.le_refl _) b1.size)
   exact⟨rfl,b4.trans (b6.mono b4.size)⟩
theorem open_seal (s:ByteArray):openV (beS (sumI s).toNat 4++s)=(s,0):=by
 have hz:=beS_size (sumI s).toNat 4
 have h0:=sumI_nonneg s
 have h1:=sumI_lt s
 have e1:=extract_left (beS (sumI s).toNat 4) s
 have e2:=extract_right (beS (sumI s).toNat 4) s
 have e3:(beS (sumI s).toNat 4).data.toList=be (sumI s).toNat 4:=by simp[beS]
 have e4:=beN_be 4 (sumI s).toNat (by omega)
 rw[hz] at e1 e2
 unfold openV
 rw[if_neg (by rw[ByteArray.size_append,hz];omega),e1,e2,e3,e4,if_pos (by omega)]
end Go.Proofs.YtpcnjncgilmehabGreat.Sm
