import Derived.Test.YtdchjncnjgelhaaGreatMac
import Derived.Deep.RegionHeld3
import Derived.WalkKit
import Derived.Test.YtdchjncnjgelhaaGreatProg
import Derived.ProofKit
import Derived.WalkSpells
import Derived.WalkLawsBesides
import Derived.Deep.QuietTactic
import Derived.BigQuiet
set_option linter.unusedVariables false
set_option linter.unusedSimpArgs false
set_option maxRecDepth 100000
namespace Go.Proofs.YtdchjncnjgelhaaGreat
open Go.RowKit
section
variable {w w':World}{b:Nat}{s:Sc}{I T:Value}
theorem values_3 (h:RcAt w b s I T) (ha:actOf s=3):Calls Tryz.prog 165 #[.pointer (some ⟨b,0,none⟩)] w fun e w'=>e=.returned (.slice (some ⟨w.heap.size,0,none⟩) 1 1)/\w'=w.alloc (.cells #[.pointer (some ⟨b,7,none⟩)] 251):=by
 have hc0:=h.c0
 have hc4:=h.c4
 clear h
 unfold actOf at ha
 by_cases hk:s.kd=6
 ·rw[if_pos hk] at ha
  rw[hk] at hc0
  rw[ha] at hc4
  go_enter Tryz.func165,Tryz.ntmps165
  go_wp2
  go_ret
  exact⟨rfl,rfl⟩
 ·rw[if_neg hk] at ha
  rw[ha] at hc0
  go_enter Tryz.func165,Tryz.ntmps165
  go_wp2
  go_ret
  exact⟨rfl,rfl⟩
theorem values_4 (h:RcAt w b s I T) (ha:actOf s=4):Calls Tryz.prog 165 #[.pointer (some ⟨b,0,none⟩)] w fun e w'=>e=.returned (.slice (some ⟨w.heap.size,0,none⟩) 1 1)/\w'=w.alloc (.cells #[.pointer (some ⟨b,6,none⟩)] 251):=by
 have hc0:=h.c0
 have hc4:=h.c4
 clear h
 unfold actOf at ha
 by_cases hk:s.kd=6
 ·rw[if_pos hk] at ha
  rw[hk] at hc0
  rw[ha] at hc4
  go_enter Tryz.func165,Tryz.ntmps165
  go_wp2
  go_ret
  exact⟨rfl,rfl⟩
 ·rw[if_neg hk] at ha
  rw[ha] at hc0
  go_enter Tryz.func165,Tryz.ntmps165
  go_wp2
  go_ret
  exact⟨rfl,rfl⟩
theorem values_o (h:RcAt w b s I T) (h3:actOf s≠3) (h4:actOf s≠4):Calls Tryz.prog 165 #[.pointer (some ⟨b,0,none⟩)] w fun e w'=>e=.returned (.slice (some ⟨w.heap.size,0,none⟩) 2 2)/\w'=w.drew.alloc (.cells #[.pointer (some ⟨b,6,none⟩),.pointer (some ⟨b,7,none⟩)] 251):=by
 have hc0:=h.c0
 have hc4:=h.c4
 clear h
 unfold actOf at h3 h4
 by_cases hk:s.kd=6
 ·rw[if_pos hk] at h3 h4
  rw[hk] at hc0
  have e3:(s.ac==3)=false:=by simpa using h3
  have e4:(s.ac==4)=false:=by simpa using h4
  go_enter Tryz.func165,Tryz.ntmps165
  go_wp2
  go_region
  go_wp2
  go_ret
  exact⟨rfl,rfl⟩
 ·rw[if_neg hk] at h3 h4
  have e6:(s.kd==6)=false:=by simpa using hk
  have e3:(s.kd==3)=false:=by simpa using h3
  have e4:(s.kd==4)=false:=by simpa using h4
  go_enter Tryz.func165,Tryz.ntmps165
  go_wp2
  go_region
  go_wp2
  go_ret
  exact⟨rfl,rfl⟩
end
section
variable {w w':World}{b c:Nat}{s t:Sc}{I T J U:Value}
def chg (s t:Sc):Sc:={s with pg:=t.pg,ky:=t.ky}
theorem copy_start (h:RcAt w b s I T) (h':RcAt w c t J U) (hne:b≠c) :
  RcAt ((w.setCell ⟨b,3,none⟩ (.int .i64 t.pg)).setCell ⟨b,5,none⟩ (.string t.ky)).drew b (chg s t) I T/\RcAt ((w.setCell ⟨b,3,none⟩ (.int .i64 t.pg)).setCell ⟨b,5,none⟩ (.string t.ky)).drew c t J U/\Pk.Off b w ((w.setCell ⟨b,3,none⟩ (.int .i64 t.pg)).setCell ⟨b,5,none⟩ (.string t.ky)).drew:=by
 have o:Pk.Off b w ((w.setCell ⟨b,3,none⟩ (.int .i64 t.pg)).setCell ⟨b,5,none⟩ (.string t.ky)).drew:=(((Pk.Off.refl _ _).setCell _ _).setCell _ _).drew
 refine⟨RcAt.drew ((h.set (k:=3) (s':={s with pg:=t.pg}) (I':=I) (T':=T) rfl).set (k:=5) (s':=chg s t) (I':=I) (T':=T) rfl),h'.off o (fun e=>hne e.symm),o⟩
structure Vl (w w':World) (b c g d:Nat) (s t:Sc) (I T J U:Value) (P G:Array Value):Prop where
 tb:RcAt w' b s I T
 fc:RcAt w' c t J U
 pg:w'.heap[g]?=some (.cells P 251)
 pd:w'.heap[d]?=some (.cells G 251)
 off:Pk.Off b w w'
theorem Vl.mk' {w w1:World} {P G:Array Value} (h:RcAt w1 b s I T) (h':RcAt w1 c t J U) (o:Pk.Off b w w1) {w2 w3:World} (h2:w2=w1.alloc (.cells P 251)) (h3:w3=w2.alloc (.cells G 251)):Vl w w3 b c w1.heap.size w2.heap.size s t I T J U P G:=by
 subst h2 h3
 have b1:Below w1.heap.size w1 (w1.alloc (.cells P 251)):=(Below.refl _ _).alloc (Nat.le_refl _) _
 have b2:Below (w1.alloc (.cells P 251)).heap.size (w1.alloc (.cells P 251)) ((w1.alloc (.cells P 251)).alloc (.cells G 251)):=(Below.refl _ _).alloc (Nat.le_refl _) _
 refine⟨(h.below b1).below b2,(h'.below b1).below b2,(b2.block _ ?_).trans (MapKept.heap_alloc w1 _).1,(MapKept.heap_alloc _ _).1,(o.alloc _).alloc _⟩
 simp
theorem Vl.mk2 {w w1:World} {P G:Array Value} (h:RcAt w1 b s I T) (h':RcAt w1 c t J U) (o:Pk.Off b w w1) {w2 w3:World} (h2:w2=w1.drew.alloc (.cells P 251)) (h3:w3=w2.drew.alloc (.cells G 251)):Vl w w3 b c w1.heap.size w2.heap.size s t I T J U P G:=by
 subst h2 h3
 have b1:Below w1.heap.size w1 (w1.drew.alloc (.cells P 251)):=((Below.refl _ _).drew).alloc (Nat.le_refl _) _
 have b2:Below (w1.drew.alloc (.cells P 251)).heap.size (w1.drew.alloc (.cells P 251)) ((w1.drew.alloc (.cells P 251)).drew.alloc (.cells G 251)):=((Below.refl (w1.drew.alloc (.cells P 251)).heap.size (w1.drew.alloc (.cells P 251))).drew).alloc (Nat.le_refl _) _
 refine⟨(h.below b1).below b2,(h'.below b1).below b2,(b2.block _ ?_).trans (MapKept.heap_alloc w1.drew _).1,(MapKept.heap_alloc _ _).1,((o.drew.alloc _).drew).alloc _⟩
 simp
theorem copy_3 (h:RcAt w b s I T) (h':RcAt w c t J U) (hne:b≠c) (ha:actOf s=3) (ha':actOf t=3):Calls Tryz.prog 130 #[.pointer (some ⟨b,0,none⟩),.pointer (some ⟨c,0,none⟩)] w fun e w'=>e=.returned (.tuple #[])/\RcAt w' b {chg s t with nw:=t.nw} I T/\Pk.Off b w w':=by
 have a3:=h.c3
 have a5:=h.c5
 have af:=h.f
 have b3:=h'.c3
 have b5:=h'.c5
 have K:=copy_start h h' hne
 clear h h'
 go_enter Tryz.func130,Tryz.ntmps130
 go_wp2
 go_region
 generalize ((w.setCell ⟨b,3,none⟩ (.int .i64 t.pg)).setCell ⟨b,5,none⟩ (.string t.ky)).drew=w1 at K ⊢
 obtain⟨r1,q1,o1⟩:=K
 have hx:actOf (chg s t)=3:=ha
 have C1:=values_3 q1 ha'
 have C2:∀ w2,w2=w1.alloc (.cells #[.pointer (some ⟨c,7,none⟩)] 251)->Calls Tryz.prog 165 #[.pointer (some ⟨b,0,none⟩)] w2 fun e w'=>e=.returned (.slice (some ⟨w1.heap.size+1,0,none⟩) 1 1)/\Vl w w' b c w1.heap.size (w1.heap.size+1) (chg s t) t I T J U #[.pointer (some ⟨c,7,none⟩)] #[.pointer (some ⟨b,7,none⟩)]:=fun w2 h2=>by
  have r2:=r1.below (show Below w1.heap.size w1 w2 by subst h2;exact(Below.refl _ _).alloc (Nat.le_refl _) _)
  refine(values_3 r2 hx).mono ?_
  rintro e w3 ⟨he,hw⟩
  have hz:w2.heap.size=w1.heap.size+1:=by subst h2;simp
  have V:=Vl.mk' r1 q1 o1 h2 hw
  rw[hz] at he V
  exact⟨he,V⟩
 have D1:Hid (∀ w2,w2=w1->Calls Tryz.prog 165 #[.pointer (some ⟨c,0,none⟩)] w2 fun e w'=>e=.returned (.slice (some ⟨w1.heap.size,0,none⟩) 1 1)/\w'=w1.alloc (.cells #[.pointer (some ⟨c,7,none⟩)] 251)):=fun w2 h2=>by subst h2;exact C1
 have D2:Hid _:=C2
 clear C1 C2 r1 q1 o1 a3 a5 af b3 b5 ha ha' hx
 go_wp2_with (first |(go_at_call 165;refine(D1.out _ rfl).mono ?_;clear D1;rintro e w2 ⟨rfl,rfl⟩) |(go_at_call 165;refine(D2.out _ rfl).mono ?_;clear D2;rintro e w3 ⟨rfl,V⟩))
 have k1:=V.tb.c7
 have k2:=V.fc.c7
 have k3:=Joins.cell_of_block V.pg 0
 have k4:=Joins.cell_of_block V.pd 0
 have k5:=V.tb.f
 simp only[List.getElem?_toArray,List.getElem?_cons_zero] at k3 k4
 refine wp_loop_rounds 2 ?_
 rw[rounds_succ]
 go_wp2
 rw[rounds_succ]
 go_wp2
 go_end0
 exact⟨rfl,V.tb.set rfl,V.off.setCell _ _⟩
theorem copy_4 (h:RcAt w b s I T) (h':RcAt w c t J U) (hne:b≠c) (ha:actOf s=4) (ha':actOf t=4):Calls Tryz.prog 130 #[.pointer (some ⟨b,0,none⟩),.pointer (some ⟨c,0,none⟩)] w fun e w'=>e=.returned (.tuple #[])/\RcAt w' b {chg s t with ol:=t.ol} I T/\Pk.Off b w w':=by
 have a3:=h.c3
 have a5:=h.c5
 have af:=h.f
 have b3:=h'.c3
 have b5:=h'.c5
 have K:=copy_start h h' hne
 clear h h'
 go_enter Tryz.func130,Tryz.ntmps130
 go_wp2
 go_region
 generalize ((w.setCell ⟨b,3,none⟩ (.int .i64 t.pg)).setCell ⟨b,5,none⟩ (.string t.ky)).drew=w1 at K ⊢
 obtain⟨r1,q1,o1⟩:=K
 have hx:actOf (chg s t)=4:=ha
 have C1:=values_4 q1 ha'
 have C2:∀ w2,w2=w1.alloc (.cells #[.pointer (some ⟨c,6,none⟩)] 251)->Calls Tryz.prog 165 #[.pointer (some ⟨b,0,none⟩)] w2 fun e w'=>e=.returned (.slice (some ⟨w1.heap.size+1,0,none⟩) 1 1)/\Vl w w' b c w1.heap.size (w1.heap.size+1) (chg s t) t I T J U #[.pointer (some ⟨c,6,none⟩)] #[.pointer (some ⟨b,6,none⟩)]:=fun w2 h2=>by
  have r2:=r1.below (show Below w1.heap.size w1 w2 by subst h2;exact(Below.refl _ _).alloc (Nat.le_refl _) _)
  refine(values_4 r2 hx).mono ?_
  rintro e w3 ⟨he,hw⟩
  have hz:w2.heap.size=w1.heap.size+1:=by subst h2;simp
  have V:=Vl.mk' r1 q1 o1 h2 hw
  rw[hz] at he V
  exact⟨he,V⟩
 have D1:Hid (∀ w2,w2=w1->Calls Tryz.prog 165 #[.pointer (some ⟨c,0,none⟩)] w2 fun e w'=>e=.returned (.slice (some ⟨w1.heap.size,0,none⟩) 1 1)/\w'=w1.alloc (.cells #[.pointer (some ⟨c,6,none⟩)] 251)):=fun w2 h2=>by subst h2;exact C1
 have D2:Hid _:=C2
 clear C1 C2 r1 q1 o1 a3 a5 af b3 b5 ha ha' hx
 go_wp2_with (first |(go_at_call 165;refine(D1.out _ rfl).mono ?_;clear D1;rintro e w2 ⟨rfl,rfl⟩) |(go_at_call 165;refine(D2.out _ rfl).mono ?_;clear D2;rintro e w3 ⟨rfl,V⟩))
 have k1:=V.tb.c6
 have k2:=V.fc.c6
 have k3:=Joins.cell_of_block V.pg 0
 have k4:=Joins.cell_of_block V.pd 0
 have k5:=V.tb.f
 simp only[List.getElem?_toArray,List.getElem?_cons_zero] at k3 k4
 refine wp_loop_rounds 2 ?_
 rw[rounds_succ]
 go_wp2
 rw[rounds_succ]
 go_wp2
 go_end0
 exact⟨rfl,V.tb.set rfl,V.off.setCell _ _⟩
theorem copy_o (h:RcAt w b s I T) (h':RcAt w c t J U) (hne:b≠c) (h3:actOf s≠3) (h4:actOf s≠4) (ha:actOf t=actOf s):Calls Tryz.prog 130 #[.pointer (some ⟨b,0,none⟩),.pointer (some ⟨c,0,none⟩)] w fun e w'=>e=.returned (.tuple #[])/\RcAt w' b {chg s t with ol:=t.ol,nw:=t.nw} I T/\Pk.Off b w w':=by
 have a3:=h.c3
 have a5:=h.c5
 have af:=h.f
 have b3:=h'.c3
 have b5:=h'.c5
 have K:=copy_start h h' hne
 clear h h'
 go_enter Tryz.func130,Tryz.ntmps130
 go_wp2
 go_region
 generalize ((w.setCell ⟨b,3,none⟩ (.int .i64 t.pg)).setCell ⟨b,5,none⟩ (.string t.ky)).drew=w1 at K ⊢
 obtain⟨r1,q1,o1⟩:=K
 have hx3:actOf (chg s t)≠3:=h3
 have hx4:actOf (chg s t)≠4:=h4
 have C1:=values_o q1 (by rw[ha];exact h3) (by rw[ha];exact h4)
 have C2:∀ w2,w2=w1.drew.alloc (.cells #[.pointer (some ⟨c,6,none⟩),.pointer (some ⟨c,7,none⟩)] 251)->Calls Tryz.prog 165 #[.pointer (some ⟨b,0,none⟩)] w2 fun e w'=>e=.returned (.slice (some ⟨w1.heap.size+1,0,none⟩) 2 2)/\Vl w w' b c w1.heap.size (w1.heap.size+1) (chg s t) t I T J U #[.pointer (some ⟨c,6,none⟩),.pointer (some ⟨c,7,none⟩)] #[.pointer (some ⟨b,6,none⟩),.pointer (some ⟨b,7,none⟩)]:=fun w2 h2=>by
  have r2:=r1.below (show Below w1.heap.size w1 w2 by subst h2;exact((Below.refl _ _).drew).alloc (Nat.le_refl _) _)
  refine(values_o r2 hx3 hx4).mono ?_
  rintro e w3 ⟨he,hw⟩
  have hz:w2.heap.size=w1.heap.size+1:=by subst h2;simp
  have V:=Vl.mk2 r1 q1 o1 h2 hw
  rw[hz] at he V
  exact⟨he,V⟩
 have D1:Hid (∀ w2,w2=w1->Calls Tryz.prog 165 #[.pointer (some ⟨c,0,none⟩)] w2 fun e w'=>e=.returned (.slice (some ⟨w1.heap.size,0,none⟩) 2 2)/\w'=w1.drew.alloc (.cells #[.pointer (some ⟨c,6,none⟩),.pointer (some ⟨c,7,none⟩)] 251)):=fun w2 h2=>by subst h2;exact C1
 have D2:Hid _:=C2
 clear C1 C2 r1 q1 o1 a3 a5 af b3 b5 ha h3 h4 hx3 hx4
 go_wp2_with (first |(go_at_call 165;refine(D1.out _ rfl).mono ?_;clear D1;rintro e w2 ⟨rfl,rfl⟩) |(go_at_call 165;refine(D2.out _ rfl).mono ?_;clear D2;rintro e w3 ⟨rfl,V⟩))
 have k1:=V.tb.c6
 have k2:=V.fc.c6
 have k1':=V.tb.c7
 have k2':=V.fc.c7
 have k3:=Joins.cell_of_block V.pg 0
 have k4:=Joins.cell_of_block V.pd 0
 have k3':=Joins.cell_of_block V.pg 1
 have k4':=Joins.cell_of_block V.pd 1
 have k5:=V.tb.f
 simp only[List.getElem?_toArray,List.getElem?_cons_zero,List.getElem?_cons_succ] at k3 k4 k3' k4'
 refine wp_loop_rounds 3 ?_
 rw[rounds_succ]
 go_wp2
 rw[rounds_succ]
 go_wp2
 rw[rounds_succ]
 go_wp2
 go_end0
 exact⟨rfl,(V.tb.set (k:=6) (s':={chg s t with ol:=t.ol}) (I':=I) (T':=T) rfl).set rfl,(V.off.setCell _ _).setCell _ _⟩
def copyS (s t:Sc):Sc:={s with pg:=t.pg,ky:=t.ky,ol:=if actOf t=3 then s.ol else t.ol,nw:=if actOf t=4 then s.nw else t.nw}
theorem copy_any (h:RcAt w b s I T) (h':RcAt w c t J U) (hne:b≠c) (ha:actOf t=actOf s):Calls Tryz.prog 130 #[.pointer (some ⟨b,0,none⟩),.pointer (some ⟨c,0,none⟩)] w fun e w'=>e=.returned (.tuple #[])/\RcAt w' b (copyS s t) I T/\Pk.Off b w w':=by
 unfold copyS
 by_cases h3:actOf s=3
 ·rw[ha,if_pos h3,if_neg (by rw[h3];decide)]
  exact copy_3 h h' hne h3 (ha.trans h3)
 ·by_cases h4:actOf s=4
  ·rw[ha,if_neg h3,if_pos h4]
   exact copy_4 h h' hne h4 (ha.trans h4)
  ·rw[ha,if_neg h3,if_neg h4]
   exact copy_o h h' hne h3 h4 ha
end
structure WrS (w:World) (b:Nat) (A:ByteArray × Int) (j:Nat):Prop where
 wr:Pk.WrIs w b A.1 A.2
 sz:A.1.size<=j
section
variable {w w':World}{b j:Nat}{A:ByteArray × Int}
theorem WrS.lt (h:WrS w b A j):b<w.heap.size:=h.wr.lt
theorem WrS.below (h:WrS w b A j) (hb:Below w.heap.size w w'):WrS w' b A j:=⟨h.wr.below hb,h.sz⟩
theorem WrS.num (h:WrS w b A j) (hj:j<=10000000000000) (n k:Int):Calls Tryz.prog 159 #[.pointer (some ⟨b,0,none⟩),.int .i64 n,.int .i64 k] w fun r w'=>r=.returned (.tuple #[])/\WrS w' b (stepW A n k) (j+6)/\Pk.Off b w w':=by
 have hz:=h.sz
 refine(Pk.WNum_any b A.1 A.2 n k w h.wr (by omega)).mono ?_
 rintro e w'' ⟨he,hw,ho⟩
 exact⟨he,⟨hw,by have:=stepW_size A n k;omega⟩,ho⟩
theorem WrS.text (h:WrS w b A j) (hj:j<=10000000000000) (t:ByteArray) (ht:t.size<=140737488351232):Calls Tryz.prog 189 #[.pointer (some ⟨b,0,none⟩),.string t] w fun r w'=>r=.returned (.tuple #[])/\WrS w' b (stepT A t) (j+65537)/\Pk.Off b w w':=by
 have hz:=h.sz
 refine(Pk.WText_any b A.1 A.2 t w h.wr (by omega) ht).mono ?_
 rintro e w'' ⟨he,hw,ho⟩
 exact⟨he,⟨hw,by have:=stepT_size A t;omega⟩,ho⟩
theorem keep_new {o:Obj} (ho:Pk.Off b (w.alloc o) w') (hb:b<w.heap.size):w'.heap[w.heap.size]?=some o:=by
 have:=ho.block w.heap.size (by simp) (by omega)
 rw[this]
 exact(MapKept.heap_alloc w o).1
def ints (ps:List Int):Array Value:=(ps.map fun p=>.int .i64 p).toArray
theorem ints_at {g:Nat} {ps:List Int} (h:w.heap[g]?=some (.cells (ints ps) 3)) {i:Nat} (hi:i<ps.length):w.cell? ⟨g,i,none⟩=some (.int .i64 ps[i]):=by
 rw[Joins.cell_of_block h]
 simp[ints,hi]
set_option maxHeartbeats 400000 in
theorem layPlaces_any (h:WrS w b A j) (hj:j<=1000000000000) {g n:Nat} (ps:List Int) (hg:w.heap[g]?=some (.cells (ints ps) 3)) (hgb:g≠b) (hn:ps.length=n) (h3:n<=3) :
  Calls Tryz.prog 161 #[.pointer (some ⟨b,0,none⟩),.slice (some ⟨g,0,none⟩) n n] w fun r w'=>r=.returned (.tuple #[])/\WrS w' b (layP ps A) (j+6*n)/\Pk.Off b w w':=by
 have hgl:g<w.heap.size:=(Array.getElem?_eq_some_iff.1 hg).1
 go_enter Tryz.func161,Tryz.ntmps161
 go_wp2
 go_loopw [8] (fun ix wr=>∃ i:Nat,i<=n/\ix=.int .i64 (i:Int)/\WrS wr b (layP (ps.take i) A) (j+6*i)/\Pk.Off b w wr) (fun ix _=>n-(intOf ix).toNat)
 case atStart=>exact⟨0,Nat.zero_le _,rfl,h,Pk.Off.refl _ _⟩
 case round =>
  obtain⟨i,hi,rfl,hw,ho⟩:=hrel
  by_cases hlt:i<n
  ·have hc:=ints_at ((ho.block g hgl hgb).trans hg) (i:=i) (by omega)
   have hs:layP (ps.take (i+1)) A=stepW (layP (ps.take i) A) (ps[i]'(by omega)) 6:=by
    rw[List.take_succ_eq_append_getElem (by omega),layP_snoc]
   have HS:Hid _:=hs
   have hi2:(i:Int)<(n:Int):=by omega
   have HO:Hid (Pk.Off b w wr):=ho
   clear hs h hg ho
   generalize ps[i]'(by omega)=p at *
   go_wp2_with (go_at_call 159;refine(hw.num (by omega) _ _).mono ?_;rintro e w1 ⟨rfl,h1,o1⟩)
   go_roundw
   case rel =>
    refine⟨i+1,by omega,by go_num,?_,HO.out.trans o1⟩
    rw[HS.out]
    exact h1
   case measure=>simp[intOf];omega
  ·have hin:i=n:=by omega
   subst hin
   have hi2:¬ (i:Int)<(i:Int):=by omega
   go_wp2
   go_end0
   rw[List.take_of_length_le (by omega)] at hw
   exact⟨rfl,hw,ho⟩
set_option maxHeartbeats 400000 in
theorem layImages_J (h:WrS w b A j) (hj:j<=100000000000) {a:Option Addr} {n c:Nat} (l:List Im) (hl:l.length=n) (hn:n<=10000000000000) (J:Nat) (hJ:J<=100000000000) (hS:∀ i,i<=n->(layI (l.take i) (stepW A n 1)).1.size<=J) (hcs:Cs w a (encI l)) (hne:l≠[]->∀ b' off,a=some ⟨b',off,none⟩->b'≠b) (ht:∀ p∈l,p.2.size<=1000) :
  Calls Tryz.prog 160 #[.pointer (some ⟨b,0,none⟩),.slice a n c] w fun r w'=>r=.returned (.tuple #[])/\WrS w' b (layI l (stepW A n 1)) J/\Pk.Off b w w':=by
 go_enter Tryz.func160,Tryz.ntmps160
 go_wp2_with (go_at_call 159;refine(h.num (by omega) _ _).mono ?_;rintro e w1 ⟨rfl,h1,o1⟩)
 go_loopw [12] (fun ix wr=>∃ i:Nat,i<=n/\ix=.int .i64 (i:Int)/\WrS wr b (layI (l.take i) (stepW A n 1)) J/\Pk.Off b w wr) (fun ix _=>n-(intOf ix).toNat)
 case atStart=>exact⟨0,Nat.zero_le _,rfl,⟨h1.wr,hS 0 (Nat.zero_le _)⟩,o1⟩
 case round =>
  obtain⟨i,hi,rfl,hw,ho⟩:=hrel
  by_cases hlt:i<n
  ·obtain⟨b',off,rfl,hb',HC⟩:=csI_at (hcs.off ho (hne (List.length_pos_iff.1 (by omega)))) (i:=i) (by omega)
   obtain⟨q0,q1⟩:=HC wr (Below.refl _ _)
   have hs:layI (l.take (i+1)) (stepW A n 1)=stepT (stepW (layI (l.take i) (stepW A n 1)) (l[i]'(by omega)).1 2) (l[i]'(by omega)).2:=by
    rw[List.take_succ_eq_append_getElem (by omega),layI_snoc]
   have hz1:(l[i]'(by omega)).2.size<=140737488351232:=Nat.le_trans (ht (l[i]'(by omega)) (List.getElem_mem _)) (by omega)
   have HS:Hid _:=hs
   have HSz:Hid _:=hS (i+1) (by omega)
   rw[hs] at HSz
   have hi2:(i:Int)<(n:Int):=by omega
   have HO:Hid (Pk.Off b w wr):=ho
   have hbl:=hw.lt
   clear hs h ho HC h1 o1 hcs ht hS
   generalize l[i]'(by omega)=p at *
   obtain⟨p,t⟩:=p
   dsimp only at q0 q1 hz1 HS
   go_wp2_with (first
    | (go_at_call 159;refine((hw.below ((Below.refl _ _).alloc (Nat.le_refl _) _)).num (by omega) _ _).mono ?_;rintro e w2 ⟨rfl,h2,o2⟩;have k1:=Joins.cell_of_block (keep_new o2 hbl) 1;have HO2:Hid (Pk.Off b w w2):=(HO.out.alloc _).trans o2)
    | (go_at_call 189;refine(h2.text (by omega) _ hz1).mono ?_;rintro e w3 ⟨rfl,h3,o3⟩))
   go_roundw
   case rel =>
    refine⟨i+1,by omega,by go_num,?_,HO2.out.trans o3⟩
    rw[HS.out]
    exact⟨h3.wr,HSz.out⟩
   case measure=>simp[intOf];omega
  ·have hin:i=n:=by omega
   subst hin
   have hi2:¬ (i:Int)<(i:Int):=by omega
   go_wp2
   go_end0
   rw[List.take_of_length_le (by omega)] at hw
   exact⟨rfl,hw,ho⟩
set_option maxHeartbeats 400000 in
theorem layTable_J (h:WrS w b A j) (hj:j<=100000000000) {a:Option Addr} {n c:Nat} (l:List Tb) (hl:l.length=n) (hn:n<=10000000000000) (J:Nat) (hJ:J<=100000000000) (hS:∀ i,i<=n->(layB (l.take i) (stepW A n 1)).1.size<=J) (hcs:Cs w a (encT l)) (hne:l≠[]->∀ b' off,a=some ⟨b',off,none⟩->b'≠b) :
  Calls Tryz.prog 163 #[.pointer (some ⟨b,0,none⟩),.slice a n c] w fun r w'=>r=.returned (.tuple #[])/\WrS w' b (layB l (stepW A n 1)) J/\Pk.Off b w w':=by
 go_enter Tryz.func163,Tryz.ntmps163
 go_wp2_with (go_at_call 159;refine(h.num (by omega) _ _).mono ?_;rintro e w1 ⟨rfl,h1,o1⟩)
 go_loopw [12] (fun ix wr=>∃ i:Nat,i<=n/\ix=.int .i64 (i:Int)/\WrS wr b (layB (l.take i) (stepW A n 1)) J/\Pk.Off b w wr) (fun ix _=>n-(intOf ix).toNat)
 case atStart=>exact⟨0,Nat.zero_le _,rfl,⟨h1.wr,hS 0 (Nat.zero_le _)⟩,o1⟩
 case round =>
  obtain⟨i,hi,rfl,hw,ho⟩:=hrel
  by_cases hlt:i<n
  ·obtain⟨b',off,rfl,hb',HC⟩:=csT_at (hcs.off ho (hne (List.length_pos_iff.1 (by omega)))) (i:=i) (by omega)
   obtain⟨q0,q1⟩:=HC wr (Below.refl _ _)
   have hs:layB (l.take (i+1)) (stepW A n 1)=layP [(l[i]'(by omega)).1,(l[i]'(by omega)).2] (layB (l.take i) (stepW A n 1)):=by
    rw[List.take_succ_eq_append_getElem (by omega),layB_snoc];rfl
   have HS:Hid _:=hs
   have HSz:Hid _:=hS (i+1) (by omega)
   rw[hs] at HSz
   have hi2:(i:Int)<(n:Int):=by omega
   have HO:Hid (Pk.Off b w wr):=ho
   have hbl:=hw.lt
   clear hs h ho HC h1 o1 hcs hS
   generalize l[i]'(by omega)=p at *
   obtain⟨p,t⟩:=p
   dsimp only at q0 q1 HS
   have CP:Hid (∀ w2,w2=(wr.alloc (.cells #[.int .i64 p,.int .i64 t] 40)).alloc (.cells #[.int .i64 p,.int .i64 t] 3)->Calls Tryz.prog 161 #[.pointer (some ⟨b,0,none⟩),.slice (some ⟨wr.heap.size+1,0,none⟩) 2 2] w2 fun r w'=>r=.returned (.tuple #[])/\WrS w' b (layP [p,t] (layB (l.take i) (stepW A n 1))) (J+12)/\Pk.Off b wr w'):=fun w2 h2=>by
    have hb2:Below wr.heap.size wr w2:=by subst h2;exact((Below.refl _ _).alloc (Nat.le_refl _) _).alloc (by simp) _
    have hg:w2.heap[wr.heap.size+1]?=some (.cells (ints [p,t]) 3):=by
     subst h2
     have:=(MapKept.heap_alloc (wr.alloc (.cells #[.int .i64 p,.int .i64 t] 40)) (.cells #[.int .i64 p,.int .i64 t] 3)).1
     simpa[ints] using this
    refine(layPlaces_any (n:=2) (hw.below hb2) (by omega) [p,t] hg (by omega) rfl (by omega)).mono ?_
    rintro e w3 ⟨he,h3,o3⟩
    exact⟨he,h3,(Pk.Off.of_below hb2).trans o3⟩
   go_wp2_with (go_at_call 161;refine(CP.out _ rfl).mono ?_;rintro e w3 ⟨rfl,h3,o3⟩)
   go_roundw
   case rel =>
    refine⟨i+1,by omega,by go_num,?_,HO.out.trans o3⟩
    rw[HS.out]
    exact⟨h3.wr,HSz.out⟩
   case measure=>simp[intOf];omega
  ·have hin:i=n:=by omega
   subst hin
   have hi2:¬ (i:Int)<(i:Int):=by omega
   go_wp2
   go_end0
   rw[List.take_of_length_le (by omega)] at hw
   exact⟨rfl,hw,ho⟩
theorem layI_err {B:ByteArray × Int} (h:B.2≠0) (l:List Im):layI l B=B:=by
 obtain⟨a,e⟩:=B
 induction l with
 | nil=>rfl
 | cons p l ih=>show layI l (stepT (stepW (a,e) p.1 2) p.2)=_;rw[stepW_had h,stepT_had h];exact ih
theorem layB_err {B:ByteArray × Int} (h:B.2≠0) (l:List Tb):layB l B=B:=by
 obtain⟨a,e⟩:=B
 induction l with
 | nil=>rfl
 | cons p l ih=>show layB l (stepW (stepW (a,e) p.1 6) p.2 6)=_;rw[stepW_had h,stepW_had h];exact ih
theorem many_err {A:ByteArray × Int} (hA:Bare A) {n:Nat} (hn:255<n):(stepW A n 1).2≠0/\(stepW A n 1).1.size=0:=by
 obtain⟨a,e⟩:=A
 by_cases h:e=0
 ·subst h
  rw[stepW_bad (by omega) (by omega) (Or.inr (by rw[Pk.limI_1];omega))]
  exact⟨by decide,rfl⟩
 ·rw[stepW_had h]
  have:=hA h
  dsimp only at this
  exact⟨h,by rw[this];rfl⟩
theorem layImages_any (h:WrS w b A j) (hj:j<=10000000000) (hA:Bare A) {a:Option Addr} {n c:Nat} (l:List Im) (hl:l.length=n) (hn:n<=10000000000000) (hcs:Cs w a (encI l)) (hne:l≠[]->∀ b' off,a=some ⟨b',off,none⟩->b'≠b) (ht:∀ p∈l,p.2.size<=1000) :
  Calls Tryz.prog 160 #[.pointer (some ⟨b,0,none⟩),.slice a n c] w fun r w'=>r=.returned (.tuple #[])/\WrS w' b (layI l (stepW A n 1)) (j+70000000)/\Pk.Off b w w':=by
 refine layImages_J h (by omega) l hl hn (j+70000000) (by omega) (fun i hi=>?_) hcs hne ht
 rcases Nat.lt_or_ge 255 n with h2 |h2
 ·obtain⟨e1,e2⟩:=many_err hA h2
  rw[layI_err e1,e2];omega
 ·have:=layI_size (l.take i) (stepW A n 1)
  have:=stepW_size A n 1
  have:=h.sz
  have:(l.take i).length<=255:=by rw[List.length_take];omega
  omega
theorem layTable_any (h:WrS w b A j) (hj:j<=10000000000) (hA:Bare A) {a:Option Addr} {n c:Nat} (l:List Tb) (hl:l.length=n) (hn:n<=10000000000000) (hcs:Cs w a (encT l)) (hne:l≠[]->∀ b' off,a=some ⟨b',off,none⟩->b'≠b) :
  Calls Tryz.prog 163 #[.pointer (some ⟨b,0,none⟩),.slice a n c] w fun r w'=>r=.returned (.tuple #[])/\WrS w' b (layB l (stepW A n 1)) (j+70000000)/\Pk.Off b w w':=by
 refine layTable_J h (by omega) l hl hn (j+70000000) (by omega) (fun i hi=>?_) hcs hne
 rcases Nat.lt_or_ge 255 n with h2 |h2
 ·obtain⟨e1,e2⟩:=many_err hA h2
  rw[layB_err e1,e2];omega
 ·have:=layB_size (l.take i) (stepW A n 1)
  have:=stepW_size A n 1
  have:=h.sz
  have:(l.take i).length<=255:=by rw[List.length_take];omega
  omega
end
structure LdS (w wx:World) (b0 b:Nat) (s:Sc) (I T:Value) (A:ByteArray × Int) (j:Nat):Prop where
 rc:RcAt wx b0 s I T
 wS:WrS wx b A j
 ne:b0≠b
 off:Pk.Off b w wx
section
variable {w wr wq:World}{b0 b j j':Nat}{s:Sc}{I T:Value}{A A':ByteArray × Int}
theorem LdS.step (h:LdS w wr b0 b s I T A j) (h':WrS wq b A' j') (o:Pk.Off b wr wq):LdS w wq b0 b s I T A' j':=⟨h.rc.off o h.ne,h',h.ne,h.off.trans o⟩
theorem LdS.below (h:LdS w wr b0 b s I T A j) (hb:Below wr.heap.size wr wq):LdS w wq b0 b s I T A j:=⟨h.rc.below hb,h.wS.below hb,h.ne,h.off.trans (Pk.Off.of_below hb)⟩
theorem LdS.num (h:LdS w wr b0 b s I T A j) (hj:j<=1000000000000) (n k:Int):Calls Tryz.prog 159 #[.pointer (some ⟨b,0,none⟩),.int .i64 n,.int .i64 k] wr fun r w'=>r=.returned (.tuple #[])/\LdS w w' b0 b s I T (stepW A n k) (j+6) :=
 (h.wS.num (by omega) n k).mono fun e w' ⟨he,h1,o1⟩=>⟨he,h.step h1 o1⟩
theorem LdS.text (h:LdS w wr b0 b s I T A j) (hj:j<=1000000000000) (t:ByteArray) (ht:t.size<=140737488351232):Calls Tryz.prog 189 #[.pointer (some ⟨b,0,none⟩),.string t] wr fun r w'=>r=.returned (.tuple #[])/\LdS w w' b0 b s I T (stepT A t) (j+65537) :=
 (h.wS.text (by omega) t ht).mono fun e w' ⟨he,h1,o1⟩=>⟨he,h.step h1 o1⟩
structure LvS (w wx:World) (b0 b:Nat) (s:Sc) (I T:Value) (A:ByteArray × Int) (j g:Nat) (P:Array Value):Prop where
 ld:LdS w wx b0 b s I T A j
 pg:wx.heap[g]?=some (.cells P 251)
 ne:g≠b
theorem LvS.text {g:Nat} {P:Array Value} (h:LvS w wr b0 b s I T A j g P) (hj:j<=1000000000000) (t:ByteArray) (ht:t.size<=140737488351232):Calls Tryz.prog 189 #[.pointer (some ⟨b,0,none⟩),.string t] wr fun r w'=>r=.returned (.tuple #[])/\LvS w w' b0 b s I T (stepT A t) (j+65537) g P :=
 (h.ld.wS.text (by omega) t ht).mono fun e w' ⟨he,h1,o1⟩=>⟨he,h.ld.step h1 o1,(o1.block g (Array.getElem?_eq_some_iff.1 h.pg).1 h.ne).trans h.pg,h.ne⟩
end
section
variable {w:World}{b j:Nat}{s:Sc}{I T:Value}{A:ByteArray × Int}
set_option maxHeartbeats 1000000 in
theorem layChange_3 (h:WrS w b A j) (hj:j<=100000000000) (ha:actOf s=3) (hk:s.ky.size<=1000) (ho:s.ol.size<=1000) (hw:s.nw.size<=1000) :
  Calls Tryz.prog 162 #[.pointer (some ⟨b,0,none⟩),.agg (s.A I T)] w fun r w'=>r=.returned (.tuple #[])/\WrS w' b (stepT (stepT (stepW A s.pg 2) s.ky) s.nw) (j+300000)/\Pk.Off b w w':=by
 have hk':s.ky.size<=140737488351232:=by omega
 have ho':s.ol.size<=140737488351232:=by omega
 have hw':s.nw.size<=140737488351232:=by omega
 have hbl:=h.lt
 have CV:Hid (∀ wr A' j',LdS w wr w.heap.size b s I T A' j'->Calls Tryz.prog 165 #[.pointer (some ⟨w.heap.size,0,none⟩)] wr fun e w'=>∃ g,e=.returned (.slice (some ⟨g,0,none⟩) 1 1)/\LvS w w' w.heap.size b s I T A' j' g #[.pointer (some ⟨w.heap.size,7,none⟩)]):=fun wr A' j' H=>by
  refine(values_3 H.rc ha).mono ?_
  rintro e w' ⟨he,hw'⟩
  refine⟨wr.heap.size,he,?_⟩
  subst hw'
  refine⟨H.below ((Below.refl _ _).alloc (Nat.le_refl _) _),(MapKept.heap_alloc wr _).1,by have:=H.wS.lt;omega⟩
 clear hk ho hw
 go_enter Tryz.func162,Tryz.ntmps162
 go_wp2_with (first
  | (refine wpList_box_rc (s:=s) (I:=I) (T:=T) _ rfl _ rfl rfl ?_;intro w0 b0 N0;obtain rfl:=N0.eq;have L:LdS w w0 w.heap.size b s I T A j:=⟨N0.rc,h.below N0.below,(fun e=>absurd e (by omega)),Pk.Off.of_below N0.below⟩;clear N0;have k3:=L.rc.c3;have k5:=L.rc.c5)
  | (go_at_call 159;refine(L.num (by omega) _ _).mono ?_;clear L;rintro e w2 ⟨rfl,L⟩;have k5:=L.rc.c5)
  | (go_at_call 189;refine(L.text (by omega) _ hk').mono ?_;clear L;rintro e w3 ⟨rfl,L⟩)
  | (go_at_call 165;refine(CV.out _ _ _ L).mono ?_;clear L;rintro e w4 ⟨g,rfl,LV⟩;have f7:=LV.ld.rc.c7;have g0:=Joins.cell_of_block LV.pg 0;simp only[List.getElem?_toArray,List.getElem?_cons_zero,List.getElem?_cons_succ] at g0))
 refine wp_loop_rounds 2 ?_
 rw[rounds_succ]
 go_wp2_with (go_at_call 189;refine(LV.text (by omega) _ (by assumption)).mono ?_;clear LV;rintro e w4 ⟨rfl,LV⟩;have f7:=LV.ld.rc.c7;have g0:=Joins.cell_of_block LV.pg 0;simp only[List.getElem?_toArray,List.getElem?_cons_zero,List.getElem?_cons_succ] at g0)
 rw[rounds_succ]
 go_wp2
 go_end0
 exact⟨rfl,⟨LV.ld.wS.wr,Nat.le_trans LV.ld.wS.sz (by omega)⟩,LV.ld.off⟩
set_option maxHeartbeats 1000000 in
theorem layChange_4 (h:WrS w b A j) (hj:j<=100000000000) (ha:actOf s=4) (hk:s.ky.size<=1000) (ho:s.ol.size<=1000) (hw:s.nw.size<=1000) :
  Calls Tryz.prog 162 #[.pointer (some ⟨b,0,none⟩),.agg (s.A I T)] w fun r w'=>r=.returned (.tuple #[])/\WrS w' b (stepT (stepT (stepW A s.pg 2) s.ky) s.ol) (j+300000)/\Pk.Off b w w':=by
 have hk':s.ky.size<=140737488351232:=by omega
 have ho':s.ol.size<=140737488351232:=by omega
 have hw':s.nw.size<=140737488351232:=by omega
 have hbl:=h.lt
 have CV:Hid (∀ wr A' j',LdS w wr w.heap.size b s I T A' j'->Calls Tryz.prog 165 #[.pointer (some ⟨w.heap.size,0,none⟩)] wr fun e w'=>∃ g,e=.returned (.slice (some ⟨g,0,none⟩) 1 1)/\LvS w w' w.heap.size b s I T A' j' g #[.pointer (some ⟨w.heap.size,6,none⟩)]):=fun wr A' j' H=>by
  refine(values_4 H.rc ha).mono ?_
  rintro e w' ⟨he,hw'⟩
  refine⟨wr.heap.size,he,?_⟩
  subst hw'
  refine⟨H.below ((Below.refl _ _).alloc (Nat.le_refl _) _),(MapKept.heap_alloc wr _).1,by have:=H.wS.lt;omega⟩
 clear hk ho hw
 go_enter Tryz.func162,Tryz.ntmps162
 go_wp2_with (first
  | (refine wpList_box_rc (s:=s) (I:=I) (T:=T) _ rfl _ rfl rfl ?_;intro w0 b0 N0;obtain rfl:=N0.eq;have L:LdS w w0 w.heap.size b s I T A j:=⟨N0.rc,h.below N0.below,(fun e=>absurd e (by omega)),Pk.Off.of_below N0.below⟩;clear N0;have k3:=L.rc.c3;have k5:=L.rc.c5)
  | (go_at_call 159;refine(L.num (by omega) _ _).mono ?_;clear L;rintro e w2 ⟨rfl,L⟩;have k5:=L.rc.c5)
  | (go_at_call 189;refine(L.text (by omega) _ hk').mono ?_;clear L;rintro e w3 ⟨rfl,L⟩)
  | (go_at_call 165;refine(CV.out _ _ _ L).mono ?_;clear L;rintro e w4 ⟨g,rfl,LV⟩;have f6:=LV.ld.rc.c6;have g0:=Joins.cell_of_block LV.pg 0;simp only[List.getElem?_toArray,List.getElem?_cons_zero,List.getElem?_cons_succ] at g0))
 refine wp_loop_rounds 2 ?_
 rw[rounds_succ]
 go_wp2_with (go_at_call 189;refine(LV.text (by omega) _ (by assumption)).mono ?_;clear LV;rintro e w4 ⟨rfl,LV⟩;have f6:=LV.ld.rc.c6;have g0:=Joins.cell_of_block LV.pg 0;simp only[List.getElem?_toArray,List.getElem?_cons_zero,List.getElem?_cons_succ] at g0)
 rw[rounds_succ]
 go_wp2
 go_end0
 exact⟨rfl,⟨LV.ld.wS.wr,Nat.le_trans LV.ld.wS.sz (by omega)⟩,LV.ld.off⟩
set_option maxHeartbeats 1000000 in
theorem layChange_o (h:WrS w b A j) (hj:j<=100000000000) (h3:actOf s≠3) (h4:actOf s≠4) (hk:s.ky.size<=1000) (ho:s.ol.size<=1000) (hw:s.nw.size<=1000) :
  Calls Tryz.prog 162 #[.pointer (some ⟨b,0,none⟩),.agg (s.A I T)] w fun r w'=>r=.returned (.tuple #[])/\WrS w' b (stepT (stepT (stepT (stepW A s.pg 2) s.ky) s.ol) s.nw) (j+300000)/\Pk.Off b w w':=by
 have hk':s.ky.size<=140737488351232:=by omega
 have ho':s.ol.size<=140737488351232:=by omega
 have hw':s.nw.size<=140737488351232:=by omega
 have hbl:=h.lt
 have CV:Hid (∀ wr A' j',LdS w wr w.heap.size b s I T A' j'->Calls Tryz.prog 165 #[.pointer (some ⟨w.heap.size,0,none⟩)] wr fun e w'=>∃ g,e=.returned (.slice (some ⟨g,0,none⟩) 2 2)/\LvS w w' w.heap.size b s I T A' j' g #[.pointer (some ⟨w.heap.size,6,none⟩),.pointer (some ⟨w.heap.size,7,none⟩)]):=fun wr A' j' H=>by
  refine(values_o H.rc h3 h4).mono ?_
  rintro e w' ⟨he,hw'⟩
  refine⟨wr.heap.size,he,?_⟩
  subst hw'
  refine⟨H.below (((Below.refl _ _).drew).alloc (Nat.le_refl _) _),(MapKept.heap_alloc wr.drew _).1,by have:=H.wS.lt;omega⟩
 clear hk ho hw
 go_enter Tryz.func162,Tryz.ntmps162
 go_wp2_with (first
  | (refine wpList_box_rc (s:=s) (I:=I) (T:=T) _ rfl _ rfl rfl ?_;intro w0 b0 N0;obtain rfl:=N0.eq;have L:LdS w w0 w.heap.size b s I T A j:=⟨N0.rc,h.below N0.below,(fun e=>absurd e (by omega)),Pk.Off.of_below N0.below⟩;clear N0;have k3:=L.rc.c3;have k5:=L.rc.c5)
  | (go_at_call 159;refine(L.num (by omega) _ _).mono ?_;clear L;rintro e w2 ⟨rfl,L⟩;have k5:=L.rc.c5)
  | (go_at_call 189;refine(L.text (by omega) _ hk').mono ?_;clear L;rintro e w3 ⟨rfl,L⟩)
  | (go_at_call 165;refine(CV.out _ _ _ L).mono ?_;clear L;rintro e w4 ⟨g,rfl,LV⟩;have f6:=LV.ld.rc.c6;have f7:=LV.ld.rc.c7;have g0:=Joins.cell_of_block LV.pg 0;simp only[List.getElem?_toArray,List.getElem?_cons_zero,List.getElem?_cons_succ] at g0;have g1:=Joins.cell_of_block LV.pg 1;simp only[List.getElem?_toArray,List.getElem?_cons_zero,List.getElem?_cons_succ] at g1))
 refine wp_loop_rounds 3 ?_
 rw[rounds_succ]
 go_wp2_with (go_at_call 189;refine(LV.text (by omega) _ (by assumption)).mono ?_;clear LV;rintro e w4 ⟨rfl,LV⟩;have f6:=LV.ld.rc.c6;have f7:=LV.ld.rc.c7;have g0:=Joins.cell_of_block LV.pg 0;simp only[List.getElem?_toArray,List.getElem?_cons_zero,List.getElem?_cons_succ] at g0;have g1:=Joins.cell_of_block LV.pg 1;simp only[List.getElem?_toArray,List.getElem?_cons_zero,List.getElem?_cons_succ] at g1)
 rw[rounds_succ]
 go_wp2_with (go_at_call 189;refine(LV.text (by omega) _ (by assumption)).mono ?_;clear LV;rintro e w4 ⟨rfl,LV⟩;have f6:=LV.ld.rc.c6;have f7:=LV.ld.rc.c7;have g0:=Joins.cell_of_block LV.pg 0;simp only[List.getElem?_toArray,List.getElem?_cons_zero,List.getElem?_cons_succ] at g0;have g1:=Joins.cell_of_block LV.pg 1;simp only[List.getElem?_toArray,List.getElem?_cons_zero,List.getElem?_cons_succ] at g1)
 rw[rounds_succ]
 go_wp2
 go_end0
 exact⟨rfl,⟨LV.ld.wS.wr,Nat.le_trans LV.ld.wS.sz (by omega)⟩,LV.ld.off⟩
theorem layChange_any (h:WrS w b A j) (hj:j<=100000000000) (hk:s.ky.size<=1000) (ho:s.ol.size<=1000) (hw:s.nw.size<=1000) :
  Calls Tryz.prog 162 #[.pointer (some ⟨b,0,none⟩),.agg (s.A I T)] w fun r w'=>r=.returned (.tuple #[])/\WrS w' b (layC s A) (j+300000)/\Pk.Off b w w':=by
 unfold layC layV
 by_cases h3:actOf s=3
 ·rw[if_pos h3]
  exact layChange_3 h hj h3 hk ho hw
 ·by_cases h4:actOf s=4
  ·rw[if_neg h3,if_pos h4]
   exact layChange_4 h hj h4 hk ho hw
  ·rw[if_neg h3,if_neg h4]
   exact layChange_o h hj h3 h4 hk ho hw
end
theorem whole_take_succ {l:List Im} {i:Nat} (hi:i<l.length):whole (l.take (i+1))=(whole (l.take i)&&decide (l[i].2.size=224)):=by
 rw[List.take_succ_eq_append_getElem hi];simp only[whole,List.all_append,List.all_cons,List.all_nil,Bool.and_true]
theorem whole_false {l:List Im} {i:Nat} (hi:i<l.length) (h:¬ l[i].2.size=224):whole l=false:=by
 unfold whole
 rw[List.all_eq_false]
 exact⟨l[i],List.getElem_mem hi,by simpa using h⟩
set_option maxHeartbeats 400000 in
theorem areWhole_any {w:World} {a:Option Addr} {n c:Nat} (l:List Im) (hl:l.length=n) (hn:n<=10000000000000) (hcs:Cs w a (encI l)) (ht:∀ p∈l,p.2.size<=9223372036854775807) :
  Calls Tryz.prog 187 #[.slice a n c] w fun r w'=>r=.returned (.bool (whole l))/\Below w.heap.size w w':=by
 go_enter Tryz.func187,Tryz.ntmps187
 go_wp2
 go_loopw [7] (fun ix wr=>∃ i:Nat,i<=n/\ix=.int .i64 (i:Int)/\whole (l.take i)=true/\Below w.heap.size w wr) (fun ix _=>n-(intOf ix).toNat)
 case atStart=>exact⟨0,Nat.zero_le _,rfl,rfl,Below.refl _ _⟩
 case round =>
  obtain⟨i,hi,rfl,hw,hb⟩:=hrel
  by_cases hlt:i<n
  ·obtain⟨b',off,rfl,hb',HC⟩:=csI_at hcs (i:=i) (by omega)
   obtain⟨q0,q1⟩:=HC wr hb
   have hz:=ht (l[i]'(by omega)) (List.getElem_mem _)
   have hi2:(i:Int)<(n:Int):=by omega
   have HS:Hid _:=whole_take_succ (l:=l) (i:=i) (by omega)
   have HF:Hid _:=whole_false (l:=l) (i:=i) (by omega)
   have HW:Hid (whole (l.take i)=true):=hw
   have HB:Hid (Below w.heap.size w wr):=hb
   clear HC hcs ht hw hb
   generalize l[i]'(by omega)=p at *
   obtain⟨p,t⟩:=p
   dsimp only at q0 q1 hz HS HF
   by_cases h2:t.size=224
   ·have e:((t.size:Int) !=224)=false:=by simp[h2]
    go_wp2
    go_roundw
    case rel =>
     refine⟨i+1,by omega,by go_num,?_,HB.out.alloc HB.out.size _⟩
     rw[HS.out,HW.out];simp[h2]
    case measure=>simp[intOf];omega
   ·have e:((t.size:Int) !=224)=true:=by simp;omega
    go_wp2
    go_ret
    rw[HF.out h2]
    exact⟨rfl,HB.out.alloc HB.out.size _⟩
  ·have hin:i=n:=by omega
   subst hin
   have hi2:¬ (i:Int)<(i:Int):=by omega
   go_wp2
   go_ret
   rw[List.take_of_length_le (by omega)] at hw
   rw[hw]
   exact⟨rfl,hb⟩
theorem tooLong_1 {w:World} {g:Nat} {t:ByteArray} (m:Int) (hg:w.cell? ⟨g,0,none⟩=some (.string t)) (ht:t.size<=9223372036854775807) :
  Calls Tryz.prog 158 #[.int .i64 m,.slice (some ⟨g,0,none⟩) 1 1] w fun r w'=>r=.returned (.bool (decide (m<t.size)))/\w'=w:=by
 by_cases h:m<(t.size:Int)
 ·go_enter Tryz.func158,Tryz.ntmps158
  go_wp2
  refine wp_loop_rounds 2 ?_
  rw[rounds_succ]
  go_wp2
  go_ret
  exact⟨by simp[h],rfl⟩
 ·go_enter Tryz.func158,Tryz.ntmps158
  go_wp2
  refine wp_loop_rounds 2 ?_
  rw[rounds_succ]
  go_wp2
  rw[rounds_succ]
  go_wp2
  go_ret
  exact⟨by simp[h],rfl⟩
theorem tooLong_2 {w:World} {g:Nat} {t u:ByteArray} (m:Int) (hg:w.cell? ⟨g,0,none⟩=some (.string t)) (hg':w.cell? ⟨g,1,none⟩=some (.string u)) (ht:t.size<=9223372036854775807) (hu:u.size<=9223372036854775807) :
  Calls Tryz.prog 158 #[.int .i64 m,.slice (some ⟨g,0,none⟩) 2 2] w fun r w'=>r=.returned (.bool (decide (m<t.size)||decide (m<u.size)))/\w'=w:=by
 by_cases h:m<(t.size:Int)
 ·go_enter Tryz.func158,Tryz.ntmps158
  go_wp2
  refine wp_loop_rounds 3 ?_
  rw[rounds_succ]
  go_wp2
  go_ret
  exact⟨by simp[h],rfl⟩
 ·by_cases h2:m<(u.size:Int)
  ·go_enter Tryz.func158,Tryz.ntmps158
   go_wp2
   refine wp_loop_rounds 3 ?_
   rw[rounds_succ]
   go_wp2
   rw[rounds_succ]
   go_wp2
   go_ret
   exact⟨by simp[h2],rfl⟩
  ·go_enter Tryz.func158,Tryz.ntmps158
   go_wp2
   refine wp_loop_rounds 3 ?_
   rw[rounds_succ]
   go_wp2
   rw[rounds_succ]
   go_wp2
   rw[rounds_succ]
   go_wp2
   go_ret
   exact⟨by simp[h,h2],rfl⟩
section
variable {w:World}{s:Sc}{T:Value}{a:Option Addr}{c:Nat}{l:List Im}{g:List Tb}
set_option maxHeartbeats 400000 in
theorem isFormed_any (hn:l.length<=10000000000000) (hcs:Cs w a (encI l)) (ht:∀ p∈l,p.2.size<=9223372036854775807) :
  Calls Tryz.prog 157 #[.agg (s.A (.slice a l.length c) T)] w fun r w'=>r=.returned (.bool (formed ⟨s,l,g⟩))/\Below w.heap.size w w':=by
 have CW:Hid (∀ w',Below w.heap.size w w'->Calls Tryz.prog 187 #[.slice a l.length c] w' fun r w''=>r=.returned (.bool (whole l))/\Below w'.heap.size w' w''):=fun w' hb=>areWhole_any l rfl hn (hcs.below hb) ht
 clear hcs ht
 unfold formed
 dsimp only
 by_cases h1:s.kd=1
 ·rw[if_pos h1]
  have e1:(s.kd==1)=true:=by simpa using h1
  by_cases hl:l.length=1
  ·have e2:((l.length:Int)==1)=true:=by simp[hl]
   have hd:decide (l.length=1)=true:=by simpa using hl
   rw[hd,Bool.true_and]
   generalize whole l=q at *
   clear h1 hl hd
   go_enter Tryz.func157,Tryz.ntmps157
   go_wp2_with (first
    | (refine wpList_box_rc (s:=s) (I:=_) (T:=_) _ rfl _ rfl rfl ?_;intro w0 b0 N0;have k0:=N0.rc.c0;have k9:=N0.rc.c9)
    | (go_at_call 187;refine(CW.out _ N0.below).mono ?_;rintro e w1 ⟨rfl,b1⟩))
   go_ret
   exact⟨rfl,thn N0.below b1⟩
  ·have e2:((l.length:Int)==1)=false:=by simp;omega
   have hd:decide (l.length=1)=false:=by simpa using hl
   rw[hd,Bool.false_and]
   clear h1 hl hd
   go_enter Tryz.func157,Tryz.ntmps157
   go_wp2_with (refine wpList_box_rc (s:=s) (I:=_) (T:=_) _ rfl _ rfl rfl ?_;intro w0 b0 N0;have k0:=N0.rc.c0;have k9:=N0.rc.c9)
   go_ret
   exact⟨rfl,N0.below⟩
 ·rw[if_neg h1]
  have e1:(s.kd==1)=false:=by simpa using h1
  by_cases h2:s.kd=2
  ·rw[if_pos h2]
   have e2:(s.kd==2)=true:=by simpa using h2
   generalize whole l=q at *
   clear h1 h2
   go_enter Tryz.func157,Tryz.ntmps157
   go_wp2_with (first
    | (refine wpList_box_rc (s:=s) (I:=_) (T:=_) _ rfl _ rfl rfl ?_;intro w0 b0 N0;have k0:=N0.rc.c0;have k9:=N0.rc.c9)
    | (go_at_call 187;refine(CW.out _ N0.below).mono ?_;rintro e w1 ⟨rfl,b1⟩))
   go_ret
   exact⟨rfl,thn N0.below b1⟩
  ·rw[if_neg h2]
   have e2:(s.kd==2)=false:=by simpa using h2
   by_cases h6:s.kd=6
   ·rw[if_pos h6]
    have e6:(s.kd==6)=true:=by simpa using h6
    clear h1 h2 h6
    by_cases a3:s.ac=3
    ·have f3:(s.ac==3)=true:=by simpa using a3
     have hd:decide (s.ac=3∨s.ac=4∨s.ac=5)=true:=by simp[a3]
     rw[hd]
     clear a3 hd
     go_enter Tryz.func157,Tryz.ntmps157
     go_wp2_with (refine wpList_box_rc (s:=s) (I:=_) (T:=_) _ rfl _ rfl rfl ?_;intro w0 b0 N0;have k0:=N0.rc.c0;have k4:=N0.rc.c4)
     go_ret
     exact⟨rfl,N0.below⟩
    ·have f3:(s.ac==3)=false:=by simpa using a3
     by_cases a4:s.ac=4
     ·have f4:(s.ac==4)=true:=by simpa using a4
      have hd:decide (s.ac=3∨s.ac=4∨s.ac=5)=true:=by simp[a4]
      rw[hd]
      clear a3 a4 hd
      go_enter Tryz.func157,Tryz.ntmps157
      go_wp2_with (refine wpList_box_rc (s:=s) (I:=_) (T:=_) _ rfl _ rfl rfl ?_;intro w0 b0 N0;have k0:=N0.rc.c0;have k4:=N0.rc.c4)
      go_ret
      exact⟨rfl,N0.below⟩
     ·have f4:(s.ac==4)=false:=by simpa using a4
      have hd:decide (s.ac=3∨s.ac=4∨s.ac=5)=(s.ac==5):=by by_cases a5:s.ac=5 <;> simp[a3,a4,a5]
      rw[hd]
      clear a3 a4 hd
      generalize hq:(s.ac==5)=q at *
      go_enter Tryz.func157,Tryz.ntmps157
      go_wp2_with (refine wpList_box_rc (s:=s) (I:=_) (T:=_) _ rfl _ rfl rfl ?_;intro w0 b0 N0;have k0:=N0.rc.c0;have k4:=N0.rc.c4)
      go_ret
      exact⟨rfl,N0.below⟩
   ·rw[if_neg h6]
    have e6:(s.kd==6)=false:=by simpa using h6
    clear h1 h2 h6
    go_enter Tryz.func157,Tryz.ntmps157
    go_wp2_with (refine wpList_box_rc (s:=s) (I:=_) (T:=_) _ rfl _ rfl rfl ?_;intro w0 b0 N0;have k0:=N0.rc.c0;have k4:=N0.rc.c4)
    go_ret
    exact⟨rfl,N0.below⟩
end
section
variable {w:World}{s:Sc}{T:Value}{a:Option Addr}{c:Nat}{l:List Im}{g:List Tb}
set_option maxHeartbeats 1000000 in
theorem refusalR_any (hn:l.length<=10000000000000) (hcs:Cs w a (encI l)) (ht:∀ p∈l,p.2.size<=9223372036854775807) (hk:s.ky.size<=9223372036854775807) (ho:s.ol.size<=9223372036854775807) (hw:s.nw.size<=9223372036854775807) :
  Calls Tryz.prog 128 #[.agg (s.A (.slice a l.length c) T)] w fun r w'=>r=.returned (.int .i64 (refM ⟨s,l,g⟩))/\Below w.heap.size w w':=by
 have CF:Hid (∀ w',Below w.heap.size w w'->Calls Tryz.prog 157 #[.agg (s.A (.slice a l.length c) T)] w' fun r w''=>r=.returned (.bool (formed ⟨s,l,g⟩))/\Below w'.heap.size w' w''):=fun w' hb=>isFormed_any hn (hcs.below hb) ht
 clear hcs ht
 unfold refM
 dsimp only
 by_cases h1:s.kd<1
 ·rw[if_pos (Or.inl h1)]
  go_enter Tryz.func128,Tryz.ntmps128
  go_wp2_with (refine wpList_box_rc (s:=s) (I:=_) (T:=_) _ rfl _ rfl rfl ?_;intro w0 b0 N0;have k0:=N0.rc.c0)
  go_ret
  exact⟨rfl,N0.below⟩
 by_cases h2:10<s.kd
 ·rw[if_pos (Or.inr h2)]
  go_enter Tryz.func128,Tryz.ntmps128
  go_wp2_with (refine wpList_box_rc (s:=s) (I:=_) (T:=_) _ rfl _ rfl rfl ?_;intro w0 b0 N0;have k0:=N0.rc.c0)
  go_ret
  exact⟨rfl,N0.below⟩
 rw[if_neg (by omega)]
 by_cases h3:formed ⟨s,l,g⟩=false
 ·rw[if_pos h3]
  rw[h3] at CF
  go_enter Tryz.func128,Tryz.ntmps128
  go_wp2_with (first
   | (refine wpList_box_rc (s:=s) (I:=_) (T:=_) _ rfl _ rfl rfl ?_;intro w0 b0 N0;have k0:=N0.rc.c0)
   | (refine wpList_load_rc _ rfl _ rfl rfl N0.rc ?_)
   | (go_at_call 157;refine(CF.out _ N0.below).mono ?_;rintro e w1 ⟨rfl,b1⟩))
  go_ret
  exact⟨rfl,thn N0.below b1⟩
 rw[if_neg h3]
 have h3':formed ⟨s,l,g⟩=true:=by simpa using h3
 rw[h3'] at CF
 clear h3 h3'
 obtain⟨K,hK⟩:∃ K,K=decide ((16:Int)<s.ky.size):=⟨_,rfl⟩
 obtain⟨V,hV⟩:∃ V,V=(decide ((32:Int)<s.ol.size)||decide ((32:Int)<s.nw.size)):=⟨_,rfl⟩
 have C1:Hid (∀ w1:World,Calls Tryz.prog 158 #[.int .i64 16,.slice (some ⟨w1.heap.size,0,none⟩) 1 1] (w1.alloc (.cells #[.string s.ky] 9)) fun r w'=>r=.returned (.bool K)/\w'=w1.alloc (.cells #[.string s.ky] 9)):=fun w1=>by
  rw[hK]
  exact tooLong_1 16 (Joins.cell_of_block (MapKept.heap_alloc w1 _).1 0) hk
 have C2:Hid (∀ w1:World,Calls Tryz.prog 158 #[.int .i64 32,.slice (some ⟨w1.heap.size+1,0,none⟩) 2 2] ((w1.alloc (.cells #[.string s.ky] 9)).alloc (.cells #[.string s.ol,.string s.nw] 9)) fun r w'=>r=.returned (.bool V)/\w'=(w1.alloc (.cells #[.string s.ky] 9)).alloc (.cells #[.string s.ol,.string s.nw] 9)):=fun w1=>by
  rw[hV]
  have hz:(w1.alloc (.cells #[.string s.ky] 9)).heap.size=w1.heap.size+1:=by simp
  have hb:=(MapKept.heap_alloc (w1.alloc (.cells #[.string s.ky] 9)) (.cells #[.string s.ol,.string s.nw] 9)).1
  rw[hz] at hb
  exact tooLong_2 32 (Joins.cell_of_block hb 0) (Joins.cell_of_block hb 1) ho hw
 by_cases h4:16<s.ky.size
 ·rw[if_pos h4]
  have hK':K=true:=by rw[hK];simp;omega
  subst hK'
  clear hK hV C2 h4 hk ho hw
  go_enter Tryz.func128,Tryz.ntmps128
  go_wp2_with (first
   | (refine wpList_box_rc (s:=s) (I:=_) (T:=_) _ rfl _ rfl rfl ?_;intro w0 b0 N0;have k0:=N0.rc.c0)
   | (refine wpList_load_rc _ rfl _ rfl rfl N0.rc ?_)
   | (go_at_call 157;refine(CF.out _ N0.below).mono ?_;rintro e w1 ⟨rfl,b1⟩;have k5:=(N0.rc.below b1).c5)
   | (go_at_call 158;refine(C1.out _).mono ?_;rintro e w2 ⟨rfl,rfl⟩))
  go_ret
  exact⟨rfl,thn (thn N0.below b1) ((Below.refl _ _).alloc (Nat.le_refl _) _)⟩
 rw[if_neg h4]
 have hK':K=false:=by rw[hK];simp;omega
 subst hK'
 by_cases h5:32<s.ol.size∨32<s.nw.size
 ·rw[if_pos h5]
  have hV':V=true:=by rw[hV];simp;omega
  subst hV'
  clear hK hV h4 h5 hk ho hw
  go_enter Tryz.func128,Tryz.ntmps128
  go_wp2_with (first
   | (refine wpList_box_rc (s:=s) (I:=_) (T:=_) _ rfl _ rfl rfl ?_;intro w0 b0 N0;have k0:=N0.rc.c0)
   | (refine wpList_load_rc _ rfl _ rfl rfl N0.rc ?_)
   | (go_at_call 157;refine(CF.out _ N0.below).mono ?_;rintro e w1 ⟨rfl,b1⟩;have k5:=(N0.rc.below b1).c5;have k6:=(N0.rc.below b1).c6;have k7:=(N0.rc.below b1).c7;have hlt:=(N0.rc.below b1).lt)
   | (go_at_call 158;refine(C1.out _).mono ?_;clear C1;rintro e w2 ⟨rfl,rfl⟩;have B2:Below w1.heap.size w1 (w1.alloc (.cells #[.string s.ky] 9)):=(Below.refl _ _).alloc (Nat.le_refl _) _)
   | (go_at_call 158;refine(C2.out _).mono ?_;clear C2;rintro e w3 ⟨rfl,rfl⟩))
  go_ret
  exact⟨rfl,thn (thn (thn N0.below b1) B2) ((Below.refl _ _).alloc (Nat.le_refl _) _)⟩
 ·rw[if_neg h5]
  have hV':V=false:=by rw[hV];simp;omega
  subst hV'
  clear hK hV h4 h5 hk ho hw
  go_enter Tryz.func128,Tryz.ntmps128
  go_wp2_with (first
   | (refine wpList_box_rc (s:=s) (I:=_) (T:=_) _ rfl _ rfl rfl ?_;intro w0 b0 N0;have k0:=N0.rc.c0)
   | (refine wpList_load_rc _ rfl _ rfl rfl N0.rc ?_)
   | (go_at_call 157;refine(CF.out _ N0.below).mono ?_;rintro e w1 ⟨rfl,b1⟩;have k5:=(N0.rc.below b1).c5;have k6:=(N0.rc.below b1).c6;have k7:=(N0.rc.below b1).c7;have hlt:=(N0.rc.below b1).lt)
   | (go_at_call 158;refine(C1.out _).mono ?_;clear C1;rintro e w2 ⟨rfl,rfl⟩;have B2:Below w1.heap.size w1 (w1.alloc (.cells #[.string s.ky] 9)):=(Below.refl _ _).alloc (Nat.le_refl _) _)
   | (go_at_call 158;refine(C2.out _).mono ?_;clear C2;rintro e w3 ⟨rfl,rfl⟩))
  go_ret
  exact⟨rfl,thn (thn (thn N0.below b1) B2) ((Below.refl _ _).alloc (Nat.le_refl _) _)⟩
end
end Go.Proofs.YtdchjncnjgelhaaGreat
namespace Go.Proofs.YtdchjncnjgelhaaGreat.Sm
abbrev R:=BitVec 32
def taps:R:=0x82f63b78#32
def st (c:R):R:=if c.getLsbD 0 then(c >>> 1) ^^^ taps else c >>> 1
def stn:Nat->R->R
 | 0,c=>c
 | n+1,c=>stn n (st c)
theorem st_xor (a b:R):st (a ^^^ b)=st a ^^^ st b:=by
 unfold st
 rw[BitVec.getLsbD_xor,BitVec.ushiftRight_xor_distrib]
 cases a.getLsbD 0 <;> cases b.getLsbD 0 <;> simp
 ·rw[BitVec.xor_assoc]
 ·rw[BitVec.xor_assoc,BitVec.xor_assoc]
  congr 1
  rw[BitVec.xor_comm]
 ·have:a >>> 1 ^^^ taps ^^^ (b >>> 1 ^^^ taps)=a >>> 1 ^^^ b >>> 1 ^^^ (taps ^^^ taps):=by
   simp only[BitVec.xor_assoc]
   congr 1
   rw[← BitVec.xor_assoc,BitVec.xor_comm taps,BitVec.xor_assoc]
  rw[this,BitVec.xor_self]
  simp
theorem stn_add (m n:Nat) (c:R):stn (m+n) c=stn n (stn m c):=by
 induction m generalizing c with
 | zero=>simp[stn]
 | succ m ih=>rw[Nat.succ_add];exact ih (st c)
theorem stn_succ (n:Nat) (c:R):stn (n+1) c=st (stn n c):=by rw[stn_add];rfl
theorem stn_xor (n:Nat) (a b:R):stn n (a ^^^ b)=stn n a ^^^ stn n b:=by
 induction n generalizing a b with
 | zero=>rfl
 | succ n ih=>show stn n (st (a ^^^ b))=_;rw[st_xor,ih];rfl
theorem four_steps (c:R):stn 4 c=(c >>> 4) ^^^ stn 4 (c &&& 15#32):=by
 have e:c=((c >>> 4) <<< 4) ^^^ (c &&& 15#32):=by
  apply BitVec.eq_of_getLsbD_eq
  intro i hi
  have h15:(15#32:R).getLsbD i=decide (i<4):=by
   have:∀ j:Fin 32,(15#32:R).getLsbD j.val=decide (j.val<4):=by decide
   exact this ⟨i,hi⟩
  by_cases h:i<4
  ·simp[h,h15]
  ·simp only[BitVec.getLsbD_xor,BitVec.getLsbD_and,BitVec.getLsbD_shiftLeft,BitVec.getLsbD_ushiftRight,h15,h,hi,decide_true,decide_false,Bool.not_false,Bool.true_and,Bool.and_false,Bool.bne_false]
   rw[show 4+(i-4)=i by omega]
 have e2:stn 4 ((c >>> 4) <<< 4)=c >>> 4:=by
  have s:∀ z:R,z.getLsbD 0=false->st z=z >>> 1:=by
   intro z hz
   unfold st
   rw[hz]
   rfl
  show st (st (st (st ((c >>> 4) <<< 4))))=_
  have s1:st ((c >>> 4) <<< 4)=((c >>> 4) <<< 4) >>> 1:=s _ (by simp)
  have s2:st (((c >>> 4) <<< 4) >>> 1)=((c >>> 4) <<< 4) >>> 1 >>> 1:=s _ (by simp)
  have s3:st (((c >>> 4) <<< 4) >>> 1 >>> 1)=((c >>> 4) <<< 4) >>> 1 >>> 1 >>> 1:=s _ (by simp)
  have s4:st (((c >>> 4) <<< 4) >>> 1 >>> 1 >>> 1)=((c >>> 4) <<< 4) >>> 1 >>> 1 >>> 1 >>> 1:=s _ (by simp)
  rw[s1,s2,s3,s4]
  apply BitVec.eq_of_getLsbD_eq
  intro i hi
  simp only[BitVec.getLsbD_ushiftRight,BitVec.getLsbD_shiftLeft]
  have e5:¬ (1+(1+(1+(1+i)))<4):=by omega
  have e6:4+(1+(1+(1+(1+i)))-4)=4+i:=by omega
  rw[e6]
  by_cases h:1+(1+(1+(1+i)))<32
  ·simp only[h,e5,decide_true,decide_false,Bool.not_false,Bool.true_and]
  ·have:32<=4+i:=by omega
   rw[BitVec.getLsbD_of_ge c (4+i) this,Bool.and_false]
 conv=>lhs;rw[e]
 rw[stn_xor,e2]
def ofB (b:UInt8):R:=BitVec.ofNat 32 b.toNat
def runB:R->List UInt8->R
 | c,[]=>c
 | c,b :: l=>runB (stn 8 (c ^^^ ofB b)) l
theorem runB_append (c:R) (l m:List UInt8):runB c (l++m)=runB (runB c l) m:=by
 induction l generalizing c with
 | nil=>rfl
 | cons b l ih=>exact ih _
def ones:R:=0xffffffff#32
def sumB (l:List UInt8):R:=runB ones l ^^^ ones
def moreB (c:R) (l:List UInt8):R:=runB (c ^^^ ones) l ^^^ ones
theorem more_zero (t:List UInt8):moreB 0#32 t=sumB t:=by
 unfold moreB sumB
 simp
open Go.RowKit
def vI (c:R):Int:=c.toNat
theorem vI_nonneg (c:R):0<=vI c:=Int.natCast_nonneg _
theorem vI_lt (c:R):vI c<4294967296:=by unfold vI;have:=c.isLt;omega
theorem ofInt_vI (c:R):BitVec.ofInt 32 (vI c)=c:=by unfold vI;rw[BitVec.ofInt_natCast,BitVec.ofNat_toNat];simp
theorem vI_lit (n:Nat) (h:n<4294967296):vI (BitVec.ofNat 32 n)=n:=by unfold vI;rw[BitVec.toNat_ofNat];omega
theorem xor32 (a b:R):bits .xor .u32 (vI a) (vI b)=vI (a ^^^ b):=by
 show IntKind.u32.wrap ((BitVec.ofInt 32 (vI a) ^^^ BitVec.ofInt 32 (vI b)).toNat:Int)=_
 rw[ofInt_vI,ofInt_vI,IntKind.wrap_u32]
 have:=vI_lt (a ^^^ b)
 have:=vI_nonneg (a ^^^ b)
 unfold vI at *
 omega
theorem and32 (a b:R):bits .and .u32 (vI a) (vI b)=vI (a &&& b):=by
 show IntKind.u32.wrap ((BitVec.ofInt 32 (vI a) &&& BitVec.ofInt 32 (vI b)).toNat:Int)=_
 rw[ofInt_vI,ofInt_vI,IntKind.wrap_u32]
 have:=vI_lt (a &&& b)
 have:=vI_nonneg (a &&& b)
 unfold vI at *
 omega
theorem shr32 (c:R):vI c / (2:Int)=vI (c >>> 1):=by unfold vI;rw[BitVec.toNat_ushiftRight,Nat.shiftRight_eq_div_pow];omega
theorem shr32_4 (c:R):vI c / (16:Int)=vI (c >>> 4):=by unfold vI;rw[BitVec.toNat_ushiftRight,Nat.shiftRight_eq_div_pow];omega
theorem and_one (c:R):c &&& 1#32=if c.getLsbD 0 then 1#32 else 0#32:=by
 apply BitVec.eq_of_getLsbD_eq
 intro i hi
 rw[BitVec.getLsbD_and,BitVec.getLsbD_one]
 by_cases h:i=0
 ·subst h
  cases c.getLsbD 0 <;> simp
 ·simp only[h,decide_false,Bool.and_false]
  split
  ·rw[BitVec.getLsbD_one];simp[h]
  ·simp
theorem odd_test (c:R) (h:c.getLsbD 0=true):(bits .and .u32 (vI c) 1==0)=false:=by
 have:(1:Int)=vI 1#32:=rfl
 rw[this,and32,and_one,h]
 rfl
theorem even_test (c:R) (h:c.getLsbD 0=false):(bits .and .u32 (vI c) 1==0)=true:=by
 have:(1:Int)=vI 1#32:=rfl
 rw[this,and32,and_one,h]
 rfl
theorem shift_any (c:R) (w:World) :
  Calls Tryz.prog 198 #[.int .u32 (vI c)] w fun e w'=>e=.returned (.int .u32 (vI (st c)))/\w'=w:=by
 cases h:c.getLsbD 0
 ·have h1:=even_test c h
  have e1:Hid _:=shr32 c
  have e2:Hid (st c=c >>> 1):=by show st c=_;unfold st;rw[h];rfl
  clear h
  go_enter Tryz.func198,Tryz.ntmps198
  go_wp2
  go_ret
  rw[e1.out,e2.out]
  exact⟨rfl,rfl⟩
 ·have h1:=odd_test c h
  have e1:Hid _:=shr32 c
  have e2:Hid (st c=c >>> 1 ^^^ taps):=by show st c=_;unfold st;rw[h];rfl
  have e3:Hid _:=xor32 (c >>> 1) taps
  clear h
  go_enter Tryz.func198,Tryz.ntmps198
  go_wp2
  go_ret
  rw[e1.out,e2.out,← e3.out]
  exact⟨rfl,rfl⟩
theorem wrap64_vI (c:R):wrap64 (vI c)=vI c:=by
 have h1:=vI_nonneg c
 have h2:=vI_lt c
 unfold wrap64
 omega
end Go.Proofs.YtdchjncnjgelhaaGreat.Sm
