import Derived.Test.YtdchjncnjgelhaaGreatMao
import Derived.Shelf.Abstract
import Derived.Deep.Slices
import Derived.OpenShut
import Derived.BigRegion
import Derived.Deep.RegionHeld3
import Derived.Maps.RangeWalk
import Derived.Maps.OwnSet
import Derived.Maps.Ext
import Derived.Shelf.SlGeneric
import Derived.Shelf.SlIter.Nil
import Derived.Shelf.SlIterI.Nil
import Derived.Shelf.SortM.Plain
import Derived.Shelf.SortM.SortNone
import Derived.Ground.GgzProg
import Derived.Ground.SlgmProg
import Derived.Test.YtdchjncnjgelhaaGreatProg
import Derived.WalkSpells
set_option linter.unusedVariables false
set_option linter.unusedSimpArgs false
set_option maxRecDepth 100000
namespace Go.Proofs.YtdchjncnjgelhaaGreat.Lg
open Go.RowKit Go.Maps Go.ChangeMaps
open Gm (thn bl1 bdr)
structure Tel (fs:List ByteArray) (T:FuncId) (cs:Array Value) (J:Nat->(Nat->Prop)->World->Prop):Prop where
 en:∀ args w,(callFunc T args).run Tryz.prog w=.ok (.enter T args) w
 lt:∀ i V w,J i V w->∀ j,V j->j<w.heap.size
 keep:∀ i V w w',J i V w->(∀ j,V j->w'.heap[j]?=w.heap[j]?)->w.heap.size<=w'.heap.size->J i V w'
 step:∀ i (hi:i<fs.length) V w I0 T0,J i V w->I0.oneCell'=true->T0.oneCell'=true->Calls Tryz.prog T (#[.agg ((recF fs[i]).s.A I0 T0),.int .i64 (pla fs i)]++cs) w fun e w'=>e=.returned (.tuple #[])/\∃ V',J (i+1) V' w'/\Gm.Fr V V' w w'
section
variable {V:Nat->Prop}{w w' w2:World}{b5 i:Nat}{fs:List ByteArray}{T:FuncId}{J:Nat->(Nat->Prop)->World->Prop}{t:TypeId}{I0 T0:Value}
structure E1O (V:Nat->Prop) (w:World) (J:Nat->(Nat->Prop)->World->Prop) (i:Nat) (e:Ending) (w':World):Prop where
 ex:e=.returned .nilIface/\∃ V',J (i+1) V' w'/\Gm.Fr V V' w w'
set_option maxHeartbeats 1000000 in
theorem each1_1 {c1:Value} (hT:Tel fs T #[c1] J) (hi:i<fs.length) (hJ:J i V w) (hb:Gm.At w b5 t #[.func (.func T) #[] #[c1]]) (hI:I0.oneCell'=true) (hT0:T0.oneCell'=true) :
  Calls Tryz.prog 79 #[.agg ((recF fs[i]).s.A I0 T0),.int .i64 (pla fs i),.pointer (some ⟨b5,0,none⟩)] w fun e w'=>E1O V w J i e w':=by
 have CT:Hid (∀ wx,Below w.heap.size w wx->Calls Tryz.prog T #[.agg ((recF fs[i]).s.A I0 T0),.int .i64 (pla fs i),c1] wx fun e w'=>e=.returned (.tuple #[])/\∃ V',J (i+1) V' w'/\Gm.Fr V V' wx w'):=fun wx hx=>hT.step i hi V wx I0 T0 (hT.keep i V w wx hJ (fun j hj=>hx.block j (hT.lt i V w hJ j hj)) hx.size) hI hT0
 have eg:=hT.en
 have HB:Hid (∀ wx,Below w.heap.size w wx->wx.cell? ⟨b5,0,none⟩=some (.func (.func T) #[] #[c1])):=fun wx hx=>(hb.bel hx).c 0
 clear hT hJ hb
 generalize pla fs i=x at *
 generalize (recF fs[i]).s=s at *
 go_enter Tryz.func79,Tryz.ntmps79
 go_wp2_with first
  | (refine wpList_box_rc (s:=s) (I:=I0) (T:=T0) _ rfl _ rfl rfl ?_;intro w1 b1 N1;have k5:w1.cell? ⟨b5,0,none⟩=some (.func (.func T) #[] #[c1]):=HB.out _ N1.below)
  | (refine wpList_load_rc _ rfl (.tmp 3) rfl rfl N1.rc ?_)
  | (go_at_fn T;refine(CT.out _ N1.below).mono ?_;rintro e w2 ⟨rfl,V',hJ',hF'⟩)
 go_ret
 exact⟨rfl,V',hJ',(Gm.Fr.of_below N1.below V).trans hF'⟩
end
structure Tl (fs:List ByteArray) (T:FuncId) (cs:Array Value) (J:Nat->(Nat->Prop)->World->Prop):Prop where
 lt:∀ i V w,J i V w->∀ j,V j->j<w.heap.size
 keep:∀ i V w w',J i V w->(∀ j,V j->w'.heap[j]?=w.heap[j]?)->w.heap.size<=w'.heap.size->J i V w'
 e1:∀ i (hi:i<fs.length) V w b5 t I0 T0,J i V w->Gm.At w b5 t #[.func (.func T) #[] cs]->I0.oneCell'=true->T0.oneCell'=true->Calls Tryz.prog 79 #[.agg ((recF fs[i]).s.A I0 T0),.int .i64 (pla fs i),.pointer (some ⟨b5,0,none⟩)] w fun e w'=>E1O V w J i e w'
structure Ov (W0 V0:Nat->Prop) (w0:World) (l:Nat) (fs:List ByteArray) (J:Nat->(Nat->Prop)->World->Prop) (i:Nat) (w:World):Prop where
 ex:∃ W V,Lo W w l fs/\J i V w/\(∀ j,W j->¬ V j)/\(∀ j,W j->W0 j∨w0.heap.size<=j)/\(∀ j,V j->V0 j∨w0.heap.size<=j)
 os:w.os=w0.os
 tape:w.tape=w0.tape
 output:w.output=w0.output
 size:w0.heap.size<=w.heap.size
 blk:∀ j,j<w0.heap.size->¬ W0 j->¬ V0 j->w.heap[j]?=w0.heap[j]?
section
variable {W V W0 V0:Nat->Prop}{w w' w0 w2:World}{l b5 i:Nat}{fs:List ByteArray}{T:FuncId}{cs:Array Value}{J:Nat->(Nat->Prop)->World->Prop}{t:TypeId}{I0 T0 c1:Value}
theorem Tel.tl1 (h:Tel fs T #[c1] J):Tl fs T #[c1] J:=⟨h.lt,h.keep,fun i hi V w b5 t I0 T0 hJ hb hI hT=>each1_1 h hi hJ hb hI hT⟩
theorem Ov.start (h:Lo W w l fs) (hJ:J i V w) (hd:∀ j,W j->¬ V j):Ov W V w l fs J i w:=⟨⟨W,V,h,hJ,hd,fun _ h=>Or.inl h,fun _ h=>Or.inl h⟩,rfl,rfl,rfl,Nat.le_refl _,fun _ _ _ _=>rfl⟩
theorem Ov.below (hT:Tl fs T cs J) (h:Ov W0 V0 w0 l fs J i w) (hb:Below w.heap.size w w'):Ov W0 V0 w0 l fs J i w':=by
 obtain⟨W,V,h1,h2,h3,h4,h5⟩:=h.ex
 exact⟨⟨W,V,h1.below hb,hT.keep i V w w' h2 (fun j hj=>hb.block j (hT.lt i V w h2 j hj)) hb.size,h3,h4,h5⟩,hb.os.trans h.os,hb.tape.trans h.tape,hb.output.trans h.output,Nat.le_trans h.size hb.size,fun j hj n1 n2=>(hb.block j (Nat.lt_of_lt_of_le hj h.size)).trans (h.blk j hj n1 n2)⟩
theorem Ov.at_ (h:Ov W0 V0 w0 l fs J i w) {A:Array Value} (hb:Gm.At w0 b5 t A) (n1:¬ W0 b5) (n2:¬ V0 b5):Gm.At w b5 t A:=hb.keep (h.blk b5 hb.lt n1 n2)
theorem Ov.end_ (h:Ov W0 V0 w0 l fs J i w):Calls Tryz.prog 33 #[.pointer (some ⟨l,0,none⟩)] w fun e w'=>e=.returned (.int .i64 (((cat fs).size:Int)+1))/\w'=w:=by
 obtain⟨W,V,h1,_⟩:=h.ex
 exact h1.end_
structure OvR (W0 V0:Nat->Prop) (w0:World) (l:Nat) (fs:List ByteArray) (J:Nat->(Nat->Prop)->World->Prop) (i:Nat) (m:Rm) (w:World) (e:Ending) (w':World):Prop where
 ex:∃ v,e=.returned (.tuple #[v,.int .i64 (pla fs (i+1)),.int .i64 0])/\RecF w' v m w.heap.size
 ov:Ov W0 V0 w0 l fs J i w'
theorem Ov.read (hT:Tl fs T cs J) (h:Ov W0 V0 w0 l fs J i w) (hi:i<fs.length):Calls Tryz.prog 45 #[.pointer (some ⟨l,0,none⟩),.int .i64 (pla fs i)] w fun e w'=>OvR W0 V0 w0 l fs J i (recF fs[i]) w e w':=by
 obtain⟨W,V,h1,h2,h3,h4,h5⟩:=h.ex
 refine(read_at h1 hi).mono ?_
 rintro e w' ⟨v,W',he,hr,hl,hf⟩
 refine⟨⟨v,he,hr⟩,⟨W',V,hl,hT.keep i V w w' h2 (fun j hj=>hf.blk j (hT.lt i V w h2 j hj) (fun e=>h3 j e hj)) hf.size,fun j hj hv=>?_,fun j hj=>?_,h5⟩,hf.os.trans h.os,hf.tape.trans h.tape,hf.output.trans h.output,Nat.le_trans h.size hf.size,fun j hj n1 n2=>?_⟩
 ·rcases hf.sub j hj with e |e
  ·exact h3 j e hv
  ·have:=hT.lt i V w h2 j hv;omega
 ·rcases hf.sub j hj with e |e
  ·exact h4 j e
  ·exact Or.inr (Nat.le_trans h.size e)
 ·refine(hf.blk j (Nat.lt_of_lt_of_le hj h.size) (fun e=>?_)).trans (h.blk j hj n1 n2)
  rcases h4 j e with e2 |e2
  ·exact n1 e2
  ·omega
theorem Ov.tell (hT:Tl fs T cs J) (h:Ov W0 V0 w0 l fs J i w) (hi:i<fs.length) (hb:Gm.At w0 b5 t #[.func (.func T) #[] cs]) (n1:¬ W0 b5) (n2:¬ V0 b5) (hI:I0.oneCell'=true) (hT0:T0.oneCell'=true) :
  Calls Tryz.prog 79 #[.agg ((recF fs[i]).s.A I0 T0),.int .i64 (pla fs i),.pointer (some ⟨b5,0,none⟩)] w fun e w'=>e=.returned .nilIface/\Ov W0 V0 w0 l fs J (i+1) w':=by
 obtain⟨W,V,h1,h2,h3,h4,h5⟩:=h.ex
 refine(hT.e1 i hi V w b5 t I0 T0 h2 (h.at_ hb n1 n2) hI hT0).mono ?_
 rintro e w' ⟨he,V',hj',hf⟩
 refine⟨he,⟨W,V',h1.fr hf h3,hj',fun j hj hv=>?_,h4,fun j hj=>?_⟩,hf.os.trans h.os,hf.tape.trans h.tape,hf.output.trans h.output,Nat.le_trans h.size hf.size,fun j hj m1 m2=>?_⟩
 ·rcases hf.sub j hv with e |e
  ·exact h3 j hj e
  ·have:=h1.lt hj;omega
 ·rcases hf.sub j hj with e |e
  ·exact h5 j e
  ·exact Or.inr (Nat.le_trans h.size e)
 ·refine(hf.blk j (Nat.lt_of_lt_of_le hj h.size) (fun e=>?_)).trans (h.blk j hj m1 m2)
  rcases h5 j e with e2 |e2
  ·exact m2 e2
  ·omega
set_option maxHeartbeats 2000000 in
theorem over_any (hT:Tl fs T cs J) (h:Lo W w l fs) (hJ:J i V w) (hd:∀ j,W j->¬ V j) (hi:i<=fs.length) (hb:Gm.At w b5 t #[.func (.func T) #[] cs]) (n1:¬ W b5) (n2:¬ V b5) :
  Calls Tryz.prog 78 #[.pointer (some ⟨l,0,none⟩),.int .i64 (pla fs i),.func (.func 79) #[] #[.pointer (some ⟨b5,0,none⟩)]] w fun e w'=>e=.returned .nilIface/\Ov W V w l fs J fs.length w':=by
 have O0:Hid (Ov W V w l fs J i w):=Ov.start h hJ hd
 have hfit:=h.fit
 have HF:Hid (Fit 200 fs):=hfit
 have HT:Hid (Tl fs T cs J):=hT
 have HB:Hid (Gm.At w b5 t #[.func (.func T) #[] cs]/\¬ W b5/\¬ V b5):=⟨hb,n1,n2⟩
 obtain⟨E,hE⟩:∃ E:Int,((cat fs).size:Int)+1=E:=⟨_,rfl⟩
 have HE:Hid (pla fs fs.length=E):=(pla_end fs).trans hE
 have CE:Hid (∀ i wx,Ov W V w l fs J i wx->Calls Tryz.prog 33 #[.pointer (some ⟨l,0,none⟩)] wx fun e w'=>e=.returned (.int .i64 E)/\w'=wx):=fun i wx hx=>by rw[← hE];exact hx.end_
 obtain⟨x0,hx0⟩:∃ x0,pla fs i=x0:=⟨_,rfl⟩
 have HX0:Hid (pla fs i=x0):=hx0
 rw[hx0]
 clear hT h hJ hd hb n1 n2 hfit hE hx0
 go_enter Tryz.func78,Tryz.ntmps78
 go_wp2
 go_loopw [7] (fun s7 wr=>∃ (j:Nat) (x:Int),s7=.int .i64 x/\Hid (pla fs j=x)/\j<=fs.length/\Ov W V w l fs J j wr) (fun s7 _=>(E-intOf s7).toNat)
 case atStart=>exact⟨i,x0,rfl,HX0.out,hi,O0.out⟩
 case round =>
  clear O0
  obtain⟨j,x,rfl,HX,hj,hO⟩:=hrel
  rename World=>wo
  have O:Hid (Ov W V w l fs J j wo):=hO
  clear hO
  by_cases hlt:j<fs.length
  ·have hoff:=off_lt HF.out.frm hlt (Nat.le_refl _)
   have hxE:x<E:=by
    have h1:=HX.out
    have h2:=HE.out
    unfold pla at h1 h2
    omega
   have CR:Hid (∀ wx,Ov W V w l fs J j wx->Calls Tryz.prog 45 #[.pointer (some ⟨l,0,none⟩),.int .i64 x] wx fun e w'=>OvR W V w l fs J j (recF fs[j]) wx e w'):=fun wx hx=>by rw[← HX.out];exact hx.read HT.out hlt
   have CT:Hid (∀ wx I0 T0,Ov W V w l fs J j wx->I0.oneCell'=true->T0.oneCell'=true->Calls Tryz.prog 79 #[.agg ((recF fs[j]).s.A I0 T0),.int .i64 x,.pointer (some ⟨b5,0,none⟩)] wx fun e w'=>e=.returned .nilIface/\Ov W V w l fs J (j+1) w'):=fun wx I0 T0 hx h1 h2=>by rw[← HX.out];exact hx.tell HT.out hlt HB.out.1 HB.out.2.1 HB.out.2.2 h1 h2
   have HXs:Hid (x<pla fs (j+1)):=by
    have h1:=HX.out
    have h3:=(HF.out.frm fs[j] (List.getElem_mem _)).pos
    show x<_
    rw[← h1]
    unfold pla
    rw[off_succ hlt]
    omega
   clear hoff
   generalize recF fs[j]=m at *
   obtain⟨s9,l9,g9⟩:=m
   dsimp only at CT
   go_wp2_with first
    | (go_at_call 33;refine(CE.out _ _ O.out).mono ?_;rintro e w1 ⟨rfl,rfl⟩)
    | (go_at_call 45;refine(CR.out _ O.out).mono ?_;rintro e w2 ⟨⟨v,rfl,hv⟩,ov⟩;have O2:Hid (Ov W V w l fs J j w2):=ov;clear ov;obtain⟨I,T0,rfl,hI,hT0⟩:=hv.ex;dsimp only at hI hT0;obtain⟨nx,hnx⟩:∃ nx,pla fs (j+1)=nx:=⟨_,rfl⟩;rw[hnx];have HN:Hid (pla fs (j+1)=nx):=hnx;clear hnx)
    | (refine wpList_new_rc _ rfl rfl ?_;intro w3 b8 N8)
    | (refine wpList_at (Op.store 54 (.tmp 8) (.tmp 21)) rfl ?_;refine wpList_put_rc (s':=s9) (I':=I) (T':=T0) _ rfl (.tmp 8) (.tmp 21) rfl rfl rfl N8.rc hI.slI.one hT0.slT.one ?_;intro w4 P8;have O4:Hid (Ov W V w l fs J j w4):=O2.out.below HT.out (N8.below.trans (P8.below (by have:=N8.eq;omega) N8.below.size)))
    | (refine wpList_load_rc _ rfl (.tmp 8) rfl rfl P8.rc ?_)
    | (go_at_call 79;refine(CT.out _ _ _ O4.out hI.slI.one hT0.slT.one).mono ?_;rintro e w5 ⟨rfl,ov5⟩;have O5:Hid (Ov W V w l fs J (j+1) w5):=ov5;clear ov5)
   go_roundw
   case rel=>exact⟨j+1,nx,rfl,HN.out,by omega,O5.out⟩
   case measure =>
    have h1:=HXs.out
    have h2:=HN.out
    simp[intOf];omega
  ·obtain rfl:j=fs.length:=by omega
   have hxE:¬ x<E:=by rw[← HX.out,HE.out];omega
   go_wp2_with (go_at_call 33;refine(CE.out _ _ O.out).mono ?_;rintro e w1 ⟨rfl,rfl⟩)
   go_ret
   exact⟨rfl,O.out⟩
end
end Go.Proofs.YtdchjncnjgelhaaGreat.Lg
namespace Go.Proofs.YtdchjncnjgelhaaGreat.Gm
open Go.RowKit
theorem range_bel {w w':World} {g o:Nat} {L:List Value} (h:w.rangeAt g o L) (hg:w'.heap[g]?=w.heap[g]?):w'.rangeAt g o L:=fun j u hu=>(World.cell?_of_block hg).trans (h j u hu)
end Go.Proofs.YtdchjncnjgelhaaGreat.Gm
namespace Go.Proofs.YtdchjncnjgelhaaGreat.Rq
open Go.RowKit Gm
abbrev SpL:=Int × Int
def encS (s:SpL):List Value:=[.int .i64 s.1,.int .i64 s.2]
structure Sp (w:World) (v:Value) (L:List SpL):Prop where
 ex:∃ a c,v=.slice a L.length c/\∀ i (hi:i<L.length),∃ g o,a=some ⟨g,o,none⟩/\g<w.heap.size/\w.cell? ⟨g,o+i*2,none⟩=some (.int .i64 L[i].1)/\w.cell? ⟨g,o+i*2+1,none⟩=some (.int .i64 L[i].2)
section
variable {w w':World}{v:Value}{a:Option Addr}{n c:Nat}{L:List SpL}
theorem Sp.bel (h:Sp w v L) (hb:Below w.heap.size w w'):Sp w' v L:=by
 obtain⟨a,c,e,h⟩:=h.ex
 refine⟨a,c,e,fun i hi=>?_⟩
 obtain⟨g,o,ea,hg,h1,h2⟩:=h i hi
 exact⟨g,o,ea,Nat.lt_of_lt_of_le hg hb.size,by rw[World.cell?_of_block (hb.block g hg)];exact h1,by rw[World.cell?_of_block (hb.block g hg)];exact h2⟩
theorem Sp.at_ (h:Sp w (.slice a n c) L) {i:Nat} (hi:i<L.length):∃ g o,a=some ⟨g,o,none⟩/\g<w.heap.size/\w.cell? ⟨g,o+i*2,none⟩=some (.int .i64 L[i].1)/\w.cell? ⟨g,o+i*2+1,none⟩=some (.int .i64 L[i].2):=by
 obtain⟨a',c',e,hh⟩:=h.ex
 cases e
 exact hh i hi
theorem Sp.of_row {t:TypeId} (h:Gm.Row w t 2 v (L.map encS)):Sp w v L:=by
 obtain⟨a,c,e,_⟩:=h.sl
 rw[List.length_map] at e
 refine⟨a,c,e,fun i hi=>?_⟩
 subst e
 have h2:Gm.Row w t 2 (.slice a L.length c) (L.map encS):=h
 obtain⟨g,ea,hg,hat⟩:=h2.at_ (i:=i) (by rw[List.length_map];exact hi)
 have hra:=(hat w rfl).1
 rw[List.getElem_map] at hra
 exact⟨g,0,ea,hg,by have:=hra 0 _ rfl;simpa using this,by have:=hra 1 _ rfl;simpa using this⟩
end
def upN (L:List SpL) (e:Int):Nat:=L.findIdx fun s=>decide (e<s.1)
def upP (L:List SpL) (e en:Int):Int:=((L[upN L e]?).map fun s=>min s.2 en).getD en
theorem upN_le (L:List SpL) (e:Int):upN L e<=L.length:=List.findIdx_le_length
theorem upN_of {L:List SpL} {e:Int} {i:Nat} (hi:i<L.length) (h:e<L[i].1) (hn:∀ j (hj:j<i),¬ e<(L[j]'(by omega)).1):upN L e=i :=
 (List.findIdx_eq hi).2 ⟨by simpa using h,fun j hj=>by simpa using hn j hj⟩
theorem upN_no {L:List SpL} {e:Int} (hn:∀ j (hj:j<L.length),¬ e<L[j].1):upN L e=L.length :=
 List.findIdx_eq_length.2 fun x hx=>by
  obtain⟨j,hj,rfl⟩:=List.getElem_of_mem hx
  simpa using hn j hj
theorem upP_at {L:List SpL} {e en:Int} {i:Nat} (hi:i<L.length) (h:upN L e=i):upP L e en=min L[i].2 en:=by
 unfold upP
 rw[h,List.getElem?_eq_getElem hi]
 rfl
theorem upP_no {L:List SpL} {e en:Int} (h:upN L e=L.length):upP L e en=en:=by
 unfold upP
 rw[h,List.getElem?_eq_none (Nat.le_refl _)]
 rfl
def partM (L:List SpL) (e en:Int):Int × Int:=if upN L e=0 then(0,min 1 en) else((L[upN L e-1]?.map (·.1)).getD 0,upP L e en)
theorem stSp:St 127 2:=⟨⟨_,Tryz.underlying127⟩,by kernel_rfl⟩
theorem zSp (w:World):(zeroValue 127).run Tryz.prog w=.ok (.agg #[.int .i64 0,.int .i64 0]) w:=by kernel_rfl
theorem oneI (x y:Int):∀ u∈(#[.int .i64 x,.int .i64 y]:Array Value).toList,u.oneCell'=true:=by
 intro u hu;simp at hu;rcases hu with rfl |rfl <;> rfl
theorem Put.belN {w w2 w3:World} {b:Nat} {t t':TypeId} {A A':Array Value} (N:New w w2 b t A) (P:Put w2 w3 b t' A'):Below w.heap.size w w3 :=
 N.bel.trans ((P.fr (·=b) rfl).bel (fun j hj=>by rw[hj,N.eq];exact Nat.le_refl _) N.bel.size)
section
variable {w:World}{a:Option Addr}{n c:Nat}{L:List SpL}
theorem upTo_any (h:Sp w (.slice a n c) L) (hL:L.length=n) (hn:n<=100000) (e en:Int):Calls Tryz.prog 83 #[.slice a n c,.int .i64 e,.int .i64 en] w fun x w'=>x=.returned (.tuple #[.int .i64 ((upN L e:Nat):Int),.int .i64 (upP L e en)])/\Below w.heap.size w w':=by
 have HV:Hid (Sp w (.slice a n c) L):=h
 have Hm:Hid (L.length=n):=hL
 have h2:=stSp
 clear h hL
 go_enter Tryz.func83,Tryz.ntmps83
 go_wp2
 go_loopw [12] (fun s12 wr=>∃ i:Nat,s12=.int .i64 (i:Int)/\i<=n/\Below w.heap.size w wr/\Hid (∀ j (hj:j<L.length),j<i->¬ e<L[j].1)) (fun s12 _=>n-(intOf s12).toNat)
 case atStart=>exact⟨0,rfl,Nat.zero_le _,Below.refl _ _,fun j _ hj=>absurd hj (Nat.not_lt_zero _)⟩
 case round =>
  obtain⟨i,rfl,hi,hB,HN⟩:=hrel
  rename World=>wo
  have HB:Hid (Below w.heap.size w wo):=hB
  clear hB
  by_cases hlt:i<n
  ·have hltI:(i:Int)<(n:Int):=by omega
   have hi1:i<L.length:=by have:=Hm.out;omega
   obtain⟨g,o,rfl,_,c0,c1⟩:=(HV.out.bel HB.out).at_ hi1
   by_cases hc:e<L[i].1
   ·have HF:Hid (upN L e=i/\upP L e en=min L[i].2 en):=(by
     have:upN L e=i:=upN_of hi1 hc (fun j hj=>HN.out j (by omega) hj)
     exact⟨this,upP_at hi1 this⟩)
    generalize hx:L[i].1=x at *
    generalize hy:L[i].2=y at *
    clear hx hy hi1
    go_wp2_with first
     | (refine wpList_new_at (A:=#[.int .i64 0,.int .i64 0]) _ zSp rfl rfl ?_;intro w2 b2 N2)
     | (refine wpList_put_at (A:=#[.int .i64 0,.int .i64 0]) (A':=#[.int .i64 x,.int .i64 y]) h2 _ rfl _ _ rfl rfl rfl N2.is rfl rfl (oneI _ _) ?_;intro w3 P3;have k0:w3.cell? ⟨b2,0,none⟩=some (.int .i64 x):=P3.is.c 0;have k1:w3.cell? ⟨b2,1,none⟩=some (.int .i64 y):=P3.is.c 1)
    go_region
    all_goals go_wp2
    all_goals go_ret2
    all_goals refine⟨?_,bdr (thn HB.out (Put.belN N2 P3)) 1⟩
    all_goals rw[HF.out.1,HF.out.2]
    all_goals first
     | exact congrArg (fun z=>Ending.returned (.tuple #[.int .i64 (i:Int),.int .i64 z])) (by omega:y=min y en)
     | exact congrArg (fun z=>Ending.returned (.tuple #[.int .i64 (i:Int),.int .i64 z])) (by omega:en=min y en)
     | exact congrArg (fun z=>Ending.returned (.tuple #[.int .i64 (i:Int),.int .i64 z])) (by split <;> omega:(if en<y then en else y)=min y en)
     | rfl
   ·have HN2:Hid (∀ j (hj:j<L.length),j<i+1->¬ e<L[j].1):=fun j hj hj2=>(Nat.lt_succ_iff_lt_or_eq.1 hj2).elim (fun h=>HN.out j hj h) (fun h=>by subst h;exact hc)
    generalize hx:L[i].1=x at *
    generalize hy:L[i].2=y at *
    clear hx hy hi1
    go_wp2_with first
     | (refine wpList_new_at (A:=#[.int .i64 0,.int .i64 0]) _ zSp rfl rfl ?_;intro w2 b2 N2)
     | (refine wpList_put_at (A:=#[.int .i64 0,.int .i64 0]) (A':=#[.int .i64 x,.int .i64 y]) h2 _ rfl _ _ rfl rfl rfl N2.is rfl rfl (oneI _ _) ?_;intro w3 P3;have k0:w3.cell? ⟨b2,0,none⟩=some (.int .i64 x):=P3.is.c 0;have k1:w3.cell? ⟨b2,1,none⟩=some (.int .i64 y):=P3.is.c 1)
    go_roundw
    case rel=>exact⟨i+1,by rfl,by omega,thn HB.out (Put.belN N2 P3),HN2.out⟩
    case measure=>simp[intOf];omega
  ·have hltI:¬ (i:Int)<(n:Int):=by omega
   have HF:Hid (upN L e=n/\upP L e en=en):=(by
    have:upN L e=L.length:=upN_no (fun j hj=>HN.out j hj (by have:=Hm.out;omega))
    exact⟨by rw[this];exact Hm.out,upP_no this⟩)
   go_wp2
   go_ret2
   exact⟨by rw[HF.out.1,HF.out.2];rfl,HB.out⟩
theorem Part_any (h:Sp w (.slice a n c) L) (hL:L.length=n) (hn:n<=100000) (e en:Int):Calls Tryz.prog 51 #[.slice a n c,.int .i64 e,.int .i64 en] w fun x w'=>x=.returned (.tuple #[.int .i64 (partM L e en).1,.int .i64 (partM L e en).2])/\Below w.heap.size w w':=by
 have C:Hid (Calls Tryz.prog 83 #[.slice a n c,.int .i64 e,.int .i64 en] w fun x w'=>x=.returned (.tuple #[.int .i64 ((upN L e:Nat):Int),.int .i64 (upP L e en)])/\Below w.heap.size w w'):=upTo_any h hL hn e en
 have HV:Hid (Sp w (.slice a n c) L):=h
 have hu:upN L e<=n:=by rw[← hL];exact upN_le L e
 have Hm:Hid (L.length=n):=hL
 have HM:Hid (partM L e en=if upN L e=0 then(0,min 1 en) else((L[upN L e-1]?.map (·.1)).getD 0,upP L e en)):=rfl
 clear h hL
 by_cases h0:upN L e=0
 ·have HM2:Hid (partM L e en=(0,min 1 en)):=HM.out.trans (if_pos h0)
  rw[h0] at C
  rw[HM2.out]
  clear HM hu h0
  generalize upP L e en=q at *
  go_enter Tryz.func51,Tryz.ntmps51
  go_wp2_with (go_at_call 83;refine C.out.mono ?_;rintro x w2 ⟨rfl,b2⟩)
  all_goals go_ret2
  all_goals refine⟨?_,b2⟩
  all_goals first
   | exact congrArg (fun z=>Ending.returned (.tuple #[.int .i64 0,.int .i64 z])) (by omega:1=min 1 en)
   | exact congrArg (fun z=>Ending.returned (.tuple #[.int .i64 0,.int .i64 z])) (by omega:en=min 1 en)
   | exact congrArg (fun z=>Ending.returned (.tuple #[.int .i64 0,.int .i64 z])) (by split <;> omega:(if en<1 then en else 1)=min 1 en)
   | rfl
 ·obtain⟨m,hm⟩:∃ m,upN L e=m+1:=⟨upN L e-1,by omega⟩
  have hi:m<L.length:=by have:=Hm.out;omega
  have HM2:Hid (partM L e en=(L[m].1,upP L e en)):=by
   show _=_
   rw[HM.out,if_neg h0,hm,Nat.add_sub_cancel,List.getElem?_eq_getElem hi]
   rfl
  rw[hm] at C hu
  rw[HM2.out]
  have HC:Hid (∀ wx,Below w.heap.size w wx->∃ g o,a=some ⟨g,o,none⟩/\wx.cell? ⟨g,o+m*2,none⟩=some (.int .i64 L[m].1)):=fun wx hb=>by
   obtain⟨g,o,ea,_,c0,_⟩:=(HV.out.bel hb).at_ hi
   exact⟨g,o,ea,c0⟩
  clear HM hm h0
  generalize upP L e en=q at *
  generalize L[m].1=x1 at *
  have hmI:¬ (((m+1:Nat):Int)=0):=by omega
  have hb1:(((m+1:Nat):Int)==0)=false:=by simpa using hmI
  have hw1:IntKind.i64.wrap (((m+1:Nat):Int)-1)=(m:Int):=by rw[show((m+1:Nat):Int)-1=(m:Int) by omega];rw[IntKind.wrap_i64];omega
  have hmn:(m:Int)<(n:Int):=by omega
  go_enter Tryz.func51,Tryz.ntmps51
  go_wp2_with (go_at_call 83;refine C.out.mono ?_;rintro x w2 ⟨rfl,b2⟩;obtain⟨g,o,rfl,c0⟩:=HC.out _ b2)
  go_ret2
  exact⟨rfl,b2⟩
end
theorem awake15 (w:World):Calls Tryz.prog 21 #[] w fun e w'=>e=.returned (.bool true)/\Below w.heap.size w w':=by
 have C:Hid (∀ wx b,At wx b 127 #[.int .i64 1,.int .i64 1,.int .i64 3,.int .i64 50]->Calls Tryz.prog 51 #[.slice (some ⟨b,0,none⟩) 2 2,.int .i64 2,.int .i64 90] wx fun x w'=>x=.returned (.tuple #[.int .i64 1,.int .i64 50])/\Below wx.heap.size wx w'):=fun wx b hA=>by
  have hS:Sp wx (.slice (some ⟨b,0,none⟩) 2 2) [(1,1),(3,50)]:=⟨_,2,rfl,fun i hi=>⟨b,0,rfl,hA.lt,by
   match i,hi with
   | 0,_=>exact hA.c 0
   | 1,_=>exact hA.c 2,by
   match i,hi with
   | 0,_=>exact hA.c 1
   | 1,_=>exact hA.c 3⟩⟩
  exact Part_any hS rfl (by omega) 2 90
 go_enter Tryz.func21,Tryz.ntmps21
 go_wp2_with (go_at_call 51;refine(C.out _ _ (At.new _ _ _)).mono ?_;rintro x w2 ⟨rfl,q2⟩)
 go_ret
 exact⟨rfl,thn (bl1 _) q2⟩
end Go.Proofs.YtdchjncnjgelhaaGreat.Rq
namespace Go.Proofs.YtdchjncnjgelhaaGreat.Lg
open Go.RowKit Go.Maps Go.ChangeMaps
open Gm (thn bl1 bdr)
section
variable {W V:Nat->Prop}{w w' w2:World}{l i:Nat}{fs:List ByteArray}{T:FuncId}{cs:Array Value}{J:Nat->(Nat->Prop)->World->Prop}{t:TypeId}
theorem each_any (hT:Tl fs T cs J) (h:Lo W w l fs) (hJ:J i V w) (hd:∀ j,W j->¬ V j) (hi:i<=fs.length) :
  Calls Tryz.prog 46 #[.pointer (some ⟨l,0,none⟩),.int .i64 (pla fs i),.func (.func T) #[] cs] w fun e w'=>e=.returned (.tuple #[])/\Ov W V w l fs J fs.length w':=by
 have CO:Hid (∀ wx b t,Gm.New w wx b t #[.func (.func T) #[] cs]->Calls Tryz.prog 78 #[.pointer (some ⟨l,0,none⟩),.int .i64 (pla fs i),.func (.func 79) #[] #[.pointer (some ⟨b,0,none⟩)]] wx fun e w'=>e=.returned .nilIface/\Ov W V w l fs J fs.length w'):=fun wx b t hN=>by
  have hWl:¬ W b:=fun e=>by have:=h.lt e;have:=hN.eq;omega
  have hVl:¬ V b:=fun e=>by have:=hT.lt i V w hJ b e;have:=hN.eq;omega
  refine(over_any hT (h.below hN.bel) (hT.keep i V w wx hJ (fun j hj=>hN.bel.block j (hT.lt i V w hJ j hj)) hN.bel.size) hd hi hN.is hWl hVl).mono ?_
  rintro e w' ⟨he,ho⟩
  refine⟨he,?_⟩
  obtain⟨W',V',g1,g2,g3,g4,g5⟩:=ho.ex
  have hs:=hN.bel.size
  exact⟨⟨W',V',g1,g2,g3,fun j hj=>(g4 j hj).imp id (fun e=>Nat.le_trans hs e),fun j hj=>(g5 j hj).imp id (fun e=>Nat.le_trans hs e)⟩,ho.os.trans hN.bel.os,ho.tape.trans hN.bel.tape,ho.output.trans hN.bel.output,Nat.le_trans hs ho.size,fun j hj n1 n2=>(ho.blk j (Nat.lt_of_lt_of_le hj hs) n1 n2).trans (hN.bel.block j hj)⟩
 clear hT h hJ hd
 generalize pla fs i=x at *
 go_enter Tryz.func46,Tryz.ntmps46
 go_wp2_with first
  | (refine Gm.wpList_box1 (v:=.func (.func T) #[] cs) _ rfl _ rfl rfl rfl ?_;intro w1 b1 N1)
  | (go_at_call 78;refine(CO.out _ _ _ N1).mono ?_;rintro e w2 ⟨rfl,ho⟩)
 go_end0
 exact⟨rfl,ho⟩
end
def rcd (fs:List ByteArray) (i:Nat):Sc:=(recF (fs.getD i ⟨#[]⟩)).s
theorem rcd_at {fs:List ByteArray} {i:Nat} (h:i<fs.length):(recF fs[i]).s=rcd fs i:=by
 unfold rcd
 rw[List.getD_eq_getElem?_getD,List.getElem?_eq_getElem h]
 rfl
theorem fs_len {fs:List ByteArray} (h:Fit 200 fs):fs.length<=11600:=by
 have:=fit_len h
 have h2:=h.sz
 have h3:=off_inj h.frm (i:=fs.length) (j:=fs.length) (Nat.le_refl _) (Nat.le_refl _) rfl
 have h4:∀ (l:List ByteArray),(∀ f∈l,Frm f)->l.length<=(cat l).size:=by
  intro l
  induction l with
  | nil=>intro _;exact Nat.zero_le _
  | cons a l ih =>
   intro hl
   have:=ih (fun f hf=>hl f (List.mem_cons_of_mem _ hf))
   have:=(hl a (List.mem_cons_self ..)).pos
   have e:(cat (a ::l)).size=a.size+(cat l).size:=by rw[cat,bsz]
   rw[e,List.length_cons]
   omega
 have:=h4 fs h.frm
 omega
theorem elP {sl el:TypeId} (hsl:Tryz.prog.underlying sl=some (.slice el)) (hi:(Tryz.prog.info? el).map (fun i=>(i.zero,i.size,i.bytes))=some (some (.agg #[.int .i64 0,.int .i64 0]),2,16)):Gm.El sl el 2 (.agg #[.int .i64 0,.int .i64 0]):=⟨hsl,by
 obtain⟨i,h1,h2,h3,h4⟩:=info_parts hi
 exact⟨i,h1,h2,h3,by omega⟩,rfl,by omega⟩
theorem elAc:Gm.El 35 40 2 (.agg #[.int .i64 0,.int .i64 0]):=elP Tryz.underlying35 (by kernel_rfl)
section
theorem i1:(Tryz.prog.info? 3).map (·.size)=some 1:=by kernel_rfl
end
theorem pla0 (fs:List ByteArray):pla fs 0=1:=by unfold pla off;rw[List.take_zero];rfl
section
variable {W V:Nat->Prop}{w w1 w':World}{l n:Nat}{fs:List ByteArray}{J:Nat->(Nat->Prop)->World->Prop}
structure Dn (W:Nat->Prop) (w:World) (l:Nat) (fs:List ByteArray) (J:(Nat->Prop)->World->Prop) (w':World):Prop where
 ex:∃ W' V',Lo W' w' l fs/\J V' w'/\(∀ j,W' j->¬ V' j)/\(∀ j,V' j->w.heap.size<=j)/\Gm.Fr W W' w w'
theorem Ov.done (ho:Ov W V w1 l fs J n w') (hB:Below w.heap.size w w1) (hV:∀ j,V j->w.heap.size<=j):Dn W w l fs (J n) w':=by
 obtain⟨W',V',g1,g2,g3,g4,g5⟩:=ho.ex
 have hs:=hB.size
 refine⟨W',V',g1,g2,g3,fun j hj=>(g5 j hj).elim (hV j) (fun e=>Nat.le_trans hs e),ho.os.trans hB.os,ho.tape.trans hB.tape,ho.output.trans hB.output,Nat.le_trans hs ho.size,fun j hj hn=>?_,fun j hj=>(g4 j hj).imp id (fun e=>Nat.le_trans hs e)⟩
 exact(ho.blk j (Nat.lt_of_lt_of_le hj hs) hn (fun e=>by have:=hV j e;omega)).trans (hB.block j hj)
end
end Go.Proofs.YtdchjncnjgelhaaGreat.Lg
namespace Go.Proofs.YtdchjncnjgelhaaGreat.Gm
open Go.RowKit Go.Maps Go.ChangeMaps
def hdR (v:Value):Option (DataW Value × List MemPlace):=some (.held v,[])
def updL (f:Lit->Option Value) (l:Lit) (x:Option Value):Lit->Option Value:=fun j=>if j.sameKey l then x else f j
theorem updL_same (f:Lit->Option Value) {l:Lit} (hl:WideAt.IsKeyLit l) (x:Option Value):updL f l x l=x:=by simp[updL,WideAt.sameKey_self hl]
theorem updL_other (f:Lit->Option Value) {l j:Lit} (x:Option Value) (h:j≠l):updL f l x j=f j:=by simp[updL,sameKey_ne h]
structure MpV (D:DataW Value) (f:Lit->Option Value):Prop where
 has:∀ l,Maps.has D l=(f l).isSome
 at_:∀ l v,f l=some v->∀ z,D.atKey l z=.held v
structure Mp (w:World) (kt:TypeId) (b n:Nat) (f:Lit->Option Value):Prop where
 ex:∃ D,w.ownsMap Tryz.prog kt hdR b n D/\Maps.size D=n/\MpV D f
section
variable {w w':World}{kt t e:TypeId}{b n:Nat}{f g:Lit->Option Value}{W W':Nat->Prop}
theorem Mp.ext (h:Mp w kt b n f) (he:∀ l,g l=f l):Mp w kt b n g:=by
 have:g=f:=funext he
 rw[this];exact h
theorem MpV.put {D:DataW Value} (h:MpV D f) (hD:IsMap D) {l:Lit} (hl:WideAt.IsKeyLit l) (v:Value):MpV (D.put l (.held v)) (updL f l (some v)):=by
 refine⟨fun j=>?_,fun j c hj z=>?_⟩
 ·by_cases e:j=l
  ·subst e;rw[updL_same _ hl,has_put_same hD hl];rfl
  ·rw[updL_other _ _ e,has_put_other e,h.has]
 ·by_cases e:j=l
  ·subst e;rw[updL_same _ hl] at hj;cases hj;rw[atKey_put_same hD hl]
  ·rw[updL_other _ _ e] at hj;rw[atKey_put_other e];exact h.at_ j c hj z
theorem MpV.del {D:DataW Value} (h:MpV D f) {l:Lit} (hl:WideAt.IsKeyLit l):MpV (D.del l) (updL f l none):=by
 refine⟨fun j=>?_,fun j c hj z=>?_⟩
 ·by_cases e:j=l
  ·subst e;rw[updL_same _ hl,has_del_same];rfl
  ·rw[updL_other _ _ e,has_del_other e,h.has]
 ·by_cases e:j=l
  ·subst e;rw[updL_same _ hl] at hj;cases hj
  ·rw[updL_other _ _ e] at hj;rw[atKey_del_other e];exact h.at_ j c hj z
theorem owns_exact {m:Nat} {D:DataW Value} (h:w.ownsMap Tryz.prog kt hdR b m D):w.ownsMap Tryz.prog kt hdR b (Maps.size D) D:=by
 obtain⟨es,cl,h1,h2,h3,rfl⟩:=h
 refine⟨es,cl,h1,h2,?_,rfl⟩
 simp[Maps.size,length_sorted]
theorem Mp.of {m:Nat} {D:DataW Value} (h:w.ownsMap Tryz.prog kt hdR b m D) (hf:MpV D f) (hn:Maps.size D=n):Mp w kt b n f:=by
 subst hn;exact⟨D,owns_exact h,rfl,hf⟩
theorem Mp.lt (h:Mp w kt b n f):b<w.heap.size:=by obtain⟨D,h,_⟩:=h.ex;exact h.lt
theorem Mp.keep (h:Mp w kt b n f) (hb:w'.heap[b]?=w.heap[b]?):Mp w' kt b n f:=by
 obtain⟨D,⟨es,cl,h1,h2,h3,h4⟩,hv⟩:=h.ex
 exact⟨D,⟨es,cl,hb.trans h1,h2,h3,h4⟩,hv⟩
theorem Mp.bel (h:Mp w kt b n f) (hb:Below w.heap.size w w'):Mp w' kt b n f:=h.keep (hb.block b h.lt)
theorem Mp.fr (h:Mp w kt b n f) (hf:Fr W W' w w') (hn:¬ W b):Mp w' kt b n f:=h.keep (hf.blk b h.lt hn)
theorem Mp.made (w:World) (kt:TypeId):Mp (w.alloc (.map #[] 0)) kt w.heap.size 0 (fun _=>none):=⟨_,World.ownsMap_made _ _ _ _,rfl,fun l=>rfl,fun l v h=>by cases h⟩
theorem Mp.blk (h:Mp w kt b n f):∃ es cl,w.heap[b]?=some (.map es cl):=by obtain⟨D,⟨es,cl,h1,_⟩,_⟩:=h.ex;exact⟨es,cl,h1⟩
theorem Mp.ne {A:Array Value} {c:Nat} (h:Mp w kt b n f) (hc:At w c t A):b≠c:=fun e2=>by
 obtain⟨es,cl,h1⟩:=h.blk
 rw[e2,hc.blk] at h1
 cases h1
theorem turned_off {b:Nat} (h:w.mapTurned w' b):∀ j,j≠b->w'.heap[j]?=w.heap[j]?:=fun j hj=>by
 obtain⟨es,cl,es',cl',h1,rfl⟩:=h
 exact heap_setBlock_other h1 _ hj
theorem turned_fr (h:w.mapTurned w' b) (hW:W b):Fr W W w w':=Fr.grown h.grown fun g e=>by cases e;exact hW
theorem Mp.look1 (h:Mp w kt b n f) (K:Keyed Tryz.prog kt) (ht:Tryz.prog.underlying t=some (.map kt e)) {z:Value} (hz:(zeroValue e).run Tryz.prog w=.ok z w) {key:Value} {l:Lit} (hk:keyOf Tryz.prog kt key=some l) :
  (Instr.lookup t (.map (some b)) key false).run Tryz.prog w=.ok ((f l).getD z) w:=by
 obtain⟨D,ho,_,hv⟩:=h.ex
 obtain⟨v,ps,hrun,hR⟩:=ho.lookup K ht hz (show hdR z=some (.held z,[]) from rfl) hk
 rw[hrun]
 simp only[hdR,Option.some.injEq,Prod.mk.injEq] at hR
 cases hf:f l with
 | none =>
  rw[atKey_of_not_has (by rw[hv.has,hf];rfl)] at hR
  injection hR.1 with h1
  rw[h1];rfl
 | some c =>
  rw[hv.at_ l c hf] at hR
  injection hR.1 with h1
  rw[h1];rfl
theorem Mp.tidy (h:Mp w kt b n f) (K:Keyed Tryz.prog kt):∃ D,w.ownsMap Tryz.prog kt hdR b n D/\Maps.size D=n/\MpV D f/\Tidy D:=by
 obtain⟨D,ho,hn,hv⟩:=h.ex
 exact⟨D,ho,hn,hv,ho.tidy K⟩
theorem Mp.store (h:Mp w kt b n f) (K:Keyed Tryz.prog kt) (ht:Tryz.prog.underlying t=some (.map kt e)) (hn:n<10000000000000) {key:Value} {l:Lit} (hk:keyOf Tryz.prog kt key=some l) (v:Value) :
  ∃ w',(Instr.mapUpdate t (.map (some b)) key v).run Tryz.prog w=.ok () w'/\Mp w' kt b (if(f l).isSome then n else n+1) (updL f l (some v))/\w.mapTurned w' b:=by
 obtain⟨D,ho,hs,hv,hd⟩:=h.tidy K
 obtain⟨w',h1,h2,h3⟩:=ho.store K ht (by unfold maxLen;omega) hk (show hdR v=some (.held v,[]) from rfl)
 refine⟨w',h1,Mp.of h2 (hv.put ho.isMap (K.key hk) v) ?_,h3⟩
 rw[size_put hd,hv.has,hs]
theorem Mp.drop (h:Mp w kt b n f) (K:Keyed Tryz.prog kt) (ht:Tryz.prog.underlying t=some (.map kt e)) {key:Value} {l:Lit} (hk:keyOf Tryz.prog kt key=some l) (ty:TypeId) :
  ∃ w',(Builtin.delete_ #[t,kt] ty #[.map (some b),key]).run Tryz.prog w=.ok (.tuple #[]) w'/\Mp w' kt b (if(f l).isSome then n-1 else n) (updL f l none)/\w.mapTurned w' b:=by
 obtain⟨D,ho,hs,hv,hd⟩:=h.tidy K
 obtain⟨w',h1,h2,h3⟩:=ho.drop K ht hk ty
 refine⟨w',h1,Mp.of h2 (hv.del (K.key hk)) ?_,h3⟩
 have:=size_del (k:=l) hd
 rw[hv.has,hs] at this
 split at this <;> split <;> first |omega |simp_all
end
section
variable {ops:Array Oper}{rest:List Oper}{o:Oper}{a:Act}{Q:Exit->Act->World->Prop}{kt t e:TypeId}{b n:Nat}{f:Lit->Option Value}
theorem wpList_store_mp (w:World) (hg:o.guard=none) (m x v:Operand) (hop:o.op=Op.mapUpdate t m x v) (K:Keyed Tryz.prog kt) (ht:Tryz.prog.underlying t=some (.map kt e)) (hn:n<10000000000000) (hm:a.eval m=.map (some b)) (h:Mp w kt b n f) {key u:Value} {l:Lit} (hx:a.eval x=key) (hv:a.eval v=u) (hk:keyOf Tryz.prog kt key=some l)
  (hK:∀ w',Mp w' kt b (if(f l).isSome then n else n+1) (updL f l (some u))->w.mapTurned w' b->wpList Tryz.prog ops Q rest (a.put o.dst undef) w'):wpList Tryz.prog ops Q (o ::rest) a w:=by
 refine wpList_plain hg fun K' hK'=>?_
 obtain⟨w',hrun,r1,r2⟩:=h.store K ht hn hk u
 unfold Oper.wp
 simp[execOp,hop,hm,hx,hv,hrun,Result.andThen]
 exact hK' _ _ (hK w' r1 r2)
theorem wpList_drop_mp (w:World) (hg:o.guard=none) (m x:Operand) (hop:o.op=Op.call {callee:=Callee.builtin Builtin.delete,args:=#[m,x],argTypes:=#[t,kt]}) (K:Keyed Tryz.prog kt) (ht:Tryz.prog.underlying t=some (.map kt e)) (hm:a.eval m=.map (some b)) (h:Mp w kt b n f) {key:Value} {l:Lit} (hx:a.eval x=key) (hk:keyOf Tryz.prog kt key=some l)
  (hK:∀ w',Mp w' kt b (if(f l).isSome then n-1 else n) (updL f l none)->w.mapTurned w' b->wpList Tryz.prog ops Q rest (a.put o.dst (.tuple #[])) w'):wpList Tryz.prog ops Q (o ::rest) a w:=by
 refine wpList_plain hg fun K' hK'=>?_
 obtain⟨w',hrun,r1,r2⟩:=h.drop K ht hk o.type
 unfold Oper.wp
 simp[execOp,hop,resolve,invoke,builtin,hm,hx,hrun,Result.andThen]
 exact hK' _ _ (hK w' r1 r2)
end
end Go.Proofs.YtdchjncnjgelhaaGreat.Gm
namespace Go.Proofs
open Go.Shelf
def Tryz.keysI_ren:Go.Shelf.Ren:=⟨fun |7=>49 |10=>82 |n=>n,fun |23=>94 |26=>3 |3=>3 |28=>121 |0=>0 |27=>120 |33=>160 |4=>4 |n=>n,fun |n=>n⟩
theorem Tryz.keysI:Go.Proofs.SlLaysZI.n7 Tryz.prog Tryz.keysI_ren:={
 mixed:=by kernel_rfl
 f7:=⟨Tryz.f49.name,by decide,Tryz.func49.trans (congrArg some (by kernel_rfl))⟩
 f10:=⟨Tryz.f82.name,by decide,Tryz.func82.trans (congrArg some (by kernel_rfl))⟩
 t0:=Tryz.underlying0
 a0:=Tryz.isAgg0
 z0:=Tryz.sizeOf0
 v0:=Tryz.zeroValue0
 t4:=Tryz.underlying4
 a4:=Tryz.isAgg4
 z4:=Tryz.sizeOf4
 v4:=Tryz.zeroValue4
 t23:=Tryz.underlying94
 a23:=Tryz.isAgg94
 z23:=Tryz.sizeOf94
 v23:=Tryz.zeroValue94
 t26:=Tryz.underlying3
 a26:=Tryz.isAgg3
 z26:=Tryz.sizeOf3
 v26:=Tryz.zeroValue3
 t27:=Tryz.underlying120
 a27:=Tryz.isAgg120
 z27:=Tryz.sizeOf120
 v27:=Tryz.zeroValue120
 t28:=Tryz.underlying121
 a28:=Tryz.isAgg121
 z28:=Tryz.sizeOf121
 v28:=Tryz.zeroValue121
 t33:=Tryz.underlying160
 a33:=Tryz.isAgg160
 z33:=Tryz.sizeOf160
 v33:=Tryz.zeroValue160}
def Tryz.sortedI_ren:Go.Shelf.Ren:=⟨fun |6=>48 |8=>80 |9=>81 |11=>112 |13=>114 |12=>113 |23=>146 |24=>147 |14=>138 |15=>139 |16=>140 |17=>141 |18=>142 |19=>143 |20=>133 |21=>144 |22=>145 |25=>178 |26=>179 |27=>180 |28=>181 |29=>182 |30=>168 |31=>195 |n=>n,fun |26=>3 |28=>121 |24=>45 |0=>0 |3=>3 |37=>182 |48=>229 |50=>77 |4=>4 |40=>223 |39=>222 |45=>171 |5=>5 |9=>9 |51=>260 |55=>234 |57=>277 |58=>124 |33=>160 |n=>n,fun |n=>n⟩
theorem Tryz.sortedI:Go.Proofs.SlLaysZI.n6 Tryz.prog Tryz.sortedI_ren:={
 mixed:=by kernel_rfl
 f6:=⟨Tryz.f48.name,by decide,Tryz.func48.trans (congrArg some (by kernel_rfl))⟩
 f8:=⟨Tryz.f80.name,by decide,Tryz.func80.trans (congrArg some (by kernel_rfl))⟩
 f11:=⟨Tryz.f112.name,by decide,Tryz.func112.trans (congrArg some (by kernel_rfl))⟩
 t0:=Tryz.underlying0
 a0:=Tryz.isAgg0
 z0:=Tryz.sizeOf0
 v0:=Tryz.zeroValue0
 t24:=Tryz.underlying45
 a24:=Tryz.isAgg45
 z24:=Tryz.sizeOf45
 v24:=Tryz.zeroValue45
 t26:=Tryz.underlying3
 a26:=Tryz.isAgg3
 z26:=Tryz.sizeOf3
 v26:=Tryz.zeroValue3
 t28:=Tryz.underlying121
 a28:=Tryz.isAgg121
 z28:=Tryz.sizeOf121
 v28:=Tryz.zeroValue121
 i26:=by kernel_rfl}
def Tryz.sortI_ren:Go.Shelf.Ren:=⟨fun |5=>81 |8=>114 |7=>113 |19=>146 |20=>147 |10=>138 |11=>139 |12=>140 |13=>141 |14=>142 |15=>143 |16=>133 |17=>144 |18=>145 |30=>178 |31=>179 |32=>180 |33=>181 |34=>182 |35=>168 |40=>195 |n=>n,fun |23=>45 |25=>3 |3=>3 |32=>182 |22=>45 |0=>0 |44=>229 |46=>77 |4=>4 |36=>223 |35=>222 |41=>171 |5=>5 |9=>9 |53=>260 |57=>234 |63=>277 |64=>124 |n=>n,fun |n=>n⟩
theorem Tryz.sortI:Go.Proofs.SlLaysM.n5 Tryz.prog Tryz.sortI_ren:={
 mixed:=by kernel_rfl
 f5:=⟨Tryz.f81.name,by decide,Tryz.func81.trans (congrArg some (by kernel_rfl))⟩
 f7:=⟨Tryz.f113.name,by decide,Tryz.func113.trans (congrArg some (by kernel_rfl))⟩
 f8:=Tryz.func114.trans (congrArg some (by kernel_rfl))
 f10:=⟨Tryz.f138.name,by decide,Tryz.func138.trans (congrArg some (by kernel_rfl))⟩
 f11:=⟨Tryz.f139.name,by decide,Tryz.func139.trans (congrArg some (by kernel_rfl))⟩
 f12:=⟨Tryz.f140.name,by decide,Tryz.func140.trans (congrArg some (by kernel_rfl))⟩
 f13:=⟨Tryz.f141.name,by decide,Tryz.func141.trans (congrArg some (by kernel_rfl))⟩
 f14:=⟨Tryz.f142.name,by decide,Tryz.func142.trans (congrArg some (by kernel_rfl))⟩
 f15:=⟨Tryz.f143.name,by decide,Tryz.func143.trans (congrArg some (by kernel_rfl))⟩
 f16:=⟨Tryz.f133.name,by decide,Tryz.func133.trans (congrArg some (by kernel_rfl))⟩
 f17:=⟨Tryz.f144.name,by decide,Tryz.func144.trans (congrArg some (by kernel_rfl))⟩
 f18:=⟨Tryz.f145.name,by decide,Tryz.func145.trans (congrArg some (by kernel_rfl))⟩
 f19:=Tryz.func146.trans (congrArg some (by kernel_rfl))
 f20:=Tryz.func147.trans (congrArg some (by kernel_rfl))
 f30:=⟨Tryz.f178.name,by decide,Tryz.func178.trans (congrArg some (by kernel_rfl))⟩
 f31:=Tryz.func179.trans (congrArg some (by kernel_rfl))
 f32:=Tryz.func180.trans (congrArg some (by kernel_rfl))
 f33:=⟨Tryz.f181.name,by decide,Tryz.func181.trans (congrArg some (by kernel_rfl))⟩
 f34:=⟨Tryz.f182.name,by decide,Tryz.func182.trans (congrArg some (by kernel_rfl))⟩
 f35:=⟨Tryz.f168.name,by decide,Tryz.func168.trans (congrArg some (by kernel_rfl))⟩
 f40:=⟨Tryz.f195.name,by decide,Tryz.func195.trans (congrArg some (by kernel_rfl))⟩
 t0:=Tryz.underlying0
 a0:=Tryz.isAgg0
 z0:=Tryz.sizeOf0
 v0:=Tryz.zeroValue0
 t3:=Tryz.underlying3
 a3:=Tryz.isAgg3
 z3:=Tryz.sizeOf3
 v3:=Tryz.zeroValue3
 t4:=Tryz.underlying4
 a4:=Tryz.isAgg4
 z4:=Tryz.sizeOf4
 v4:=Tryz.zeroValue4
 t5:=Tryz.underlying5
 a5:=Tryz.isAgg5
 z5:=Tryz.sizeOf5
 v5:=Tryz.zeroValue5
 t9:=Tryz.underlying9
 a9:=Tryz.isAgg9
 z9:=Tryz.sizeOf9
 v9:=Tryz.zeroValue9
 t22:=Tryz.underlying45
 a22:=Tryz.isAgg45
 z22:=Tryz.sizeOf45
 v22:=Tryz.zeroValue45
 t23:=Tryz.underlying45
 a23:=Tryz.isAgg45
 z23:=Tryz.sizeOf45
 v23:=Tryz.zeroValue45
 t25:=Tryz.underlying3
 a25:=Tryz.isAgg3
 z25:=Tryz.sizeOf3
 v25:=Tryz.zeroValue3
 t32:=Tryz.underlying182
 a32:=Tryz.isAgg182
 z32:=Tryz.sizeOf182
 v32:=Tryz.zeroValue182
 t35:=Tryz.underlying222
 a35:=Tryz.isAgg222
 z35:=Tryz.sizeOf222
 v35:=Tryz.zeroValue222
 t36:=Tryz.underlying223
 a36:=Tryz.isAgg223
 z36:=Tryz.sizeOf223
 v36:=Tryz.zeroValue223
 t41:=Tryz.underlying171
 a41:=Tryz.isAgg171
 z41:=Tryz.sizeOf171
 v41:=Tryz.zeroValue171
 t44:=Tryz.underlying229
 a44:=Tryz.isAgg229
 z44:=Tryz.sizeOf229
 v44:=Tryz.zeroValue229
 t46:=Tryz.underlying77
 a46:=Tryz.isAgg77
 z46:=Tryz.sizeOf77
 v46:=Tryz.zeroValue77
 t53:=Tryz.underlying260
 a53:=Tryz.isAgg260
 z53:=Tryz.sizeOf260
 v53:=Tryz.zeroValue260
 t57:=Tryz.underlying234
 a57:=Tryz.isAgg234
 z57:=Tryz.sizeOf234
 v57:=Tryz.zeroValue234
 t63:=Tryz.underlying277
 a63:=Tryz.isAgg277
 z63:=Tryz.sizeOf277
 v63:=Tryz.zeroValue277
 t64:=Tryz.underlying124
 a64:=Tryz.isAgg124
 z64:=Tryz.sizeOf124
 v64:=Tryz.zeroValue124}
end Go.Proofs
namespace Go.Proofs.YtdchjncnjgelhaaGreat.Lg
open Go.RowKit Gm Go.Maps Go.Sort Go.Shelf
theorem KI2:Keyed Tryz.prog 3:=int_keyed Tryz.underlying3
theorem uL2:Tryz.prog.underlying 94=some (.map 3 3):=Tryz.underlying94
theorem zLv2 (w:World):(zeroValue 3).run Tryz.prog w=.ok (.int .i64 0) w:=by kernel_rfl
def wfI (t:Int):Prop:=(Lit.int .i64 t).wf=true
theorem keyI2 {t:Int} (h:wfI t):keyOf Tryz.prog 3 (.int .i64 t)=some (.int .i64 t):=keyOf_int_mk Tryz.underlying3 h
theorem wfI_of {t:Int} (h0:0<=t) (h1:t<281474976710656):wfI t:=by
 have h2:IntKind.i64.min=-9223372036854775808:=by decide
 have h3:IntKind.i64.max=9223372036854775807:=by decide
 show(decide (IntKind.i64.min<=t)&&decide (t<=IntKind.i64.max))=true
 rw[h2,h3,Bool.and_eq_true,decide_eq_true_eq,decide_eq_true_eq]
 omega
theorem sortsI2 (m:Nat):AnyZI.SortsIn Tryz.prog Tryz.sortedI_ren Fence.wide m :=
  ⟨fun blk off cap ss W hH hblk hsz=>callsIn_wide.2 (AnyM.slices_Sort_int Tryz.sortI blk off cap ss W hH hblk hsz),
   fun p cap W=>callsIn_wide.2 (AnyM.slices_Sort_int_none Tryz.sortI p cap W)⟩
def iC2 (l:List Int):List (List Value):=l.map fun x=>[.int .i64 x]
def srt (l:List Int):List Int:=l.mergeSort fun x y=>decide (x<=y)
theorem mem_srt {l:List Int} {x:Int}:x∈srt l↔x∈l:=by unfold srt;exact List.mem_mergeSort
theorem srt_len (l:List Int):(srt l).length=l.length:=by unfold srt;exact List.length_mergeSort l
theorem flat2 {α:Type} (f:α->Value) (l:List α):(l.map fun x=>[f x]).flatten=l.map f:=by
 induction l with
 | nil=>rfl
 | cons a l ih=>simp[ih]
structure RwI (w w':World) (e:Ending) (l:List Int):Prop where
 ex:∃ v,e=.returned v/\Gm.Row w' 3 1 v (iC2 l)/\∀ g,v.ownBlock=some g->w.heap.size<=g
 bel:Below w.heap.size w w'
section
variable {w w':World}{b n:Nat}{f:Lit->Option Value}
theorem row_of2 {B:Nat} {t:TypeId} {v:Value} {α:Type} {F:α->Value} {l:List α} {m:Nat} (h:w.ownsRow B t 1 v m (l.map F)) (hm:m=l.length):Gm.Row w t 1 v (l.map fun x=>[F x])/\∀ g,v.ownBlock=some g->B<=g:=by
 subst hm
 refine⟨⟨fun c hc=>?_,?_⟩,fun g e=>?_⟩
 ·obtain⟨x,_,rfl⟩:=List.mem_map.1 hc;rfl
 ·rw[flat2,List.length_map]
  exact ownsRow_base_a h (Nat.zero_le _)
 ·rcases h.2 with⟨e2,_⟩ |⟨g',cap,cur,e2,hB,_⟩
  ·rw[e2] at e;cases e
  ·rw[e2] at e;cases e;exact hB
theorem keysI_perm2 (h:Mp w 3 b n f) {ts:List Int} (hnd:ts.Nodup) (hf:∀ l,(f l).isSome=true↔∃ t∈ts,l=.int .i64 t):∃ D,w.ownsMap Tryz.prog 3 hdR b n D/\Maps.size D=n/\ts.Perm (intKeys D):=by
 obtain⟨D,ho,hn,hv⟩:=h.ex
 refine⟨D,ho,hn,?_⟩
 obtain⟨es,rfl,hp,hk⟩:=ho.entries KI2
 refine perm_intKeys hp (fun p hp2=>?_) hnd (fun x=>?_)
 ·have:Maps.has (.map es) p.1=true:=List.any_eq_true.2 ⟨p,hp2,WideAt.sameKey_self (hk p hp2)⟩
  rw[hv.has,hf] at this
  obtain⟨t,_,e⟩:=this
  exact⟨t,e⟩
 ·rw[hv.has,hf]
  exact⟨fun h=>⟨x,h,rfl⟩,fun⟨t,h,e⟩=>by cases e;exact h⟩
theorem keys_c (mb:Option Nat) (W:World):Calls Tryz.prog 49 #[.map mb] W fun e w'=>e=.returned (.func (.func 82) #[] #[.pointer (some ⟨W.heap.size,0,none⟩)])/\w'=W.alloc (.cells #[.map mb] 94) :=
 (callsIn_wide (n:=5)).1 (AnyZI.keys_in Tryz.keysI Fence.wide 5 trivial rfl mb W)
theorem sorted_c (h:Mp w 3 b n f) {ts:List Int} (hnd:ts.Nodup) (hf:∀ l,(f l).isSome=true↔∃ t∈ts,l=.int .i64 t) (hl:n<=100000) :
  Calls Tryz.prog 48 #[.func (.func 82) #[] #[.pointer (some ⟨w.heap.size,0,none⟩)]] (w.alloc (.cells #[.map (some b)] 94)) fun e w'=>RwI w w' e (srt ts):=by
 obtain⟨D0,hown,hsz,hperm⟩:=keysI_perm2 h hnd hf
 have hbl:=hown.lt
 have hseq:SeqGives Fence.wide 2 Tryz.prog 82 #[.pointer (some ⟨w.heap.size,0,none⟩)] encZ (fun ss=>ss.Perm (intKeys D0)) (Maps.size D0) (w.alloc (.cells #[.map (some b)] 94)) :=
  AnyZI.keys_gives (ρ:=Tryz.keysI_ren) {Tryz.keysI with} Fence.wide _ trivial rfl (by omega) w.heap.size b n D0 _ (by simp) (by simp) (by
   obtain⟨es,clock,hb,Ft,hs,hD⟩:=hown
   exact⟨es,clock,(Below.heap_alloc _ _ b hbl).trans hb,Ft,hs,hD⟩)
 have cS:=AnyZI.sorted_in Tryz.sortedI Fence.wide 5 trivial trivial trivial trivial rfl (by omega) (sortsI2 _) (enters_of Tryz.func81 (by kernel_rfl) rfl) 82 #[.pointer (some ⟨w.heap.size,0,none⟩)] trivial (enters_of Tryz.func82 (by kernel_rfl) rfl) _ _ (by rw[hsz];unfold maxLen;omega) (by rw[hsz];omega) _ hseq
 change CallsIn _ _ Tryz.prog 48 _ _ _ at cS
 refine(callsIn_wide.1 cS).mono ?_
 rintro e w' ⟨v,ss,rfl,hS,hrow,hnil,hb⟩
 have e:ss.mergeSort (fun x y=>decide (x<=y))=srt ts:=mergeSort_of_perm_i (hS.trans hperm.symm)
 rw[e] at hrow
 obtain⟨r1,r2⟩:=row_of2 hrow (by rw[(hS.trans hperm.symm).length_eq];unfold srt;rw[List.length_mergeSort])
 exact⟨⟨v,rfl,r1,fun g e=>Nat.le_trans (by simp) (r2 g e)⟩,((Below.refl _ w).alloc (Nat.le_refl _) _).trans (hb.mono (by simp))⟩
end
def gF (G:List Rq.SpL):Lit->Option Value
 | .int .i64 t=>(G.find? fun s=>s.1==t).map fun s=>.int .i64 s.2
 | _=>none
def gD (G:List Rq.SpL) (t:Int):List Rq.SpL:=G.filter fun s=>s.1 !=t
def gW (G:List Rq.SpL) (t x:Int):List Rq.SpL:=gD G t++[(t,x)]
def gL (G:List Rq.SpL) (t:Int):Int:=((G.find? fun s=>s.1==t).map fun s=>s.2).getD 0
theorem gF_int (G:List Rq.SpL) (t:Int):gF G (.int .i64 t)=(G.find? fun s=>s.1==t).map fun s=>.int .i64 s.2:=rfl
theorem find_filter (G:List Rq.SpL) (t u:Int):(gD G t).find? (fun s=>s.1==u)=if u=t then none else G.find? (fun s=>s.1==u):=by
 unfold gD
 induction G with
 | nil=>simp
 | cons a G ih =>
  by_cases ha:a.1=t
  ·rw[List.filter_cons,if_neg (by simp[ha]),ih]
   by_cases hu:u=t
   ·rw[if_pos hu,if_pos hu]
   ·rw[if_neg hu,if_neg hu,List.find?_cons_of_neg]
    simp only[beq_iff_eq]
    exact fun e=>hu (e.symm.trans ha)
  ·rw[List.filter_cons,if_pos (by simp[ha])]
   by_cases hau:a.1=u
   ·rw[List.find?_cons_of_pos (by simp[hau]),if_neg (fun e=>ha (hau.trans e)),List.find?_cons_of_pos (by simp[hau])]
   ·rw[List.find?_cons_of_neg (by simp[hau]),ih,List.find?_cons_of_neg (by simp[hau])]
theorem isKeyI (t:Int):WideAt.IsKeyLit (.int .i64 t):=by first |exact trivial |exact rfl |simp[WideAt.IsKeyLit]
theorem gF_drop (G:List Rq.SpL) (t:Int) (l:Lit):gF (gD G t) l=updL (gF G) (.int .i64 t) none l:=by
 by_cases hl:l=.int .i64 t
 ·subst hl
  rw[updL_same _ (isKeyI t),gF_int,find_filter,if_pos rfl]
  rfl
 ·rw[updL_other _ _ hl]
  cases l <;> try rfl
  rename_i q u
  cases q <;> try rfl
  rw[gF_int,gF_int,find_filter,if_neg (fun e=>hl (by rw[e]))]
theorem gF_put (G:List Rq.SpL) (t x:Int) (l:Lit):gF (gW G t x) l=updL (gF G) (.int .i64 t) (some (.int .i64 x)) l:=by
 by_cases hl:l=.int .i64 t
 ·subst hl
  rw[updL_same _ (isKeyI t),gF_int]
  unfold gW
  rw[List.find?_append,find_filter,if_pos rfl]
  simp
 ·rw[updL_other _ _ hl]
  cases l <;> try rfl
  rename_i q u
  cases q <;> try rfl
  have hu:u≠t:=fun e=>hl (by rw[e])
  rw[gF_int,gF_int]
  unfold gW
  rw[List.find?_append,find_filter,if_neg hu,List.find?_cons_of_neg (by simp;exact fun e=>hu e.symm)]
  simp
theorem gF_some {G:List Rq.SpL} (l:Lit):(gF G l).isSome=true↔∃ t∈G.map (·.1),l=.int .i64 t:=by
 constructor
 ·intro h
  cases l <;> try (cases h;done)
  rename_i q a
  cases q <;> try (cases h;done)
  rw[gF_int,Option.isSome_map,List.find?_isSome] at h
  obtain⟨d,hd,e⟩:=h
  exact⟨a,List.mem_map.2 ⟨d,hd,by simpa using e⟩,rfl⟩
 ·rintro⟨t,ht,rfl⟩
  obtain⟨d,hd,rfl⟩:=List.mem_map.1 ht
  rw[gF_int,Option.isSome_map,List.find?_isSome]
  exact⟨d,hd,by simp⟩
theorem gD_nd {G:List Rq.SpL} (h:(G.map (·.1)).Nodup) (t:Int):((gD G t).map (·.1)).Nodup:=by
 unfold gD
 exact h.sublist ((List.filter_sublist).map _)
theorem gW_nd {G:List Rq.SpL} (h:(G.map (·.1)).Nodup) (t x:Int):((gW G t x).map (·.1)).Nodup:=by
 unfold gW
 rw[List.map_append,List.nodup_append]
 refine⟨gD_nd h t,by simp,fun a ha b hb=>?_⟩
 obtain⟨s,hs,rfl⟩:=List.mem_map.1 ha
 have hb:b=t:=by simpa using hb
 subst hb
 have:=(List.mem_filter.1 hs).2
 simpa using this
theorem gD_len (G:List Rq.SpL) (t:Int):(gD G t).length<=G.length:=List.length_filter_le _ _
theorem gW_len (G:List Rq.SpL) (t x:Int):(gW G t x).length<=G.length+1:=by
 have:=gD_len G t
 unfold gW
 rw[List.length_append]
 simpa using this
structure Mg (w:World) (b:Nat) (G:List Rq.SpL):Prop where
 ex:∃ n,Mp w 3 b n (gF G)
 nd:(G.map (·.1)).Nodup
 wf:∀ s∈G,wfI s.1
section
variable {w:World}{b n:Nat}{G:List Rq.SpL}
theorem Mg.mp (h:Mg w b G):Mp w 3 b G.length (gF G):=by
 obtain⟨n,hn⟩:=h.ex
 obtain⟨D,h1,h2,h3⟩:=keysI_perm2 hn h.nd gF_some
 have h4:=h3.length_eq
 rw[List.length_map] at h4
 obtain⟨D',k1,k2,k3⟩:=hn.ex
 have h5:(intKeys D).length=n:=by
  obtain⟨es,rfl,hp,hk⟩:=h1.entries KI2
  rw[← h2]
  first |exact intKeys_length _ |simp[intKeys,Maps.size]
 rw[h4,h5]
 exact hn
end
end Go.Proofs.YtdchjncnjgelhaaGreat.Lg
