import Derived.Test.YtpcnjncgilmehabGreatMas
import Derived.WalkKit
import Derived.Lib.Strings
import Derived.Test.YtpcnjncgilmehabGreatProg
import Derived.ProofKit
import Derived.WalkSpells
import Derived.WalkLawsBesides
import Derived.Deep.QuietTactic
import Derived.BigQuiet
import Derived.Deep.MidRow
import Derived.Lib.SmallJoins
import Derived.Laws.AppendOwn
import Derived.Lib.BufferWrite
import Derived.Lib.SlBytesRow
import Derived.Laws.Cover1
import Derived.Deep.WholeRow
import Derived.Laws.IdiomCopy
import Derived.Laws.ResultCell
import Derived.Laws.Rows
import Derived.Lib.SlBuf
import Derived.Deep.OwnRows
set_option linter.unusedVariables false
set_option linter.unusedSimpArgs false
set_option maxRecDepth 100000
namespace Go.Proofs.YtpcnjncgilmehabGreat
open Go.RowKit Go.Maps Go.ChangeMaps
structure GvO [Inhabited PrSet] (B:Nat) (w w':World) (X:Ad) (k:Nat) (S:Dk) (C:Cf) (st:Nat->Option Nat) (pn:Nat->Nat) (id:Nat) (t:ByteArray) (l y:Int):Prop where
 ok:y=0->t=txO C id (st id)/\l=lnO (st id)/\∃ S' sure' G' pg',Pv B w' X k S' C sure' G' st pn pg'/\(S.set=false->S'.set=false)/\Kp isQ B w w'
 bad:y≠0->t=⟨#[]⟩/\l=0/\y=9/\Ls B w w' X k S C
section
variable [Inhabited PrSet]{B k sure:Nat}{w w':World}{S:Dk}{X:Ad}{G:Gp}{C:Cf}{st pg:Nat->Option Nat}{pn:Nat->Nat}
theorem Pv.free (h:Pv B w X k S C sure G st pn pg) (hp:∀ d,pn d=0) {i:Nat} (hi:i<X.n):(G.F i).pn=0:=by
 cases hu:(G.F i).us with
 | false=>exact(h.v.un i hi hu).2
 | true =>
  obtain⟨id,h1,h2⟩:=h.v.us i hi hu
  rw[h2.pn,hp];rfl
theorem Er.nine {id:Nat} {y:Int} (he:Er B w w' X k S C G (id:Int) y) (hid:id<C.ps) (hf:∀ i,i<X.n->(G.F i).pn=0) (hn:2<=X.n):y=9/\Ls B w w' X k S C:=by
 rcases he.or with⟨_,h2,_⟩ |⟨_,_,_,h4,_⟩ |⟨h1,_,h3⟩
 ·omega
 ·exact absurd (hf 0 (by omega)) (h4 0 (by omega))
 ·exact⟨h1,h3⟩
theorem Get_v (h:Pv B w X k S C sure G st pn pg) (hk:k<=290000000000) (hp:∀ d,pn d=0) (id:Nat) (hid:id<C.ps):Calls Tryz.prog 100 #[.pointer (some ⟨X.pb,0,none⟩),.int .i64 (id:Int)] w fun e w'=>∃ t l y,e=.returned (.tuple #[.string t,.int .i64 l,.int .i64 y])/\GvO B w w' X (k+8006) S C st pn id t l y:=by
 refine(Get_any h hk (id:Int)).mono ?_
 rintro e w' ⟨t,l,y,he,hG⟩
 refine⟨t,l,y,he,fun hy=>?_,fun hy=>?_⟩
 ·obtain⟨d,j,S1,s1,G1,pg1,e1,e2,e3,e4,T⟩:=hG.ok hy
  obtain rfl:d=id:=by omega
  exact⟨e3,e4,S1,s1,G1,pg1,T.v,T.cm,T.kp⟩
 ·obtain⟨e1,e2,e3⟩:=hG.bad hy
  exact⟨e1,e2,e3.nine hid (fun i hi=>h.free hp hi) h.q.po.n1⟩
end
end Go.Proofs.YtpcnjncgilmehabGreat
namespace Go.Proofs.YtpcnjncgilmehabGreat.Pg
def ltL (x y:List UInt8):Bool:=Op.bytesLess x y
theorem ltL_irrefl:∀ x:List UInt8,ltL x x=false
 | []=>by simp[ltL,Op.bytesLess]
 | a :: x=>by
  have:=ltL_irrefl x
  simp only[ltL] at this
  simp[ltL,Op.bytesLess,this]
theorem ltL_trans:∀ x y z:List UInt8,ltL x y=true->ltL y z=true->ltL x z=true
 | [],[],_,h,_=>by simp[ltL,Op.bytesLess] at h
 | [],_ :: _,[],_,h=>by simp[ltL,Op.bytesLess] at h
 | [],_ :: _,_ :: _,_,_=>by simp[ltL,Op.bytesLess]
 | _ :: _,[],_,h,_=>by simp[ltL,Op.bytesLess] at h
 | _ :: _,_ :: _,[],_,h=>by simp[ltL,Op.bytesLess] at h
 | a :: x,b :: y,c :: z,h,k=>by
  have ih:=ltL_trans x y z
  simp only[ltL,Op.bytesLess,Bool.or_eq_true,Bool.and_eq_true,decide_eq_true_eq,beq_iff_eq] at h k ih ⊢
  rcases h with h |⟨h,h'⟩
  ·rcases k with k |⟨k,_⟩
   ·exact Or.inl (UInt8.lt_trans h k)
   ·exact Or.inl (k ▸ h)
  ·rcases k with k |⟨k,k'⟩
   ·exact Or.inl (h ▸ k)
   ·exact Or.inr ⟨h.trans k,ih h' k'⟩
theorem ltL_total:∀ x y:List UInt8,ltL x y=false->x≠y->ltL y x=true
 | [],[],_,h=>absurd rfl h
 | [],_ :: _,h,_=>by simp[ltL,Op.bytesLess] at h
 | _ :: _,[],_,_=>by simp[ltL,Op.bytesLess]
 | a :: x,b :: y,h,k=>by
  have ih:=ltL_total x y
  simp only[ltL,Op.bytesLess,Bool.or_eq_false_iff,Bool.or_eq_true,Bool.and_eq_true,decide_eq_true_eq,decide_eq_false_iff_not,beq_iff_eq,Bool.and_eq_false_iff] at h k ih ⊢
  obtain⟨h1,h2⟩:=h
  by_cases e:a=b
  ·subst e
   refine Or.inr ⟨rfl,ih ?_ (fun e=>k (by rw[e]))⟩
   rcases h2 with h2 |h2
   ·simp at h2
   ·exact h2
  ·refine Or.inl ?_
   rcases UInt8.lt_or_lt_of_ne e with h |h
   ·exact absurd h h1
   ·exact h
def lt (a b:ByteArray):Bool:=Op.bytesLess a.toList b.toList
theorem toList_inj {a b:ByteArray} (h:a.toList=b.toList):a=b:=by
 rw[Lib.toList_data,Lib.toList_data] at h
 exact ByteArray.ext (Array.toList_inj.1 h)
theorem lt_irrefl (a:ByteArray):lt a a=false:=ltL_irrefl _
theorem lt_trans {a b c:ByteArray} (h:lt a b=true) (k:lt b c=true):lt a c=true:=ltL_trans _ _ _ h k
theorem lt_total {a b:ByteArray} (h:lt a b=false) (k:a≠b):lt b a=true:=ltL_total _ _ h (fun e=>k (toList_inj e))
theorem lt_asymm {a b:ByteArray} (h:lt a b=true):lt b a=false:=by
 cases k:lt b a
 ·rfl
 ·have:=lt_trans h k
  rw[lt_irrefl] at this
  cases this
theorem lt_ne {a b:ByteArray} (h:lt a b=true):a≠b:=fun e=>by rw[e,lt_irrefl] at h;cases h
theorem leq_not (a b:ByteArray):(Op.bytesLess b.toList a.toList||b.toList==a.toList)=!lt a b:=by
 cases h:lt a b
 ·by_cases e:a=b
  ·subst e;simp
  ·have:=lt_total h e
   simp only[lt] at this
   simp[this]
 ·have h1:=lt_asymm h
  have h2:(b.toList==a.toList)=false:=by
   simp only[beq_eq_false_iff_ne]
   exact fun e=>lt_ne h (toList_inj e).symm
  simp only[lt] at h1
  simp[h1,h2]
def g (s:List UInt8) (j:Nat):Nat:=(s[j]?.getD 0).toNat
theorem g_lt (s:List UInt8) (j:Nat):g s j<256:=UInt8.toNat_lt _
theorem g_of {s s':List UInt8} {i j:Nat} (h:s'[i]?=s[j]?):g s' i=g s j:=by rw[g,h];rfl
def seg (s:List UInt8) (a n:Nat):List UInt8:=(s.drop a).take n
theorem seg_get (s:List UInt8) (a n j:Nat):(seg s a n)[j]?=if j<n then s[a+j]? else none:=by
 rw[seg,List.getElem?_take]
 split
 ·rw[List.getElem?_drop]
 ·rfl
theorem seg_length {s:List UInt8} {a n:Nat} (h:a+n<=s.length):(seg s a n).length=n:=by rw[seg,List.length_take,List.length_drop];omega
theorem seg_congr {s s':List UInt8} {a n:Nat} (h:∀ j,a<=j->j<a+n->s'[j]?=s[j]?):seg s' a n=seg s a n:=by
 apply List.ext_getElem?
 intro j
 rw[seg_get,seg_get]
 split
 ·exact h _ (by omega) (by omega)
 ·rfl
def ov (s:List UInt8) (a:Nat) (x:List UInt8):List UInt8:=s.take a++x++s.drop (a+x.length)
theorem ov_length {s x:List UInt8} {a:Nat} (h:a+x.length<=s.length):(ov s a x).length=s.length:=by
 simp only[ov,List.length_append,List.length_take,List.length_drop];omega
theorem ov_get {s x:List UInt8} {a:Nat} (h:a+x.length<=s.length) (j:Nat):(ov s a x)[j]?=if a<=j/\j<a+x.length then x[j-a]? else s[j]?:=by
 simp only[ov,List.append_assoc]
 by_cases h1:j<a
 ·rw[if_neg (by omega),List.getElem?_append_left (by rw[List.length_take];omega),List.getElem?_take,if_pos h1]
 ·rw[List.getElem?_append_right (by rw[List.length_take];omega),List.length_take,Nat.min_eq_left (by omega)]
  by_cases h2:j<a+x.length
  ·rw[if_pos (by omega),List.getElem?_append_left (by omega)]
  ·rw[if_neg (by omega),List.getElem?_append_right (by omega),List.getElem?_drop]
   congr 1;omega
theorem set_get (s:List UInt8) (a:Nat) (x:UInt8) (h:a<s.length) (j:Nat):(s.set a x)[j]?=if j=a then some x else s[j]?:=by
 rw[List.getElem?_set]
 by_cases e:a=j
 ·subst e;simp[h]
 ·rw[if_neg e,if_neg (fun x=>e x.symm)]
structure Cl where
 k:ByteArray
 v:ByteArray
theorem Cl.eq {a b:Cl} (h1:a.k=b.k) (h2:a.v=b.v):a=b:=by cases a;cases b;simp_all
def need (c:Cl):Nat:=3+c.k.size+c.v.size
def needs:List Cl->Nat
 | []=>0
 | c :: r=>need c+needs r
theorem needs_append:∀ a b:List Cl,needs (a++b)=needs a+needs b
 | [],b=>by simp[needs]
 | c :: a,b=>by simp only[List.cons_append,needs,needs_append a b];omega
theorem needs_take_succ {L:List Cl} {i:Nat} (h:i<L.length):needs (L.take (i+1))=needs (L.take i)+need L[i]:=by
 rw[List.take_succ_eq_append_getElem h,needs_append];simp[needs]
theorem needs_take_le (L:List Cl) (i:Nat):needs (L.take i)<=needs L:=by
 have:=needs_append (L.take i) (L.drop i)
 rw[List.take_append_drop] at this
 omega
theorem needs_split (L:List Cl) (i:Nat):needs L=needs (L.take i)+needs (L.drop i):=by
 rw[← needs_append,List.take_append_drop]
def ins (L:List Cl) (i:Nat) (c:Cl):List Cl:=L.take i++c ::L.drop i
theorem needs_ins (L:List Cl) (i:Nat) (c:Cl):needs (ins L i c)=needs L+need c:=by
 rw[needs_split L i,ins,needs_append,needs];omega
theorem three_le (L:List Cl):3*L.length<=needs L:=by
 induction L with
 | nil=>simp[needs]
 | cons c r ih=>simp only[needs,need,List.length_cons];omega
def cellAt (s:List UInt8) (x:Nat):Cl:=⟨⟨(seg s (x+2) (g s x)).toArray⟩,⟨(seg s (x+2+g s x) (g s (x+1))).toArray⟩⟩
def slot (s:List UInt8) (i:Nat):Nat:=g s (223-i)
def cell (s:List UInt8) (i:Nat):Cl:=cellAt s (slot s i)
def key (s:List UInt8) (i:Nat):ByteArray:=(cell s i).k
def val (s:List UInt8) (i:Nat):ByteArray:=(cell s i).v
def cnt (s:List UInt8):Nat:=g s 2
def en (s:List UInt8):Nat:=g s 3
def cells (s:List UInt8):List Cl:=(List.range (cnt s)).map (cell s)
theorem cells_length (s:List UInt8):(cells s).length=cnt s:=by simp[cells]
theorem cells_get {s:List UInt8} {i:Nat} (h:i<cnt s):(cells s)[i]?=some (cell s i):=by simp[cells,h]
theorem cells_get' {s:List UInt8} {i:Nat} (h:i<(cells s).length):(cells s)[i]=cell s i:=by simp[cells]
theorem cellAt_congr {s s':List UInt8} {x:Nat} (h:∀ j,x<=j->j<x+2+g s x+g s (x+1)->s'[j]?=s[j]?):cellAt s' x=cellAt s x/\g s' x=g s x/\g s' (x+1)=g s (x+1):=by
 have e0:g s' x=g s x:=g_of (h _ (by omega) (by omega))
 have e1:g s' (x+1)=g s (x+1):=g_of (h _ (by omega) (by omega))
 refine⟨?_,e0,e1⟩
 rw[cellAt,cellAt,e0,e1,seg_congr (fun j h1 h2=>h j (by omega) (by omega)),seg_congr (fun j h1 h2=>h j (by omega) (by omega))]
structure At (s:List UInt8) (x:Nat):Prop where
 lo:4<=x
 two:x+2<=en s
 k:g s x<=16
 v:g s (x+1)<=32
 hi:x+2+g s x+g s (x+1)<=en s
def atB (s:List UInt8) (x:Nat):Bool:=decide (4<=x/\x+2<=en s/\g s x<=16/\g s (x+1)<=32/\x+2+g s x+g s (x+1)<=en s)
theorem atB_iff (s:List UInt8) (x:Nat):atB s x=true↔At s x:=by
 simp only[atB,decide_eq_true_eq]
 exact⟨fun⟨a,b,c,d,e⟩=>⟨a,b,c,d,e⟩,fun⟨a,b,c,d,e⟩=>⟨a,b,c,d,e⟩⟩
structure Head (s:List UInt8):Prop where
 len:s.length=224
 kind:g s 0<=2
 level:g s 0=2∨g s 1=0
 free:g s 0=0->cnt s=0
 en4:4<=en s
 enn:en s+cnt s<=224
def headB (s:List UInt8):Bool:=decide (s.length=224/\g s 0<=2/\(g s 0=2∨g s 1=0)/\(g s 0=0->cnt s=0)/\4<=en s/\en s+cnt s<=224)
theorem headB_iff (s:List UInt8):headB s=true↔Head s:=by
 simp only[headB,decide_eq_true_eq]
 exact⟨fun⟨a,b,c,d,e,f⟩=>⟨a,b,c,d,e,f⟩,fun⟨a,b,c,d,e,f⟩=>⟨a,b,c,d,e,f⟩⟩
structure Ok (s:List UInt8) (i:Nat):Prop where
 at_:At s (slot s i)
 rise:0<i->lt (key s (i-1)) (key s i)=true
structure Right (s:List UInt8):Prop where
 head:Head s
 ok:∀ i,i<cnt s->Ok s i
 fit:needs (cells s)<=220
def okB (s:List UInt8) (i:Nat):Bool:=atB s (slot s i)&&(i==0||lt (key s (i-1)) (key s i))
theorem okB_iff (s:List UInt8) (i:Nat):okB s i=true↔Ok s i:=by
 simp only[okB,Bool.and_eq_true,Bool.or_eq_true,atB_iff,beq_iff_eq]
 exact⟨fun⟨a,b⟩=>⟨a,fun h=>by rcases b with b |b;omega;exact b⟩,fun⟨a,b⟩=>⟨a,by rcases Nat.eq_zero_or_pos i with h |h;exact Or.inl h;exact Or.inr (b h)⟩⟩
def allB (s:List UInt8):Bool:=(List.range (cnt s)).all (okB s)&&decide (needs (cells s)<=220)
def rightB (s:List UInt8):Bool:=headB s&&allB s
theorem allB_iff (s:List UInt8):allB s=true↔(∀ i,i<cnt s->Ok s i)/\needs (cells s)<=220:=by
 simp only[allB,Bool.and_eq_true,List.all_eq_true,List.mem_range,okB_iff,decide_eq_true_eq]
theorem rightB_iff (s:List UInt8):rightB s=true↔Right s:=by
 simp only[rightB,Bool.and_eq_true,headB_iff,allB_iff]
 exact⟨fun⟨a,b,c⟩=>⟨a,b,c⟩,fun⟨a,b,c⟩=>⟨a,b,c⟩⟩
theorem allB_no {s:List UInt8} {i:Nat} (hi:i<cnt s) (h:okB s i=false):allB s=false:=by
 cases e:allB s
 ·rfl
 ·rw[(okB_iff s i).2 (((allB_iff s).1 e).1 i hi)] at h;cases h
theorem At.ksize {s:List UInt8} {x:Nat} (h:At s x) (hs:en s<=s.length):(cellAt s x).k.size=g s x:=by
 show((seg s (x+2) (g s x)).toArray).size=_
 rw[List.size_toArray,seg_length (by have:=h.hi;omega)]
theorem At.vsize {s:List UInt8} {x:Nat} (h:At s x) (hs:en s<=s.length):(cellAt s x).v.size=g s (x+1):=by
 show((seg s (x+2+g s x) (g s (x+1))).toArray).size=_
 rw[List.size_toArray,seg_length (by have:=h.hi;omega)]
theorem Head.el {s:List UInt8} (h:Head s):en s<=s.length:=by have:=h.enn;rw[h.len];omega
theorem Head.slotlt {s:List UInt8} (h:Head s):cnt s<=220:=by have:=h.enn;have:=h.en4;omega
theorem rising {s:List UInt8} (h:Right s):∀ (j i:Nat),i<j->j<cnt s->lt (key s i) (key s j)=true
 | 0,i,hi,_=>absurd hi (Nat.not_lt_zero _)
 | j+1,i,hi,hj=>by
  have h1:=(h.ok (j+1) hj).rise (by omega)
  rw[Nat.add_sub_cancel] at h1
  by_cases e:i=j
  ·subst e;exact h1
  ·exact lt_trans (rising h j i (by omega) (by omega)) h1
theorem Ok.need {s:List UInt8} (h:Head s) {i:Nat} (hi:Ok s i):(cell s i).k.size<=16/\(cell s i).v.size<=32:=by
 have h1:=hi.at_.ksize h.el
 have h2:=hi.at_.vsize h.el
 have:=hi.at_.k
 have:=hi.at_.v
 exact⟨by rw[cell,h1];omega,by rw[cell,h2];omega⟩
def plc (L:List Cl) (x:ByteArray):Nat:=L.findIdx (fun c=>!lt c.k x)
def isAt (L:List Cl) (x:ByteArray):Bool:=match L[plc L x]? with
 | some c=>c.k.toList==x.toList
 | none=>false
theorem plc_le (L:List Cl) (x:ByteArray):plc L x<=L.length:=List.findIdx_le_length
theorem plc_lt {L:List Cl} {x:ByteArray} {t:Nat} (h:t<plc L x) (ht:t<L.length):lt L[t].k x=true:=by
 have:=List.not_of_lt_findIdx h
 simpa using this
theorem plc_at {L:List Cl} {x:ByteArray} (h:plc L x<L.length):lt L[plc L x].k x=false:=by
 have:=List.findIdx_getElem (w:=h)
 show lt L[List.findIdx (fun c=>!lt c.k x) L].k x=false
 simpa using this
open Go.RowKit
structure Off (B:Nat->Prop) (w w':World):Prop where
 os:w'.os=w.os
 tape:w'.tape=w.tape
 output:w'.output=w.output
 size:w.heap.size<=w'.heap.size
 block:∀ k,k<w.heap.size->¬ B k->w'.heap[k]?=w.heap[k]?
theorem Off.refl (B:Nat->Prop) (w:World):Off B w w:=⟨rfl,rfl,rfl,Nat.le_refl _,fun _ _ _=>rfl⟩
theorem Off.trans {B:Nat->Prop} {a b c:World} (h:Off B a b) (k:Off B b c):Off B a c :=
 ⟨k.os.trans h.os,k.tape.trans h.tape,k.output.trans h.output,Nat.le_trans h.size k.size,fun i hi hn=>(k.block i (Nat.lt_of_lt_of_le hi h.size) hn).trans (h.block i hi hn)⟩
theorem Off.of_below {B:Nat->Prop} {w w':World} (h:Below w.heap.size w w'):Off B w w':=⟨h.os,h.tape,h.output,h.size,fun k hk _=>h.block k hk⟩
theorem Off.below {B:Nat->Prop} {b:Nat} {w w':World} (h:Off B w w') (hb:∀ k,B k->b<=k) (hB:b<=w.heap.size):Below b w w' :=
 ⟨h.os,h.tape,h.output,h.size,fun k hk=>h.block k (Nat.lt_of_lt_of_le hk hB) (fun x=>by have:=hb k x;omega)⟩
theorem Off.drew {B:Nat->Prop} {a w:World} (h:Off B a w):Off B a w.drew:=⟨h.os,h.tape,h.output,h.size,h.block⟩
theorem Off.setCell {B:Nat->Prop} {a w:World} (h:Off B a w) {b:Nat} (hb:B b) (i:Nat) (v:Value):Off B a (w.setCell ⟨b,i,none⟩ v):=by
 refine h.trans ⟨rfl,rfl,rfl,?_,fun k _ hk=>Below.heap_setCell w _ v k (fun e=>hk (by rw[e];exact hb))⟩
 simp[go_sem]
def pgL (s:List UInt8):List Value:=Lib.byteCells s
def pgA (s:List UInt8):Array Value:=(pgL s).toArray
def pgV (s:List UInt8):Value:=.agg (pgA s)
theorem pgL_length (s:List UInt8):(pgL s).length=s.length:=Lib.byteCells_length s
theorem pgA_size (s:List UInt8):(pgA s).size=s.length:=by rw[pgA,List.size_toArray,pgL_length]
theorem pgL_one (s:List UInt8):∀ v∈pgL s,v.oneCell'=true:=Lib.byteCells_one _
theorem pgL_get (s:List UInt8) (j:Nat) (hj:j<s.length):(pgL s)[j]?=some (.int .u8 (g s j)):=by
 simp[pgL,Lib.byteCells,g,List.getElem?_eq_getElem hj]
def zs:List UInt8:=List.replicate 224 0
theorem zs_length:zs.length=224:=by simp[zs]
theorem zero_sheet (w:World):(zeroValue 158).run Tryz.prog w=.ok (pgV zs) w:=by kernel_rfl
theorem info_sheet:(Tryz.prog.info? 158).map (·.size)=some 224:=by kernel_rfl
theorem row_sheet:Tryz.prog.underlying 158=some (.array 224 5):=by kernel_rfl
structure Sh (w:World) (b:Nat) (s:List UInt8):Prop where
 blk:w.heap[b]?=some (.cells (pgA s) 158)
 len:s.length=224
section
variable {w w':World}{b:Nat}{s:List UInt8}
theorem Sh.lt (h:Sh w b s):b<w.heap.size:=(Array.getElem?_eq_some_iff.1 h.blk).1
theorem Sh.cell (h:Sh w b s) {j:Nat} (hj:j<224):w.cell? ⟨b,j,none⟩=some (.int .u8 (g s j)):=by
 rw[cell_of_row w b j (pgA s) 158 (0,0) h.blk]
 have:=pgL_get s j (by rw[h.len];exact hj)
 simpa[pgA] using this
theorem Sh.unfrozen (h:Sh w b s) (j:Nat):w.frozen? ⟨b,j,none⟩=false:=Joins.unfrozen_of_block h.blk j
theorem Sh.range (h:Sh w b s):w.rangeAt b 0 (pgL s):=fun j v hv=>by
 rw[cell_of_row w b _ (pgA s) 158 (0,0) h.blk];simpa[pgA] using hv
theorem Sh.there (h:Sh w b s):w.there b 0 224:=fun j hj=>⟨by rw[Nat.zero_add,h.cell hj];rfl,h.unfrozen _⟩
theorem Sh.of_block (h:Sh w b s) (hb:w'.heap[b]?=w.heap[b]?):Sh w' b s:=⟨hb.trans h.blk,h.len⟩
theorem Sh.below (h:Sh w b s) (hb:Below w.heap.size w w'):Sh w' b s:=h.of_block (hb.block b h.lt)
theorem Sh.off {B:Nat->Prop} (h:Sh w b s) (hb:Off B w w') (hn:¬ B b):Sh w' b s:=h.of_block (hb.block b h.lt hn)
theorem Sh.drew (h:Sh w b s):Sh w.drew b s:=⟨h.blk,h.len⟩
theorem Sh.drewN (h:Sh w b s) (n:Nat):Sh (w.drewN n) b s:=⟨h.blk,h.len⟩
theorem Sh.alloc (h:Sh w b s) (o:Obj):Sh (w.alloc o) b s:=h.below ((Below.refl _ _).alloc (Nat.le_refl _) o)
theorem Sh.new (w:World) (hs:s.length=224):Sh (w.alloc (.cells (pgA s) 158)) w.heap.size s:=⟨(MapKept.heap_alloc w _).1,hs⟩
theorem Sh.set (h:Sh w b s) (j:Nat) (x:UInt8) (n:Int) (hn:n=(x.toNat:Int)):Sh (w.setCell ⟨b,j,none⟩ (.int .u8 n)) b (s.set j x):=by
 subst hn
 refine⟨?_,by simpa using h.len⟩
 rw[Joins.block_setCell h.blk]
 congr 2
 simp[pgA,pgL,Lib.byteCells,List.map_set]
theorem Sh.setRow (h:Sh w b s) {t:List UInt8} (ht:t.length=224):Sh (w.setRow b (pgA t)) b t:=⟨setRow_heap w b (pgA s) _ 158 _ h.blk,ht⟩
end
def bts (p:ByteArray):List UInt8:=p.data.toList
theorem bts_length (p:ByteArray):(bts p).length=p.size:=Array.length_toList
def tx (s:List UInt8):ByteArray:=⟨s.toArray⟩
theorem tx_bts (p:ByteArray):tx (bts p)=p:=by cases p;simp[tx,bts]
theorem bts_tx (s:List UInt8):bts (tx s)=s:=by simp[tx,bts]
theorem tx_size (s:List UInt8):(tx s).size=s.length:=by simp[tx,ByteArray.size]
theorem wpList_alloc_sh {ops:Array Oper} {rest:List Oper} {o:Oper} {a:Act} {Q:Exit->Act->World->Prop} (w:World) (hg:o.guard=none) (hop:o.op=Op.alloc 158)
  (h:wpList Tryz.prog ops Q rest (a.put o.dst (.pointer (some ⟨w.heap.size,0,none⟩))) (w.alloc (.cells (pgA zs) 158))):wpList Tryz.prog ops Q (o ::rest) a w:=by
 refine wpList_plain hg fun K' hK'=>?_
 unfold Oper.wp
 simp[execOp,hop,Instr.alloc,zero_sheet,Result.andThen,pgV,Value.cells]
 exact hK' _ _ h
theorem wpList_load_sh {ops:Array Oper} {rest:List Oper} {o:Oper} {a:Act} {Q:Exit->Act->World->Prop} (w:World) (hg:o.guard=none) (x:Operand) (hop:o.op=Op.load 158 x)
  (b:Nat) (hx:a.eval x=.pointer (some ⟨b,0,none⟩)) (s:List UInt8) (hs:Sh w b s)
  (h:wpList Tryz.prog ops Q rest (a.put o.dst (pgV s)) w):wpList Tryz.prog ops Q (o ::rest) a w :=
 wpList_load_mid hg 158 x hop b 0 hx (pgL s) _ hs.range row_sheet rfl (by rw[pgL_length,hs.len];exact info_sheet) h
theorem setCells_pg {w:World} {b:Nat} {s:List UInt8} (t:List UInt8) (h:Sh w b s) (ht:t.length=224):w.setCells b 0 (pgL t)=w.setRow b (pgA t):=by
 have h1:=run_storeCells_at Tryz.prog b 0 158 (pgL t) 0 (pgA s) w h.blk (by rw[pgL_length,ht,pgA_size,h.len];omega) (pgL_one t)
 have h2:=run_storeCells_cells (P:=Tryz.prog) b 0 (pgL t) 0 w (fun j hj=>(h.there j (by rw[pgL_length] at hj;omega)).1) (fun j hj=>(h.there j (by rw[pgL_length] at hj;omega)).2) (pgL_one t)
 have e:(List.take (0+0) (pgA s).toList++pgL t++List.drop (0+0+(pgL t).length) (pgA s).toList).toArray=pgA t:=by
  rw[List.drop_of_length_le (by rw[pgL_length,ht,Array.length_toList,pgA_size,h.len];omega)]
  simp[pgA]
 rw[e,h2] at h1
 simpa using h1
theorem run_store_sh (w:World) {b:Nat} {s:List UInt8} (t:List UInt8) (h:Sh w b s) (ht:t.length=224):(Instr.storeAt 158 (.pointer (some ⟨b,0,none⟩)) (pgV t)).run Tryz.prog w=.ok () (w.setRow b (pgA t)):=by
 have:=run_storeAt_mid (P:=Tryz.prog) w b 0 158 (pgA t) (by rw[pgA_size,ht];exact h.there) (by rw[pgA_size,ht];exact info_sheet) (all_oneCell_toArray (pgL_one t))
 rw[show(pgA t).toList=pgL t by simp[pgA],setCells_pg t h ht] at this
 exact this
theorem wpList_store_sh {ops:Array Oper} {rest:List Oper} {o:Oper} {a:Act} {Q:Exit->Act->World->Prop} (w:World) (hg:o.guard=none) (x y:Operand) (hop:o.op=Op.store 158 x y)
  {b:Nat} (hx:a.eval x=.pointer (some ⟨b,0,none⟩)) {s t:List UInt8} (hy:a.eval y=pgV t) (hs:Sh w b s) (ht:t.length=224)
  (h:wpList Tryz.prog ops Q rest (a.put o.dst undef) (w.setRow b (pgA t))):wpList Tryz.prog ops Q (o ::rest) a w:=by
 refine wpList_plain hg fun K' hK'=>?_
 have hrun:=run_store_sh w t hs ht
 unfold Oper.wp
 simp[execOp,hop,hx,hy,hrun,Result.andThen]
 exact hK' _ _ h
theorem Off.setRow {B:Nat->Prop} {a w:World} (h:Off B a w) {b:Nat} (hb:B b) (R:Array Value):Off B a (w.setRow b R) :=
 h.trans ⟨rfl,rfl,rfl,by simp,fun k _ hk=>setRow_other _ _ _ _ (fun e=>hk (by rw[e];exact hb))⟩
theorem below_setRow {B:Nat} {a w:World} (h:Below B a w) {b:Nat} (hb:B<=b) (R:Array Value):Below B a (w.setRow b R) :=
 h.trans ⟨rfl,rfl,rfl,by simp,fun k hk=>setRow_other _ _ _ _ (by omega)⟩
structure New (w w':World) (b:Nat) (s:List UInt8):Prop where
 sh:Sh w' b s
 below:Below w.heap.size w w'
 le:w.heap.size<=b
structure Put (w w':World) (b:Nat) (s:List UInt8):Prop where
 sh:Sh w' b s
 off:Off (fun k=>k=b) w w'
theorem Put.below {w w':World} {b B:Nat} {s:List UInt8} (h:Put w w' b s) (hB:B<=b) (hw:B<=w.heap.size):Below B w w':=h.off.below (fun k e=>by subst e;exact hB) hw
theorem zero63:Value.agg Tryz.zeroCells158=pgV zs:=by kernel_rfl
theorem info_pg {s:List UInt8} (h:s.length=224):(Tryz.prog.info? 158).map (·.size)=some (pgA s).size:=by rw[pgA_size,h];exact info_sheet
theorem wpList_new_sh {ops:Array Oper} {rest:List Oper} {o:Oper} {a:Act} {Q:Exit->Act->World->Prop} (w:World) (hg:o.guard=none) (hop:o.op=Op.alloc 158)
  (h:∀ w' b,New w w' b zs->wpList Tryz.prog ops Q rest (a.put o.dst (.pointer (some ⟨b,0,none⟩))) w'):wpList Tryz.prog ops Q (o ::rest) a w :=
 wpList_alloc_sh w hg hop (h _ _ ⟨Sh.new w zs_length,(Below.refl _ _).alloc (Nat.le_refl _) _,Nat.le_refl _⟩)
theorem wpList_put_sh {ops:Array Oper} {rest:List Oper} {o:Oper} {a:Act} {Q:Exit->Act->World->Prop} (w:World) (hg:o.guard=none) (x y:Operand) (hop:o.op=Op.store 158 x y)
  {b:Nat} (hx:a.eval x=.pointer (some ⟨b,0,none⟩)) {s t:List UInt8} (hy:a.eval y=pgV t) (hs:Sh w b s) (ht:t.length=224)
  (h:∀ w',Put w w' b t->wpList Tryz.prog ops Q rest (a.put o.dst undef) w'):wpList Tryz.prog ops Q (o ::rest) a w :=
 wpList_store_sh w hg x y hop hx hy hs ht (h _ ⟨hs.setRow ht,(Off.refl (fun k=>k=b) w).setRow (B:=fun k=>k=b) rfl _⟩)
theorem run_copy_all (w:World) {b:Nat} {s:List UInt8} (p:ByteArray) (h:Sh w b s) (hp:p.size=224) (ty:TypeId):(Builtin.copy_ #[80,9] ty #[.slice (some ⟨b,0,none⟩) 224 224,.string p]).run Tryz.prog w=.ok (.int .i64 224) (w.setRow b (pgA (bts p))):=by
 have:=Lib.run_copy_row_string (P:=Tryz.prog) w 80 9 ty 5 b 0 224 224 p (pgA s) 158 Tryz.underlying80 (by kernel_rfl) h.blk (by omega) (by rw[pgA_size,h.len];omega)
 rw[this]
 have e:(List.take 0 (pgA s).toList++Lib.byteCells p.data.toList++List.drop (0+p.size) (pgA s).toList).toArray=pgA (bts p):=by
  rw[List.drop_of_length_le (by rw[Array.length_toList,pgA_size,h.len];omega)]
  simp[pgA,pgL,bts]
 rw[e,hp]
 rfl
theorem wpList_copy_all {ops:Array Oper} {rest:List Oper} {o:Oper} {a:Act} {Q:Exit->Act->World->Prop} (w:World) (hg:o.guard=none) (x y:Operand) (hop:o.op=.call {callee:=.builtin .copy,args:=#[x,y],argTypes:=#[80,9]})
  {b:Nat} (hx:a.eval x=.slice (some ⟨b,0,none⟩) 224 224) {s:List UInt8} {p:ByteArray} (hy:a.eval y=.string p) (hs:Sh w b s) (hp:p.size=224)
  (h:∀ w',Put w w' b (bts p)->wpList Tryz.prog ops Q rest (a.put o.dst (.int .i64 224)) w'):wpList Tryz.prog ops Q (o ::rest) a w :=
 Lib.wpList_copy_run w hg x y 80 9 hop _ _ hx hy (run_copy_all w p hs hp _) (h _ ⟨hs.setRow (by rw[bts_length,hp]),(Off.refl (fun k=>k=b) w).setRow (B:=fun k=>k=b) rfl _⟩)
structure Cs (w:World) (a:Option Addr) (L:List Cl):Prop where
 at_:∀ i (hi:i<L.length),∃ b off,a=some ⟨b,off,none⟩/\b<w.heap.size/\w.cell? ⟨b,off+i*2,none⟩=some (.string L[i].k)/\w.cell? ⟨b,off+i*2+1,none⟩=some (.string L[i].v)
section
variable {w w':World}{a:Option Addr}{L:List Cl}
theorem Cs.nil (w:World) (a:Option Addr):Cs w a []:=⟨fun i hi=>absurd hi (Nat.not_lt_zero _)⟩
theorem Cs.below (h:Cs w a L) (hb:Below w.heap.size w w'):Cs w' a L:=⟨fun i hi=>by
 obtain⟨b,off,h0,h1,h2,h3⟩:=h.at_ i hi
 exact⟨b,off,h0,Nat.lt_of_lt_of_le h1 hb.size,(hb.cell (by exact h1)).trans h2,(hb.cell (by exact h1)).trans h3⟩⟩
end
theorem wpList_cell_put {ops:Array Oper} {rest:List Oper} {o:Oper} {a:Act} {Q:Exit->Act->World->Prop} (w:World) (hg:o.guard=none) (x y:Operand) (hop:o.op=Op.store 23 x y)
  {b i:Nat} (hx:a.eval x=.pointer (some ⟨b,i,none⟩)) {k v:ByteArray} (hy:a.eval y=.agg #[.string k,.string v]) (ht:w.there b i 2)
  (h:wpList Tryz.prog ops Q rest (a.put o.dst undef) ((w.setCell ⟨b,i,none⟩ (.string k)).setCell ⟨b,i+1,none⟩ (.string v))):wpList Tryz.prog ops Q (o ::rest) a w :=
 wpList_store_mid hg 23 x y hop b i #[.string k,.string v] hx hy ht (by kernel_rfl) (all_oneCell_toArray (cs:=[.string k,.string v]) (fun u hu=>by rcases List.mem_cons.1 hu with rfl |hu;rfl;rcases List.mem_cons.1 hu with rfl |hu;rfl;cases hu)) h
theorem results_row_tmp {P:Program} {fn:Func} {p u:Tmp} {ty:TypeId} (h:fn.results=#[.cell p ty,.tmp u]) (tmps:Array Value) (w:World) (g:Nat) (t:TypeId) (cs:Array Value) (fr:Nat × Nat) (d:TypeDesc)
  (hp:tmps.getD p undef=.pointer (some ⟨g,0,none⟩)) (hg:w.heap[g]?=some (.cells cs t fr))
  (hu:P.underlying ty=some d) (hd:(match d with |.struct _ |.array _ _=>true |_=>false)=true) (hi:(P.info? ty).map (·.size)=some cs.size) :
  (results fn tmps).run P w=.ok (.tuple #[.agg cs,tmps.getD u undef]) w:=by
 rw[results_cell_tmp h,hp]
 simp[asAddr,run_loadVar_row w g t ty cs fr d hg hu hd hi,Result.andThen]
theorem info_cell:(Tryz.prog.info? 23).map (·.size)=some 2:=by kernel_rfl
theorem block_set2 {w:World} {b t:Nat} {x y:Value} (h:w.heap[b]?=some (.cells #[x,y] t)) (u v:Value):((w.setCell ⟨b,0,none⟩ u).setCell ⟨b,1,none⟩ v).heap[b]?=some (.cells #[u,v] t):=by
 rw[Joins.block_setCell (Joins.block_setCell h _)]
 simp
section
variable {w:World}{b:Nat}{s:List UInt8}
theorem kind_any (w:World) (h:Sh w b s):Calls Tryz.prog 165 #[.pointer (some ⟨b,0,none⟩)] w fun e w'=>e=.returned (.int .i64 (g s 0))/\w'=w:=by
 have hc:=h.cell (j:=0) (by omega)
 have hb:=g_lt s 0
 clear h
 go_enter Tryz.func165,Tryz.ntmps165
 go_wp2
 go_ret
 exact⟨rfl,rfl⟩
theorem level_any (w:World) (h:Sh w b s):Calls Tryz.prog 170 #[.pointer (some ⟨b,0,none⟩)] w fun e w'=>e=.returned (.int .i64 (g s 1))/\w'=w:=by
 have hc:=h.cell (j:=1) (by omega)
 have hb:=g_lt s 1
 clear h
 go_enter Tryz.func170,Tryz.ntmps170
 go_wp2
 go_ret
 exact⟨rfl,rfl⟩
theorem count_any (w:World) (h:Sh w b s):Calls Tryz.prog 129 #[.pointer (some ⟨b,0,none⟩)] w fun e w'=>e=.returned (.int .i64 (cnt s))/\w'=w:=by
 have hc:=h.cell (j:=2) (by omega)
 have hb:=g_lt s 2
 clear h
 go_enter Tryz.func129,Tryz.ntmps129
 go_wp2
 go_ret
 exact⟨rfl,rfl⟩
theorem end_any (w:World) (h:Sh w b s):Calls Tryz.prog 179 #[.pointer (some ⟨b,0,none⟩)] w fun e w'=>e=.returned (.int .i64 (en s))/\w'=w:=by
 have hc:=h.cell (j:=3) (by omega)
 have hb:=g_lt s 3
 clear h
 go_enter Tryz.func179,Tryz.ntmps179
 go_wp2
 go_ret
 exact⟨rfl,rfl⟩
theorem slot_any (w:World) (h:Sh w b s) (i:Nat) (hi:i<224):Calls Tryz.prog 186 #[.pointer (some ⟨b,0,none⟩),.int .i64 (i:Int)] w fun e w'=>e=.returned (.int .i64 (slot s i))/\w'=w:=by
 have hc:=h.cell (j:=223-i) (by omega)
 obtain⟨j,hj⟩:∃ j:Nat,j=223-i:=⟨_,rfl⟩
 have e:(223:Int)-(i:Int)=(j:Int):=by omega
 have hj':j<224:=by omega
 have hs:slot s i=g s j:=by rw[hj];rfl
 rw[← hj] at hc
 rw[hs]
 have hb:=g_lt s j
 clear h hj hs
 go_enter Tryz.func186,Tryz.ntmps186
 go_wp2
 go_ret
 exact⟨rfl,rfl⟩
theorem slice_l (w:World) (b l:Nat) (x:Int) (hx:x=(l:Int)) (hl:l<224):(Instr.sliceAt 158 (.pointer (some ⟨b,0,none⟩)) (some (.int .i64 x)) none none).run Tryz.prog w=.ok (.slice (some ⟨b,l,none⟩) (224-l) (224-l)) w:=by
 subst hx
 have h:=run_sliceAt_array_l (P:=Tryz.prog) w 158 ⟨b,0,none⟩ (by kernel_rfl) .i64 (l:Int) (by omega) (by show(l:Int)<=((224:Nat):Int);omega)
 have hz:∀ w,(Go.sizeOf (Tryz.prog.elem 158)).run Tryz.prog w=.ok 1 w:=fun w=>by kernel_rfl
 have ha:Tryz.prog.arrayLen 158=224:=by kernel_rfl
 rw[h,hz,ha]
 simp only[Result.andThen,slicedAt,Int.toNat_natCast,Nat.mul_one]
 rw[if_neg (by omega),Addr.add_mid,Nat.zero_add]
theorem slice_h (w:World) (b l n k:Nat) (hk:k<=n) (kk:IntKind):(Instr.slice 80 (.slice (some ⟨b,l,none⟩) n n) none (some (.int kk (k:Int))) none).run Tryz.prog w=.ok (.slice (some ⟨b,l,none⟩) k n) w:=by
 have h:=run_slice_h (P:=Tryz.prog) w 80 (some ⟨b,l,none⟩) n n (by kernel_rfl) kk (k:Int) (by omega) (by omega)
 have hz:∀ w,(Go.sizeOf (Tryz.prog.elem 80)).run Tryz.prog w=.ok 1 w:=fun w=>by kernel_rfl
 rw[h,hz]
 simp only[Result.andThen,sliced,Int.toNat_natCast,Nat.sub_zero,Nat.mul_one,Nat.zero_mul]
 split
 ·rfl
 ·simp[Addr.add_mid]
theorem conv_seg {w:World} {b:Nat} {s:List UInt8} (h:Sh w b s) (a n cap:Nat) (hn:a+n<=224):(convert 80 9 (.slice (some ⟨b,a,none⟩) n cap)).run Tryz.prog w=.ok (.string (tx (seg s a n))) w:=by
 have hl:(seg s a n).length=n:=seg_length (by rw[h.len];exact hn)
 have:=Lib.run_convert_whole (P:=Tryz.prog) w 80 5 9 Tryz.underlying80 Tryz.underlying5 Tryz.underlying9 b a (tx (seg s a n)) (fun i hi=>by
  rw[tx_size,hl] at hi
  have h1:=h.cell (j:=a+i) (by omega)
  rw[h1]
  have h2:s[a+i]?=some ((tx (seg s a n)).data[i]'(by simpa[tx,hl] using hi)):=by
   have:=seg_get s a n i
   rw[if_pos hi] at this
   rw[← this]
   simp[tx,hl,hi]
  simp only[g,h2]
  rfl) cap
 rw[tx_size,hl] at this
 exact this
theorem key_any (w:World) (h:Sh w b s) (i:Nat) (hi:i<224) (ha:At s (slot s i)) (he:en s<=223):Calls Tryz.prog 131 #[.pointer (some ⟨b,0,none⟩),.int .i64 (i:Int)] w fun e w'=>e=.returned (.string (key s i))/\∃ n,w'=w.drewN n:=by
 have C:Hid (∀ w,Sh w b s->Calls Tryz.prog 186 #[.pointer (some ⟨b,0,none⟩),.int .i64 (i:Int)] w fun e w'=>e=.returned (.int .i64 (slot s i))/\w'=w):=fun w h=>slot_any w h i hi
 obtain⟨x,hx⟩:∃ x,x=slot s i:=⟨_,rfl⟩
 rw[← hx] at C ha
 have hk:key s i=tx (seg s (x+2) (g s x)):=by rw[hx];rfl
 rw[hk]
 have hb:=g_lt s x
 have h2:=ha.two
 have h3:=ha.hi
 have hc:=h.cell (j:=x) (by omega)
 have hx':x<224:=by omega
 have s1:=fun w=>slice_l w b (x+2) ((x:Int)+2) (by omega) (by omega)
 have s2:=fun w=>slice_h w b (x+2) (224-(x+2)) (g s x) (by omega) .u8
 have hcv:=fun n cap=>conv_seg (h.drewN n) (x+2) (g s x) cap (by omega)
 have H:Hid _:=h
 clear h hx hk ha
 go_enter Tryz.func131,Tryz.ntmps131
 go_wp2_with (go_at_call 186;refine(C.out _ H.out).mono ?_;rintro e w' ⟨rfl,rfl⟩)
 go_quiet (fail)
 go_wp2
 go_ret
 exact⟨rfl,_,rfl⟩
theorem val_any (w:World) (h:Sh w b s) (i:Nat) (hi:i<224) (ha:At s (slot s i)) (he:en s<=223):Calls Tryz.prog 221 #[.pointer (some ⟨b,0,none⟩),.int .i64 (i:Int)] w fun e w'=>e=.returned (.string (val s i))/\∃ n,w'=w.drewN n:=by
 have C:Hid (∀ w,Sh w b s->Calls Tryz.prog 186 #[.pointer (some ⟨b,0,none⟩),.int .i64 (i:Int)] w fun e w'=>e=.returned (.int .i64 (slot s i))/\w'=w):=fun w h=>slot_any w h i hi
 obtain⟨x,hx⟩:∃ x,x=slot s i:=⟨_,rfl⟩
 rw[← hx] at C ha
 have hk:val s i=tx (seg s (x+2+g s x) (g s (x+1))):=by rw[hx];rfl
 rw[hk]
 have hb:=g_lt s x
 have hb1:=g_lt s (x+1)
 have h2:=ha.two
 have h3:=ha.hi
 have hc:=h.cell (j:=x) (by omega)
 have hc1:=h.cell (j:=x+1) (by omega)
 have hx':x+1<224:=by omega
 have s1:=fun w=>slice_l w b (x+2+g s x) ((x:Int)+2+(g s x:Int)) (by omega) (by omega)
 have s2:=fun w=>slice_h w b (x+2+g s x) (224-(x+2+g s x)) (g s (x+1)) (by omega) .u8
 have hcv:=fun n cap=>conv_seg (h.drewN n) (x+2+g s x) (g s (x+1)) cap (by omega)
 have H:Hid _:=h
 clear h hx hk ha
 go_enter Tryz.func221,Tryz.ntmps221
 go_wp2_with (go_at_call 186;refine(C.out _ H.out).mono ?_;rintro e w' ⟨rfl,rfl⟩)
 go_quiet (fail)
 go_wp2
 go_ret
 exact⟨rfl,_,rfl⟩
theorem Need_any (w:World) (c:Cl) (hk:c.k.size<=140737488351232) (hv:c.v.size<=140737488351232):Calls Tryz.prog 79 #[.agg #[.string c.k,.string c.v]] w fun e w'=>e=.returned (.int .i64 (need c))/\Below w.heap.size w w':=by
 have e1:(need c:Int)=2+(c.k.size:Int)+(c.v.size:Int)+1:=by simp only[need];omega
 rw[e1]
 go_enter Tryz.func79,Tryz.ntmps79
 go_wp2
 go_ret
 exact⟨rfl,(Below.refl _ _).alloc (Nat.le_refl _) _⟩
def long (c:Cl):Int:=if 16<c.k.size then 17 else if 32<c.v.size then 18 else 0
theorem tooLong_any (w:World) (c:Cl):Calls Tryz.prog 153 #[.agg #[.string c.k,.string c.v]] w fun e w'=>e=.returned (.int .i64 (long c))/\Below w.heap.size w w':=by
 by_cases h1:16<c.k.size
 ·have h1':(16:Int)<(c.k.size:Int):=by omega
  have e:long c=17:=by simp[long,h1]
  rw[e]
  go_enter Tryz.func153,Tryz.ntmps153
  go_wp2
  go_ret
  exact⟨rfl,(Below.refl _ _).alloc (Nat.le_refl _) _⟩
 ·have h1':¬ (16:Int)<(c.k.size:Int):=by omega
  by_cases h2:32<c.v.size
  ·have h2':(32:Int)<(c.v.size:Int):=by omega
   have e:long c=18:=by simp[long,h1,h2]
   rw[e]
   go_enter Tryz.func153,Tryz.ntmps153
   go_wp2
   go_ret
   exact⟨rfl,(Below.refl _ _).alloc (Nat.le_refl _) _⟩
  ·have h2':¬ (32:Int)<(c.v.size:Int):=by omega
   have e:long c=0:=by simp[long,h1,h2]
   rw[e]
   go_enter Tryz.func153,Tryz.ntmps153
   go_wp2
   go_ret
   exact⟨rfl,(Below.refl _ _).alloc (Nat.le_refl _) _⟩
def fit (k l:Int):Bool:=decide (0<=k/\k<=2/\0<=l/\l<=255/\(k=2∨l=0))
theorem fits_any (w:World) (k l:Int):Calls Tryz.prog 151 #[.int .i64 k,.int .i64 l] w fun e w'=>e=.returned (.bool (fit k l))/\w'=w:=by
 by_cases h1:k<0
 ·have e:fit k l=false:=by simp only[fit,decide_eq_false_iff_not];omega
  rw[e]
  go_enter Tryz.func151,Tryz.ntmps151
  go_wp2
  go_ret
  exact⟨rfl,rfl⟩
 ·by_cases h2:2<k
  ·have e:fit k l=false:=by simp only[fit,decide_eq_false_iff_not];omega
   rw[e]
   go_enter Tryz.func151,Tryz.ntmps151
   go_wp2
   go_ret
   exact⟨rfl,rfl⟩
  ·by_cases h3:l<0
   ·have e:fit k l=false:=by simp only[fit,decide_eq_false_iff_not];omega
    rw[e]
    go_enter Tryz.func151,Tryz.ntmps151
    go_wp2
    go_ret
    exact⟨rfl,rfl⟩
   ·by_cases h4:255<l
    ·have e:fit k l=false:=by simp only[fit,decide_eq_false_iff_not];omega
     rw[e]
     go_enter Tryz.func151,Tryz.ntmps151
     go_wp2
     go_ret
     exact⟨rfl,rfl⟩
    ·by_cases h5:k=2
     ·have e:fit k l=true:=by simp only[fit,decide_eq_true_eq];omega
      rw[e]
      go_enter Tryz.func151,Tryz.ntmps151
      go_wp2
      go_ret
      exact⟨rfl,rfl⟩
     ·have h5':(k==2)=false:=by simpa using h5
      have e:fit k l=(l==0):=by
       rw[Bool.eq_iff_iff]
       simp only[fit,decide_eq_true_eq,beq_iff_eq];omega
      rw[e]
      go_enter Tryz.func151,Tryz.ntmps151
      go_wp2
      go_ret
      exact⟨rfl,rfl⟩
end
section
variable {w:World}{b:Nat}{s:List UInt8}
theorem cell_any (w:World) (h:Sh w b s) (i:Nat) (hi:i<224) (ha:At s (slot s i)) (he:en s<=223):Calls Tryz.prog 185 #[.pointer (some ⟨b,0,none⟩),.int .i64 (i:Int)] w fun e w'=>e=.returned (.agg #[.string (cell s i).k,.string (cell s i).v])/\Below w.heap.size w w':=by
 have C1:Hid (∀ w,Sh w b s->Calls Tryz.prog 131 #[.pointer (some ⟨b,0,none⟩),.int .i64 (i:Int)] w fun e w'=>e=.returned (.string (cell s i).k)/\∃ n,w'=w.drewN n):=fun w h=>key_any w h i hi ha he
 have C2:Hid (∀ w,Sh w b s->Calls Tryz.prog 221 #[.pointer (some ⟨b,0,none⟩),.int .i64 (i:Int)] w fun e w'=>e=.returned (.string (cell s i).v)/\∃ n,w'=w.drewN n):=fun w h=>val_any w h i hi ha he
 have H:Hid _:=h
 clear h ha he
 generalize (cell s i)=c at *
 go_enter Tryz.func185,Tryz.ntmps185
 go_wp2_with (first |(go_at_call 131;refine(C1.out _ (H.out.alloc _)).mono ?_;rintro e w' ⟨rfl,n1,rfl⟩) |(go_at_call 221;refine(C2.out _ ((H.out.alloc _).drewN _)).mono ?_;rintro e w' ⟨rfl,n2,rfl⟩))
 refine bodyPost_ret (results_cell_row rfl _ _ w.heap.size 23 #[.string c.k,.string c.v] (0,0) _ rfl (block_set2 ((MapKept.heap_alloc w _).1) _ _) Tryz.underlying23 rfl info_cell) rfl ?_
 exact⟨rfl,(((Go.below_drewN ((Below.refl _ _).alloc (Nat.le_refl _) _) _).setCell (Nat.le_refl _) _).setCell (Nat.le_refl _) _)⟩
theorem cellRight_any (w:World) (h:Sh w b s) (i:Nat) (hi:i<224) (hl:en s<=224):Calls Tryz.prog 184 #[.pointer (some ⟨b,0,none⟩),.int .i64 (i:Int)] w fun e w'=>e=.returned (.bool (atB s (slot s i)))/\∃ n,w'=w.drewN n:=by
 have C:Hid (∀ w,Sh w b s->Calls Tryz.prog 186 #[.pointer (some ⟨b,0,none⟩),.int .i64 (i:Int)] w fun e w'=>e=.returned (.int .i64 (slot s i))/\w'=w):=fun w h=>slot_any w h i hi
 have C2:Hid (∀ w,Sh w b s->Calls Tryz.prog 179 #[.pointer (some ⟨b,0,none⟩)] w fun e w'=>e=.returned (.int .i64 (en s))/\w'=w):=fun w h=>end_any w h
 obtain⟨x,hx⟩:∃ x,x=slot s i:=⟨_,rfl⟩
 rw[← hx] at C ⊢
 have H:Hid _:=h
 have hxb:x<256:=by rw[hx];exact g_lt _ _
 clear hx
 by_cases h1:x<4
 ·have h1':(x:Int)<4:=by omega
  clear h
  go_enter Tryz.func184,Tryz.ntmps184
  go_wp2_with (go_at_call 186;refine(C.out _ H.out).mono ?_;rintro e w' ⟨rfl,rfl⟩)
  go_ret
  exact⟨by rw[show atB s x=false by simp only[atB,decide_eq_false_iff_not];omega];rfl,0,rfl⟩
 ·have h1':¬ (x:Int)<4:=by omega
  by_cases h2:en s<x+2
  ·have h2':(en s:Int)<(x:Int)+2:=by omega
   clear h
   go_enter Tryz.func184,Tryz.ntmps184
   go_wp2_with (first |(go_at_call 186;refine(C.out _ H.out).mono ?_;rintro e w' ⟨rfl,rfl⟩) |(go_at_call 179;refine(C2.out _ H.out).mono ?_;rintro e w' ⟨rfl,rfl⟩))
   go_ret
   exact⟨by rw[show atB s x=false by simp only[atB,decide_eq_false_iff_not];omega];rfl,0,rfl⟩
  ·have h2':¬ (en s:Int)<(x:Int)+2:=by omega
   have hb:=g_lt s x
   have hb1:=g_lt s (x+1)
   have hc:=h.cell (j:=x) (by omega)
   have hc1:=h.cell (j:=x+1) (by omega)
   have hx':x+1<224:=by omega
   by_cases h3:16<g s x
   ·have h3':(16:Int)<(g s x:Int):=by omega
    clear h
    go_enter Tryz.func184,Tryz.ntmps184
    go_wp2_with (first |(go_at_call 186;refine(C.out _ H.out).mono ?_;rintro e w' ⟨rfl,rfl⟩) |(go_at_call 179;refine(C2.out _ H.out).mono ?_;rintro e w' ⟨rfl,rfl⟩))
    go_quiet (fail)
    go_wp2
    go_ret
    exact⟨by rw[show atB s x=false by simp only[atB,decide_eq_false_iff_not];omega];rfl,_,rfl⟩
   ·have h3':¬ (16:Int)<(g s x:Int):=by omega
    by_cases h4:32<g s (x+1)
    ·have h4':(32:Int)<(g s (x+1):Int):=by omega
     clear h
     go_enter Tryz.func184,Tryz.ntmps184
     go_wp2_with (first |(go_at_call 186;refine(C.out _ H.out).mono ?_;rintro e w' ⟨rfl,rfl⟩) |(go_at_call 179;refine(C2.out _ H.out).mono ?_;rintro e w' ⟨rfl,rfl⟩))
     go_quiet (fail)
     go_wp2
     go_ret
     exact⟨by rw[show atB s x=false by simp only[atB,decide_eq_false_iff_not];omega];rfl,_,rfl⟩
    ·have h4':¬ (32:Int)<(g s (x+1):Int):=by omega
     clear h
     go_enter Tryz.func184,Tryz.ntmps184
     go_wp2_with (first |(go_at_call 186;refine(C.out _ H.out).mono ?_;rintro e w' ⟨rfl,rfl⟩) |(go_at_call 179;refine(C2.out _ H.out).mono ?_;rintro e w' ⟨rfl,rfl⟩))
     go_quiet (fail)
     go_wp2_with (go_at_call 179;refine(C2.out _ (H.out.drewN _)).mono ?_;rintro e w' ⟨rfl,rfl⟩)
     go_ret
     refine⟨?_,_,rfl⟩
     rw[show atB s x=decide ((x:Int)+2+(g s x:Int)+(g s (x+1):Int)<=(en s:Int)) by
      rw[atB];exact decide_eq_decide.2 ⟨fun h=>by omega,fun h=>by omega⟩]
     rfl
def cellsTo (s:List UInt8) (i:Nat):List Cl:=(List.range i).map (cell s)
theorem cellsTo_succ (s:List UInt8) (i:Nat):cellsTo s (i+1)=cellsTo s i++[cell s i]:=by simp[cellsTo,List.range_succ]
theorem needs_to (s:List UInt8) (i:Nat):needs (cellsTo s (i+1))=needs (cellsTo s i)+need (cell s i):=by rw[cellsTo_succ,needs_append];simp[needs]
theorem needs_to_le {s:List UInt8} (hd:Head s):∀ i,(∀ j,j<i->Ok s j)->needs (cellsTo s i)<=51*i
 | 0,_=>by simp[cellsTo,needs]
 | i+1,h=>by
  have h1:=needs_to_le hd i (fun j hj=>h j (by omega))
  have h2:=(h i (by omega)).need hd
  rw[needs_to,need];omega
def keyI (s:List UInt8) (x:Int):ByteArray:=key s x.toNat
set_option maxHeartbeats 1000000 in
theorem cellsRight_any (w:World) (h:Sh w b s) (hd:Head s):Calls Tryz.prog 127 #[.pointer (some ⟨b,0,none⟩)] w fun e w'=>e=.returned (.bool (allB s))/\Below w.heap.size w w':=by
 have C1:Hid (∀ w,Sh w b s->Calls Tryz.prog 129 #[.pointer (some ⟨b,0,none⟩)] w fun e w'=>e=.returned (.int .i64 (cnt s))/\w'=w):=fun w h=>count_any w h
 have H:Hid _:=h
 have hn:=hd.slotlt
 have hel:en s<=224:=by have:=hd.enn;omega
 clear h
 go_enter Tryz.func127,Tryz.ntmps127
 go_wp2_with (go_at_call 129;refine(C1.out _ H.out).mono ?_;rintro e w' ⟨rfl,rfl⟩)
 go_loopw [3,7] (fun nd kv wr=>∃ i:Nat,kv=.int .i64 (i:Int)/\nd=.int .i64 (needs (cellsTo s i):Nat)/\i<=cnt s/\Hid (∀ j,j<i->Ok s j)/\Below w'.heap.size w' wr) (fun _ kv _=>cnt s-(intOf kv).toNat)
 case atStart=>exact⟨0,rfl,rfl,Nat.zero_le _,(fun j hj=>absurd hj (Nat.not_lt_zero _):∀ j,j<0->Ok s j),Below.refl _ _⟩
 case round =>
  obtain⟨i,rfl,rfl,hi,hok,hbel⟩:=hrel
  have HS:Hid (Sh wr b s):=H.out.below hbel
  by_cases hlt:i<cnt s
  ·have hltI:(i:Int)<(cnt s:Int):=by omega
   have he:en s<=223:=by have:=hd.enn;omega
   have C2:Hid (∀ w,Sh w b s->Calls Tryz.prog 184 #[.pointer (some ⟨b,0,none⟩),.int .i64 (i:Int)] w fun e w'=>e=.returned (.bool (atB s (slot s i)))/\∃ n,w'=w.drewN n):=fun w h=>cellRight_any w h i (by omega) hel
   have hnl:=needs_to_le hd i hok.out
   have hst:=needs_to s i
   cases ha:atB s (slot s i)
   ·rw[ha] at C2
    have hno:Hid (allB s=false):=allB_no hlt (by simp[okB,ha])
    clear ha hst
    go_wp2_with (go_at_call 184;refine(C2.out _ HS.out).mono ?_;rintro e w2 ⟨rfl,n,rfl⟩)
    go_ret
    exact⟨by rw[hno.out];rfl,Go.below_drewN hbel _⟩
   ·rw[ha] at C2
    have hat:=(atB_iff s _).1 ha
    have C3:Hid (∀ w,Sh w b s->Calls Tryz.prog 185 #[.pointer (some ⟨b,0,none⟩),.int .i64 (i:Int)] w fun e w'=>e=.returned (.agg #[.string (cell s i).k,.string (cell s i).v])/\Below w.heap.size w w'):=fun w h=>cell_any w h i (by omega) hat he
    have hk:(cell s i).k.size<=16:=by have:=hat.ksize hd.el;have:=hat.k;rw[cell];omega
    have hv:(cell s i).v.size<=32:=by have:=hat.vsize hd.el;have:=hat.v;rw[cell];omega
    have C4:Hid (∀ w,Calls Tryz.prog 79 #[.agg #[.string (cell s i).k,.string (cell s i).v]] w fun e w'=>e=.returned (.int .i64 (need (cell s i)))/\Below w.heap.size w w'):=fun w=>Need_any w _ (by omega) (by omega)
    have hnd:need (cell s i)<=51:=by simp only[need];omega
    have nx:(∀ j,j<i->Ok s j)->Ok s i->∀ j,j<i+1->Ok s j:=fun h1 h2 j hj=>by
     by_cases e:j=i
     ·subst e;exact h2
     ·exact h1 j (by omega)
    have NX:Hid _:=nx
    clear nx
    obtain⟨c,hc⟩:∃ c,c=cell s i:=⟨_,rfl⟩
    rw[← hc] at C3 C4 hk hv hnd hst
    obtain⟨n,hn'⟩:∃ n,n=need c:=⟨_,rfl⟩
    rw[← hn'] at C4 hnd hst
    obtain⟨m,hm⟩:∃ m,m=needs (cellsTo s i):=⟨_,rfl⟩
    rw[← hm] at hst hnl
    rw[← hm]
    have HST:Hid _:=hst
    by_cases h0:i=0
    ·subst h0
     have hO:Hid (Ok s 0):=(⟨hat,fun h=>absurd h (Nat.lt_irrefl _)⟩:Ok s 0)
     clear hc hn' hat hm ha hst
     go_wp2_with (first |(go_at_call 184;refine(C2.out _ HS.out).mono ?_;rintro e w2 ⟨rfl,n2,rfl⟩) |(go_at_call 185;refine(C3.out _ (HS.out.drewN _)).mono ?_;rintro e w3 ⟨rfl,hb3⟩) |(go_at_call 79;refine(C4.out _).mono ?_;rintro e w4 ⟨rfl,hb4⟩))
     go_roundw
     case rel=>exact⟨1,by simp,by rw[HST.out];simp,by omega,NX.out hok.out hO.out,(Go.below_drewN hbel _).trans (hb3.mono (by have:=hbel.size;simpa using this) |>.trans (hb4.mono (by have:=hbel.size;have:=hb3.size;simp at this;omega)))⟩
     case measure=>simp[intOf];omega
    ·obtain⟨j,rfl⟩:∃ j,i=j+1:=⟨i-1,by omega⟩
     have haj:=(hok.out j (by omega)).at_
     obtain⟨kf,hkf⟩:∃ kf:Int->ByteArray,kf=keyI s:=⟨_,rfl⟩
     have hx:kf ((j:Int)+1)=key s (j+1):=by rw[hkf];rfl
     have hy:kf (j:Int)=key s j:=by rw[hkf];rfl
     have hle:=leq_not (kf (j:Int)) (kf ((j:Int)+1))
     have C5:Hid (∀ w (z:Int),Sh w b s->(z=(j:Int)+1∨z=(j:Int))->Calls Tryz.prog 131 #[.pointer (some ⟨b,0,none⟩),.int .i64 z] w fun e w'=>e=.returned (.string (kf z))/\∃ n,w'=w.drewN n):=fun w z h hz=>by
      rcases hz with rfl |rfl
      ·have:=key_any w h (j+1) (by omega) hat he
       rw[hx];exact this
      ·have:=key_any w h j (by omega) haj he
       rw[hy];exact this
     have hO:Hid (lt (kf (j:Int)) (kf ((j:Int)+1))=true->Ok s (j+1)):=(fun h=>⟨hat,fun _=>by rw[Nat.add_sub_cancel,← hx,← hy];exact h⟩:lt (kf (j:Int)) (kf ((j:Int)+1))=true->Ok s (j+1))
     have hN:Hid (lt (kf (j:Int)) (kf ((j:Int)+1))=false->allB s=false):=(fun h=>allB_no hlt (by simp[okB,← hx,← hy,h]):lt (kf (j:Int)) (kf ((j:Int)+1))=false->allB s=false)
     clear hc hn' hat haj hm ha hx hy hst hkf
     have hj1:((j+1:Nat):Int)=(j:Int)+1:=by omega
     rw[hj1] at C2 C3 ⊢
     cases hl:lt (kf (j:Int)) (kf ((j:Int)+1))
     ·rw[hl] at hle
      have HL:Hid _:=hl
      clear hl
      go_wp2_with (first |(go_at_call 184;refine(C2.out _ HS.out).mono ?_;rintro e w2 ⟨rfl,n2,rfl⟩) |(go_at_call 131;refine(C5.out _ _ (HS.out.drewN _) ?_).mono ?_;(first |exact Or.inl rfl |exact Or.inr rfl);rintro e w3 ⟨rfl,n3,rfl⟩))
      go_ret
      exact⟨by rw[hN.out HL.out];rfl,Go.below_drewN hbel _⟩
     ·rw[hl] at hle
      have HL:Hid _:=hl
      clear hl
      go_wp2_with (first |(go_at_call 184;refine(C2.out _ HS.out).mono ?_;rintro e w2 ⟨rfl,n2,rfl⟩) |(go_at_call 131;refine(C5.out _ _ (HS.out.drewN _) ?_).mono ?_;(first |exact Or.inl rfl |exact Or.inr rfl);rintro e w3 ⟨rfl,n3,rfl⟩) |(go_at_call 185;refine(C3.out _ (HS.out.drewN _)).mono ?_;rintro e w5 ⟨rfl,hb3⟩) |(go_at_call 79;refine(C4.out _).mono ?_;rintro e w6 ⟨rfl,hb4⟩))
      go_roundw
      case rel=>exact⟨j+2,by go_num,by rw[HST.out];simp,by omega,NX.out hok.out (hO.out HL.out),(Go.below_drewN hbel _).trans (hb3.mono (by have:=hbel.size;simpa using this) |>.trans (hb4.mono (by have:=hbel.size;have:=hb3.size;simp at this;omega)))⟩
      case measure=>simp[intOf];omega
  ·have hie:i=cnt s:=by omega
   subst hie
   have hA:Hid (allB s=decide ((needs (cellsTo s (cnt s)):Int)<=220)):=by
    have:allB s=decide ((needs (cellsTo s (cnt s)):Int)<=220):=by
     rw[Bool.eq_iff_iff,allB_iff,decide_eq_true_eq]
     exact⟨fun h=>by have:=h.2;simp only[cells,cellsTo] at this ⊢;omega,fun h=>⟨hok.out,by simp only[cells,cellsTo] at h ⊢;omega⟩⟩
    exact this
   have hnl:=needs_to_le hd (cnt s) hok.out
   generalize hm:needs (cellsTo s (cnt s))=m at *
   clear hm
   have hlt':¬ (cnt s:Int)<(cnt s:Int):=by omega
   go_wp2
   go_ret
   exact⟨by rw[hA.out];rfl,hbel⟩
end
section
variable {w:World}{b:Nat}{s:List UInt8}
theorem headRight_any (w:World) (h:Sh w b s):Calls Tryz.prog 126 #[.pointer (some ⟨b,0,none⟩)] w fun e w'=>e=.returned (.bool (headB s))/\w'=w:=by
 have C1:Hid (∀ w,Sh w b s->Calls Tryz.prog 165 #[.pointer (some ⟨b,0,none⟩)] w fun e w'=>e=.returned (.int .i64 (g s 0))/\w'=w):=fun w h=>kind_any w h
 have C2:Hid (∀ w,Sh w b s->Calls Tryz.prog 170 #[.pointer (some ⟨b,0,none⟩)] w fun e w'=>e=.returned (.int .i64 (g s 1))/\w'=w):=fun w h=>level_any w h
 have C3:Hid (∀ w,Sh w b s->Calls Tryz.prog 129 #[.pointer (some ⟨b,0,none⟩)] w fun e w'=>e=.returned (.int .i64 (cnt s))/\w'=w):=fun w h=>count_any w h
 have C4:Hid (∀ w,Sh w b s->Calls Tryz.prog 179 #[.pointer (some ⟨b,0,none⟩)] w fun e w'=>e=.returned (.int .i64 (en s))/\w'=w):=fun w h=>end_any w h
 have C5:Hid (∀ w,Calls Tryz.prog 151 #[.int .i64 (g s 0:Int),.int .i64 (g s 1:Int)] w fun e w'=>e=.returned (.bool (fit (g s 0) (g s 1)))/\w'=w):=fun w=>fits_any w _ _
 have b0:=g_lt s 0
 have b1:=g_lt s 1
 have b2:cnt s<256:=g_lt s 2
 have b3:en s<256:=g_lt s 3
 have hl:=h.len
 have hf:fit (g s 0) (g s 1)=decide (g s 0<=2/\(g s 0=2∨g s 1=0)):=by
  rw[fit];exact decide_eq_decide.2 ⟨fun h=>by omega,fun h=>by omega⟩
 have H:Hid _:=h
 clear h
 by_cases h1:g s 0<=2/\(g s 0=2∨g s 1=0)
 ·rw[hf,decide_eq_true h1] at C5
  by_cases h2:g s 0=0
  ·have h2':((g s 0:Int)==0)=true:=by simp[h2]
   by_cases h3:0<cnt s
   ·have h3':(0:Int)<(cnt s:Int):=by omega
    have hno:Hid (headB s=false):=by
     have:headB s=false:=by simp only[headB,decide_eq_false_iff_not];omega
     exact this
    generalize (g s 0)=k0 at *
    clear hf h1 h2
    go_enter Tryz.func126,Tryz.ntmps126
    go_wp2_with (first |(go_at_call 165;refine(C1.out _ H.out).mono ?_;rintro e w' ⟨rfl,rfl⟩) |(go_at_call 170;refine(C2.out _ H.out).mono ?_;rintro e w' ⟨rfl,rfl⟩) |(go_at_call 151;refine(C5.out _).mono ?_;rintro e w' ⟨rfl,rfl⟩) |(go_at_call 129;refine(C3.out _ H.out).mono ?_;rintro e w' ⟨rfl,rfl⟩))
    go_ret
    exact⟨by rw[hno.out];rfl,rfl⟩
   ·have h3':¬ (0:Int)<(cnt s:Int):=by omega
    have hyes:Hid (headB s=decide (4<=en s/\en s+cnt s<=224)):=by
     have:headB s=decide (4<=en s/\en s+cnt s<=224):=by rw[headB];exact decide_eq_decide.2 ⟨fun h=>by omega,fun h=>by omega⟩
     exact this
    generalize (g s 0)=k0 at *
    clear hf h1 h2
    by_cases h4:4<=en s
    ·have h4':(4:Int)<=(en s:Int):=by omega
     go_enter Tryz.func126,Tryz.ntmps126
     go_wp2_with (first |(go_at_call 165;refine(C1.out _ H.out).mono ?_;rintro e w' ⟨rfl,rfl⟩) |(go_at_call 170;refine(C2.out _ H.out).mono ?_;rintro e w' ⟨rfl,rfl⟩) |(go_at_call 151;refine(C5.out _).mono ?_;rintro e w' ⟨rfl,rfl⟩) |(go_at_call 129;refine(C3.out _ H.out).mono ?_;rintro e w' ⟨rfl,rfl⟩) |(go_at_call 179;refine(C4.out _ H.out).mono ?_;rintro e w' ⟨rfl,rfl⟩))
     go_ret
     exact⟨by rw[hyes.out,show decide (4<=en s/\en s+cnt s<=224)=decide ((en s:Int)+(cnt s:Int)<=224) from decide_eq_decide.2 ⟨fun h=>by omega,fun h=>by omega⟩];rfl,rfl⟩
    ·have h4':¬ (4:Int)<=(en s:Int):=by omega
     go_enter Tryz.func126,Tryz.ntmps126
     go_wp2_with (first |(go_at_call 165;refine(C1.out _ H.out).mono ?_;rintro e w' ⟨rfl,rfl⟩) |(go_at_call 170;refine(C2.out _ H.out).mono ?_;rintro e w' ⟨rfl,rfl⟩) |(go_at_call 151;refine(C5.out _).mono ?_;rintro e w' ⟨rfl,rfl⟩) |(go_at_call 129;refine(C3.out _ H.out).mono ?_;rintro e w' ⟨rfl,rfl⟩) |(go_at_call 179;refine(C4.out _ H.out).mono ?_;rintro e w' ⟨rfl,rfl⟩))
     go_ret
     exact⟨by rw[hyes.out,show decide (4<=en s/\en s+cnt s<=224)=false by simp only[decide_eq_false_iff_not];omega];rfl,rfl⟩
  ·have h2':((g s 0:Int)==0)=false:=by simp;omega
   have hyes:Hid (headB s=decide (4<=en s/\en s+cnt s<=224)):=by
    have:headB s=decide (4<=en s/\en s+cnt s<=224):=by rw[headB];exact decide_eq_decide.2 ⟨fun h=>by omega,fun h=>by omega⟩
    exact this
   generalize (g s 0)=k0 at *
   clear hf h1 h2
   by_cases h4:4<=en s
   ·have h4':(4:Int)<=(en s:Int):=by omega
    go_enter Tryz.func126,Tryz.ntmps126
    go_wp2_with (first |(go_at_call 165;refine(C1.out _ H.out).mono ?_;rintro e w' ⟨rfl,rfl⟩) |(go_at_call 170;refine(C2.out _ H.out).mono ?_;rintro e w' ⟨rfl,rfl⟩) |(go_at_call 151;refine(C5.out _).mono ?_;rintro e w' ⟨rfl,rfl⟩) |(go_at_call 129;refine(C3.out _ H.out).mono ?_;rintro e w' ⟨rfl,rfl⟩) |(go_at_call 179;refine(C4.out _ H.out).mono ?_;rintro e w' ⟨rfl,rfl⟩))
    go_ret
    exact⟨by rw[hyes.out,show decide (4<=en s/\en s+cnt s<=224)=decide ((en s:Int)+(cnt s:Int)<=224) from decide_eq_decide.2 ⟨fun h=>by omega,fun h=>by omega⟩];rfl,rfl⟩
   ·have h4':¬ (4:Int)<=(en s:Int):=by omega
    go_enter Tryz.func126,Tryz.ntmps126
    go_wp2_with (first |(go_at_call 165;refine(C1.out _ H.out).mono ?_;rintro e w' ⟨rfl,rfl⟩) |(go_at_call 170;refine(C2.out _ H.out).mono ?_;rintro e w' ⟨rfl,rfl⟩) |(go_at_call 151;refine(C5.out _).mono ?_;rintro e w' ⟨rfl,rfl⟩) |(go_at_call 129;refine(C3.out _ H.out).mono ?_;rintro e w' ⟨rfl,rfl⟩) |(go_at_call 179;refine(C4.out _ H.out).mono ?_;rintro e w' ⟨rfl,rfl⟩))
    go_ret
    exact⟨by rw[hyes.out,show decide (4<=en s/\en s+cnt s<=224)=false by simp only[decide_eq_false_iff_not];omega];rfl,rfl⟩
 ·rw[hf,decide_eq_false h1] at C5
  have hno:Hid (headB s=false):=by
   have:headB s=false:=by simp only[headB,decide_eq_false_iff_not];omega
   exact this
  clear hf h1
  go_enter Tryz.func126,Tryz.ntmps126
  go_wp2_with (first |(go_at_call 165;refine(C1.out _ H.out).mono ?_;rintro e w' ⟨rfl,rfl⟩) |(go_at_call 170;refine(C2.out _ H.out).mono ?_;rintro e w' ⟨rfl,rfl⟩) |(go_at_call 151;refine(C5.out _).mono ?_;rintro e w' ⟨rfl,rfl⟩))
  go_ret
  exact⟨by rw[hno.out];rfl,rfl⟩
theorem read_size (w:World) (p:ByteArray) (hp:p.size≠224) (hz:p.size<=140737488351232):Calls Tryz.prog 81 #[.string p] w fun e w'=>e=.returned (.tuple #[pgV zs,.bool false])/\Below w.heap.size w w':=by
 have h1:((p.size:Int) !=224)=true:=by simp;omega
 go_enter Tryz.func81,Tryz.ntmps81
 go_wp2_with (first |(refine wpList_new_sh _ rfl rfl ?_;first |(have:=N1;intro w2 b2 N2) |(intro w1 b1 N1)) |(refine wpList_put_sh _ rfl _ _ rfl rfl (t:=zs) zero63 (N1.sh.below N2.below) zs_length ?_;intro w3 P3))
 refine bodyPost_ret (results_row_tmp rfl _ _ b1 158 (pgA zs) (0,0) _ rfl P3.sh.blk row_sheet rfl (info_pg zs_length)) rfl ?_
 have z1:=N1.below.size
 have z2:=N2.below.size
 exact⟨rfl,N1.below.trans ((N2.below.mono z1).trans (P3.below N1.le (by omega)))⟩
theorem read_any (w:World) (p:ByteArray) (hp:p.size=224):Calls Tryz.prog 81 #[.string p] w fun e w'=>e=.returned (.tuple #[pgV (if rightB (bts p) then bts p else zs),.bool (rightB (bts p))])/\Below w.heap.size w w':=by
 have h1:((p.size:Int) !=224)=false:=by simp;omega
 obtain⟨s,hs⟩:∃ s,s=bts p:=⟨_,rfl⟩
 have hsl:s.length=224:=by rw[hs,bts_length,hp]
 have C1:Hid (∀ w b,Sh w b s->Calls Tryz.prog 126 #[.pointer (some ⟨b,0,none⟩)] w fun e w'=>e=.returned (.bool (headB s))/\w'=w):=fun w b h=>headRight_any w h
 rw[← hs]
 have C2:Hid (Head s->∀ w b,Sh w b s->Calls Tryz.prog 127 #[.pointer (some ⟨b,0,none⟩)] w fun e w'=>e=.returned (.bool (allB s))/\Below w.heap.size w w'):=(fun hd w b h=>cellsRight_any w h hd:Head s->∀ w b,Sh w b s->Calls Tryz.prog 127 #[.pointer (some ⟨b,0,none⟩)] w fun e w'=>e=.returned (.bool (allB s))/\Below w.heap.size w w')
 have HS:Hid _:=hs
 clear hs
 cases hh:headB s
 ·rw[hh] at C1
  have hr:rightB s=false:=by simp[rightB,hh]
  rw[hr]
  simp only[Bool.false_eq_true,if_false]
  clear hr
  go_enter Tryz.func81,Tryz.ntmps81
  go_wp2_with (first |(refine wpList_new_sh _ rfl rfl ?_;first |(have:=N1;intro w2 b2 N2) |(intro w1 b1 N1)) |(refine wpList_copy_all _ rfl _ _ rfl rfl rfl N2.sh hp ?_;rw[← HS.out];intro w3 P3) |(go_at_call 126;refine(C1.out _ _ P3.sh).mono ?_;rintro e w' ⟨rfl,rfl⟩) |(refine wpList_put_sh _ rfl _ _ rfl rfl (t:=zs) zero63 ((N1.sh.below N2.below).off P3.off ?_) zs_length ?_;intro e;have z1:=N1.sh.lt;have z2:=N2.le;omega;intro w4 P4))
  refine bodyPost_ret (results_row_tmp rfl _ _ b1 158 (pgA zs) (0,0) _ rfl P4.sh.blk row_sheet rfl (info_pg zs_length)) rfl ?_
  have z1:=N1.below.size
  have z2:=N2.below.size
  have z3:=P3.off.size
  have z4:=N2.le
  exact⟨rfl,N1.below.trans ((N2.below.mono z1).trans ((P3.below (by omega) (by omega)).trans (P4.below N1.le (by omega))))⟩
 ·rw[hh] at C1
  have C3:=C2.out ((headB_iff s).1 hh)
  have CC:Hid (∀ w b,Sh w b s->Calls Tryz.prog 127 #[.pointer (some ⟨b,0,none⟩)] w fun e w'=>e=.returned (.bool (allB s))/\Below w.heap.size w w'):=C3
  have hr:rightB s=allB s:=by simp[rightB,hh]
  clear C3 C2
  cases ha:allB s
  ·rw[ha] at CC hr
   rw[hr]
   simp only[Bool.false_eq_true,if_false]
   clear hr
   go_enter Tryz.func81,Tryz.ntmps81
   go_wp2_with (first |(refine wpList_new_sh _ rfl rfl ?_;first |(have:=N1;intro w2 b2 N2) |(intro w1 b1 N1)) |(refine wpList_copy_all _ rfl _ _ rfl rfl rfl N2.sh hp ?_;rw[← HS.out];intro w3 P3) |(go_at_call 126;refine(C1.out _ _ P3.sh).mono ?_;rintro e w' ⟨rfl,rfl⟩) |(go_at_call 127;refine(CC.out _ _ P3.sh).mono ?_;rintro e w5 ⟨rfl,hb5⟩) |(refine wpList_put_sh _ rfl _ _ rfl rfl (t:=zs) zero63 (((N1.sh.below N2.below).off P3.off ?_).below hb5) zs_length ?_;intro e;have z1:=N1.sh.lt;have z2:=N2.le;omega;intro w4 P4))
   refine bodyPost_ret (results_row_tmp rfl _ _ b1 158 (pgA zs) (0,0) _ rfl P4.sh.blk row_sheet rfl (info_pg zs_length)) rfl ?_
   have z1:=N1.below.size
   have z2:=N2.below.size
   have z3:=P3.off.size
   have z4:=N2.le
   have z5:=hb5.size
   exact⟨rfl,N1.below.trans ((N2.below.mono z1).trans ((P3.below (by omega) (by omega)).trans ((hb5.mono (by omega)).trans (P4.below N1.le (by omega)))))⟩
  ·rw[ha] at CC hr
   rw[hr]
   simp only[if_true]
   clear hr
   go_enter Tryz.func81,Tryz.ntmps81
   go_wp2_with (first |(refine wpList_new_sh _ rfl rfl ?_;first |(have:=N1;intro w2 b2 N2) |(intro w1 b1 N1)) |(refine wpList_copy_all _ rfl _ _ rfl rfl rfl N2.sh hp ?_;rw[← HS.out];intro w3 P3) |(go_at_call 126;refine(C1.out _ _ P3.sh).mono ?_;rintro e w' ⟨rfl,rfl⟩) |(go_at_call 127;refine(CC.out _ _ P3.sh).mono ?_;rintro e w5 ⟨rfl,hb5⟩) |(refine wpList_load_sh _ rfl _ rfl _ rfl s (P3.sh.below hb5) ?_) |(refine wpList_put_sh _ rfl _ _ rfl rfl (t:=s) rfl (((N1.sh.below N2.below).off P3.off ?_).below hb5) hsl ?_;intro e;have z1:=N1.sh.lt;have z2:=N2.le;omega;intro w4 P4))
   refine bodyPost_ret (results_row_tmp rfl _ _ b1 158 (pgA s) (0,0) _ rfl P4.sh.blk row_sheet rfl (info_pg hsl)) rfl ?_
   have z1:=N1.below.size
   have z2:=N2.below.size
   have z3:=P3.off.size
   have z4:=N2.le
   have z5:=hb5.size
   exact⟨rfl,N1.below.trans ((N2.below.mono z1).trans ((P3.below (by omega) (by omega)).trans ((hb5.mono (by omega)).trans (P4.below N1.le (by omega)))))⟩
theorem read_right (w:World) (p:ByteArray) (h:Right (bts p)):Calls Tryz.prog 81 #[.string p] w fun e w'=>e=.returned (.tuple #[pgV (bts p),.bool true])/\Below w.heap.size w w':=by
 have:=read_any w p (by rw[← bts_length,h.head.len])
 rw[(rightB_iff _).2 h] at this
 exact this
theorem read_wrong (w:World) (p:ByteArray) (hz:p.size<=140737488351232) (h:¬ Right (bts p)):Calls Tryz.prog 81 #[.string p] w fun e w'=>e=.returned (.tuple #[pgV zs,.bool false])/\Below w.heap.size w w':=by
 by_cases hp:p.size=224
 ·have:=read_any w p hp
  rw[show rightB (bts p)=false from Bool.eq_false_iff.2 (fun e=>h ((rightB_iff _).1 e))] at this
  exact this
 ·exact read_size w p hp hz
end
section
variable {w:World}{b:Nat}{s:List UInt8}
theorem thn {w w1 w2:World} (h:Below w.heap.size w w1) (k:Below w1.heap.size w1 w2):Below w.heap.size w w2:=h.trans (k.mono h.size)
theorem thnA {w w1:World} (h:Below w.heap.size w w1) (o:Obj):Below w.heap.size w (w1.alloc o):=h.alloc h.size o
theorem info_cellz:∃ i,Tryz.prog.info? 23=some i/\i.zero=some (.agg #[.string ⟨#[]⟩,.string ⟨#[]⟩])/\i.size=2/\i.bytes=32 :=
 info_parts (show(Tryz.prog.info? 23).map (fun i=>(i.zero,i.size,i.bytes))=some (some (.agg #[.string ⟨#[]⟩,.string ⟨#[]⟩]),2,32) by kernel_rfl)
def zc (n:Nat):Array Value:=madeCells #[.string ⟨#[]⟩,.string ⟨#[]⟩] (n*2)
theorem make_cells (n:Nat) (hn:n<=1000) (w:World):(Instr.makeSlice 56 (.int .i64 (n:Int)) (.int .i64 (n:Int))).run Tryz.prog w=.ok (.slice (some ⟨w.heap.size,0,none⟩) n n) (w.alloc (.cells (zc n) 23)):=by
 obtain⟨i,hi,hz,hs,hb⟩:=info_cellz
 have hr:=run_make (P:=Tryz.prog) w 56 23 i _ Tryz.underlying56 hi hz .i64 .i64 n n (by omega) (Int.le_refl _) (by rw[hb];omega) (by omega)
 simp only[Int.toNat_natCast,hs] at hr
 exact hr
structure Laid (w:World) (b n i:Nat) (L:List Cl):Prop where
 ex:∃ C:Array Value,w.heap[b]?=some (.cells C 23)/\C.size=n*2/\∀ j (hj:j<L.length),j<i->C[j*2]?=some (.string L[j].k)/\C[j*2+1]?=some (.string L[j].v)
theorem Laid.lt {n i:Nat} {L:List Cl} (h:Laid w b n i L):b<w.heap.size:=by
 obtain⟨C,h1,_⟩:=h.ex;exact(Array.getElem?_eq_some_iff.1 h1).1
theorem Laid.isS {n i j:Nat} {L:List Cl} (h:Laid w b n i L) (hj:j<n*2):(w.cell? ⟨b,j,none⟩).isSome=true:=by
 obtain⟨C,h1,h2,_⟩:=h.ex
 rw[cell_of_row w b _ C 23 (0,0) h1]
 simp[h2,hj]
theorem Laid.unfrozen {n i:Nat} {L:List Cl} (h:Laid w b n i L) (j:Nat):w.frozen? ⟨b,j,none⟩=false:=by
 obtain⟨C,h1,_⟩:=h.ex;exact Joins.unfrozen_of_block h1 j
theorem Laid.below {w':World} {n i:Nat} {L:List Cl} (h:Laid w b n i L) (hb:Below w.heap.size w w'):Laid w' b n i L:=by
 obtain⟨C,h1,h2⟩:=h.ex
 exact⟨⟨C,(hb.block b h.lt).trans h1,h2⟩⟩
theorem Laid.put {n i:Nat} {L:List Cl} (h:Laid w b n i L) (hi:i<n) (hl:i<L.length) (k v:ByteArray) (hk:k=L[i].k) (hv:v=L[i].v):Laid ((w.setCell ⟨b,i*2,none⟩ (.string k)).setCell ⟨b,i*2+1,none⟩ (.string v)) b n (i+1) L:=by
 obtain⟨C,h1,h2,h3⟩:=h.ex
 subst hk hv
 refine⟨⟨_,Joins.block_setCell (Joins.block_setCell h1 _) _,by simpa using h2,fun j hj hji=>?_⟩⟩
 by_cases e:j=i
 ·subst e
  refine⟨?_,?_⟩
  ·rw[Array.getElem?_setIfInBounds_ne (by omega),Array.getElem?_setIfInBounds_self_of_lt (by omega)]
  ·rw[Array.getElem?_setIfInBounds_self_of_lt (by simp;omega)]
 ·have:=h3 j hj (by omega)
  refine⟨?_,?_⟩
  ·rw[Array.getElem?_setIfInBounds_ne (by omega),Array.getElem?_setIfInBounds_ne (by omega)];exact this.1
  ·rw[Array.getElem?_setIfInBounds_ne (by omega),Array.getElem?_setIfInBounds_ne (by omega)];exact this.2
theorem Laid.there {n i j:Nat} {L:List Cl} (h:Laid w b n i L) (hj:j<n):w.there b (j*2) 2:=fun t ht=>⟨h.isS (by omega),h.unfrozen _⟩
theorem Laid.cs {n:Nat} {L:List Cl} (h:Laid w b n n L) (hl:L.length=n):Cs w (some ⟨b,0,none⟩) L:=⟨fun i hi=>by
 obtain⟨C,h1,h2,h3⟩:=h.ex
 refine⟨b,0,rfl,h.lt,?_,?_⟩
 ·rw[cell_of_row w b _ C 23 (0,0) h1,Nat.zero_add];exact(h3 i hi (by omega)).1
 ·rw[cell_of_row w b _ C 23 (0,0) h1,Nat.zero_add];exact(h3 i hi (by omega)).2⟩
theorem cells_any (w:World) (h:Sh w b s) (hr:Right s):Calls Tryz.prog 167 #[.pointer (some ⟨b,0,none⟩)] w fun e w'=>∃ a,e=.returned (.slice (some ⟨a,0,none⟩) (cnt s) (cnt s))/\Cs w' (some ⟨a,0,none⟩) (cells s)/\Below w.heap.size w w':=by
 have C1:Hid (∀ w,Sh w b s->Calls Tryz.prog 129 #[.pointer (some ⟨b,0,none⟩)] w fun e w'=>e=.returned (.int .i64 (cnt s))/\w'=w):=fun w h=>count_any w h
 have H:Hid _:=h
 have hd:=hr.head
 have hn:=hd.slotlt
 have hmk:=make_cells (cnt s) (by omega)
 have hbl:=h.lt
 clear h
 go_enter Tryz.func167,Tryz.ntmps167
 go_wp2_with (go_at_call 129;refine(C1.out _ H.out).mono ?_;rintro e w' ⟨rfl,rfl⟩)
 go_loopw [10] (fun kv wr=>∃ i:Nat,kv=.int .i64 (i:Int)/\i<=cnt s/\Laid wr w'.heap.size (cnt s) i (cells s)/\Below w'.heap.size w' wr) (fun kv _=>cnt s-(intOf kv).toNat)
 case atStart=>exact⟨0,rfl,Nat.zero_le _,⟨⟨_,(MapKept.heap_alloc w' _).1,by simp[zc,size_madeCells],fun j _ hj=>absurd hj (Nat.not_lt_zero _)⟩⟩,(Below.refl _ _).alloc (Nat.le_refl _) _⟩
 case round =>
  obtain⟨i,rfl,hi,hL,hbel⟩:=hrel
  by_cases hlt:i<cnt s
  ·have hltI:(i:Int)<(cnt s:Int):=by omega
   have he:en s<=223:=by have:=hd.enn;omega
   have C3:Hid (∀ w,Sh w b s->Calls Tryz.prog 185 #[.pointer (some ⟨b,0,none⟩),.int .i64 (i:Int)] w fun e w'=>e=.returned (.agg #[.string (cell s i).k,.string (cell s i).v])/\Below w.heap.size w w'):=fun w h=>cell_any w h i (by omega) (hr.ok i hlt).at_ he
   have HS:Hid (Sh wr b s):=H.out.below hbel
   have hcg:Hid ((cells s)[i]'(by rw[cells_length];exact hlt)=cell s i):=(cells_get' (by rw[cells_length];exact hlt):(cells s)[i]'(by rw[cells_length];exact hlt)=cell s i)
   have HL:Hid _:=hL
   obtain⟨c,hc⟩:∃ c,c=cell s i:=⟨_,rfl⟩
   rw[← hc] at C3 hcg
   clear hL hc hmk
   go_wp2_with (first |(go_at_call 185;refine(C3.out _ HS.out).mono ?_;rintro e w2 ⟨rfl,hb2⟩;have hL2:=HL.out.below hb2) |(refine wpList_cell_put _ rfl _ _ rfl rfl rfl (hL2.there hlt) ?_))
   go_roundw
   case rel =>
    have hz:=hbel.size
    exact⟨i+1,by go_num,by omega,hL2.put hlt (by rw[cells_length];exact hlt) _ _ (by rw[hcg.out]) (by rw[hcg.out]),((hbel.trans (hb2.mono hz)).setCell (Nat.le_refl _) _).setCell (Nat.le_refl _) _⟩
   case measure=>simp[intOf];omega
  ·have hie:i=cnt s:=by omega
   subst hie
   have hlt':¬ (cnt s:Int)<(cnt s:Int):=by omega
   have HL:Hid _:=hL
   clear hL hmk
   go_wp2
   go_ret
   exact⟨_,rfl,HL.out.cs (cells_length s),hbel⟩
structure Small (L:List Cl):Prop where
 len:L.length<=1000
 k:∀ c∈L,c.k.size<=16
 v:∀ c∈L,c.v.size<=32
theorem Small.nle {L:List Cl} (h:Small L) (i:Nat):needs (L.take i)<=51*i:=by
 induction i with
 | zero=>simp[needs]
 | succ i ih =>
  by_cases hi:i<L.length
  ·rw[needs_take_succ hi,need]
   have:=h.k _ (List.getElem_mem hi)
   have:=h.v _ (List.getElem_mem hi)
   omega
  ·rw[List.take_of_length_le (by omega)]
   rw[List.take_of_length_le (by omega)] at ih
   omega
theorem Right.small {s:List UInt8} (h:Right s):Small (cells s):=by
 have hn:=h.head.slotlt
 refine⟨by rw[cells_length];omega,fun c hc=>?_,fun c hc=>?_⟩
 ·obtain⟨i,hi,rfl⟩:=List.mem_map.1 hc
  exact((h.ok i (List.mem_range.1 hi)).need h.head).1
 ·obtain⟨i,hi,rfl⟩:=List.mem_map.1 hc
  exact((h.ok i (List.mem_range.1 hi)).need h.head).2
theorem Cs.at' {a:Option Addr} {L:List Cl} {w w':World} (h:Cs w a L) (hb:Below w.heap.size w w') {i:Nat} (hi:i<L.length) :
  ∃ b off,a=some ⟨b,off,none⟩/\b<w.heap.size/\w'.cell? ⟨b,off+i*2,none⟩=some (.string L[i].k)/\w'.cell? ⟨b,off+i*2+1,none⟩=some (.string L[i].v):=by
 obtain⟨b,off,h0,h1,h2,h3⟩:=h.at_ i hi
 exact⟨b,off,h0,h1,(hb.cell (by exact h1)).trans h2,(hb.cell (by exact h1)).trans h3⟩
theorem needOf_any (w:World) {a:Option Addr} {L:List Cl} (cap:Nat) (h:Cs w a L) (hs:Small L):Calls Tryz.prog 166 #[.slice a L.length cap] w fun e w'=>e=.returned (.int .i64 (needs L:Nat))/\Below w.heap.size w w':=by
 have hl:=hs.len
 go_enter Tryz.func166,Tryz.ntmps166
 go_wp2
 go_loopw [3,8] (fun nd kv wr=>∃ i:Nat,kv=.int .i64 (i:Int)/\nd=.int .i64 (needs (L.take i):Nat)/\i<=L.length/\Below w.heap.size w wr) (fun _ kv _=>L.length-(intOf kv).toNat)
 case atStart=>exact⟨0,rfl,rfl,Nat.zero_le _,Below.refl _ _⟩
 case round =>
  obtain⟨i,rfl,rfl,hi,hbel⟩:=hrel
  by_cases hlt:i<L.length
  ·have hltI:(i:Int)<(L.length:Int):=by omega
   obtain⟨b,off,rfl,hb,c0,c1⟩:=h.at' hbel hlt
   have hk:=hs.k _ (List.getElem_mem hlt)
   have hv:=hs.v _ (List.getElem_mem hlt)
   have hst:=needs_take_succ hlt
   have hnl:=hs.nle i
   have C4:Hid (∀ w,Calls Tryz.prog 79 #[.agg #[.string L[i].k,.string L[i].v]] w fun e w'=>e=.returned (.int .i64 (need L[i]))/\Below w.heap.size w w'):=fun w=>Need_any w _ (by omega) (by omega)
   have hnd:need L[i]<=51:=by simp only[need];omega
   obtain⟨c,hc⟩:∃ c,c=L[i]:=⟨_,rfl⟩
   rw[← hc] at C4 hk hv hnd hst c0 c1
   obtain⟨n,hn'⟩:∃ n,n=need c:=⟨_,rfl⟩
   rw[← hn'] at C4 hnd hst
   obtain⟨m,hm⟩:∃ m,m=needs (L.take i):=⟨_,rfl⟩
   rw[← hm] at hst hnl
   rw[← hm]
   have HST:Hid _:=hst
   clear hc hn' hm hst
   go_wp2_with (go_at_call 79;refine(C4.out _).mono ?_;rintro e w2 ⟨rfl,hb2⟩)
   go_roundw
   case rel =>
    have hz:=hbel.size
    exact⟨i+1,by go_num,by rw[HST.out];simp,by omega,thn (thnA hbel _) hb2⟩
   case measure=>simp[intOf];omega
  ·have hie:i=L.length:=by omega
   subst hie
   have hlt':¬ (L.length:Int)<(L.length:Int):=by omega
   have e:Hid (needs (L.take L.length)=needs L):=(by rw[List.take_length]:needs (L.take L.length)=needs L)
   generalize hm:needs (L.take L.length)=m at *
   go_wp2
   go_ret
   exact⟨by rw[← e.out];rfl,hbel⟩
def rm (s:List UInt8):Nat:=if g s 0=0 then 0 else 220-needs (cells s)
theorem room_any (w:World) (h:Sh w b s) (hr:Right s):Calls Tryz.prog 111 #[.pointer (some ⟨b,0,none⟩)] w fun e w'=>e=.returned (.int .i64 (rm s:Nat))/\Below w.heap.size w w':=by
 have C1:Hid (∀ w,Sh w b s->Calls Tryz.prog 165 #[.pointer (some ⟨b,0,none⟩)] w fun e w'=>e=.returned (.int .i64 (g s 0))/\w'=w):=fun w h=>kind_any w h
 have C2:Hid (∀ w,Sh w b s->Calls Tryz.prog 167 #[.pointer (some ⟨b,0,none⟩)] w fun e w'=>∃ a,e=.returned (.slice (some ⟨a,0,none⟩) (cnt s) (cnt s))/\Cs w' (some ⟨a,0,none⟩) (cells s)/\Below w.heap.size w w'):=fun w h=>cells_any w h hr
 have C3:Hid (∀ w a,Cs w a (cells s)->Calls Tryz.prog 166 #[.slice a (cnt s) (cnt s)] w fun e w'=>e=.returned (.int .i64 (needs (cells s):Nat))/\Below w.heap.size w w'):=fun w a h=>by
  have:=needOf_any w (cnt s) h hr.small
  rw[cells_length] at this
  exact this
 have hf:=hr.fit
 have H:Hid _:=h
 clear h
 by_cases h0:g s 0=0
 ·have h0':((g s 0:Int)==0)=true:=by simp[h0]
  have e:rm s=0:=by simp[rm,h0]
  rw[e]
  generalize (g s 0)=k0 at *
  clear h0
  go_enter Tryz.func111,Tryz.ntmps111
  go_wp2_with (go_at_call 165;refine(C1.out _ H.out).mono ?_;rintro e w' ⟨rfl,rfl⟩)
  go_ret
  exact⟨rfl,Below.refl _ _⟩
 ·have h0':((g s 0:Int)==0)=false:=by simp;omega
  have e:(rm s:Int)=220-(needs (cells s):Int):=by simp only[rm,h0,if_false];omega
  rw[e]
  generalize (g s 0)=k0 at *
  clear h0 e
  generalize needs (cells s)=m at *
  go_enter Tryz.func111,Tryz.ntmps111
  go_wp2_with (first |(go_at_call 165;refine(C1.out _ H.out).mono ?_;rintro e w' ⟨rfl,rfl⟩) |(go_at_call 167;refine(C2.out _ H.out).mono ?_;rintro e w2 ⟨a,rfl,hc2,hb2⟩) |(go_at_call 166;refine(C3.out _ _ hc2).mono ?_;rintro e w3 ⟨rfl,hb3⟩))
  go_ret
  exact⟨rfl,thn hb2 hb3⟩
end
end Go.Proofs.YtpcnjncgilmehabGreat.Pg
