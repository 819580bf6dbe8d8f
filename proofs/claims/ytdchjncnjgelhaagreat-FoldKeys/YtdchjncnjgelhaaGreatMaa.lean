import Derived.WalkKit
import Derived.Lib.Bytealg
import Derived.Test.YtdchjncnjgelhaaGreatProg
import Derived.Below
import Derived.Lib.SmallJoins
import Derived.Lib.SliceRun
import Derived.Deep.MidRow
import Derived.Laws.AppendOwn
import Derived.Laws.Append
import Derived.Deep.WholeRow
import Derived.Laws.ResultCell
import Derived.Laws.Rows
import Derived.OwnWalk
import Derived.Lib.AppendZerosOnto
import Derived.Lib.Overlaps
import Derived.Lib.Walk
import Derived.Laws.CopyRow
import Derived.Deep.RegionLaw
import Derived.MapKept
import Derived.Maps.RangeWalk
import Derived.Maps.OwnSet
import Derived.Maps.Ext
import Derived.WalkSpells
import Derived.Sort.KeysCollected
set_option linter.unusedVariables false
set_option linter.unusedSimpArgs false
set_option maxRecDepth 100000
namespace Go.Proofs.YtdchjncnjgelhaaGreat.Fd
open Go.RowKit
abbrev CL:=ByteArray × ByteArray
def encC (c:CL):List Value:=[.string c.1,.string c.2]
def blt (a b:ByteArray):Prop:=a.data.toList<b.data.toList
instance (a b:ByteArray):Decidable (blt a b):=by unfold blt;infer_instance
theorem ba_eq {a b:ByteArray} (h:a.data.toList=b.data.toList):a=b:=by
 cases a;cases b
 simp only at h
 rw[Array.toList_inj] at h
 rw[h]
theorem blt_irr (a:ByteArray):¬ blt a a:=List.lt_irrefl _
theorem blt_trans {a b c:ByteArray} (h:blt a b) (k:blt b c):blt a c:=List.lt_trans h k
theorem blt_tri {a b:ByteArray} (h:¬ blt a b) (k:¬ blt b a):a=b:=by
 have h1:=List.not_lt.1 h
 have h2:=List.not_lt.1 k
 exact ba_eq (List.le_antisymm h2 h1)
theorem blt_ne {a b:ByteArray} (h:blt a b):a≠b:=fun e=>by subst e;exact blt_irr _ h
def Ris (K:List CL):Prop:=K.Pairwise fun a b=>blt a.1 b.1
def plc (K:List CL) (k:ByteArray):Nat:=K.findIdx fun c=>!decide (blt c.1 k)
def isK (K:List CL) (k:ByteArray):Bool:=match K[plc K k]? with
 | some c=>decide (c.1=k)
 | none=>false
theorem plc_le (K:List CL) (k:ByteArray):plc K k<=K.length:=List.findIdx_le_length
theorem plc_lt {K:List CL} {k:ByteArray} {i:Nat} (h:i<plc K k):blt (K[i]'(Nat.lt_of_lt_of_le h (plc_le K k))).1 k:=by
 have:=List.not_of_lt_findIdx h
 simpa using this
theorem plc_ge {K:List CL} (hr:Ris K) {k:ByteArray} {i:Nat} (hi:i<K.length) (h:plc K k<=i):¬ blt K[i].1 k:=by
 have h1:plc K k<K.length:=by omega
 have h2:(!decide (blt (K[plc K k]'h1).1 k))=true:=List.findIdx_getElem (w:=h1)
 have h2:¬ blt (K[plc K k]'h1).1 k:=by simpa using h2
 by_cases e:plc K k=i
 ·subst e;exact h2
 ·have:=List.pairwise_iff_getElem.1 hr (plc K k) i h1 hi (by omega)
  exact fun h3=>h2 (blt_trans this h3)
theorem isK_at {K:List CL} {k:ByteArray} (h:isK K k=true):∃ hp:plc K k<K.length,K[plc K k].1=k:=by
 unfold isK at h
 rcases Nat.lt_or_ge (plc K k) K.length with h1 |h1
 ·rw[List.getElem?_eq_getElem h1] at h
  exact⟨h1,by simpa using h⟩
 ·rw[List.getElem?_eq_none h1] at h;cases h
theorem plc_of {K:List CL} (hr:Ris K) {k:ByteArray} {i:Nat} (hi:i<K.length) (e:K[i].1=k):plc K k=i:=by
 have h1:¬ i<plc K k:=fun h=>by have:=plc_lt h;rw[e] at this;exact blt_irr _ this
 by_cases h3:plc K k=i
 ·exact h3
 ·have h2:plc K k<K.length:=by omega
  have:=List.pairwise_iff_getElem.1 hr (plc K k) i h2 hi (by omega)
  rw[e] at this
  exact absurd this (plc_ge hr h2 (Nat.le_refl _))
theorem isK_of {K:List CL} (hr:Ris K) {c:CL} (h:c∈K):isK K c.1=true/\K[plc K c.1]?=some c:=by
 obtain⟨i,hi,e⟩:=List.getElem_of_mem h
 have hp:=plc_of hr hi (by rw[e])
 unfold isK
 rw[hp,List.getElem?_eq_getElem hi,e]
 simp
theorem isK_iff {K:List CL} (hr:Ris K) {k:ByteArray}:isK K k=true↔∃ c∈K,c.1=k:=by
 constructor
 ·intro h
  obtain⟨hp,e⟩:=isK_at h
  exact⟨_,List.getElem_mem hp,e⟩
 ·rintro⟨c,hc,rfl⟩
  exact(isK_of hr hc).1
theorem isK_no {K:List CL} (hr:Ris K) {k:ByteArray} (h:isK K k=false):∀ c∈K,c.1≠k:=fun c hc e=>by
 rw[(isK_iff hr).2 ⟨c,hc,e⟩] at h;cases h
theorem ris_take (K:List CL) (k:ByteArray):∀ q∈K.take (plc K k),blt q.1 k:=fun q hq=>by
 obtain⟨i,hi,e⟩:=List.getElem_of_mem hq
 rw[List.length_take] at hi
 rw[List.getElem_take] at e
 rw[← e]
 exact plc_lt (by omega)
theorem ris_drop {K:List CL} (hr:Ris K) {k:ByteArray} (h:isK K k=false):∀ q∈K.drop (plc K k),blt k q.1:=fun q hq=>by
 obtain⟨i,hi,e⟩:=List.getElem_of_mem hq
 rw[List.length_drop] at hi
 rw[List.getElem_drop] at e
 have h1:=plc_ge hr (k:=k) (i:=plc K k+i) (by omega) (by omega)
 rw[e] at h1
 by_cases h2:blt k q.1
 ·exact h2
 ·have:k=q.1:=blt_tri h2 h1
  exact absurd this.symm (isK_no hr h q (List.mem_of_mem_drop hq))
theorem ris_drop1 {K:List CL} (hr:Ris K) {k:ByteArray} (h:isK K k=true):∀ q∈K.drop (plc K k+1),blt k q.1:=fun q hq=>by
 obtain⟨hp,e0⟩:=isK_at h
 obtain⟨i,hi,e⟩:=List.getElem_of_mem hq
 rw[List.length_drop] at hi
 rw[List.getElem_drop] at e
 have:=List.pairwise_iff_getElem.1 hr (plc K k) (plc K k+1+i) hp (by omega) (by omega)
 rw[e0,e] at this
 exact this
def delK (K:List CL) (k:ByteArray):List CL:=if isK K k then K.take (plc K k)++K.drop (plc K k+1) else K
def putK (K:List CL) (c:CL):List CL:=K.take (plc K c.1)++[c]++K.drop (plc K c.1+if isK K c.1 then 1 else 0)
theorem delK_ris {K:List CL} (hr:Ris K) (k:ByteArray):Ris (delK K k):=by
 unfold delK
 split
 ·have h2:(K.take (plc K k)++K.drop (plc K k+1)).Sublist K:=by
   conv=>rhs;rw[← List.take_append_drop (plc K k) K]
   exact(List.Sublist.refl _).append (List.drop_sublist_drop_left K (Nat.le_succ _))
  exact List.Pairwise.sublist h2 hr
 ·exact hr
theorem delK_mem {K:List CL} (hr:Ris K) {k:ByteArray} {q:CL}:q∈delK K k↔(q.1≠k/\q∈K):=by
 unfold delK
 cases h:isK K k with
 | true =>
  rw[if_pos rfl]
  obtain⟨hp,e⟩:=isK_at h
  have h1:=ris_take K k
  have h2:=ris_drop1 hr h
  constructor
  ·intro hq
   rcases List.mem_append.1 hq with h3 |h3
   ·exact⟨blt_ne (h1 q h3),List.mem_of_mem_take h3⟩
   ·exact⟨fun e=>blt_ne (h2 q h3) e.symm,List.mem_of_mem_drop h3⟩
  ·rintro⟨h3,h4⟩
   rw[← List.take_append_drop (plc K k) K,List.mem_append] at h4
   rcases h4 with h4 |h4
   ·exact List.mem_append_left _ h4
   ·rw[List.drop_eq_getElem_cons hp,List.mem_cons] at h4
    rcases h4 with rfl |h4
    ·exact absurd e h3
    ·exact List.mem_append_right _ h4
 | false =>
  rw[if_neg (by simp)]
  exact⟨fun hq=>⟨isK_no hr h q hq,hq⟩,fun h=>h.2⟩
theorem putK_drop {K:List CL} (hr:Ris K) (k:ByteArray):∀ q∈K.drop (plc K k+if isK K k then 1 else 0),blt k q.1:=by
 cases h:isK K k with
 | true=>rw[if_pos rfl];exact ris_drop1 hr h
 | false=>rw[if_neg (by simp)];exact ris_drop hr h
theorem putK_ris {K:List CL} (hr:Ris K) (c:CL):Ris (putK K c):=by
 unfold putK
 have h1:=ris_take K c.1
 have h2:=putK_drop hr c.1
 unfold Ris
 rw[List.append_assoc,List.pairwise_append]
 refine⟨List.Pairwise.sublist (List.take_sublist _ _) hr,?_,?_⟩
 ·rw[List.singleton_append,List.pairwise_cons]
  exact⟨fun q hq=>h2 q hq,List.Pairwise.sublist (List.drop_sublist _ _) hr⟩
 ·intro a ha b hb
  rw[List.singleton_append,List.mem_cons] at hb
  rcases hb with rfl |hb
  ·exact h1 a ha
  ·exact blt_trans (h1 a ha) (h2 b hb)
theorem putK_mem {K:List CL} (hr:Ris K) {c q:CL}:q∈putK K c↔(q=c∨(q.1≠c.1/\q∈K)):=by
 have h1:=ris_take K c.1
 have h2:=putK_drop hr c.1
 unfold putK
 simp only[List.mem_append,List.mem_singleton]
 constructor
 ·rintro((h |h) |h)
  ·exact Or.inr ⟨blt_ne (h1 q h),List.mem_of_mem_take h⟩
  ·exact Or.inl h
  ·exact Or.inr ⟨fun e=>blt_ne (h2 q h) e.symm,List.mem_of_mem_drop h⟩
 ·rintro(h |⟨h3,h4⟩)
  ·exact Or.inl (Or.inr h)
  ·rw[← List.take_append_drop (plc K c.1) K,List.mem_append] at h4
   rcases h4 with h4 |h4
   ·exact Or.inl (Or.inl h4)
   ·right
    cases h:isK K c.1 with
    | true =>
     obtain⟨hp,e⟩:=isK_at h
     rw[if_pos rfl]
     rw[List.drop_eq_getElem_cons hp,List.mem_cons] at h4
     rcases h4 with rfl |h4
     ·exact absurd e h3
     ·exact h4
    | false=>rw[if_neg (by simp)];exact h4
theorem ris_uniq:∀ {K L:List CL},Ris K->Ris L->(∀ c,c∈K↔c∈L)->K=L
 | [],[],_,_,_=>rfl
 | [],b :: L,_,_,h=>by have:=(h b).2 (List.mem_cons_self ..);cases this
 | a :: K,[],_,_,h=>by have:=(h a).1 (List.mem_cons_self ..);cases this
 | a :: K,b :: L,hk,hl,h=>by
  have hk':=List.pairwise_cons.1 hk
  have hl':=List.pairwise_cons.1 hl
  have e:a=b:=by
   rcases List.mem_cons.1 ((h a).1 (List.mem_cons_self ..)) with h1 |h1
   ·exact h1
   ·rcases List.mem_cons.1 ((h b).2 (List.mem_cons_self ..)) with h2 |h2
    ·exact h2.symm
    ·exact absurd (blt_trans (hl'.1 a h1) (hk'.1 b h2)) (blt_irr _)
  subst e
  congr 1
  refine ris_uniq hk'.2 hl'.2 fun c=>⟨fun hc=>?_,fun hc=>?_⟩
  ·rcases List.mem_cons.1 ((h c).1 (List.mem_cons_of_mem _ hc)) with h1 |h1
   ·subst h1;exact absurd (hk'.1 c hc) (blt_irr _)
   ·exact h1
  ·rcases List.mem_cons.1 ((h c).2 (List.mem_cons_of_mem _ hc)) with h1 |h1
   ·subst h1;exact absurd (hl'.1 c hc) (blt_irr _)
   ·exact h1
theorem delK_len (K:List CL) (k:ByteArray):(delK K k).length<=K.length:=by
 unfold delK
 split
 ·rw[List.length_append,List.length_take,List.length_drop];omega
 ·exact Nat.le_refl _
theorem putK_len (K:List CL) (c:CL):(putK K c).length<=K.length+1:=by
 unfold putK
 rw[List.length_append,List.length_append,List.length_take,List.length_drop,List.length_singleton]
 have:=plc_le K c.1
 split <;> omega
structure Hs where
 v:ByteArray
 is:Bool
 deriving Inhabited
def Hs.A (h:Hs):Array Value:=#[.string h.v,.bool h.is]
def comK (K:List CL) (k:ByteArray) (h:Hs):List CL:=if h.is then putK K (k,h.v) else delK K k
theorem comK_ris {K:List CL} (hr:Ris K) (k:ByteArray) (h:Hs):Ris (comK K k h):=by
 unfold comK;split
 ·exact putK_ris hr _
 ·exact delK_ris hr _
theorem comK_mem {K:List CL} (hr:Ris K) {k:ByteArray} {h:Hs} {q:CL}:q∈comK K k h↔(if q.1=k then(h.is=true/\q.2=h.v) else q∈K):=by
 unfold comK
 by_cases e:q.1=k
 ·rw[if_pos e]
  cases hi:h.is with
  | true =>
   rw[if_pos rfl,putK_mem hr]
   constructor
   ·rintro(h1 |h1)
    ·exact⟨rfl,by rw[h1]⟩
    ·exact absurd e h1.1
   ·rintro⟨_,h2⟩
    exact Or.inl (Prod.ext e h2)
  | false =>
   rw[if_neg (by simp),delK_mem hr]
   exact⟨fun h1=>absurd e h1.1,fun h1=>by cases h1.1⟩
 ·rw[if_neg e]
  cases hi:h.is with
  | true =>
   rw[if_pos rfl,putK_mem hr]
   exact⟨fun h1=>h1.elim (fun h2=>absurd (by rw[h2]) e) (fun h2=>h2.2),fun h1=>Or.inr ⟨e,h1⟩⟩
  | false =>
   rw[if_neg (by simp),delK_mem hr]
   exact⟨fun h1=>h1.2,fun h1=>⟨e,h1⟩⟩
theorem comK_len (K:List CL) (k:ByteArray) (h:Hs):(comK K k h).length<=K.length+1:=by
 unfold comK;split
 ·exact putK_len K _
 ·have:=delK_len K k;omega
end Go.Proofs.YtdchjncnjgelhaaGreat.Fd
namespace Go.Proofs.YtdchjncnjgelhaaGreat.Gm
open Go.RowKit
theorem lt_of {w:World} {j:Nat} {o:Obj} (h:w.heap[j]?=some o):j<w.heap.size:=(Array.getElem?_eq_some_iff.1 h).1
theorem thn {w w1 w2:World} (h:Below w.heap.size w w1) (k:Below w1.heap.size w1 w2):Below w.heap.size w w2:=h.trans (k.mono h.size)
theorem bl1 {w:World} (o:Obj):Below w.heap.size w (w.alloc o):=(Below.refl _ _).alloc (Nat.le_refl _) _
theorem bdr {w w':World} {B:Nat} (h:Below B w w') (q:Nat):Below B w (w'.drewN q):=⟨h.os,h.tape,h.output,h.size,h.block⟩
structure Fr (W W':Nat->Prop) (w w':World):Prop where
 os:w'.os=w.os
 tape:w'.tape=w.tape
 output:w'.output=w.output
 size:w.heap.size<=w'.heap.size
 blk:∀ j,j<w.heap.size->¬ W j->w'.heap[j]?=w.heap[j]?
 sub:∀ j,W' j->W j∨w.heap.size<=j
section
variable {W W' W2 V:Nat->Prop}{w w' w2:World}
theorem Fr.refl (W:Nat->Prop) (w:World):Fr W W w w:=⟨rfl,rfl,rfl,Nat.le_refl _,fun _ _ _=>rfl,fun _ h=>Or.inl h⟩
theorem Fr.trans (h:Fr W W' w w') (k:Fr W' W2 w' w2):Fr W W2 w w2:=⟨k.os.trans h.os,k.tape.trans h.tape,k.output.trans h.output,Nat.le_trans h.size k.size,fun j hj hn=>(k.blk j (Nat.lt_of_lt_of_le hj h.size) (fun e=>(h.sub j e).elim hn (fun e2=>by omega))).trans (h.blk j hj hn),fun j hj=>(k.sub j hj).elim (h.sub j) (fun e=>Or.inr (Nat.le_trans h.size e))⟩
theorem Fr.of_below (h:Below w.heap.size w w') (W:Nat->Prop):Fr W W w w':=⟨h.os,h.tape,h.output,h.size,fun j hj _=>h.block j hj,fun _ h=>Or.inl h⟩
theorem Fr.below (h:Fr W W' w w') (k:Below w'.heap.size w' w2):Fr W W' w w2:=h.trans (Fr.of_below k W')
theorem Fr.more (h:Fr W W' w w') (hV:∀ j,V j->W j∨w.heap.size<=j):Fr W V w w':=⟨h.os,h.tape,h.output,h.size,h.blk,hV⟩
theorem Fr.grown {r:Option Nat} (h:w.grownBy w' r) (hr:∀ g,r=some g->W g):Fr W W w w':=⟨h.os,h.tape,h.output,h.size,fun j hj hn=>h.block j hj (fun e=>hn (hr j e.symm)),fun _ h=>Or.inl h⟩
theorem Fr.wide (h:Fr W W' w w') (hV:∀ j,W j->V j):Fr V (fun j=>W' j∨V j) w w':=⟨h.os,h.tape,h.output,h.size,fun j hj hn=>h.blk j hj (fun e=>hn (hV j e)),fun j hj=>hj.elim (fun e=>(h.sub j e).imp (hV j) id) Or.inl⟩
theorem Fr.set {b:Nat} (h:Fr W W' w w') (hb:W' b) (i:Nat) (v:Value):Fr W W' w (w'.setCell ⟨b,i,none⟩ v):=h.trans ⟨rfl,rfl,rfl,by simp[World.setCell],fun j hj hn=>Below.heap_setCell w' _ v j (fun e=>hn (by rw[e];exact hb)),fun _ h=>Or.inl h⟩
theorem Fr.bel {B:Nat} (h:Fr W W' w w') (hW:∀ j,W j->B<=j) (hB:B<=w.heap.size):Below B w w':=⟨h.os,h.tape,h.output,h.size,fun k hk=>h.blk k (Nat.lt_of_lt_of_le hk hB) (fun e=>by have:=hW k e;omega)⟩
end
structure At (w:World) (b:Nat) (t:TypeId) (A:Array Value):Prop where
 blk:w.heap[b]?=some (.cells A t)
section
variable {w w':World}{b:Nat}{t:TypeId}{A A':Array Value}{W W':Nat->Prop}
theorem At.c (h:At w b t A) (i:Nat):w.cell? ⟨b,i,none⟩=A[i]?:=Joins.cell_of_block h.blk i
theorem At.f (h:At w b t A) (i:Nat):w.frozen? ⟨b,i,none⟩=false:=Joins.unfrozen_of_block h.blk i
theorem At.lt (h:At w b t A):b<w.heap.size:=lt_of h.blk
theorem At.keep (h:At w b t A) (hb:w'.heap[b]?=w.heap[b]?):At w' b t A:=⟨hb.trans h.blk⟩
theorem At.bel (h:At w b t A) (hb:Below w.heap.size w w'):At w' b t A:=h.keep (hb.block b h.lt)
theorem At.fr (h:At w b t A) (hf:Fr W W' w w') (hn:¬ W b):At w' b t A:=h.keep (hf.blk b h.lt hn)
theorem At.new (w:World) (A:Array Value) (t:TypeId):At (w.alloc (.cells A t)) w.heap.size t A:=⟨(MapKept.heap_alloc w _).1⟩
theorem At.set (h:At w b t A) (i:Nat) (v:Value):At (w.setCell ⟨b,i,none⟩ v) b t (A.setIfInBounds i v):=⟨Joins.block_setCell h.blk _⟩
theorem At.range (h:At w b t A):w.rangeAt b 0 A.toList:=fun j v hv=>by
 rw[Nat.zero_add,h.c];simpa using hv
theorem At.tag (h:At w b t A) {t':TypeId} {A':Array Value} (h':w.heap[b]?=some (.cells A' t')):t'=t:=by
 rw[h.blk] at h';simp at h';exact h'.2.symm
end
structure St (t:TypeId) (k:Nat):Prop where
 un:∃ fs,Tryz.prog.underlying t=some (.struct fs)
 info:(Tryz.prog.info? t).map (·.size)=some k
structure New (w w':World) (b:Nat) (t:TypeId) (A:Array Value):Prop where
 is:At w' b t A
 bel:Below w.heap.size w w'
 eq:b=w.heap.size
structure Put (w w':World) (b:Nat) (t:TypeId) (A:Array Value):Prop where
 is:At w' b t A
 off:∀ j,j≠b->w'.heap[j]?=w.heap[j]?
 fr:∀ W:Nat->Prop,W b->Fr W W w w'
section
variable {ops:Array Oper}{rest:List Oper}{o:Oper}{a:Act}{Q:Exit->Act->World->Prop}{t:TypeId}{k:Nat}{A A':Array Value}
theorem wpList_box_at (w:World) (hg:o.guard=none) (x:Operand) (hop:o.op=Op.box t x) (hx:a.eval x=.agg A)
  (h:∀ w' b,New w w' b t A->wpList Tryz.prog ops Q rest (a.put o.dst (.pointer (some ⟨b,0,none⟩))) w'):wpList Tryz.prog ops Q (o ::rest) a w:=by
 refine wpList_plain hg fun K' hK'=>?_
 unfold Oper.wp
 simp[execOp,hop,hx,Instr.box,Result.andThen,Value.cells]
 exact hK' _ _ (h _ _ ⟨At.new _ _ _,bl1 _,rfl⟩)
theorem wpList_new_at (w:World) (hz:∀ w,(zeroValue t).run Tryz.prog w=.ok (.agg A) w) (hg:o.guard=none) (hop:o.op=Op.alloc t)
  (h:∀ w' b,New w w' b t A->wpList Tryz.prog ops Q rest (a.put o.dst (.pointer (some ⟨b,0,none⟩))) w'):wpList Tryz.prog ops Q (o ::rest) a w:=by
 refine wpList_plain hg fun K' hK'=>?_
 unfold Oper.wp
 simp[execOp,hop,Instr.alloc,hz,Result.andThen,Value.cells]
 exact hK' _ _ (h _ _ ⟨At.new _ _ _,bl1 _,rfl⟩)
theorem wpList_load_at (hS:St t k) {b:Nat} (w:World) (hg:o.guard=none) (x:Operand) (hop:o.op=Op.load t x) (hx:a.eval x=.pointer (some ⟨b,0,none⟩)) (hs:At w b t A) (hk:A.size=k)
  (h:wpList Tryz.prog ops Q rest (a.put o.dst (.agg A)) w):wpList Tryz.prog ops Q (o ::rest) a w:=by
 obtain⟨d,h1⟩:=hS.un
 exact wpList_load_row hg t x hop b hx t A (0,0) _ hs.blk h1 rfl (by rw[hk];exact hS.info) h
theorem wpList_load_in (hS:St t k) {g of:Nat} (w:World) (hg:o.guard=none) (x:Operand) (hop:o.op=Op.load t x) (hx:a.eval x=.pointer (some ⟨g,of,none⟩)) (hr:w.rangeAt g of A.toList) (hk:A.size=k)
  (h:wpList Tryz.prog ops Q rest (a.put o.dst (.agg A)) w):wpList Tryz.prog ops Q (o ::rest) a w:=by
 obtain⟨d,h1⟩:=hS.un
 exact wpList_load_mid hg t x hop g of hx A.toList _ hr h1 rfl (by rw[Array.length_toList,hk];exact hS.info) (by simpa using h)
theorem setCells_at {w:World} {b:Nat} (h:At w b t A) (hk:A'.size=A.size) (h1:∀ v∈A'.toList,v.oneCell'=true):w.setCells b 0 A'.toList=w.setRow b A':=by
 have hth:∀ j,j<A.size->((w.cell? ⟨b,0+j,none⟩).isSome=true):=fun j hj=>by
  rw[h.c]
  simp[hj]
 have e1:=run_storeCells_at Tryz.prog b 0 t A'.toList 0 A w h.blk (by simp[hk]) h1
 have e2:=run_storeCells_cells (P:=Tryz.prog) b 0 A'.toList 0 w (fun j hj=>by have:=hth j (by rw[← hk];simpa using hj);simpa using this) (fun j hj=>by have:=h.f (0+0+j);simpa using this) h1
 have e:(List.take (0+0) A.toList++A'.toList++List.drop (0+0+A'.toList.length) A.toList).toArray=A':=by
  have:List.drop (0+0+A'.toList.length) A.toList=[]:=List.drop_eq_nil_of_le (by simp[hk])
  rw[this]
  simp
 rw[e,e2] at e1
 simpa using e1
theorem wpList_put_at (hS:St t k) {b:Nat} (w:World) (hg:o.guard=none) (x y:Operand) (hop:o.op=Op.store t x y)
  (hx:a.eval x=.pointer (some ⟨b,0,none⟩)) (hy:a.eval y=.agg A') (hs:At w b t A) (hk:A.size=k) (hk':A'.size=k) (h1:∀ v∈A'.toList,v.oneCell'=true)
  (h:∀ w',Put w w' b t A'->wpList Tryz.prog ops Q rest (a.put o.dst undef) w'):wpList Tryz.prog ops Q (o ::rest) a w:=by
 refine wpList_store_mid hg t x y hop b 0 A' hx hy ?_ (by rw[hk'];exact hS.info) (Array.all_eq_true_iff_forall_mem.2 (fun v hv=>h1 v (by simpa using hv))) ?_
 ·intro j hj
  refine⟨?_,hs.f _⟩
  rw[hs.c]
  have:j<A.size:=by omega
  simp[this]
 ·rw[setCells_at hs (by omega) h1]
  refine h _ ⟨⟨setRow_heap w b _ _ t _ hs.blk⟩,fun k hk=>setRow_other w b k _ hk,fun W hW=>⟨rfl,rfl,rfl,by simp,fun k _ hk=>setRow_other w b k _ (fun e=>hk (e ▸ hW)),fun _ h=>Or.inl h⟩⟩
theorem wp_load1 {K:Act->World->Prop} {b k':Nat} {v:Value} (w:World) (x:Operand) (hop:o.op=Op.load t x) (hx:a.eval x=.pointer (some ⟨b,k',none⟩)) (hr:(Instr.loadAt t (.pointer (some ⟨b,k',none⟩))).run Tryz.prog w=.ok v w) (h:K (a.put o.dst v) w):o.wp Tryz.prog a w K Q:=by
 unfold Oper.wp
 simp[execOp,hop,hx,hr,Result.andThen]
 exact h
theorem wp_build1 {K:Act->World->Prop} {sl el:TypeId} (w:World) (x:Operand) (hop:o.op=Op.buildSlice sl 1 #[(0,x)]) {u:Value} {A:Array Value} (hx:a.eval x=u)
  (hb:∀ w,(Instr.buildSlice sl 1 #[(0,u)]).run Tryz.prog w=.ok (.slice (some ⟨w.heap.size,0,none⟩) 1 1) (w.alloc (.cells A el)))
  (h:∀ w' b,New w w' b el A->K (a.put o.dst (.slice (some ⟨b,0,none⟩) 1 1)) w'):o.wp Tryz.prog a w K Q:=by
 unfold Oper.wp execOp
 simp only[hop,List.map_toArray,List.map_cons,List.map_nil,hx,Sem.run_bind,Sem.run_pure,Result.andThen_ok,hb]
 exact h _ _ ⟨At.new _ _ _,bl1 _,rfl⟩
theorem run_set1 {b k:Nat} {u v:Value} (w:World) (t:TypeId) (hu:w.cell? ⟨b,k,none⟩=some u) (hf:w.frozen? ⟨b,k,none⟩=false) (h1:v.oneCell'=true) (hi:(Tryz.prog.info? t).map (·.size)=some 1):(Instr.storeAt t (.pointer (some ⟨b,k,none⟩)) v).run Tryz.prog w=.ok () (w.setCell ⟨b,k,none⟩ v):=by
 have hcs:v.cells=#[v]:=by cases v <;> first |rfl |cases h1
 have g1:∀ j,j<[v].length->(w.cell? ⟨b,k+0+j,none⟩).isSome=true:=by
  intro j hj
  obtain rfl:j=0:=by simpa using hj
  simp[hu]
 have g2:∀ j,j<[v].length->w.frozen? ⟨b,k+0+j,none⟩=false:=by
  intro j hj
  obtain rfl:j=0:=by simpa using hj
  simpa using hf
 have:=run_storeCells_cells (P:=Tryz.prog) b k [v] 0 w g1 g2 (fun x hx=>by simp at hx;subst hx;exact h1)
 cases hq:Tryz.prog.info? t with
 | none=>simp[hq] at hi
 | some i =>
  have hs:i.size=1:=by simpa[hq] using hi
  simp only[Nat.add_zero] at this
  simp[Instr.storeAt,Instr.sureAddr,storeVar,sizeOf,typeInfo,hq,hcs,hs,this,World.setCells]
theorem wpList_set1 {b k':Nat} {u v:Value} (w:World) (hg:o.guard=none) (t:TypeId) (x y:Operand) (hop:o.op=Op.store t x y) (hx:a.eval x=.pointer (some ⟨b,k',none⟩)) (hy:a.eval y=v) (hu:w.cell? ⟨b,k',none⟩=some u) (hf:w.frozen? ⟨b,k',none⟩=false) (h1:v.oneCell'=true) (hi:(Tryz.prog.info? t).map (·.size)=some 1)
  (h:∀ w',w'=w.setCell ⟨b,k',none⟩ v->wpList Tryz.prog ops Q rest (a.put o.dst undef) w'):wpList Tryz.prog ops Q (o ::rest) a w:=by
 refine wpList_plain hg fun K' hK'=>?_
 have hrun:=run_set1 (v:=v) w t hu hf h1 hi
 unfold Oper.wp
 simp[execOp,hop,hx,hy,hrun,Result.andThen]
 exact hK' _ _ (h _ rfl)
theorem wp_set1 {K:Act->World->Prop} {b k':Nat} {u v:Value} (w:World) (t:TypeId) (x y:Operand) (hop:o.op=Op.store t x y) (hx:a.eval x=.pointer (some ⟨b,k',none⟩)) (hy:a.eval y=v) (hu:w.cell? ⟨b,k',none⟩=some u) (hf:w.frozen? ⟨b,k',none⟩=false) (h1:v.oneCell'=true) (hi:(Tryz.prog.info? t).map (·.size)=some 1)
  (h:∀ w',w'=w.setCell ⟨b,k',none⟩ v->K (a.put o.dst undef) w'):o.wp Tryz.prog a w K Q:=by
 have hrun:=run_set1 (v:=v) w t hu hf h1 hi
 unfold Oper.wp
 simp[execOp,hop,hx,hy,hrun,Result.andThen]
 exact h _ rfl
theorem results_at2 (hS:St t k) {fn:Func} {p u:Tmp} (h:fn.results=#[.cell p t,.tmp u]) (tmps:Array Value) (w:World) {b:Nat}
  (hp:tmps.getD p undef=.pointer (some ⟨b,0,none⟩)) (hg:At w b t A) (hk:A.size=k):(results fn tmps).run Tryz.prog w=.ok (.tuple #[.agg A,tmps.getD u undef]) w:=by
 obtain⟨d,h1⟩:=hS.un
 have hl:=run_loadVar_row (P:=Tryz.prog) w b t t A (0,0) _ hg.blk h1 rfl (by rw[hk];exact hS.info)
 have hp':tmps[p]?.getD undef=.pointer (some ⟨b,0,none⟩):=by simpa using hp
 simp only[results,h]
 simp[Sem.run_bind,Result.andThen,hp',asAddr,hl]
end
structure Row (w:World) (t:TypeId) (k:Nat) (v:Value) (L:List (List Value)):Prop where
 ks:∀ c∈L,c.length=k
 row:w.ownsRow 0 t k v L.length L.flatten
theorem flat_len {k:Nat}:∀ {L:List (List Value)},(∀ c∈L,c.length=k)->L.flatten.length=L.length*k
 | [],_=>by simp
 | c :: L,h=>by
  have:=flat_len (L:=L) (fun d hd=>h d (List.mem_cons_of_mem _ hd))
  simp only[List.flatten_cons,List.length_append,this,h c (List.mem_cons_self ..),List.length_cons,Nat.add_mul]
  omega
theorem flat_get {k:Nat}:∀ {L:List (List Value)},(∀ c∈L,c.length=k)->∀ (i:Nat) (hi:i<L.length) (j:Nat),j<k->L.flatten[i*k+j]?=(L[i])[j]?
 | [],_,i,hi,_,_=>absurd hi (Nat.not_lt_zero _)
 | c :: L,h,i,hi,j,hj=>by
  have hc:=h c (List.mem_cons_self ..)
  cases i with
  | zero=>rw[List.flatten_cons,Nat.zero_mul,Nat.zero_add,List.getElem?_append_left (by rw[hc];exact hj)];rfl
  | succ i =>
   have:=flat_get (L:=L) (fun d hd=>h d (List.mem_cons_of_mem _ hd)) i (by simpa using hi) j hj
   rw[List.flatten_cons,List.getElem?_append_right (by rw[hc,Nat.add_mul];omega),hc,show(i+1)*k+j-k=i*k+j by rw[Nat.add_mul];omega,this]
   rfl
section
variable {w w':World}{t:TypeId}{k:Nat}{v:Value}{L M:List (List Value)}
theorem Row.nil (w:World) (t:TypeId) (k:Nat):Row w t k (.slice none 0 0) []:=⟨(fun c h=>by cases h),by simp,Or.inl ⟨rfl,rfl⟩⟩
theorem Row.empty {b:Nat} (h:At w b t #[]):Row w t k (.slice (some ⟨b,0,none⟩) 0 0) []:=⟨(fun c h=>by cases h),by simp,Or.inr ⟨b,0,#[],rfl,Nat.zero_le _,h.blk,by simp,by unfold maxLen;omega,by simp,by simp⟩⟩
theorem Row.sl (h:Row w t k v L):∃ a c,v=.slice a L.length c/\L.length<=c:=by
 rcases h.row.2 with⟨h1,h2⟩ |⟨g,cap,cur,e,_,_,h3,_⟩
 ·exact⟨none,0,by rw[h1,h2],by omega⟩
 ·exact⟨_,_,e,h3⟩
theorem Row.blkAt {g:Nat} (h:Row w t k v L) (e:v.ownBlock=some g):∃ cur,w.heap[g]?=some (.cells cur t):=by
 rcases h.row.2 with⟨h1,h2⟩ |⟨g',cap,cur,e',hB,hg,h3⟩
 ·rw[h1] at e;cases e
 ·rw[e'] at e;cases e;exact⟨cur,hg⟩
theorem Row.lt {g:Nat} (h:Row w t k v L) (e:v.ownBlock=some g):g<w.heap.size:=by obtain⟨cur,hc⟩:=h.blkAt e;exact lt_of hc
theorem Row.ne {g b:Nat} {t':TypeId} {A:Array Value} (h:Row w t k v L) (hb:At w b t' A) (ht:t≠t'):v.ownBlock≠some b:=fun e=>by
 obtain⟨cur,hc⟩:=h.blkAt e
 exact ht (hb.tag hc)
theorem Row.keep (h:Row w t k v L) (hb:∀ g,v.ownBlock=some g->w'.heap[g]?=w.heap[g]?):Row w' t k v L:=by
 refine⟨h.ks,h.row.1,?_⟩
 rcases h.row.2 with h2 |⟨g,cap,cur,e,hB,hg,h3⟩
 ·exact Or.inl h2
 ·exact Or.inr ⟨g,cap,cur,e,hB,(hb g (by rw[e];rfl)).trans hg,h3⟩
theorem Row.bel (h:Row w t k v L) (hb:Below w.heap.size w w'):Row w' t k v L:=h.keep fun g e=>hb.block g (h.lt e)
theorem Row.at_ {a:Option Addr} {n c:Nat} (h:Row w t k (.slice a n c) L) {i:Nat} (hi:i<L.length):∃ g,a=some ⟨g,0,none⟩/\g<w.heap.size/\∀ w':World,w'.heap[g]?=w.heap[g]?->w'.rangeAt g (i*k) L[i]/\∀ j,w'.frozen? ⟨g,j,none⟩=false:=by
 rcases h.row.2 with⟨_,h2⟩ |⟨g,cap,cur,e,hB,hg,h3,h4,h5,h6⟩
 ·omega
 ·cases e
  refine⟨g,rfl,lt_of hg,fun w' hw=>⟨?_,fun j=>Joins.unfrozen_of_block (hw.trans hg) j⟩⟩
  intro j u hu
  have hj:j<k:=by
   have:=(List.getElem?_eq_some_iff.1 hu).1
   rwa [h.ks _ (List.getElem_mem hi)] at this
  have hk:=flat_get h.ks i hi j hj
  rw[hu] at hk
  rw[cell_of_row w' g _ cur t (0,0) (hw.trans hg)]
  rw[← h6,List.getElem?_take] at hk
  split at hk
  ·simpa using hk
  ·cases hk
theorem Row.seg {g n c:Nat} (h:Row w t k (.slice (some ⟨g,0,none⟩) n c) L) {A M R:List (List Value)} (e:L=A++M++R):∀ j u,M.flatten[j]?=some u->w.cell? ⟨g,A.length*k+j,none⟩=some u:=by
 intro j u hu
 have ha:=flat_len (L:=A) (k:=k) (fun d hd=>h.ks d (by rw[e];simp[hd]))
 rcases h.row.2 with⟨e',_⟩ |⟨g',cap,cur,e',hB,hg,h3,h4,h5,h6⟩
 ·cases e'
 ·cases e'
  rw[cell_of_row w g _ cur t (0,0) hg]
  have hj:=(List.getElem?_eq_some_iff.1 hu).1
  have hf:L.flatten[A.length*k+j]?=some u:=by
   rw[e,List.flatten_append,List.flatten_append,List.append_assoc,List.getElem?_append_right (by omega),ha,List.getElem?_append_left (by omega),← hu]
   congr 1
   omega
  rw[← h6,List.getElem?_take] at hf
  split at hf
  ·simpa using hf
  ·cases hf
end
structure El (sl el:TypeId) (k:Nat) (z:Value):Prop where
 un:Tryz.prog.underlying sl=some (.slice el)
 info:∃ i,Tryz.prog.info? el=some i/\i.zero=some z/\i.size=k/\i.bytes<=200
 zc:z.cells.size=k
 k0:0<k
theorem append_gen {sl el:TypeId} {k:Nat} {z:Value} (hE:El sl el k z) {w:World} {v:Value} {L M:List (List Value)} (hR:Row w el k v L) (g of c:Nat) (hM:∀ d∈M,d.length=k)
  (hnews:∀ j u,M.flatten[j]?=some u->w.cell? ⟨g,of+j,none⟩=some u) (h1:∀ u∈M.flatten,u.oneCell'=true) (hn:L.length+M.length<=100000) (ty:TypeId) :
  ∃ v' w',(Builtin.append_ #[sl,sl] ty #[v,.slice (some ⟨g,of,none⟩) M.length c]).run Tryz.prog w=.ok v' w'/\Row w' el k v' (L++M)/\w.grownBy w' v.ownBlock/\(v'.ownBlock=v.ownBlock∨v'.ownBlock=some w.heap.size):=by
 obtain⟨i,hi,hz0,hz1,hz2⟩:=hE.info
 have hrow:=hR.row
 have hl:M.flatten.length=M.length*k:=flat_len hM
 have hadd:∀ j,(⟨g,of,none⟩:Addr).add j=⟨g,of+j,none⟩:=fun j=>Addr.add_mid g of j
 have hnews':∀ j u,M.flatten[j]?=some u->w.cell? ((⟨g,of,none⟩:Addr).add j)=some u:=fun j u hu=>by rw[hadd];exact hnews j u hu
 have hby:(L.length+M.length)*i.bytes<=140737488355328:=Nat.le_trans (Nat.mul_le_mul hn hz2) (by omega)
 obtain⟨v',w',hr,ho,hgr,_⟩:=run_append_own (P:=Tryz.prog) w 0 sl ty el i z k i.bytes hE.un hi hz0 hz1 rfl hE.zc hE.k0 v L.length L.flatten hrow ⟨g,of,none⟩ M.length c M.flatten hl hnews' h1 (by unfold maxLen;omega) hby (Nat.zero_le _)
 refine⟨v',w',hr,⟨fun d hd=>(List.mem_append.1 hd).elim (hR.ks d) (hM d),by rw[List.length_append,List.flatten_append];exact ho⟩,hgr,?_⟩
 have hl1:M.flatten.length=M.length*i.size:=by rw[hz1];exact hl
 rcases hrow.2 with⟨rfl,hn0⟩ |⟨b,cap,cur,rfl,hbg,hgg,hnc,hcm,hcs,htake⟩
 ·rcases Nat.eq_zero_or_pos M.length with h0 |hmp
  ·have hf:=run_firstCells_some (P:=Tryz.prog) w i.size 0 ⟨g,of,none⟩ 0 c [] (by simp) (fun j u hu=>by simp at hu)
   have hr2:(Builtin.append_ #[sl,sl] ty #[.slice none 0 0,.slice (some ⟨g,of,none⟩) 0 c]).run Tryz.prog w=.ok (.slice none 0 0) w:=by simp[Builtin.append_,run_underlying hE.un,sizeOf,typeInfo,hi,Builtin.lenOf,hf]
   rw[h0,hr2] at hr
   injection hr with e1 e2
   subst e1
   exact Or.inl rfl
  ·have hr2:=run_append_nil (P:=Tryz.prog) w sl ty el i z hE.un hi hz0 ⟨g,of,none⟩ M.length c M.flatten hl1 hnews' hmp (by omega) (by rw[hn0,Nat.zero_add] at hby;omega)
   rw[hr2] at hr
   injection hr with e1 e2
   subst e1
   exact Or.inr rfl
 ·by_cases hroom:L.length+M.length<=cap
  ·have hr2:=run_append_room (P:=Tryz.prog) w sl ty el i hE.un hi b L.length cap cur hgg ⟨g,of,none⟩ M.length c M.flatten hl1 hnews' h1 hroom (by rw[hz1,hcs,hl,← Nat.add_mul];exact Nat.mul_le_mul_right _ hroom)
   rw[hr2] at hr
   injection hr with e1 e2
   subst e1
   exact Or.inl rfl
  ·have holds:∀ j u,L.flatten[j]?=some u->w.cell? ((⟨b,0,none⟩:Addr).add j)=some u:=by
    intro j u hu
    rw[Addr.add_mid,Nat.zero_add,cell_of_row w b j cur el (0,0) hgg]
    rw[← htake,List.getElem?_take] at hu
    split at hu
    ·simpa using hu
    ·cases hu
   have hr2:=run_append_grow (P:=Tryz.prog) w sl ty el i z hE.un hi hz0 ⟨b,0,none⟩ L.length cap L.flatten (by rw[hz1,hrow.1]) holds ⟨g,of,none⟩ M.length c M.flatten hl1 hnews' (by omega) (by omega) (growslice_fits (by omega) (by omega))
   rw[hr2] at hr
   injection hr with e1 e2
   subst e1
   exact Or.inr rfl
structure App (w w':World) (t:TypeId) (k:Nat) (v v':Value) (L:List (List Value)):Prop where
 row:Row w' t k v' L
 grow:w.grownBy w' v.ownBlock
 own:v'.ownBlock=v.ownBlock∨v'.ownBlock=some w.heap.size
theorem App.fr {w w':World} {t:TypeId} {k:Nat} {v v':Value} {L:List (List Value)} (h:App w w' t k v v' L) {W W':Nat->Prop} (hW:∀ g,v.ownBlock=some g->W g) (hW':∀ j,W' j->W j∨v'.ownBlock=some j):Fr W W' w w' :=
 (Fr.grown h.grow hW).more fun j hj=>(hW' j hj).elim Or.inl fun e=>by
  rcases h.own with e2 |e2
  ·exact Or.inl (hW j (e2.symm.trans e))
  ·rw[e2] at e;cases e;exact Or.inr (Nat.le_refl _)
theorem App.bel {w w':World} {t:TypeId} {k B:Nat} {v v':Value} {L:List (List Value)} (h:App w w' t k v v' L) (hv:∀ g,v.ownBlock=some g->B<=g) (hB:B<=w.heap.size):Below B w w' :=
 (h.fr (W:=fun j=>v.ownBlock=some j) (W':=fun j=>v.ownBlock=some j) (fun g e=>e) (fun j hj=>Or.inl hj)).bel hv hB
section
variable {ops:Array Oper}{rest:List Oper}{o:Oper}{act:Act}{Q:Exit->Act->World->Prop}{sl el:TypeId}{k:Nat}{z:Value}
theorem wpList_build1 (w:World) (hg:o.guard=none) (x:Operand) (hop:o.op=Op.buildSlice sl 1 #[(0,x)]) {u:Value} {A:Array Value} (hx:act.eval x=u)
  (hb:∀ w,(Instr.buildSlice sl 1 #[(0,u)]).run Tryz.prog w=.ok (.slice (some ⟨w.heap.size,0,none⟩) 1 1) (w.alloc (.cells A el)))
  (h:∀ w' b,New w w' b el A->wpList Tryz.prog ops Q rest (act.put o.dst (.slice (some ⟨b,0,none⟩) 1 1)) w'):wpList Tryz.prog ops Q (o ::rest) act w:=by
 refine wpList_plain hg fun K' hK'=>?_
 unfold Oper.wp execOp
 simp only[hop,List.map_toArray,List.map_cons,List.map_nil,hx,Sem.run_bind,Sem.run_pure,Result.andThen_ok,hb]
 exact hK' _ _ (h _ _ ⟨At.new _ _ _,bl1 _,rfl⟩)
theorem wpList_build0 (w:World) (hg:o.guard=none) (hop:o.op=Op.buildSlice sl 0 #[]) (hb:∀ w,(Instr.buildSlice sl 0 #[]).run Tryz.prog w=.ok (.slice (some ⟨w.heap.size,0,none⟩) 0 0) (w.alloc (.cells #[] el)))
  (h:∀ w' b,New w w' b el #[]->wpList Tryz.prog ops Q rest (act.put o.dst (.slice (some ⟨b,0,none⟩) 0 0)) w'):wpList Tryz.prog ops Q (o ::rest) act w:=by
 refine wpList_plain hg fun K' hK'=>?_
 unfold Oper.wp execOp
 simp only[hop,List.map_toArray,List.map_nil,Sem.run_bind,Sem.run_pure,Result.andThen_ok,hb]
 exact hK' _ _ (h _ _ ⟨At.new _ _ _,bl1 _,rfl⟩)
theorem wpList_append (hE:El sl el k z) {w:World} (hgd:o.guard=none) (s x:Operand) (ho:o.op=.call {callee:=.builtin .append,args:=#[s,x],argTypes:=#[sl,sl]}) {v:Value} {L M:List (List Value)} {g of c m:Nat}
  (hs:act.eval s=v) (hR:Row w el k v L) (hx:act.eval x=.slice (some ⟨g,of,none⟩) m c) (hm:M.length=m) (hM:∀ d∈M,d.length=k) (hnews:∀ j u,M.flatten[j]?=some u->w.cell? ⟨g,of+j,none⟩=some u) (h1:∀ u∈M.flatten,u.oneCell'=true) (hn:L.length+M.length<=100000)
  (K:∀ a' c' w',App w w' el k v (.slice a' (L.length+m) c') (L++M)->wpList Tryz.prog ops Q rest (act.put o.dst (.slice a' (L.length+m) c')) w'):wpList Tryz.prog ops Q (o ::rest) act w:=by
 refine wpList_plain hgd fun K' hK=>?_
 subst hm
 obtain⟨v',w',hr,h2,h3,h4⟩:=append_gen hE hR g of c hM hnews h1 hn o.type
 obtain⟨a',c',e,_⟩:=h2.sl
 unfold Oper.wp execOp
 simp only[ho,resolve,invoke,builtin,Sem.run_bind,Sem.run_pure,Result.andThen_ok,List.map_toArray,List.map_cons,List.map_nil,hs,hx,hr]
 rw[List.length_append] at e
 subst e
 exact hK _ _ (K _ _ w' ⟨h2,h3,h4⟩)
theorem wpList_push (hE:El sl el k z) {w:World} (hgd:o.guard=none) (s x:Operand) (ho:o.op=.call {callee:=.builtin .append,args:=#[s,x],argTypes:=#[sl,sl]}) {v:Value} {L:List (List Value)} {A:Array Value} {b c:Nat}
  (hs:act.eval s=v) (hR:Row w el k v L) (hx:act.eval x=.slice (some ⟨b,0,none⟩) 1 c) (hb:At w b el A) (hk:A.size=k) (h1:∀ u∈A.toList,u.oneCell'=true) (hn:L.length<=90000)
  (K:∀ a' c' w',App w w' el k v (.slice a' (L.length+1) c') (L++[A.toList])->wpList Tryz.prog ops Q rest (act.put o.dst (.slice a' (L.length+1) c')) w'):wpList Tryz.prog ops Q (o ::rest) act w :=
 wpList_append hE hgd s x ho (M:=[A.toList]) hs hR hx rfl (fun d hd=>by rw[List.mem_singleton] at hd;rw[hd,Array.length_toList,hk]) (fun j u hu=>hb.range j u (by simpa using hu)) (fun u hu=>h1 u (by simpa using hu)) (by simp;omega) K
theorem step_push (hE:El sl el k z) {K:Act->World->Prop} {E:Prop} {w:World} (hgd:o.guard=none) (s x:Operand) (ho:o.op=.call {callee:=.builtin .append,args:=#[s,x],argTypes:=#[sl,sl]}) {v:Value} {L:List (List Value)} {A:Array Value} {b c:Nat}
  (hs:act.eval s=v) (hR:Row w el k v L) (hx:act.eval x=.slice (some ⟨b,0,none⟩) 1 c) (hb:At w b el A) (hk:A.size=k) (h1:∀ u∈A.toList,u.oneCell'=true) (hn:L.length<=90000)
  (hK:∀ a' c' w',App w w' el k v (.slice a' (L.length+1) c') (L++[A.toList])->K (act.put o.dst (.slice a' (L.length+1) c')) w') :
  if Region.wanted o (yielded ops act.tmps)=true then Oper.wp Tryz.prog o act w K Q else E:=by
 have hw:Region.wanted o (yielded ops act.tmps)=true:=by simp[Region.wanted,hgd]
 rw[if_pos hw]
 obtain⟨v',w',hr,h2,h3,h4⟩:=append_gen hE hR b 0 c (M:=[A.toList]) (fun d hd=>by rw[List.mem_singleton] at hd;rw[hd,Array.length_toList,hk]) (fun j u hu=>hb.range j u (by simpa using hu)) (fun u hu=>h1 u (by simpa using hu)) (by simp;omega) o.type
 obtain⟨a',c',e,_⟩:=h2.sl
 unfold Oper.wp execOp
 rw[List.length_singleton] at hr
 simp only[ho,resolve,invoke,builtin,Sem.run_bind,Sem.run_pure,Result.andThen_ok,List.map_toArray,List.map_cons,List.map_nil,hs,hx,hr]
 rw[List.length_append,List.length_singleton] at e
 subst e
 exact hK _ _ w' ⟨h2,h3,h4⟩
end
end Go.Proofs.YtdchjncnjgelhaaGreat.Gm
namespace Go.Proofs.YtdchjncnjgelhaaGreat.Fd
open Go.RowKit Gm
def zC:Value:=.agg #[.string ⟨#[]⟩,.string ⟨#[]⟩]
theorem append_own {sl el:TypeId} {k:Nat} {z:Value} (hE:El sl el k z) {w:World} {v:Value} {n:Nat} {xs:List Value} (hrow:w.ownsRow 0 el k v n xs) (ad:Addr) (hsp:ad.spot=none) (m c:Nat) (news:List Value) (hl:news.length=m*k)
  (hnews:∀ j u,news[j]?=some u->w.cell? (ad.add j)=some u) (h1:∀ u∈news,u.oneCell'=true) (hm:0<m) (hn:n+m<=100000) (ty:TypeId) :
  ∃ v' w',(Builtin.append_ #[sl,sl] ty #[v,.slice (some ad) m c]).run Tryz.prog w=.ok v' w'/\w'.ownsRow 0 el k v' (n+m) (xs++news)/\w.grownBy w' v.ownBlock/\(v'.ownBlock=v.ownBlock∨v'.ownBlock=some w.heap.size):=by
 obtain⟨i,hi,hz0,hz1,hz2⟩:=hE.info
 have hby:(n+m)*i.bytes<=140737488355328:=Nat.le_trans (Nat.mul_le_mul hn hz2) (by omega)
 obtain⟨v',w',hr,ho,hgr,_⟩:=run_append_own (P:=Tryz.prog) w 0 sl ty el i z k i.bytes hE.un hi hz0 hz1 rfl hE.zc hE.k0 v n xs hrow ad m c news hl hnews h1 (by unfold maxLen;omega) hby (Nat.zero_le _)
 refine⟨v',w',hr,ho,hgr,?_⟩
 have hl1:news.length=m*i.size:=by rw[hz1];exact hl
 rcases hrow.2 with⟨rfl,hn0⟩ |⟨b,cap,cur,rfl,hbg,hgg,hnc,hcm,hcs,htake⟩
 ·subst hn0
  have hr2:=run_append_nil (P:=Tryz.prog) w sl ty el i z hE.un hi hz0 ad m c news hl1 hnews hm (by omega) (by rw[Nat.zero_add] at hby;omega)
  rw[hr2] at hr
  injection hr with e1 e2
  subst e1
  exact Or.inr rfl
 ·by_cases hroom:n+m<=cap
  ·have hr2:=run_append_room (P:=Tryz.prog) w sl ty el i hE.un hi b n cap cur hgg ad m c news hl1 hnews h1 hroom (by rw[hz1,hcs,hl,← Nat.add_mul];exact Nat.mul_le_mul_right _ hroom)
   rw[hr2] at hr
   injection hr with e1 e2
   subst e1
   exact Or.inl rfl
  ·have holds:∀ j u,xs[j]?=some u->w.cell? ((⟨b,0,none⟩:Addr).add j)=some u:=by
    intro j u hu
    have hadd:(⟨b,0,none⟩:Addr).add j=⟨b,j,none⟩:=by unfold Addr.add;split <;> simp_all
    rw[hadd,cell_of_row w b j cur el (0,0) hgg]
    rw[← htake,List.getElem?_take] at hu
    split at hu
    ·simpa using hu
    ·cases hu
   have hr2:=run_append_grow (P:=Tryz.prog) w sl ty el i z hE.un hi hz0 ⟨b,0,none⟩ n cap xs (by rw[hz1,hrow.1]) holds ad m c news hl1 hnews (by omega) (by omega) (growslice_fits (by omega) (by omega))
   rw[hr2] at hr
   injection hr with e1 e2
   subst e1
   exact Or.inr rfl
theorem wpList_append_gen {ops:Array Oper} {rest:List Oper} {o:Oper} {act:Act} {Q:Exit->Act->World->Prop} {w:World} {sl el:TypeId} {k:Nat} {z:Value} (hE:El sl el k z) (hgd:o.guard=none) (s x:Operand)
  (ho:o.op=.call {callee:=.builtin .append,args:=#[s,x],argTypes:=#[sl,sl]}) {v:Value} {n:Nat} {xs:List Value} (hs:act.eval s=v) (hrow:w.ownsRow 0 el k v n xs)
  {ad:Addr} {m c:Nat} {news:List Value} (hx:act.eval x=.slice (some ad) m c) (hsp:ad.spot=none) (hl:news.length=m*k) (hnews:∀ j u,news[j]?=some u->w.cell? (ad.add j)=some u) (h1:∀ u∈news,u.oneCell'=true) (hm:0<m) (hn:n+m<=100000)
  (K:∀ v' w',w'.ownsRow 0 el k v' (n+m) (xs++news)->w.grownBy w' v.ownBlock->(v'.ownBlock=v.ownBlock∨v'.ownBlock=some w.heap.size)->wpList Tryz.prog ops Q rest (act.put o.dst v') w'):wpList Tryz.prog ops Q (o ::rest) act w:=by
 refine wpList_plain hgd fun K' hK=>?_
 obtain⟨v',w',hr,h2,h3,h4⟩:=append_own hE hrow ad hsp m c news hl hnews h1 hm hn o.type
 unfold Oper.wp execOp
 simp only[ho,resolve,invoke,builtin,Sem.run_bind,Sem.run_pure,Result.andThen_ok,List.map_toArray,List.map_cons,List.map_nil,hs,hx,hr]
 exact hK _ _ (K v' w' h2 h3 h4)
theorem run_copy_k (w:World) (dT sT ty elem:TypeId) (sz g o dLen dCap:Nat) (a:Addr) (sLen sCap:Nat) (cur:Array Value) (t:TypeId) (cs:List Value)
  (hu:Tryz.prog.underlying dT=some (.slice elem)) (hs:(Tryz.prog.info? elem).map (·.size)=some sz)
  (hg:w.heap[g]?=some (.cells cur t (0,0))) (hn:cs.length=Nat.min sLen dLen*sz)
  (hsrc:∀ j v,cs[j]?=some v->w.cell? (a.add j)=some v) (hfit:o+cs.length<=cur.size) (h1:∀ v∈cs,v.oneCell'=true) :
  (Builtin.copy_ #[dT,sT] ty #[.slice (some ⟨g,o,none⟩) dLen dCap,.slice (some a) sLen sCap]).run Tryz.prog w =
   .ok (goInt (Nat.min sLen dLen)) (w.setRow g (cur.toList.take o++cs++cur.toList.drop (o+cs.length)).toArray):=by
 have hl:=run_loadCells_list (P:=Tryz.prog) w a cs hsrc
 have hst:=run_storeCells_at Tryz.prog g o t cs 0 cur w hg (by simpa using hfit) h1
 cases hq:Tryz.prog.info? elem with
 | none=>simp[hq] at hs
 | some i =>
  have hi:i.size=sz:=by simpa[hq] using hs
  simp[Builtin.copy_,run_underlying hu,Builtin.lenOf,Builtin.firstCells,sizeOf,typeInfo,hq,hi,← hn,hl,hst]
theorem elC:El 60 69 2 (.agg #[.string ⟨#[]⟩,.string ⟨#[]⟩]):=⟨Tryz.underlying60,by
 obtain⟨i,h1,h2,h3,h4⟩:=info_parts (show(Tryz.prog.info? 69).map (fun i=>(i.zero,i.size,i.bytes))=some (some (.agg #[.string ⟨#[]⟩,.string ⟨#[]⟩]),2,32) by kernel_rfl)
 exact⟨i,h1,h2,h3,by omega⟩,rfl,by omega⟩
theorem size_ce:(Tryz.prog.info? 69).map (·.size)=some 2:=by kernel_rfl
theorem stC:St 69 2:=⟨⟨_,Tryz.underlying69⟩,by kernel_rfl⟩
def ins2 (xs:List Value) (i:Nat) (p t:Value):List Value:=xs.take (i*2)++[p,t]++xs.drop (i*2)
theorem ins2_end {xs:List Value} {n:Nat} (h:xs.length=n*2) (p t:Value):ins2 xs n p t=xs++[p,t]:=by
 unfold ins2
 rw[List.take_of_length_le (by omega),List.drop_of_length_le (by omega),List.append_nil]
structure Inew (w w':World) (v v':Value) (n:Nat) (xs:List Value):Prop where
 row:w'.ownsRow 0 69 2 v' n xs
 gr:w.grownBy w' v.ownBlock
 own:v'.ownBlock=v.ownBlock∨∃ g,v'.ownBlock=some g/\w.heap.size<=g
theorem cell_pair {w:World} {vb:Nat} {p t:Value} {ty:TypeId} (h:w.heap[vb]?=some (.cells #[p,t] ty)):∀ j u,[p,t][j]?=some u->w.cell? ((⟨vb,0,none⟩:Addr).add j)=some u:=fun j u hj=>by
 have hadd:(⟨vb,0,none⟩:Addr).add j=⟨vb,j,none⟩:=by unfold Addr.add;split <;> simp_all
 rw[hadd,cell_of_row w vb j _ ty (0,0) h]
 simpa using hj
set_option maxHeartbeats 1000000 in
theorem Insert_end {w:World} {v:Value} {n:Nat} {xs:List Value} (hrow:w.ownsRow 0 69 2 v n xs) (hn:n<=1000) (vb:Nat) (p:ByteArray) (t:ByteArray) (hvb:w.heap[vb]?=some (.cells #[.string p,.string t] 69)) :
  Calls Tryz.prog 116 #[v,.int .i64 (n:Int),.slice (some ⟨vb,0,none⟩) 1 1] w fun e w'=>∃ v',e=.returned v'/\Inew w w' v v' (n+1) (ins2 xs n (.string p) (.string t)):=by
 rw[ins2_end hrow.1]
 have hnews:=cell_pair hvb
 have hv:∃ a c,v=.slice a n c/\n<=c/\c<=maxLen/\(a=none->c=0)/\∀ ad,a=some ad->ad=⟨ad.block,0,none⟩:=by
  rcases hrow.2 with⟨rfl,hn0⟩ |⟨b,cap,cur,rfl,hb,hg,h1,h2,h3,h4⟩
  ·subst hn0
   exact⟨none,0,rfl,Nat.le_refl _,by unfold maxLen;omega,fun _=>rfl,fun _ e=>by cases e⟩
  ·exact⟨_,cap,rfl,h1,h2,(fun e=>by cases e),fun ad e=>by cases e;rfl⟩
 obtain⟨a,c,rfl,hc,hcm,ha,hb⟩:=hv
 have hcm':c<=9223372036854775807:=by unfold maxLen at hcm;omega
 rcases a with _ |⟨ab,ao,asp⟩
 ·have hc0:=ha rfl
  subst hc0
  have hn0:n=0:=by omega
  subst hn0
  clear hcm hb ha hvb
  go_enter Tryz.func116,Tryz.ntmps116
  go_wp2_with (at_builtin;refine wpList_append_gen elC rfl _ _ rfl rfl hrow (m:=1) (c:=1) (news:=[.string p,.string t]) rfl rfl rfl hnews (by intro u hu;simp at hu;rcases hu with rfl |rfl <;> rfl) (by omega) (by omega) ?_;intro v' w' r1 g1 o1)
  go_ret
  exact⟨_,rfl,r1,g1,o1.imp id (fun e=>⟨_,e,Nat.le_refl _⟩)⟩
 ·have e:=hb _ rfl
  cases e
  clear hcm hb ha hvb
  go_enter Tryz.func116,Tryz.ntmps116
  go_wp2_with (at_builtin;refine wpList_append_gen elC rfl _ _ rfl rfl hrow (m:=1) (c:=1) (news:=[.string p,.string t]) rfl rfl rfl hnews (by intro u hu;simp at hu;rcases hu with rfl |rfl <;> rfl) (by omega) (by omega) ?_;intro v' w' r1 g1 o1)
  all_goals go_ret
  all_goals exact⟨_,rfl,r1,g1,o1.imp id (fun e=>⟨_,e,Nat.le_refl _⟩)⟩
theorem take_cat {xs ys:List Value} {n:Nat} (h:xs.length=n):(xs++ys).take n=xs:=by subst h;simp
theorem drop_cat {xs ys:List Value} {n:Nat} (h:xs.length=n):(xs++ys).drop n=ys:=by subst h;simp
theorem shift_row {cur:Array Value} {xs:List Value} {n c i:Nat} (hx:cur.toList.take (n*2)=xs) (hl:xs.length=n*2) (hi:i<n) (hc:n+1<=c) (hz:cur.size=c*2) (p t:Value) :
  let R1:=cur.toList.take ((i+1)*2)++xs.drop (i*2)++cur.toList.drop ((i+1)*2+(xs.drop (i*2)).length)
  R1.take (i*2)++[p,t]++R1.drop (i*2+2)=ins2 xs i p t++cur.toList.drop ((n+1)*2):=by
 intro R1
 have hcl:cur.toList.length=c*2:=by simpa using hz
 have hxd:(xs.drop (i*2)).length=(n-i)*2:=by rw[List.length_drop,hl];omega
 have e0:cur.toList.take ((i+1)*2)=xs.take (i*2)++(cur.toList.drop (i*2)).take 2:=by
  rw[← hx,List.take_take,show min (i*2) (n*2)=i*2 by omega,show(i+1)*2=i*2+2 by omega,List.take_add]
 have e1:R1=xs.take (i*2)++((cur.toList.drop (i*2)).take 2++(xs.drop (i*2)++cur.toList.drop ((n+1)*2))):=by
  show cur.toList.take ((i+1)*2)++xs.drop (i*2)++cur.toList.drop ((i+1)*2+(xs.drop (i*2)).length)=_
  rw[e0,hxd,show(i+1)*2+(n-i)*2=(n+1)*2 by omega]
  simp only[List.append_assoc]
 have l1:(xs.take (i*2)).length=i*2:=by rw[List.length_take,hl];omega
 have l2:((cur.toList.drop (i*2)).take 2).length=2:=by rw[List.length_take,List.length_drop,hcl];omega
 rw[e1,take_cat l1,← List.drop_drop,drop_cat l1,drop_cat l2]
 unfold ins2
 simp only[List.append_assoc]
theorem ins2_length {xs:List Value} {n i:Nat} (hl:xs.length=n*2) (hi:i<=n) (p t:Value):(ins2 xs i p t).length=(n+1)*2:=by
 unfold ins2
 simp only[List.length_append,List.length_take,List.length_drop,hl,List.length_cons,List.length_nil]
 omega
theorem grown_setRow2 (w:World) (b:Nat) (r1 r2:Array Value):w.grownBy ((w.drew.setRow b r1).setRow b r2) (some b):=⟨rfl,rfl,rfl,by simp,fun k _ hk=>(setRow_other _ b k _ (fun e=>hk (by rw[e]))).trans (setRow_other w.drew b k _ (fun e=>hk (by rw[e])))⟩
set_option maxHeartbeats 2000000 in
theorem Insert_room {w:World} {ab c n i:Nat} {cur:Array Value} {xs:List Value} (hb:w.heap[ab]?=some (.cells cur 69)) (hcm:c<=maxLen) (hz:cur.size=c*2) (hx:cur.toList.take (n*2)=xs) (hl:xs.length=n*2) (h1:∀ u∈xs,u.oneCell'=true) (hi:i<n) (hc:n+1<=c) (hn:n<=1000) (vb:Nat) (p:ByteArray) (t:ByteArray) (hvb:w.heap[vb]?=some (.cells #[.string p,.string t] 69)) (hne:vb≠ab) :
  Calls Tryz.prog 116 #[.slice (some ⟨ab,0,none⟩) n c,.int .i64 (i:Int),.slice (some ⟨vb,0,none⟩) 1 1] w fun e w'=>∃ v',e=.returned v'/\Inew w w' (.slice (some ⟨ab,0,none⟩) n c) v' (n+1) (ins2 xs i (.string p) (.string t)):=by
 have hnews:=cell_pair hvb
 have hcm':c<=9223372036854775807:=by unfold maxLen at hcm;omega
 have hov:∀ lb cb,(callFunc 148 #[.slice (some ⟨vb,0,none⟩) 1 1,.slice (some ⟨ab,(i+1)*2,none⟩) lb cb]).run Tryz.prog w=.ok (.value (.bool false)) w:=fun lb cb=>by
  rw[run_callFunc_extern Tryz.func148 (by kernel_rfl) (by kernel_rfl) (by kernel_rfl) (e:=Extern.SlicesOverlaps.overlaps #[60,60] #[4]) (by kernel_rfl),
   Lib.run_overlaps_apart w 60 4 69 Tryz.underlying60 2 (fun w=>by kernel_rfl) ⟨vb,0,none⟩ ⟨ab,(i+1)*2,none⟩ 1 1 lb cb hne 69 69 2 (c*2) (by simp[World.shape?,hvb]) (by simp[World.shape?,hb,hz]) (by omega) (by simp[World.frozen?,hvb]) (by simp[World.frozen?,hvb])]
  rfl
 have hxd:(xs.drop (i*2)).length=(n-i)*2:=by rw[List.length_drop,hl];omega
 have hcp1:∀ ty dc sc,(Builtin.copy_ #[60,60] ty #[.slice (some ⟨ab,(i+1)*2,none⟩) (n-i) dc,.slice (some ⟨ab,i*2,none⟩) (n+1-i) sc]).run Tryz.prog w.drew=_:=fun ty dc sc =>
  run_copy_k w.drew _ _ ty 69 2 ab ((i+1)*2) (n-i) dc ⟨ab,i*2,none⟩ (n+1-i) sc cur 69 (xs.drop (i*2)) Tryz.underlying60 size_ce hb (by rw[hxd];simp only[Nat.min_def];split <;> omega)
   (fun j v hj=>by
    have hadd:(⟨ab,i*2,none⟩:Addr).add j=⟨ab,i*2+j,none⟩:=by unfold Addr.add;split <;> simp_all
    rw[hadd,cell_of_row w.drew ab _ cur 69 (0,0) hb]
    rw[List.getElem?_drop,← hx,List.getElem?_take] at hj
    split at hj
    ·simpa using hj
    ·cases hj)
   (by rw[hxd,hz];omega) (fun u hu=>h1 u (List.mem_of_mem_drop hu))
 obtain⟨R1,hR1⟩:∃ R1,R1=cur.toList.take ((i+1)*2)++xs.drop (i*2)++cur.toList.drop ((i+1)*2+(xs.drop (i*2)).length):=⟨_,rfl⟩
 have hR2:=shift_row hx hl hi hc hz (.string p) (.string t)
 simp only[] at hR2
 rw[← hR1] at hR2
 have hRl:R1.length=c*2:=by
  rw[hR1]
  simp only[List.length_append,List.length_take,List.length_drop,hl,Array.length_toList,hz]
  omega
 have hbk1:(w.drew.setRow ab R1.toArray).heap[ab]?=some (.cells R1.toArray 69):=setRow_heap w.drew ab cur _ 69 _ hb
 have hcp2:∀ ty dc,(Builtin.copy_ #[60,60] ty #[.slice (some ⟨ab,i*2,none⟩) (n+1-i) dc,.slice (some ⟨vb,0,none⟩) 1 1]).run Tryz.prog (w.drew.setRow ab R1.toArray)=_:=fun ty dc =>
  run_copy_k (w.drew.setRow ab R1.toArray) _ _ ty 69 2 ab (i*2) (n+1-i) dc ⟨vb,0,none⟩ 1 1 R1.toArray 69 [.string p,.string t] Tryz.underlying60 size_ce hbk1 (by rw[show Nat.min 1 (n+1-i)=1 from Nat.min_eq_left (by omega)];rfl)
   (fun j v hj=>by
    have:=hnews j v hj
    rwa [World.cell?_of_block (w:=w) (w':=w.drew.setRow ab R1.toArray)]
    have:((⟨vb,0,none⟩:Addr).add j).block=vb:=by unfold Addr.add;split <;> rfl
    rw[this]
    exact setRow_other w.drew ab vb _ hne)
   (by simp[hRl];omega) (by intro u hu;simp at hu;rcases hu with rfl |rfl <;> rfl)
 rw[← hR1] at hcp1
 have e2:(List.take (i*2) R1++[Value.string p,.string t]++List.drop (i*2+[Value.string p,.string t].length) R1)=ins2 xs i (.string p) (.string t)++cur.toList.drop ((n+1)*2):=hR2
 have e3:R1.toArray.toList=R1:=rfl
 rw[e3,e2] at hcp2
 have hlen:=ins2_length hl (Nat.le_of_lt hi) (.string p) (.string t)
 have HF:Hid (((w.drew.setRow ab R1.toArray).setRow ab (ins2 xs i (.string p) (.string t)++cur.toList.drop ((n+1)*2)).toArray).ownsRow 0 69 2 (.slice (some ⟨ab,0,none⟩) (n+1) c) (n+1) (ins2 xs i (.string p) (.string t))) :=
  ⟨hlen,Or.inr ⟨ab,c,_,rfl,Nat.zero_le _,setRow_heap _ ab _ _ 69 _ hbk1,hc,hcm,by simp only[List.size_toArray,List.length_append,hlen,List.length_drop,Array.length_toList,hz];omega,take_cat hlen⟩⟩
 generalize (ins2 xs i (.string p) (.string t)++cur.toList.drop ((n+1)*2)).toArray=R2 at *
 have hw1:IntKind.i64.wrap ((i:Int)+1)=(i:Int)+1:=by rw[IntKind.wrap_i64];omega
 have hb1:(0:Int)<=(i:Int)+1:=by omega
 have hz2:¬ ((i:Int)=(n:Int)):=by omega
 have htn:((i:Int)+1).toNat=i+1:=by omega
 have hb2:¬ (c=i+1):=by omega
 have hb3:(i:Int)<=(n:Int)+1:=by omega
 have hb4:¬ (c=i):=by omega
 have hin:i<=n:=by omega
 clear hlen hR2 hbk1 hx h1 hl hR1 hxd hnews hvb hb hcm hRl hz e2 e3
 go_enter Tryz.func116,Tryz.ntmps116
 go_wp2_with (simp only[hov])
 go_region_law (refine step_copy_run rfl _ _ 60 60 rfl _ _ (by simp[Act.eval,Act.put]) (by simp[Act.eval,Act.put]) (hcp1 _ _ _) ?_)
 go_wp2_with (at_builtin;refine Lib.wpList_copy_run _ rfl _ _ 60 60 rfl _ _ rfl rfl (hcp2 _ _) ?_)
 go_ret
 exact⟨_,rfl,⟨HF.out,grown_setRow2 w ab _ _,Or.inl rfl⟩⟩
theorem zeroCells_size (z:Array Value) (n:Nat):(Builtin.zeroCells z n).size=n*z.size:=by simp[Builtin.zeroCells]
theorem grow_row {ROW:List Value} {xs:List Value} {n G i:Nat} (hx:ROW.take (i*2)=xs.take (i*2)) (hl:xs.length=n*2) (hi:i<n) (hG:n+1<=G) (hz:ROW.length=G*2) (p t:Value) :
  let R1:=ROW.take (i*2)++[p,t]++ROW.drop (i*2+2)
  R1.length=G*2/\R1.take ((i+1)*2)++xs.drop (i*2)++R1.drop ((i+1)*2+(xs.drop (i*2)).length)=ins2 xs i p t++ROW.drop ((n+1)*2):=by
 intro R1
 have hxd:(xs.drop (i*2)).length=(n-i)*2:=by rw[List.length_drop,hl];omega
 have l1:(ROW.take (i*2)++[p,t]).length=(i+1)*2:=by simp only[List.length_append,List.length_take,hz,List.length_cons,List.length_nil];omega
 refine⟨by simp only[R1,List.length_append,List.length_take,List.length_drop,hz,List.length_cons,List.length_nil];omega,?_⟩
 rw[hxd,← List.drop_drop,take_cat l1,drop_cat l1,List.drop_drop,hx,show i*2+2+(n-i)*2=(n+1)*2 by omega]
 unfold ins2
 simp only[List.append_assoc]
set_option maxHeartbeats 2000000 in
theorem Insert_grow {w:World} {ab c n i:Nat} {cur:Array Value} {xs:List Value} (hb:w.heap[ab]?=some (.cells cur 69)) (hz:cur.size=c*2) (hx:cur.toList.take (n*2)=xs) (hl:xs.length=n*2) (h1:∀ u∈xs,u.oneCell'=true) (hi:i<n) (hnc:n<=c) (hc:c<n+1) (hn:n<=1000) (vb:Nat) (p:ByteArray) (t:ByteArray) (hvb:w.heap[vb]?=some (.cells #[.string p,.string t] 69)) (hne:vb≠ab) :
  Calls Tryz.prog 116 #[.slice (some ⟨ab,0,none⟩) n c,.int .i64 (i:Int),.slice (some ⟨vb,0,none⟩) 1 1] w fun e w'=>∃ v',e=.returned v'/\Inew w w' (.slice (some ⟨ab,0,none⟩) n c) v' (n+1) (ins2 xs i (.string p) (.string t)):=by
 have hnews:=cell_pair hvb
 have hcn:c=n:=by omega
 subst hcn
 obtain⟨i0,hi0,hz0,hzs,hzb⟩:=info_parts (show(Tryz.prog.info? 69).map (fun i=>(i.zero,i.size,i.bytes))=some (some zC,2,32) by kernel_rfl)
 have hsrc:∀ (w':World),w'.heap[ab]?=some (.cells cur 69)->∀ j u,j<c*2->xs[j]?=some u->w'.cell? ⟨ab,j,none⟩=some u:=fun w' hw j u hj hu=>by
  rw[cell_of_row w' ab j cur 69 (0,0) hw]
  rw[← hx,List.getElem?_take,if_pos hj] at hu
  simpa using hu
 have hadd:∀ (b o j:Nat),(⟨b,o,none⟩:Addr).add j=⟨b,o+j,none⟩:=fun b o j=>by unfold Addr.add;split <;> simp_all
 have htl:(xs.take (i*2)).length=i*2:=by rw[List.length_take,hl];omega
 have hold:(Builtin.firstCells i0.size i (.slice (some ⟨ab,0,none⟩) i c)).run Tryz.prog w.drew=.ok (xs.take (i*2)).toArray w.drew:=by
  rw[hzs]
  exact run_firstCells_some w.drew 2 i ⟨ab,0,none⟩ i c (xs.take (i*2)) (by rw[htl]) (fun j u hj=>by
   rw[hadd,Nat.zero_add]
   rw[List.getElem?_take] at hj
   split at hj
   ·exact hsrc w.drew hb j u (by omega) hj
   ·cases hj)
 have hik:i+(c+1-i)=c+1:=by omega
 have hkk:(c:Int)+1-(i:Int)=((c+1-i:Nat):Int):=by omega
 have hrz:∀ ty,(Builtin.append_ #[60,3] ty #[.slice (some ⟨ab,0,none⟩) i c,.int .i64 ((c:Int)+1-(i:Int))]).run Tryz.prog w=.ok (.slice (some ⟨w.heap.size,0,none⟩) (c+1) (grownCap w (c+1) c 69)) (w.drew.alloc (.cells ((xs.take (i*2)).toArray++Builtin.zeroCells zC.cells (c+1-i)++Builtin.zeroCells zC.cells (grownCap w (c+1) c 69-(c+1))) 69)):=fun ty=>by
  have h:=Lib.run_append_grow_zeros w 60 3 ty 69 i0 _ .i64 .i64 Tryz.underlying60 Tryz.underlying3 hi0 hz0 (some ⟨ab,0,none⟩) i c (xs.take (i*2)) hold (c+1-i) (by omega) (by omega) (by omega) (by omega) (by rw[hzb];omega) (by rw[hzb,hik];exact growslice_fits (by omega) (by omega))
  rw[hik] at h
  rw[hkk]
  exact h
 obtain⟨G,hG⟩:∃ G,G=grownCap w (c+1) c 69:=⟨_,rfl⟩
 have hGn:c+1<=G:=by rw[hG];exact grownCap_ge w _ _ _
 have hGm:G<=maxLen:=by rw[hG];exact grownCap_le_maxLen w (c+1) c _ (by unfold maxLen;omega)
 obtain⟨ROW,hROW⟩:∃ ROW:Array Value,ROW=(xs.take (i*2)).toArray++Builtin.zeroCells zC.cells (c+1-i)++Builtin.zeroCells zC.cells (G-(c+1)):=⟨_,rfl⟩
 rw[← hG] at hrz
 rw[← hROW] at hrz
 have hRl:ROW.toList.length=G*2:=by
  rw[hROW]
  have:zC.cells.size=2:=rfl
  simp only[Array.length_toList,Array.size_append,zeroCells_size,this,List.size_toArray,htl]
  omega
 have hRt:ROW.toList.take (i*2)=xs.take (i*2):=by
  rw[hROW,Array.toList_append,Array.toList_append,List.append_assoc]
  exact take_cat htl
 obtain⟨W1,hW1⟩:∃ W1,W1=w.drew.alloc (.cells ROW 69):=⟨_,rfl⟩
 rw[← hW1] at hrz
 obtain⟨g,hg⟩:∃ g,g=w.heap.size:=⟨_,rfl⟩
 rw[← hg] at hrz
 have k1:W1.heap[g]?=some (.cells ROW 69):=by rw[hW1,hg];exact(MapKept.heap_alloc w.drew _).1
 have gr1:w.grownBy W1 none:=by
  rw[hW1]
  exact⟨rfl,rfl,rfl,by simp,fun k hk _=>(World.grownBy_alloc w.drew (.cells ROW 69) none).block k hk (by simp)⟩
 have hxd:(xs.drop (i*2)).length=(c-i)*2:=by rw[List.length_drop,hl];omega
 obtain⟨hR1l,hR2⟩:=grow_row hRt hl hi hGn hRl (.string p) (.string t)
 obtain⟨R1,hR1⟩:∃ R1,R1=ROW.toList.take (i*2)++[.string p,.string t]++ROW.toList.drop (i*2+2):=⟨_,rfl⟩
 rw[← hR1] at hR1l hR2
 have hvlt:vb<w.heap.size:=lt_of hvb
 have halt:ab<w.heap.size:=lt_of hb
 have hcpA:∀ ty dc,(Builtin.copy_ #[60,60] ty #[.slice (some ⟨g,i*2,none⟩) (c+1-i) dc,.slice (some ⟨vb,0,none⟩) 1 1]).run Tryz.prog W1=_:=fun ty dc =>
  run_copy_k W1 _ _ ty 69 2 g (i*2) (c+1-i) dc ⟨vb,0,none⟩ 1 1 ROW 69 [.string p,.string t] Tryz.underlying60 size_ce k1 (by rw[show Nat.min 1 (c+1-i)=1 from Nat.min_eq_left (by omega)];rfl)
   (fun j v hj=>cell_pair ((gr1.block vb hvlt (by simp)).trans hvb) j v hj)
   (by rw[Array.length_toList] at hRl;simp only[hRl,List.length_cons,List.length_nil];omega) (by intro u hu;simp at hu;rcases hu with rfl |rfl <;> rfl)
 have e1:(ROW.toList.take (i*2)++[Value.string p,.string t]++ROW.toList.drop (i*2+[Value.string p,.string t].length))=R1:=hR1.symm
 rw[e1] at hcpA
 obtain⟨W2,hW2⟩:∃ W2,W2=W1.setRow g R1.toArray:=⟨_,rfl⟩
 rw[← hW2] at hcpA
 have k2:W2.heap[g]?=some (.cells R1.toArray 69):=by rw[hW2];exact setRow_heap W1 g ROW _ 69 _ k1
 have gr2:w.grownBy W2 none:=by
  rw[hW2]
  exact⟨gr1.os,gr1.tape,gr1.output,by simpa using gr1.size,fun k hk hn=>(setRow_other W1 g k _ (by omega)).trans (gr1.block k hk hn)⟩
 have hcpB:∀ ty dc sc,(Builtin.copy_ #[60,60] ty #[.slice (some ⟨g,(i+1)*2,none⟩) (c-i) dc,.slice (some ⟨ab,i*2,none⟩) (c-i) sc]).run Tryz.prog W2.drew=_:=fun ty dc sc =>
  run_copy_k W2.drew _ _ ty 69 2 g ((i+1)*2) (c-i) dc ⟨ab,i*2,none⟩ (c-i) sc R1.toArray 69 (xs.drop (i*2)) Tryz.underlying60 size_ce k2 (by rw[hxd];simp only[Nat.min_def];split <;> omega)
   (fun j v hj=>by
    rw[hadd]
    rw[List.getElem?_drop] at hj
    have hlt:i*2+j<xs.length:=(List.getElem?_eq_some_iff.1 hj).1
    exact hsrc W2.drew ((gr2.block ab halt (by simp)).trans hb) _ v (by omega) hj)
   (by simp only[List.size_toArray,hR1l,hxd];omega) (fun u hu=>h1 u (List.mem_of_mem_drop hu))
 have e3:R1.toArray.toList=R1:=rfl
 rw[e3,hR2] at hcpB
 have hlen:=ins2_length hl (Nat.le_of_lt hi) (.string p) (.string t)
 have HF:Hid ((W2.drew.setRow g (ins2 xs i (.string p) (.string t)++ROW.toList.drop ((c+1)*2)).toArray).ownsRow 0 69 2 (.slice (some ⟨g,0,none⟩) (c+1) G) (c+1) (ins2 xs i (.string p) (.string t))) :=
  ⟨hlen,Or.inr ⟨g,G,_,rfl,Nat.zero_le _,setRow_heap W2.drew g _ _ 69 _ k2,hGn,hGm,by simp only[List.size_toArray,List.length_append,hlen,List.length_drop,hRl];omega,take_cat hlen⟩⟩
 have HG:Hid (∀ R2,w.grownBy (W2.drew.setRow g R2) (some ab)):=fun R2=>⟨gr2.os,gr2.tape,gr2.output,by simpa using gr2.size,fun k hk hn=>(setRow_other W2.drew g k _ (by omega)).trans (gr2.block k hk (by simp))⟩
 generalize (ins2 xs i (.string p) (.string t)++ROW.toList.drop ((c+1)*2)).toArray=R2 at *
 have hgle:w.heap.size<=g:=by omega
 have HL:Hid (w.heap.size<=g):=hgle
 have hG63:G<=9223372036854775807:=by unfold maxLen at hGm;omega
 have hw1:IntKind.i64.wrap ((i:Int)+1)=(i:Int)+1:=by rw[IntKind.wrap_i64];omega
 have hb1:(0:Int)<=(i:Int)+1:=by omega
 have hz2:¬ ((i:Int)=(c:Int)):=by omega
 have htn:((i:Int)+1).toNat=i+1:=by omega
 have hb2:¬ (G=i+1):=by omega
 have hb5:¬ (G=i):=by omega
 have hb4:¬ (c=i):=by omega
 have hb6:(c:Int)<(c:Int)+1:=by omega
 have hin:i<=c:=by omega
 clear hlen hR2 hx h1 hl hR1 hxd hnews hvb hb hRl hz e1 e3 hgle hGm gr1 gr2 k1 k2 hW1 hW2 hg hG hROW hRt hold htl hkk hik hsrc hadd hR1l hi0 hz0 hzs hzb hvlt halt hc hnc
 go_enter Tryz.func116,Tryz.ntmps116
 go_wp2_with (first
  | (at_builtin;refine Lib.wpList_append_run _ rfl _ _ _ _ rfl _ _ rfl rfl _ _ (hrz _) ?_)
  | (at_builtin;refine Lib.wpList_copy_run _ rfl _ _ 60 60 rfl _ _ rfl rfl (hcpA _ _) ?_))
 go_region_law (refine step_copy_run rfl _ _ 60 60 rfl _ _ (by simp[Act.eval,Act.put]) (by simp[Act.eval,Act.put]) (hcpB _ _ _) ?_)
 go_wp2
 go_ret
 exact⟨_,rfl,⟨HF.out,HG.out _,Or.inr ⟨g,rfl,HL.out⟩⟩⟩
theorem Insert_any {w:World} {v:Value} {n i:Nat} {xs:List Value} (hrow:w.ownsRow 0 69 2 v n xs) (h1:∀ u∈xs,u.oneCell'=true) (hi:i<=n) (hn:n<=1000) (vb:Nat) (p:ByteArray) (t:ByteArray) (hvb:w.heap[vb]?=some (.cells #[.string p,.string t] 69)) (hne:v.ownBlock≠some vb) :
  Calls Tryz.prog 116 #[v,.int .i64 (i:Int),.slice (some ⟨vb,0,none⟩) 1 1] w fun e w'=>∃ v',e=.returned v'/\Inew w w' v v' (n+1) (ins2 xs i (.string p) (.string t)):=by
 by_cases e:i=n
 ·subst e;exact Insert_end hrow hn vb p t hvb
 ·have hlt:i<n:=by omega
  rcases hrow.2 with⟨rfl,hn0⟩ |⟨b,cap,cur,rfl,hb,hg,q1,q2,q3,q4⟩
  ·omega
  ·have hne':vb≠b:=fun e=>hne (by subst e;rfl)
   by_cases hc:n+1<=cap
   ·exact Insert_room hg q2 q3 q4 hrow.1 h1 hlt hc hn vb p t hvb hne'
   ·exact Insert_grow hg q3 q4 hrow.1 h1 hlt q1 (by omega) hn vb p t hvb hne'
theorem run_clear_k (w:World) (t e ty ty':TypeId) (z:Value) (ht:Tryz.prog.underlying t=some (.slice e)) (hv:∀ w,(zeroValue e).run Tryz.prog w=.ok z w) (g o n c:Nat) (cur:Array Value) (hg:w.heap[g]?=some (.cells cur ty' (0,0))) (hn:0<n)
  (hfit:o+(Builtin.zeroCells z.cells n).toList.length<=cur.size) (h1:∀ v∈(Builtin.zeroCells z.cells n).toList,v.oneCell'=true) :
  (Builtin.clear_ #[t] ty #[.slice (some ⟨g,o,none⟩) n c]).run Tryz.prog w=.ok (.tuple #[]) (w.setRow g (cur.toList.take o++(Builtin.zeroCells z.cells n).toList++cur.toList.drop (o+(Builtin.zeroCells z.cells n).toList.length)).toArray):=by
 have hst:=run_storeCells_at Tryz.prog g o ty' (Builtin.zeroCells z.cells n).toList 0 cur w hg (by simpa using hfit) h1
 simp only[Nat.add_zero] at hst
 obtain⟨m,rfl⟩:∃ m,n=m+1:=⟨n-1,by omega⟩
 simp[Builtin.clear_,run_underlying ht,hv,hst]
theorem step_append_run {ops:Array Oper} {o:Oper} {a:Act} {w:World} {K:Act->World->Prop} {Q:Exit->Act->World->Prop} {E:Prop}
  (hg:o.guard=none) (d x:Operand) (dT sT:TypeId) (hop:o.op=Op.call {callee:=Callee.builtin Builtin.append,args:=#[d,x],argTypes:=#[dT,sT]})
  (v u:Value) (hd:a.eval d=v) (hx:a.eval x=u) {v':Value} {w':World} (hr:(Builtin.append_ #[dT,sT] o.type #[v,u]).run Tryz.prog w=.ok v' w') (hK:K (a.put o.dst v') w') :
  if Region.wanted o (yielded ops a.tmps)=true then Oper.wp Tryz.prog o a w K Q else E:=by
 have hw:Region.wanted o (yielded ops a.tmps)=true:=by simp[Region.wanted,hg]
 rw[if_pos hw]
 unfold Oper.wp
 simp[execOp,hop,resolve,invoke,builtin,hd,hx,hr,Result.andThen]
 exact hK
def del2 (xs:List Value) (i:Nat):List Value:=xs.take (i*2)++xs.drop ((i+1)*2)
theorem grown_setRow1 (w:World) (b:Nat) (r1 r2:Array Value):w.grownBy ((w.drew.setRow b r1).setRow b r2) (some b):=⟨rfl,rfl,rfl,by simp,fun k _ hk=>(setRow_other _ b k _ (fun e=>hk (by rw[e]))).trans (setRow_other w.drew b k _ (fun e=>hk (by rw[e])))⟩
theorem zC_one:∀ n,∀ v∈(Builtin.zeroCells zC.cells n).toList,v.oneCell'=true:=by
 intro n v hv
 simp only[Builtin.zeroCells,zC,Value.cells] at hv
 simp at hv
 obtain⟨i,hi,rfl⟩:=hv
 rcases Nat.mod_two_eq_zero_or_one i with h |h <;> simp[h,Value.oneCell']
set_option maxHeartbeats 2000000 in
theorem Delete_any {w:World} {g c n i:Nat} {cur:Array Value} {xs:List Value} (hb:w.heap[g]?=some (.cells cur 69)) (hcm:c<=maxLen) (hz:cur.size=c*2) (hx:cur.toList.take (n*2)=xs) (hl:xs.length=n*2) (h1:∀ u∈xs,u.oneCell'=true) (hi:i<n) (hnc:n<=c) (hn:n<=1000) :
  Calls Tryz.prog 115 #[.slice (some ⟨g,0,none⟩) n c,.int .i64 (i:Int),.int .i64 ((i:Int)+1)] w fun e w'=>e=.returned (.slice (some ⟨g,0,none⟩) (n-1) c)/\w'.ownsRow 0 69 2 (.slice (some ⟨g,0,none⟩) (n-1) c) (n-1) (del2 xs i)/\w.grownBy w' (some g):=by
 have hcm':c<=9223372036854775807:=by unfold maxLen at hcm;omega
 obtain⟨i0,hi0,hz0,hzs,hzb⟩:=info_parts (show(Tryz.prog.info? 69).map (fun i=>(i.zero,i.size,i.bytes))=some (some zC,2,32) by kernel_rfl)
 obtain⟨news,hnews⟩:∃ news,news=xs.drop ((i+1)*2):=⟨_,rfl⟩
 have hnl:news.length=(n-(i+1))*2:=by rw[hnews,List.length_drop,hl];omega
 obtain⟨A,hA,hsrc⟩:∃ A:Addr,(if c=i+1 then(some (⟨g,0,none⟩:Addr)) else some ⟨g,(i+1)*2,none⟩)=some A/\∀ j v,news[j]?=some v->w.drew.cell? (A.add j)=some v:=by
  by_cases h:c=i+1
  ·refine⟨_,if_pos h,fun j v hj=>?_⟩
   have h0:news.length=0:=by rw[hnl];omega
   rw[List.length_eq_zero_iff.1 h0] at hj
   simp at hj
  ·refine⟨_,if_neg h,fun j v hj=>?_⟩
   have hadd:(⟨g,(i+1)*2,none⟩:Addr).add j=⟨g,(i+1)*2+j,none⟩:=by unfold Addr.add;split <;> simp_all
   rw[hadd,cell_of_row w.drew g _ cur 69 (0,0) hb]
   rw[hnews,List.getElem?_drop,← hx,List.getElem?_take] at hj
   split at hj
   ·simpa using hj
   ·cases hj
 have hap:∀ ty,(Builtin.append_ #[60,60] ty #[.slice (some ⟨g,0,none⟩) i c,.slice (some A) (n-(i+1)) (c-(i+1))]).run Tryz.prog w.drew=_:=fun ty =>
  run_append_room (P:=Tryz.prog) w.drew 60 ty 69 i0 Tryz.underlying60 hi0 g i c cur hb A (n-(i+1)) (c-(i+1)) news (by rw[hnl,hzs]) hsrc (fun u hu=>h1 u (by rw[hnews] at hu;exact List.mem_of_mem_drop hu)) (by omega) (by rw[hzs,hnl,hz];omega)
 obtain⟨R1,hR1⟩:∃ R1,R1=cur.toList.take (i*2)++news++cur.toList.drop (i*2+news.length):=⟨_,rfl⟩
 rw[hzs,← hR1,show i+(n-(i+1))=n-1 by omega] at hap
 have hRl:R1.length=c*2:=by
  rw[hR1]
  simp only[List.length_append,List.length_take,List.length_drop,Array.length_toList,hz,hnl]
  omega
 have hbk1:(w.drew.setRow g R1.toArray).heap[g]?=some (.cells R1.toArray 69):=setRow_heap w.drew g cur _ 69 _ hb
 have hzl:(Builtin.zeroCells zC.cells 1).toList.length=2:=by simp[Builtin.zeroCells,zC,Value.cells]
 have hcl:∀ ty c',(Builtin.clear_ #[60] ty #[.slice (some ⟨g,(n-1)*2,none⟩) 1 c']).run Tryz.prog (w.drew.setRow g R1.toArray)=_:=fun ty c' =>
  run_clear_k (w.drew.setRow g R1.toArray) _ _ ty 69 zC Tryz.underlying60 (fun w=>by kernel_rfl) g ((n-1)*2) 1 c' R1.toArray hbk1 (by omega) (by rw[hzl];simp only[List.size_toArray,hRl];omega) (zC_one 1)
 obtain⟨R2,hR2⟩:∃ R2,R2=(R1.toArray.toList.take ((n-1)*2)++(Builtin.zeroCells zC.cells 1).toList++R1.toArray.toList.drop ((n-1)*2+(Builtin.zeroCells zC.cells 1).toList.length)).toArray:=⟨_,rfl⟩
 rw[← hR2] at hcl
 have hdl:(del2 xs i).length=(n-1)*2:=by
  unfold del2
  simp only[List.length_append,List.length_take,List.length_drop,hl]
  omega
 have hd:R1.take ((n-1)*2)=del2 xs i:=by
  have e0:cur.toList.take (i*2)=xs.take (i*2):=by rw[← hx,List.take_take,show min (i*2) (n*2)=i*2 by omega]
  have:R1=del2 xs i++cur.toList.drop (i*2+news.length):=by rw[hR1,e0,hnews];rfl
  rw[this]
  exact take_cat hdl
 have HF:Hid (((w.drew.setRow g R1.toArray).setRow g R2).ownsRow 0 69 2 (.slice (some ⟨g,0,none⟩) (n-1) c) (n-1) (del2 xs i)) :=
  ⟨hdl,Or.inr ⟨g,c,_,rfl,Nat.zero_le _,setRow_heap _ g _ _ 69 _ hbk1,by omega,hcm,by rw[hR2];simp only[List.size_toArray,List.length_append,List.length_take,List.length_drop,hRl,hzl];omega,by
   rw[hR2]
   show List.take ((n-1)*2) (R1.take ((n-1)*2)++_++_)=_
   rw[List.append_assoc,hd]
   exact take_cat hdl⟩⟩
 have hw1:IntKind.i64.wrap ((i:Int)+1)=(i:Int)+1:=by rw[IntKind.wrap_i64];omega
 have hb1:(0:Int)<=(i:Int)+1:=by omega
 have htn:((i:Int)+1).toNat=i+1:=by omega
 have hne:¬ ((i:Int)=(i:Int)+1):=by omega
 have hin:i<=n:=by omega
 have hi1:(i:Int)+1<=(n:Int):=by omega
 have hic:(i:Int)<=(c:Int):=by omega
 have hin2:i+1<=n:=by omega
 have hn1:n-1<=n:=by omega
 have hnn:n-(n-1)=1:=by omega
 have hne2:¬ c=n-1:=by omega
 clear hd hdl hzl hbk1 hRl hR1 hR2 hsrc hnl hnews h1 hl hx hz hb hi0 hz0 hzs hzb
 go_enter Tryz.func115,Tryz.ntmps115
 go_wp2_with fail
 go_region_law (refine step_append_run rfl _ _ 60 60 rfl _ _ (by simp[Act.eval,Act.put]) (by simp[Act.eval,Act.put,hA]) (hap _) ?_)
 go_wp2
 go_ret
 exact⟨rfl,HF.out,grown_setRow1 w g _ _⟩
end Go.Proofs.YtdchjncnjgelhaaGreat.Fd
namespace Go.Proofs.YtdchjncnjgelhaaGreat.Gm
open Go.RowKit Go.Maps Go.ChangeMaps
def hdR (v:Value):Option (DataW Value × List MemPlace):=some (.held v,[])
def updL (f:Lit->Option Value) (l:Lit) (x:Option Value):Lit->Option Value:=fun j=>if j.sameKey l then x else f j
theorem updL_same (f:Lit->Option Value) {l:Lit} (hl:WideAt.IsKeyLit l) (x:Option Value):updL f l x l=x:=by simp[updL,WideAt.sameKey_self hl]
theorem updL_other (f:Lit->Option Value) {l j:Lit} (x:Option Value) (h:j≠l):updL f l x j=f j:=by simp[updL,sameKey_ne h]
structure MpV (D:DataW Value) (f:Lit->Option Value):Prop where
 has:∀ l,Maps.has D l=(f l).isSome
 at_:∀ l v,f l=some v->∀ z,D.atKey l z=.held v
structure Mp (w:World) (kt:TypeId) (b n:Nat) (f:Lit->Option Value):Prop where
 ex:∃ D,w.ownsMap Tryz.prog kt hdR b n D/\Maps.size D=n/\MpV D f
structure Mr (w:World) (kt:TypeId) (b r n:Nat) (f:Lit->Option Value) (left:Lit->Bool) (cnt:Nat):Prop where
 ex:∃ D,w.ranges Tryz.prog kt hdR b r n D left cnt/\Maps.size D=n/\MpV D f
section
variable {w w':World}{kt t e:TypeId}{b n r cnt:Nat}{f g:Lit->Option Value}{left:Lit->Bool}{W:Nat->Prop}
theorem Mp.ext (h:Mp w kt b n f) (he:∀ l,g l=f l):Mp w kt b n g:=by
 have:g=f:=funext he
 rw[this];exact h
theorem MpV.put {D:DataW Value} (h:MpV D f) (hD:IsMap D) {l:Lit} (hl:WideAt.IsKeyLit l) (v:Value):MpV (D.put l (.held v)) (updL f l (some v)):=by
 refine⟨fun j=>?_,fun j c hj z=>?_⟩
 ·by_cases e:j=l
  ·subst e;rw[updL_same _ hl,has_put_same hD hl];rfl
  ·rw[updL_other _ _ e,has_put_other e,h.has]
 ·by_cases e:j=l
  ·subst e;rw[updL_same _ hl] at hj;cases hj;rw[atKey_put_same hD hl]
  ·rw[updL_other _ _ e] at hj;rw[atKey_put_other e];exact h.at_ j c hj z
theorem MpV.del {D:DataW Value} (h:MpV D f) {l:Lit} (hl:WideAt.IsKeyLit l):MpV (D.del l) (updL f l none):=by
 refine⟨fun j=>?_,fun j c hj z=>?_⟩
 ·by_cases e:j=l
  ·subst e;rw[updL_same _ hl,has_del_same];rfl
  ·rw[updL_other _ _ e,has_del_other e,h.has]
 ·by_cases e:j=l
  ·subst e;rw[updL_same _ hl] at hj;cases hj
  ·rw[updL_other _ _ e] at hj;rw[atKey_del_other e];exact h.at_ j c hj z
theorem owns_exact {m:Nat} {D:DataW Value} (h:w.ownsMap Tryz.prog kt hdR b m D):w.ownsMap Tryz.prog kt hdR b (Maps.size D) D:=by
 obtain⟨es,cl,h1,h2,h3,rfl⟩:=h
 refine⟨es,cl,h1,h2,?_,rfl⟩
 simp[Maps.size,length_sorted]
theorem Mp.of {m:Nat} {D:DataW Value} (h:w.ownsMap Tryz.prog kt hdR b m D) (hf:MpV D f) (hn:Maps.size D=n):Mp w kt b n f:=by
 subst hn;exact⟨D,owns_exact h,rfl,hf⟩
theorem Mp.lt (h:Mp w kt b n f):b<w.heap.size:=by obtain⟨D,h,_⟩:=h.ex;exact h.lt
theorem Mp.keep (h:Mp w kt b n f) (hb:w'.heap[b]?=w.heap[b]?):Mp w' kt b n f:=by
 obtain⟨D,⟨es,cl,h1,h2,h3,h4⟩,hv⟩:=h.ex
 exact⟨D,⟨es,cl,hb.trans h1,h2,h3,h4⟩,hv⟩
theorem Mp.bel (h:Mp w kt b n f) (hb:Below w.heap.size w w'):Mp w' kt b n f:=h.keep (hb.block b h.lt)
theorem Mp.made (w:World) (kt:TypeId):Mp (w.alloc (.map #[] 0)) kt w.heap.size 0 (fun _=>none):=⟨_,World.ownsMap_made _ _ _ _,rfl,fun l=>rfl,fun l v h=>by cases h⟩
theorem Mp.blk (h:Mp w kt b n f):∃ es cl,w.heap[b]?=some (.map es cl):=by obtain⟨D,⟨es,cl,h1,_⟩,_⟩:=h.ex;exact⟨es,cl,h1⟩
theorem Mp.ne {A:Array Value} {c:Nat} (h:Mp w kt b n f) (hc:At w c t A):b≠c:=fun e2=>by
 obtain⟨es,cl,h1⟩:=h.blk
 rw[e2,hc.blk] at h1
 cases h1
theorem turned_off {b:Nat} (h:w.mapTurned w' b):∀ j,j≠b->w'.heap[j]?=w.heap[j]?:=fun j hj=>by
 obtain⟨es,cl,es',cl',h1,rfl⟩:=h
 exact heap_setBlock_other h1 _ hj
theorem turned_size {b:Nat} (h:w.mapTurned w' b):w'.heap.size=w.heap.size:=by
 obtain⟨es,cl,es',cl',h1,rfl⟩:=h
 simp[setBlock]
theorem turned_fr (h:w.mapTurned w' b) (hW:W b):Fr W W w w':=Fr.grown h.grown fun g e=>by cases e;exact hW
theorem Mp.look (h:Mp w kt b n f) (K:Keyed Tryz.prog kt) (ht:Tryz.prog.underlying t=some (.map kt e)) {z:Value} (hz:(zeroValue e).run Tryz.prog w=.ok z w) {key:Value} {l:Lit} (hk:keyOf Tryz.prog kt key=some l) :
  (Instr.lookup t (.map (some b)) key true).run Tryz.prog w=.ok (.tuple #[(f l).getD z,.bool (f l).isSome]) w:=by
 obtain⟨D,ho,_,hv⟩:=h.ex
 obtain⟨v,ps,hrun,hR⟩:=ho.look_ok K ht hz (show hdR z=some (.held z,[]) from rfl) hk
 rw[hrun,hv.has]
 simp only[hdR,Option.some.injEq,Prod.mk.injEq] at hR
 cases hf:f l with
 | none =>
  rw[atKey_of_not_has (by rw[hv.has,hf];rfl)] at hR
  injection hR.1 with h1
  rw[h1];rfl
 | some c =>
  rw[hv.at_ l c hf] at hR
  injection hR.1 with h1
  rw[h1];rfl
theorem Mp.look1 (h:Mp w kt b n f) (K:Keyed Tryz.prog kt) (ht:Tryz.prog.underlying t=some (.map kt e)) {z:Value} (hz:(zeroValue e).run Tryz.prog w=.ok z w) {key:Value} {l:Lit} (hk:keyOf Tryz.prog kt key=some l) :
  (Instr.lookup t (.map (some b)) key false).run Tryz.prog w=.ok ((f l).getD z) w:=by
 obtain⟨D,ho,_,hv⟩:=h.ex
 obtain⟨v,ps,hrun,hR⟩:=ho.lookup K ht hz (show hdR z=some (.held z,[]) from rfl) hk
 rw[hrun]
 simp only[hdR,Option.some.injEq,Prod.mk.injEq] at hR
 cases hf:f l with
 | none =>
  rw[atKey_of_not_has (by rw[hv.has,hf];rfl)] at hR
  injection hR.1 with h1
  rw[h1];rfl
 | some c =>
  rw[hv.at_ l c hf] at hR
  injection hR.1 with h1
  rw[h1];rfl
theorem Mp.tidy (h:Mp w kt b n f) (K:Keyed Tryz.prog kt):∃ D,w.ownsMap Tryz.prog kt hdR b n D/\Maps.size D=n/\MpV D f/\Tidy D:=by
 obtain⟨D,ho,hn,hv⟩:=h.ex
 exact⟨D,ho,hn,hv,ho.tidy K⟩
theorem Mp.store (h:Mp w kt b n f) (K:Keyed Tryz.prog kt) (ht:Tryz.prog.underlying t=some (.map kt e)) (hn:n<10000000000000) {key:Value} {l:Lit} (hk:keyOf Tryz.prog kt key=some l) (v:Value) :
  ∃ w',(Instr.mapUpdate t (.map (some b)) key v).run Tryz.prog w=.ok () w'/\Mp w' kt b (if(f l).isSome then n else n+1) (updL f l (some v))/\w.mapTurned w' b:=by
 obtain⟨D,ho,hs,hv,hd⟩:=h.tidy K
 obtain⟨w',h1,h2,h3⟩:=ho.store K ht (by unfold maxLen;omega) hk (show hdR v=some (.held v,[]) from rfl)
 refine⟨w',h1,Mp.of h2 (hv.put ho.isMap (K.key hk) v) ?_,h3⟩
 rw[size_put hd,hv.has,hs]
theorem Mp.drop (h:Mp w kt b n f) (K:Keyed Tryz.prog kt) (ht:Tryz.prog.underlying t=some (.map kt e)) {key:Value} {l:Lit} (hk:keyOf Tryz.prog kt key=some l) (ty:TypeId) :
  ∃ w',(Builtin.delete_ #[t,kt] ty #[.map (some b),key]).run Tryz.prog w=.ok (.tuple #[]) w'/\Mp w' kt b (if(f l).isSome then n-1 else n) (updL f l none)/\w.mapTurned w' b:=by
 obtain⟨D,ho,hs,hv,hd⟩:=h.tidy K
 obtain⟨w',h1,h2,h3⟩:=ho.drop K ht hk ty
 refine⟨w',h1,Mp.of h2 (hv.del (K.key hk)) ?_,h3⟩
 have:=size_del (k:=l) hd
 rw[hv.has,hs] at this
 split at this <;> split <;> first |omega |simp_all
theorem Mr.mp (h:Mr w kt b r n f left cnt):Mp w kt b n f:=by obtain⟨D,h1,h2⟩:=h.ex;exact⟨D,h1.owns,h2⟩
theorem Mr.lt (h:Mr w kt b r n f left cnt):r<w.heap.size:=by obtain⟨D,h1,h2⟩:=h.ex;exact h1.lt
theorem Mr.ne (h:Mr w kt b r n f left cnt):r≠b:=by obtain⟨D,h1,h2⟩:=h.ex;exact h1.ne
theorem Mr.left_eq (h:Mr w kt b r n f left cnt):w.rangeLeft b r=cnt:=by obtain⟨D,h1,h2⟩:=h.ex;exact h1.left_eq
theorem Mr.keep (h:Mr w kt b r n f left cnt) (hb:w'.heap[b]?=w.heap[b]?) (hr:w'.heap[r]?=w.heap[r]?):Mr w' kt b r n f left cnt:=by
 obtain⟨D,⟨es,cl,si,se,c0,h1,h2,h3,h4,h5,h6⟩,hv⟩:=h.ex
 exact⟨D,⟨es,cl,si,se,c0,hb.trans h1,h2,h3,h4,hr.trans h5,h6⟩,hv⟩
theorem Mr.bel (h:Mr w kt b r n f left cnt) (hb:Below w.heap.size w w'):Mr w' kt b r n f left cnt:=h.keep (hb.block b h.mp.lt) (hb.block r h.lt)
end
section
variable {ops:Array Oper}{rest:List Oper}{o:Oper}{a:Act}{Q:Exit->Act->World->Prop}{kt t e:TypeId}{b n r cnt:Nat}{f:Lit->Option Value}{left:Lit->Bool}
theorem wpList_range_mp (w:World) (hg:o.guard=none) (m:Operand) (hop:o.op=Op.range t m) (K:Keyed Tryz.prog kt) (ht:Tryz.prog.underlying t=some (.map kt e)) (hm:a.eval m=.map (some b)) (h:Mp w kt b n f)
  (hK:∀ w' r,r=w.heap.size->Mr w' kt b r n f (fun l=>(f l).isSome) n->Below w.heap.size w w'->wpList Tryz.prog ops Q rest (a.put o.dst (.pointer (some ⟨r,0,none⟩))) w') :
  wpList Tryz.prog ops Q (o ::rest) a w:=by
 obtain⟨D,ho,hs,hv⟩:=h.ex
 refine wpList_range_own w hg m t hop kt e K ht hdR b n D hm ho ?_
 intro w' h1 h2 h3
 refine hK w' _ rfl ⟨D,?_,hs,hv⟩ ⟨h2.os,h2.tape,h2.output,h2.size,fun k hk=>h2.block k hk (by simp)⟩
 have:(fun l=>(f l).isSome)=Maps.has D:=funext fun l=>(hv.has l).symm
 rw[this,← hs]
 rw[hs]
 rw[← hs] at h1 ⊢
 exact h1
theorem wpList_next_mp {α:Type} (mkK:α->Value) (mkL:α->Lit) (w:World) (hg:o.guard=none) (it:Operand) (hop:o.op=Op.next it false) (K:Keyed Tryz.prog kt) (hinv:∀ key l,keyOf Tryz.prog kt key=some l->∃ x,key=mkK x/\l=mkL x) (hit:a.eval it=.pointer (some ⟨r,0,none⟩)) (h:Mr w kt b r n f left cnt)
  (hDone:cnt=0->(∀ l,left l=false)->wpList Tryz.prog ops Q rest (a.put o.dst (.tuple #[.bool false])) w)
  (hMore:∀ (x:α) (v:Value) (w':World) (cnt':Nat),keyOf Tryz.prog kt (mkK x)=some (mkL x)->left (mkL x)=true->f (mkL x)=some v->Mr w' kt b r n f (fun z=>left z&&!z.sameKey (mkL x)) cnt'->cnt'<cnt->(∀ j,j≠r->w'.heap[j]?=w.heap[j]?) ->
   Fr (·=r) (·=r) w w'->(Instr.entry (.pointer (some ⟨r,0,none⟩))).run Tryz.prog w'=.ok (.tuple #[mkK x,v]) w'->wpList Tryz.prog ops Q rest (a.put o.dst (.tuple #[.bool true,mkK x,v])) w') :
  wpList Tryz.prog ops Q (o ::rest) a w:=by
 obtain⟨D,ho,hs,hv⟩:=h.ex
 refine wpList_next_ranges w hg it hop kt K hdR id id (fun key _ _=>⟨key,rfl⟩) (fun v _ _=>⟨v,rfl⟩) b r n D left cnt hit ho hDone ?_
 intro key v l y w' cnt' hkey hl hR hat hrg hlt hgr hsz hen
 obtain⟨x,e1,rfl⟩:=hinv key l hkey
 simp only[id] at *
 subst e1
 simp only[hdR,Option.some.injEq] at hR
 subst hR
 have hf:f (mkL x)=some v:=by
  have h1:Maps.has D (mkL x)=true:=has_true_of_atKey hat
  rw[hv.has] at h1
  obtain⟨v',e2⟩:=Option.isSome_iff_exists.1 h1
  have:=(hv.at_ _ _ e2 .nil).symm.trans (hat .nil)
  injection this with this
  rw[e2,this]
 have hgrf:Fr (·=r) (·=r) w w':=Fr.grown hgr fun g e=>by cases e;rfl
 refine hMore x v w' cnt' hkey hl hf ⟨D,hrg,hs,hv⟩ hlt (fun j hj=>?_) hgrf hen
 rcases Nat.lt_or_ge j w.heap.size with h1 |h1
 ·exact hgrf.blk j h1 hj
 ·rw[Array.getElem?_eq_none h1,Array.getElem?_eq_none (by rw[hsz];exact h1)]
theorem step_drop_mp {K:Act->World->Prop} {E:Prop} {w:World} (hgd:o.guard=none) (m x:Operand) (hop:o.op=Op.call {callee:=Callee.builtin Builtin.delete,args:=#[m,x],argTypes:=#[t,kt]}) (K0:Keyed Tryz.prog kt) (ht:Tryz.prog.underlying t=some (.map kt e)) (hm:a.eval m=.map (some b)) (h:Mp w kt b n f) {key:Value} {l:Lit} (hx:a.eval x=key) (hk:keyOf Tryz.prog kt key=some l)
  (hK:∀ w',Mp w' kt b (if(f l).isSome then n-1 else n) (updL f l none)->w.mapTurned w' b->K (a.put o.dst (.tuple #[])) w') :
  if Region.wanted o (yielded ops a.tmps)=true then Oper.wp Tryz.prog o a w K Q else E:=by
 have hw:Region.wanted o (yielded ops a.tmps)=true:=by simp[Region.wanted,hgd]
 rw[if_pos hw]
 obtain⟨w',hrun,r1,r2⟩:=h.drop K0 ht hk o.type
 unfold Oper.wp
 simp[execOp,hop,resolve,invoke,builtin,hm,hx,hrun,Result.andThen]
 exact hK w' r1 r2
end
end Go.Proofs.YtdchjncnjgelhaaGreat.Gm
namespace Go.Proofs.YtdchjncnjgelhaaGreat.Fd
open Go.RowKit Gm Go.Maps
structure Gt where
 txn:Int
 ks:List (ByteArray × Hs)
 deriving Inhabited
structure Dv where
 g:Gt
 b:Nat
 deriving Inhabited
def lkD (L:List Dv) (t:Int):Option Dv:=L.find? fun d=>d.g.txn==t
def fW (L:List Dv):Lit->Option Value
 | .int .i64 t=>(lkD L t).map fun d=>.map (some d.b)
 | _=>none
def lkK (ks:List (ByteArray × Hs)) (k:List UInt8):Option (ByteArray × Hs):=ks.find? fun p=>p.1.data.toList==k
def fK (ks:List (ByteArray × Hs)):Lit->Option Value
 | .string k=>(lkK ks k).map fun p=>.agg p.2.A
 | _=>none
def zH:Hs:=⟨⟨#[]⟩,false⟩
theorem KI:Keyed Tryz.prog 3:=int_keyed Tryz.underlying3
theorem KS:Keyed Tryz.prog 9:=string_keyed Tryz.underlying9
theorem uW:Tryz.prog.underlying 139=some (.map 3 138):=Tryz.underlying139
theorem uK:Tryz.prog.underlying 138=some (.map 9 136):=Tryz.underlying138
theorem zWv (w:World):(zeroValue 138).run Tryz.prog w=.ok (.map none) w:=by kernel_rfl
theorem zKv (w:World):(zeroValue 136).run Tryz.prog w=.ok (.agg zH.A) w:=by kernel_rfl
theorem stH:St 136 2:=⟨⟨_,Tryz.underlying136⟩,by kernel_rfl⟩
theorem stRc:St 54 13:=⟨⟨_,Tryz.underlying54⟩,by kernel_rfl⟩
def wfT (t:Int):Prop:=(Lit.int .i64 t).wf=true
theorem keyI {t:Int} (h:wfT t):keyOf Tryz.prog 3 (.int .i64 t)=some (.int .i64 t):=keyOf_int_mk Tryz.underlying3 h
theorem keyS {s:ByteArray} (h:s.size<=9223372036854775807):keyOf Tryz.prog 9 (.string s)=some (.string s.data.toList)  :=WideMaps.keyOf_string_mk (P:=Tryz.prog) Tryz.underlying9 h
theorem invS {key:Value} {l:Lit} (h:keyOf Tryz.prog 9 key=some l):∃ x:List UInt8,key=encStr x/\l=.string x:=by
 obtain⟨x,h1,h2,_⟩:=Maps.keyOf_str Tryz.underlying9 h
 exact⟨x,h1,h2⟩
theorem oneH (x:Hs):∀ v∈x.A.toList,v.oneCell'=true:=by intro v hv;simp[Hs.A] at hv;rcases hv with rfl |rfl <;> rfl
theorem np_bel {w w1 w2:World} {b:Nat} {t:TypeId} {A A':Array Value} (N:New w w1 b t A) (P:Put w1 w2 b t A'):Below w.heap.size w w2:=N.bel.trans ((P.fr (·=b) rfl).bel (fun j hj=>by rw[hj,N.eq];exact Nat.le_refl _) N.bel.size)
structure FoI (W:Nat->Prop) (w:World) (fb:Nat) (v:Value) (bw:Nat) (K:List CL) (L:List Dv) (n:Int):Prop where
 is:At w fb 141 #[v,.map (some bw),.int .i64 n]
 row:Row w 69 2 v (K.map encC)
 wa:Mp w 3 bw L.length (fW L)
 ks:∀ d∈L,Mp w 9 d.b d.g.ks.length (fK d.g.ks)
 nd:L.Pairwise fun a b=>a.g.txn≠b.g.txn/\a.b≠b.b
 kn:∀ d∈L,d.g.ks.Pairwise fun a b=>a.1.data.toList≠b.1.data.toList
 ne:∀ d∈L,d.b≠bw
 w1:W fb/\W bw
 wv:∀ g,v.ownBlock=some g->W g
 w2:∀ d∈L,W d.b
 up:Ris K
structure Fo (W:Nat->Prop) (w:World) (fb:Nat) (K:List CL) (G:List Gt) (n:Int):Prop where
 ex:∃ v bw L,FoI W w fb v bw K L n/\L.map (·.g)=G
 lt:∀ j,W j->j<w.heap.size
section
variable {W W':Nat->Prop}{w w':World}{fb bw:Nat}{v:Value}{K:List CL}{L:List Dv}{G:List Gt}{n t:Int}
theorem FoI.keep (h:FoI W w fb v bw K L n) (hb:∀ j,W j->w'.heap[j]?=w.heap[j]?):FoI W w' fb v bw K L n :=
 ⟨h.is.keep (hb _ h.w1.1),h.row.keep (fun g e=>hb g (h.wv g e)),h.wa.keep (hb _ h.w1.2),fun d hd=>(h.ks d hd).keep (hb _ (h.w2 d hd)),h.nd,h.kn,h.ne,h.w1,h.wv,h.w2,h.up⟩
theorem Fo.keep (h:Fo W w fb K G n) (hb:∀ j,W j->w'.heap[j]?=w.heap[j]?) (hs:w.heap.size<=w'.heap.size):Fo W w' fb K G n:=by
 obtain⟨v,bw,L,h1,h2⟩:=h.ex
 exact⟨⟨v,bw,L,h1.keep hb,h2⟩,fun j hj=>Nat.lt_of_lt_of_le (h.lt j hj) hs⟩
theorem Fo.bel (h:Fo W w fb K G n) (hb:Below w.heap.size w w'):Fo W w' fb K G n:=h.keep (fun j hj=>hb.block j (h.lt j hj)) hb.size
theorem Fo.nd (h:Fo W w fb K G n):G.Pairwise fun a b=>a.txn≠b.txn:=by
 obtain⟨v,bw,L,h1,rfl⟩:=h.ex
 exact List.pairwise_map.2 (h1.nd.imp fun h=>h.1)
theorem lkD_mem {d:Dv} (h:lkD L t=some d):d∈L/\d.g.txn=t:=⟨List.mem_of_find?_eq_some h,by simpa using List.find?_some h⟩
theorem kI (a:Int):WideAt.IsKeyLit (.int .i64 a):=trivial
theorem kS (a:List UInt8):WideAt.IsKeyLit (.string a):=trivial
theorem lkD_none:lkD L t=none↔∀ d∈L,d.g.txn≠t:=by simp[lkD]
theorem lkD_of (hn:L.Pairwise fun a b=>a.g.txn≠b.g.txn/\a.b≠b.b) {d:Dv} (hd:d∈L):lkD L d.g.txn=some d:=by
 unfold lkD
 induction L with
 | nil=>cases hd
 | cons x L ih =>
  rw[List.pairwise_cons] at hn
  rw[List.find?_cons]
  rcases List.mem_cons.1 hd with rfl |h
  ·simp
  ·have:=(hn.1 d h).1
   rw[show(x.g.txn==d.g.txn)=false by simpa using this]
   exact ih hn.2 h
theorem fW_at {t:Int}:fW L (.int .i64 t)=(lkD L t).map fun d=>.map (some d.b):=rfl
theorem fK_at {ks:List (ByteArray × Hs)} {k:List UInt8}:fK ks (.string k)=(lkK ks k).map fun p=>.agg p.2.A:=rfl
theorem lkD_snoc (d:Dv) (t:Int):lkD (L++[d]) t=(lkD L t).or (if d.g.txn=t then some d else none):=by
 unfold lkD
 rw[List.find?_append,List.find?_singleton]
 congr 1
 by_cases h:d.g.txn=t <;> simp[h]
theorem fW_snoc {d:Dv} (h:lkD L d.g.txn=none) (l:Lit):fW (L++[d]) l=updL (fW L) (.int .i64 d.g.txn) (some (.map (some d.b))) l:=by
 by_cases e:l=.int .i64 d.g.txn
 ·subst e
  rw[updL_same _ (kI _)]
  simp only[fW]
  rw[lkD_snoc,h]
  simp
 ·rw[updL_other _ _ e]
  cases l <;> try rfl
  rename_i q a
  cases q <;> try rfl
  simp only[fW]
  rw[lkD_snoc,if_neg (fun e2=>e (by rw[e2]))]
  cases lkD L a <;> rfl
theorem lkD_filter (t a:Int):lkD (L.filter fun d=>d.g.txn !=t) a=if a=t then none else lkD L a:=by
 unfold lkD
 rw[List.find?_filter]
 by_cases h:a=t
 ·subst h
  rw[if_pos rfl,List.find?_eq_none]
  intro x hx
  simp
 ·rw[if_neg h]
  congr 1
  funext d
  by_cases h2:d.g.txn=a
  ·simp[h2,h]
  ·simp[h2]
theorem fW_drop (t:Int) (l:Lit):fW (L.filter fun d=>d.g.txn !=t) l=updL (fW L) (.int .i64 t) none l:=by
 by_cases e:l=.int .i64 t
 ·subst e
  rw[updL_same _ (kI _)]
  simp only[fW]
  rw[lkD_filter,if_pos rfl]
  rfl
 ·rw[updL_other _ _ e]
  cases l <;> try rfl
  rename_i q a
  cases q <;> try rfl
  simp only[fW]
  rw[lkD_filter,if_neg (fun e2=>e (by rw[e2]))]
theorem len_drop (hn:L.Pairwise fun a b=>a.g.txn≠b.g.txn/\a.b≠b.b) (t:Int):(L.filter fun d=>d.g.txn !=t).length=if(lkD L t).isSome then L.length-1 else L.length:=by
 induction L with
 | nil=>rfl
 | cons x L ih =>
  rw[List.pairwise_cons] at hn
  have h1:=ih hn.2
  rw[List.filter_cons]
  by_cases h:x.g.txn=t
  ·have h0:lkD L t=none:=lkD_none.2 fun d hd e=>(hn.1 d hd).1 (h.trans e.symm)
   rw[h0] at h1
   simp only[lkD,List.find?_cons,h,beq_self_eq_true,Option.isSome_some,if_true,bne_self_eq_false,Bool.false_eq_true,if_false,List.length_cons]
   simpa using h1
  ·have h2:(x.g.txn==t)=false:=by simpa using h
   have h3:(x.g.txn !=t)=true:=by simpa using h
   have h4:lkD (x ::L) t=lkD L t:=by simp only[lkD,List.find?_cons,h2]
   rw[if_pos h3,List.length_cons,h1,h4,List.length_cons]
   cases h5:lkD L t with
   | none=>simp
   | some y =>
    have:=List.length_pos_of_mem (lkD_mem h5).1
    simp
    omega
def putH (ks:List (ByteArray × Hs)) (k:ByteArray) (x:Hs):List (ByteArray × Hs):=ks.filter (fun p=>p.1.data.toList !=k.data.toList)++[(k,x)]
theorem lkK_put (ks:List (ByteArray × Hs)) (k:ByteArray) (x:Hs) (a:List UInt8):lkK (putH ks k x) a=if a=k.data.toList then some (k,x) else lkK ks a:=by
 unfold lkK putH
 rw[List.find?_append,List.find?_filter,List.find?_singleton]
 by_cases h:a=k.data.toList
 ·subst h
  rw[if_pos rfl,List.find?_eq_none.2 (by intro p hp;simp)]
  simp
 ·rw[if_neg h,if_neg (by simp;exact fun e=>h e.symm),Option.or_none]
  congr 1
  funext p
  by_cases h2:p.1.data.toList=a
  ·rw[h2];simp[h]
  ·simp[h2]
theorem fK_put (ks:List (ByteArray × Hs)) (k:ByteArray) (x:Hs) (l:Lit):fK (putH ks k x) l=updL (fK ks) (.string k.data.toList) (some (.agg x.A)) l:=by
 by_cases e:l=.string k.data.toList
 ·subst e
  rw[updL_same _ (kS _),fK_at,lkK_put,if_pos rfl]
  rfl
 ·rw[updL_other _ _ e]
  cases l <;> try rfl
  rename_i a
  rw[fK_at,lkK_put,if_neg (fun e2=>e (by rw[e2]))]
  rfl
theorem lkK_none {ks:List (ByteArray × Hs)} {k:List UInt8}:lkK ks k=none↔∀ p∈ks,p.1.data.toList≠k:=by simp[lkK]
theorem lkK_mem {ks:List (ByteArray × Hs)} {k:List UInt8} {p:ByteArray × Hs} (h:lkK ks k=some p):p∈ks/\p.1.data.toList=k:=⟨List.mem_of_find?_eq_some h,by simpa using List.find?_some h⟩
theorem putH_kn {ks:List (ByteArray × Hs)} (h:ks.Pairwise fun a b=>a.1.data.toList≠b.1.data.toList) (k:ByteArray) (x:Hs):(putH ks k x).Pairwise fun a b=>a.1.data.toList≠b.1.data.toList:=by
 unfold putH
 rw[List.pairwise_append]
 refine⟨h.sublist List.filter_sublist,by simp,fun a ha b hb=>?_⟩
 rw[List.mem_singleton] at hb
 subst hb
 simpa using (List.mem_filter.1 ha).2
theorem putH_len {ks:List (ByteArray × Hs)} (h:ks.Pairwise fun a b=>a.1.data.toList≠b.1.data.toList) (k:ByteArray) (x:Hs):(putH ks k x).length=if(lkK ks k.data.toList).isSome then ks.length else ks.length+1:=by
 unfold putH
 rw[List.length_append,List.length_singleton]
 induction ks with
 | nil=>simp[lkK]
 | cons p ks ih =>
  rw[List.pairwise_cons] at h
  have h1:=ih h.2
  rw[List.filter_cons]
  by_cases e:p.1.data.toList=k.data.toList
  ·have h0:lkK ks k.data.toList=none:=lkK_none.2 fun q hq e2=>h.1 q hq (e.trans e2.symm)
   rw[h0] at h1
   simp only[lkK,List.find?_cons,e,beq_self_eq_true,Option.isSome_some,if_true,bne_self_eq_false,Bool.false_eq_true,if_false,List.length_cons]
   simpa using h1
  ·have h2:(p.1.data.toList==k.data.toList)=false:=by simpa using e
   have h3:(p.1.data.toList !=k.data.toList)=true:=by simpa using e
   have h4:lkK (p ::ks) k.data.toList=lkK ks k.data.toList:=by simp only[lkK,List.find?_cons,h2]
   rw[if_pos h3,List.length_cons,h4,List.length_cons]
   split at h1 <;> rename_i h5 <;> simp only[h5,if_true,if_false,Bool.false_eq_true] <;> omega
theorem nd_b (hn:L.Pairwise fun a b=>a.g.txn≠b.g.txn/\a.b≠b.b) {a b:Dv} (ha:a∈L) (hb:b∈L) (h:a.g.txn≠b.g.txn):a.b≠b.b:=by
 induction L with
 | nil=>cases ha
 | cons x L ih =>
  rw[List.pairwise_cons] at hn
  rcases List.mem_cons.1 ha with rfl |h1 <;> rcases List.mem_cons.1 hb with rfl |h2
  ·exact absurd rfl h
  ·exact(hn.1 b h2).2
  ·exact Ne.symm (hn.1 a h1).2
  ·exact ih hn.2 h1 h2
def lkG (G:List Gt) (t:Int):Option Gt:=G.find? fun g=>g.txn==t
def tnG (t:Int) (k:ByteArray) (x:Hs) (g:Gt):Gt:=if g.txn=t then⟨t,putH g.ks k x⟩ else g
def putG (G:List Gt) (t:Int) (k:ByteArray) (x:Hs):List Gt:=if(lkG G t).isSome then G.map (tnG t k x) else G++[⟨t,[(k,x)]⟩]
def dropG (G:List Gt) (t:Int):List Gt:=G.filter fun g=>g.txn !=t
theorem lkG_map (t:Int):lkG (L.map (·.g)) t=(lkD L t).map (·.g):=by unfold lkG lkD;rw[List.find?_map];rfl
def tnD (t:Int) (k:ByteArray) (x:Hs) (d:Dv):Dv:=⟨tnG t k x d.g,d.b⟩
theorem tnG_txn (t:Int) (k:ByteArray) (x:Hs) (g:Gt):(tnG t k x g).txn=g.txn:=by unfold tnG;split <;> simp_all
theorem lkD_map (t:Int) (k:ByteArray) (x:Hs) (u:Int):lkD (L.map (tnD t k x)) u=(lkD L u).map (tnD t k x):=by
 unfold lkD
 rw[List.find?_map]
 congr 1
 congr 1
 funext d
 simp[tnD,tnG_txn]
theorem fW_turn (t:Int) (k:ByteArray) (x:Hs) (l:Lit):fW (L.map (tnD t k x)) l=fW L l:=by
 cases l <;> try rfl
 rename_i q a
 cases q <;> try rfl
 simp only[fW]
 rw[lkD_map,Option.map_map]
 rfl
theorem FoI.on (H:FoI W w fb v bw K L n) (HL:∀ j,W j->j<w.heap.size) {d:Dv} {k:ByteArray} {x:Hs} (hd:lkD L t=some d) (o:∀ j,j<w.heap.size->j≠d.b->w'.heap[j]?=w.heap[j]?)
  (hv:v.ownBlock≠some d.b) (MK:Mp w' 9 d.b (putH d.g.ks k x).length (fK (putH d.g.ks k x))):FoI W w' fb v bw K (L.map (tnD t k x)) n:=by
 obtain⟨hm,ht⟩:=lkD_mem hd
 have hne:=H.ne
 have at_:∀ x'∈L,(x'=d/\(tnD t k x x').g.ks=putH d.g.ks k x)∨(x'.b≠d.b/\(tnD t k x x').g=x'.g):=fun x' hx=>by
  by_cases e:x'.g.txn=t
  ·have e2:=lkD_of H.nd hx
   rw[e,hd] at e2
   cases e2
   exact Or.inl ⟨rfl,by simp only[tnD,tnG];rw[if_pos e]⟩
  ·exact Or.inr ⟨nd_b H.nd hx hm (fun e2=>e (e2.trans ht)),by simp only[tnD,tnG];rw[if_neg e]⟩
 refine⟨H.is.keep (o fb (HL _ H.w1.1) ((H.ks d hm).ne H.is).symm),H.row.keep (fun g e=>o g (HL _ (H.wv g e)) (fun e2=>hv (by rw[← e2];exact e))),?_,fun y hy=>?_,?_,fun y hy=>?_,fun y hy=>?_,H.w1,H.wv,fun y hy=>?_,H.up⟩
 ·rw[List.length_map]
  exact(H.wa.keep (o bw (HL _ H.w1.2) (hne d hm).symm)).ext (fW_turn t k x)
 ·obtain⟨x',hx,rfl⟩:=List.mem_map.1 hy
  rcases at_ x' hx with⟨rfl,e⟩ |⟨e1,e2⟩
  ·rw[e];exact MK
  ·rw[e2];exact(H.ks x' hx).keep (o x'.b (HL _ (H.w2 x' hx)) e1)
 ·exact List.pairwise_map.2 (H.nd.imp fun h=>⟨by simp only[tnD,tnG_txn];exact h.1,h.2⟩)
 ·obtain⟨x',hx,rfl⟩:=List.mem_map.1 hy
  rcases at_ x' hx with⟨rfl,e⟩ |⟨e1,e2⟩
  ·rw[e];exact putH_kn (H.kn x' hx) k x
  ·rw[e2];exact H.kn x' hx
 ·obtain⟨x',hx,rfl⟩:=List.mem_map.1 hy
  exact hne x' hx
 ·obtain⟨x',hx,rfl⟩:=List.mem_map.1 hy
  exact H.w2 x' hx
theorem FoI.snoc (H:FoI W w fb v bw K L n) (HL:∀ j,W j->j<w.heap.size) {k:ByteArray} {x:Hs} (hn:lkD L t=none) {nb:Nat} (hb:w.heap.size<=nb) (o:∀ j,j<w.heap.size->j≠bw->w'.heap[j]?=w.heap[j]?)
  (hv:v.ownBlock≠some bw) (M2:Mp w' 3 bw (L.length+1) (updL (fW L) (.int .i64 t) (some (.map (some nb))))) (MK:Mp w' 9 nb 1 (fK [(k,x)])) :
  FoI (fun j=>W j∨j=nb) w' fb v bw K (L++[⟨⟨t,[(k,x)]⟩,nb⟩]) n:=by
 have hne:=H.ne
 have lt:∀ j,W j->j≠nb:=fun j hj=>by have:=HL j hj;omega
 refine⟨H.is.keep (o fb (HL _ H.w1.1) (H.wa.ne H.is).symm),H.row.keep (fun g e=>o g (HL _ (H.wv g e)) (fun e2=>hv (by rw[← e2];exact e))),?_,fun y hy=>?_,?_,fun y hy=>?_,fun y hy=>?_,⟨Or.inl H.w1.1,Or.inl H.w1.2⟩,fun g e=>Or.inl (H.wv g e),fun y hy=>?_,H.up⟩
 ·rw[List.length_append]
  exact M2.ext fun l=>fW_snoc (d:=⟨⟨t,[(k,x)]⟩,nb⟩) hn l
 ·rcases List.mem_append.1 hy with h |h
  ·exact(H.ks y h).keep (o y.b (HL _ (H.w2 y h)) (hne y h))
  ·rw[List.mem_singleton] at h
   subst h
   exact MK
 ·rw[List.pairwise_append]
  refine⟨H.nd,by simp,fun a ha b hb2=>?_⟩
  rw[List.mem_singleton] at hb2
  subst hb2
  exact⟨lkD_none.1 hn a ha,lt _ (H.w2 a ha)⟩
 ·rcases List.mem_append.1 hy with h |h
  ·exact H.kn y h
  ·rw[List.mem_singleton] at h
   subst h
   simp
 ·rcases List.mem_append.1 hy with h |h
  ·exact hne y h
  ·rw[List.mem_singleton] at h
   subst h
   exact Ne.symm (lt _ H.w1.2)
 ·rcases List.mem_append.1 hy with h |h
  ·exact Or.inl (H.w2 y h)
  ·rw[List.mem_singleton] at h
   subst h
   exact Or.inr rfl
theorem FoI.gone (h:FoI W w fb v bw K L n) (t:Int) (o:∀ j,j≠bw->w'.heap[j]?=w.heap[j]?) (hv:v.ownBlock≠some bw) (M:Mp w' 3 bw (if(fW L (.int .i64 t)).isSome then L.length-1 else L.length) (updL (fW L) (.int .i64 t) none)):FoI W w' fb v bw K (L.filter fun d=>d.g.txn !=t) n:=by
 have hne:=h.ne
 have he:∀ d∈L.filter (fun d=>d.g.txn !=t),d∈L:=fun d hd=>(List.mem_filter.1 hd).1
 have hl:=len_drop h.nd t
 refine⟨h.is.keep (o fb (fun e=>h.wa.ne h.is e.symm)),h.row.keep (fun g e=>o g (fun e2=>hv (by rw[← e2];exact e))),?_,fun d hd=>(h.ks d (he d hd)).keep (o _ (hne d (he d hd))),h.nd.sublist List.filter_sublist,fun d hd=>h.kn d (he d hd),fun d hd=>hne d (he d hd),h.w1,h.wv,fun d hd=>h.w2 d (he d hd),h.up⟩
 rw[hl]
 have e:(fW L (.int .i64 t)).isSome=(lkD L t).isSome:=by rw[fW_at,Option.isSome_map]
 rw[e] at M
 exact M.ext (fW_drop t)
theorem row_neMp {k:Nat} {ty kt:TypeId} {u:Value} {M:List (List Value)} {b m:Nat} {f:Lit->Option Value} (r:Row w ty k u M) (h:Mp w kt b m f):u.ownBlock≠some b:=fun e=>by
 obtain⟨cur,hc⟩:=r.blkAt e
 obtain⟨es,cl,h1⟩:=h.blk
 rw[hc] at h1
 cases h1
structure FoO (W:Nat->Prop) (w w':World) (fb:Nat) (K:List CL) (G:List Gt) (n:Int):Prop where
 ex:∃ W',Fo W' w' fb K G n/\Fr W W' w w'
end
end Go.Proofs.YtdchjncnjgelhaaGreat.Fd
