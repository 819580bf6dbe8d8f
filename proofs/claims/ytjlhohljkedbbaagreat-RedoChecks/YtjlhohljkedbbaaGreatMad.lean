import Derived.Test.YtjlhohljkedbbaaGreatMac
import Derived.Deep.RegionLaw
import Derived.Deep.OwnRows
import Derived.Deep.RegionHeld3
import Derived.WalkKit
import Derived.Test.YtjlhohljkedbbaaGreatProg
import Derived.ProofKit
import Derived.WalkSpells
import Derived.WalkLawsBesides
import Derived.Deep.QuietTactic
import Derived.BigQuiet
set_option linter.unusedVariables false
set_option linter.unusedSimpArgs false
set_option maxRecDepth 100000
namespace Go.Proofs.YtjlhohljkedbbaaGreat
open Go.RowKit
abbrev P2:=Value × Value
structure Cs (w:World) (a:Option Addr) (L:List P2):Prop where
 at_:∀ i (hi:i<L.length),∃ b off,a=some ⟨b,off,none⟩/\b<w.heap.size/\w.cell? ⟨b,off+i*2,none⟩=some L[i].1/\w.cell? ⟨b,off+i*2+1,none⟩=some L[i].2
section
variable {w w':World}{a:Option Addr}{L:List P2}
theorem Cs.nil (w:World) (a:Option Addr):Cs w a []:=⟨fun i hi=>absurd hi (Nat.not_lt_zero _)⟩
theorem Cs.below (h:Cs w a L) (hb:Below w.heap.size w w'):Cs w' a L:=⟨fun i hi=>by
 obtain⟨b,off,h0,h1,h2,h3⟩:=h.at_ i hi
 exact⟨b,off,h0,Nat.lt_of_lt_of_le h1 hb.size,(hb.cell (by exact h1)).trans h2,(hb.cell (by exact h1)).trans h3⟩⟩
theorem Cs.off {c:Nat} (h:Cs w a L) (hb:Pk.Off c w w') (hn:∀ b off,a=some ⟨b,off,none⟩->b≠c):Cs w' a L:=⟨fun i hi=>by
 obtain⟨b,off,h0,h1,h2,h3⟩:=h.at_ i hi
 have e:=hb.block b h1 (hn b off h0)
 exact⟨b,off,h0,Nat.lt_of_lt_of_le h1 hb.size,(World.cell?_of_block e).trans h2,(World.cell?_of_block e).trans h3⟩⟩
end
structure Two (sl el:TypeId) (z:P2):Prop where
 un:Tryz.prog.underlying sl=some (.slice el)
 info:∃ i,Tryz.prog.info? el=some i/\i.zero=some (.agg #[z.1,z.2])/\i.size=2/\i.bytes<=32/\0<i.bytes
 one1:z.1.oneCell'=true
 one2:z.2.oneCell'=true
def prs:List P2->List Value
 | []=>[]
 | c :: r=>c.1 :: c.2 :: prs r
theorem prs_length:∀ xs:List P2,(prs xs).length=xs.length*2
 | []=>rfl
 | c :: r=>by simp only[prs,List.length_cons,prs_length r];omega
theorem prs_append:∀ xs ys:List P2,prs (xs++ys)=prs xs++prs ys
 | [],_=>rfl
 | c :: r,ys=>by simp only[List.cons_append,prs,prs_append r ys]
theorem prs_get:∀ (xs:List P2) (i:Nat) (hi:i<xs.length),(prs xs)[i*2]?=some xs[i].1/\(prs xs)[i*2+1]?=some xs[i].2
 | c :: r,0,_=>⟨rfl,rfl⟩
 | c :: r,i+1,hi=>by
  have:=prs_get r i (by simpa using hi)
  rw[show(i+1)*2=i*2+1+1 by omega]
  simpa[prs] using this
def Ones (xs:List P2):Prop:=∀ p∈xs,p.1.oneCell'=true/\p.2.oneCell'=true
theorem prs_one:∀ xs:List P2,Ones xs->∀ u∈prs xs,u.oneCell'=true
 | [],_,u,hu=>by cases hu
 | c :: r,h,u,hu=>by
  rcases List.mem_cons.1 hu with rfl |hu
  ·exact(h c (List.mem_cons_self ..)).1
  ·rcases List.mem_cons.1 hu with rfl |hu
   ·exact(h c (List.mem_cons_self ..)).2
   ·exact prs_one r (fun p hp=>h p (List.mem_cons_of_mem _ hp)) u hu
def Row (el:TypeId) (w:World) (a:Option Addr) (cap:Nat) (xs:List P2):Prop :=
 (a=none/\cap=0/\xs=[]) ∨
 ∃ g cur,a=some ⟨g,0,none⟩/\w.heap[g]?=some (.cells cur el (0,0))/\xs.length<=cap/\cap<=maxLen/\cap*2<=cur.size/\cur.toList.take (xs.length*2)=prs xs
def own (a:Option Addr):Option Nat:=a.map (·.block)
theorem Row.nil (el:TypeId) (w:World):Row el w none 0 []:=.inl ⟨rfl,rfl,rfl⟩
theorem Row.cs {el:TypeId} {w:World} {a:Option Addr} {cap:Nat} {xs:List P2} (h:Row el w a cap xs):Cs w a xs:=⟨fun i hi=>by
 rcases h with⟨_,_,rfl⟩ |⟨g,cur,rfl,hg,h1,h2,h3,h4⟩
 ·exact absurd hi (Nat.not_lt_zero _)
 ·have hp:=prs_get xs i hi
  rw[← h4,List.getElem?_take,if_pos (by omega),List.getElem?_take,if_pos (by omega)] at hp
  refine⟨g,0,rfl,(Array.getElem?_eq_some_iff.1 hg).1,?_,?_⟩
  ·rw[cell_of_row w g _ cur el (0,0) hg,Nat.zero_add];simpa using hp.1
  ·rw[cell_of_row w g _ cur el (0,0) hg,Nat.zero_add];simpa using hp.2⟩
theorem Row.lt {el:TypeId} {w:World} {a:Option Addr} {cap:Nat} {xs:List P2} (h:Row el w a cap xs):∀ k,own a=some k->k<w.heap.size:=by
 intro k hk
 rcases h with⟨rfl,_,_⟩ |⟨g,cur,rfl,hg,_⟩
 ·cases hk
 ·simp[own] at hk
  subst hk
  exact(Array.getElem?_eq_some_iff.1 hg).1
theorem Row.kept {el:TypeId} {w w':World} {a:Option Addr} {cap:Nat} {xs:List P2} (h:Row el w a cap xs) (hb:∀ k,own a=some k->w'.heap[k]?=w.heap[k]?):Row el w' a cap xs:=by
 rcases h with h0 |⟨g,cur,rfl,hg,h1⟩
 ·exact .inl h0
 ·exact .inr ⟨g,cur,rfl,(hb g rfl).trans hg,h1⟩
theorem Row.below {el:TypeId} {w w':World} {a:Option Addr} {cap:Nat} {xs:List P2} (h:Row el w a cap xs) (hb:Below w.heap.size w w'):Row el w' a cap xs:=h.kept (fun k hk=>hb.block k (h.lt k hk))
theorem cs_prs {w:World} {b off:Nat} {news:List P2} (h:Cs w (some ⟨b,off,none⟩) news):∀ j u,(prs news)[j]?=some u->w.cell? ((⟨b,off,none⟩:Addr).add j)=some u:=by
 intro j u hu
 have hj:j<news.length*2:=by
  have:=(List.getElem?_eq_some_iff.1 hu).1
  rwa [prs_length] at this
 obtain⟨b',off',h0,_,h2,h3⟩:=h.at_ (j / 2) (by omega)
 cases h0
 have hp:=prs_get news (j / 2) (by omega)
 rw[Addr.add_mid]
 rcases Nat.mod_two_eq_zero_or_one j with e |e
 ·have ej:j / 2*2=j:=by omega
  rw[ej] at hp h2
  rw[hp.1] at hu
  cases hu
  exact h2
 ·have ej:j / 2*2+1=j:=by omega
  rw[ej] at hp
  rw[hp.2] at hu
  cases hu
  rw[← h3]
  congr 2
  omega
theorem row_appendB {sl el:TypeId} {z:P2} (hT:Two sl el z) {w:World} (ty:TypeId) {a:Option Addr} {cap:Nat} {xs:List P2} (h:Row el w a cap xs) (ad:Addr) (m c:Nat) (news:List P2) (hm:news.length=m)
  (hnews:∀ j u,(prs news)[j]?=some u->w.cell? (ad.add j)=some u) (ho1:Ones news) (hzB:∀ i,Tryz.prog.info? el=some i->(xs.length+m)*i.bytes<=140737488351232) :
  ∃ a' cap' w',(Builtin.append_ #[sl,sl] ty #[.slice a xs.length cap,.slice (some ad) m c]).run Tryz.prog w=.ok (.slice a' (xs.length+m) cap') w'/\Row el w' a' cap' (xs++news) /\
   w.grownBy w' (own a)/\(own a'=own a∨own a'=some w.heap.size):=by
 obtain⟨i,hi,hz0,hz1,hz2,hz3⟩:=hT.info
 have hzb:=hzB i hi
 have hz:xs.length+m<=140737488351232:=Nat.le_trans (Nat.le_mul_of_pos_right _ hz3) hzb
 have hl:(prs news).length=m*i.size:=by rw[prs_length,hz1,hm]
 have hlen:(xs++news).length=xs.length+m:=by rw[List.length_append,hm]
 have grown:∀ (old:Nat),old<xs.length+m->∀ (row:Option Nat),
   Row el (w.drew.alloc (.cells ((prs xs).toArray++(prs news).toArray++Builtin.zeroCells (Value.agg #[z.1,z.2]).cells (grownCap w (xs.length+m) old el-(xs.length+m))) el)) (some ⟨w.heap.size,0,none⟩) (grownCap w (xs.length+m) old el) (xs++news) /\
   w.grownBy (w.drew.alloc (.cells ((prs xs).toArray++(prs news).toArray++Builtin.zeroCells (Value.agg #[z.1,z.2]).cells (grownCap w (xs.length+m) old el-(xs.length+m))) el)) row:=by
  intro old ho row
  have hge:=grownCap_ge w (xs.length+m) old el
  have hcm:grownCap w (xs.length+m) old el<=maxLen:=grownCap_le_maxLen w (xs.length+m) old el (by unfold maxLen;omega)
  refine⟨.inr ⟨w.heap.size,_,rfl,heap_alloc_new w.drew _,by rw[hlen];exact hge,hcm,?_,?_⟩,⟨rfl,rfl,rfl,by simp,fun k hk _=>heap_alloc_old w.drew _ hk⟩⟩
  ·have e1:(Value.agg #[z.1,z.2]).cells.size=2:=rfl
   simp only[Array.size_append,List.size_toArray,size_zeroCells,prs_length,e1]
   omega
  ·rw[hlen]
   simp only[Array.toList_append]
   rw[← prs_append,List.take_left' (by rw[prs_length,hlen])]
 rcases h with⟨rfl,rfl,rfl⟩ |⟨g,cur,rfl,hg,h1,h2,h3,h4⟩
 ·simp only[List.length_nil,Nat.zero_add,List.nil_append] at hlen grown ⊢
  by_cases hm0:m=0
  ·subst hm0
   have hn0:news=[]:=List.eq_nil_of_length_eq_zero hm
   subst hn0
   refine⟨none,0,w,?_,Row.nil el w,⟨rfl,rfl,rfl,Nat.le_refl _,fun _ _ _=>rfl⟩,.inl rfl⟩
   simp[Builtin.append_,run_underlying hT.un,sizeOf,typeInfo,hi,Builtin.lenOf,Builtin.firstCells,loadCells,loadCellsFrom]
  ·have hr:=run_append_nil (P:=Tryz.prog) w sl ty el i _ hT.un hi hz0 ad m c (prs news) hl hnews (by omega) (by omega) (by simp only[List.length_nil,Nat.zero_add] at hzb;omega)
   have hgr:=grown 0 (by omega) (own none)
   have e0:(prs []).toArray=(#[]:Array Value):=rfl
   rw[e0,Array.empty_append] at hgr
   exact⟨_,_,_,hr,hgr.1,hgr.2,.inr rfl⟩
 ·by_cases hroom:xs.length+m<=cap
  ·have hfit:xs.length*i.size+(prs news).length<=cur.size:=by rw[hl,hz1];omega
   have hr:=run_append_room (P:=Tryz.prog) w sl ty el i hT.un hi g xs.length cap cur hg ad m c (prs news) hl hnews (prs_one _ ho1) hroom hfit
   refine⟨_,_,_,hr,.inr ⟨g,_,rfl,setRow_heap w g cur _ el _ hg,by rw[hlen];exact hroom,h2,?_,?_⟩,⟨rfl,rfl,rfl,by simp,fun k _ hk=>setRow_other w g k _ (fun e=>hk (by simp[own,e]))⟩,.inl rfl⟩
   ·simp only[List.size_toArray,List.length_append,List.length_take,List.length_drop,Array.length_toList]
    omega
   ·rw[hz1,h4,← prs_append,List.take_left' (by rw[prs_length])]
  ·have holds:∀ j u,(prs xs)[j]?=some u->w.cell? ((⟨g,0,none⟩:Addr).add j)=some u:=by
    intro j u hu
    have hadd:(⟨g,0,none⟩:Addr).add j=⟨g,j,none⟩:=by unfold Addr.add;split <;> simp_all
    rw[hadd,cell_of_row w g j cur el (0,0) hg]
    rw[← h4,List.getElem?_take] at hu
    split at hu
    ·simpa using hu
    ·cases hu
   have hr:=run_append_grow (P:=Tryz.prog) w sl ty el i _ hT.un hi hz0 ⟨g,0,none⟩ xs.length cap (prs xs) (by rw[prs_length,hz1]) holds ad m c (prs news) hl hnews (by omega) (by omega) (growslice_fits (by omega) (by omega))
   have hgr:=grown cap (by omega) (own (some ⟨g,0,none⟩))
   exact⟨_,_,_,hr,hgr.1,hgr.2,.inr rfl⟩
theorem hzB_of {sl el:TypeId} {z:P2} (hT:Two sl el z) {n:Nat} (hz:n<=100000):∀ i,Tryz.prog.info? el=some i->n*i.bytes<=140737488351232:=fun i hi=>by
 obtain⟨i',hi',_,_,hz2,_⟩:=hT.info
 rw[hi] at hi'
 cases hi'
 have:=Nat.mul_le_mul hz hz2
 omega
theorem row_append_none {sl el:TypeId} {z:P2} (hT:Two sl el z) {w:World} (ty:TypeId) {a:Option Addr} {cap:Nat} {xs:List P2} (h:Row el w a cap xs) :
  (Builtin.append_ #[sl,sl] ty #[.slice a xs.length cap,.slice none 0 0]).run Tryz.prog w=.ok (.slice a xs.length cap) w:=by
 obtain⟨i,hi,hz0,hz1,hz2,hz3⟩:=hT.info
 have hle:xs.length<=cap:=by
  rcases h with⟨rfl,rfl,rfl⟩ |⟨g,cur,rfl,hg,h1,h2,h3,h4⟩
  ·simp
  ·exact h1
 rcases h with⟨rfl,rfl,rfl⟩ |⟨g,cur,rfl,hg,h1,h2,h3,h4⟩
 ·simp[Builtin.append_,run_underlying hT.un,sizeOf,typeInfo,hi,Builtin.lenOf,Builtin.firstCells,loadCells,loadCellsFrom]
 ·simp[Builtin.append_,run_underlying hT.un,sizeOf,typeInfo,hi,Builtin.lenOf,Builtin.firstCells,loadCells,loadCellsFrom,hle,storeCells]
structure Own (el:TypeId) (B:Nat) (w:World) (a:Option Addr) (cap:Nat) (xs:List P2):Prop where
 row:Row el w a cap xs
 fresh:∀ k,own a=some k->B<=k
theorem Own.nil (el:TypeId) (B:Nat) (w:World):Own el B w none 0 []:=⟨Row.nil el w,fun k h=>by cases h⟩
theorem Own.below {el:TypeId} {B:Nat} {w w':World} {a:Option Addr} {cap:Nat} {xs:List P2} (h:Own el B w a cap xs) (hb:Below w.heap.size w w'):Own el B w' a cap xs:=⟨h.row.below hb,h.fresh⟩
theorem own_appendB {sl el:TypeId} {z:P2} (hT:Two sl el z) {B:Nat} {w:World} (ty:TypeId) {a:Option Addr} {cap:Nat} {xs:List P2} (h:Own el B w a cap xs) (hB:B<=w.heap.size) (src:Option Addr) (m c:Nat) (news:List P2) (hm:news.length=m) (hc:src=none->c=0) (hn:Cs w src news) (ho1:Ones news) (hz:∀ i,Tryz.prog.info? el=some i->(xs.length+m)*i.bytes<=140737488351232) :
  ∃ a' cap' w',(Builtin.append_ #[sl,sl] ty #[.slice a xs.length cap,.slice src m c]).run Tryz.prog w=.ok (.slice a' (xs.length+m) cap') w'/\Own el B w' a' cap' (xs++news)/\Below B w w':=by
 have fin:∀ {a':Option Addr} {cap':Nat} {w':World},Row el w' a' cap' (xs++news)->w.grownBy w' (own a)->(own a'=own a∨own a'=some w.heap.size)->Own el B w' a' cap' (xs++news)/\Below B w w':=by
  intro a' cap' w' h1 h2 h3
  refine⟨⟨h1,fun k hk=>?_⟩,⟨h2.os,h2.tape,h2.output,h2.size,fun k hk=>h2.block k (by omega) (fun e=>?_)⟩⟩
  ·rcases h3 with e |e
   ·exact h.fresh k (e ▸ hk)
   ·rw[e] at hk;cases hk;exact hB
  ·have:=h.fresh k e.symm
   omega
 by_cases hnil:news=[]
 ·subst hnil
  simp at hm
  subst hm
  cases src with
  | none =>
   have:=hc rfl
   subst this
   exact⟨a,cap,w,by rw[Nat.add_zero];exact row_append_none hT ty h.row,by rw[List.append_nil];exact h,Below.refl _ _⟩
  | some ad =>
   obtain⟨a',cap',w',hr,h1,h2,h3⟩:=row_appendB hT ty h.row ad 0 c [] rfl (fun j u hu=>by simp[prs] at hu) (fun p hp=>by cases hp) hz
   exact⟨a',cap',w',hr,fin h1 h2 h3⟩
 ·obtain⟨b,off,e,_⟩:=hn.at_ 0 (List.length_pos_iff.2 hnil)
  subst e
  obtain⟨a',cap',w',hr,h1,h2,h3⟩:=row_appendB hT ty h.row ⟨b,off,none⟩ m c news hm (cs_prs hn) ho1 hz
  exact⟨a',cap',w',hr,fin h1 h2 h3⟩
theorem wp_append_ownB {sl el:TypeId} {z:P2} (hT:Two sl el z) {B:Nat} {w:World} {o:Oper} {act:Act} {K:Act->World->Prop} {Q:Exit->Act->World->Prop} (s x:Operand)
  (ho:o.op=.call {callee:=.builtin .append,args:=#[s,x],argTypes:=#[sl,sl]})
  {a:Option Addr} {cap n:Nat} {xs:List P2} (hs:act.eval s=.slice a n cap) (hl:n=xs.length) (hrow:Own el B w a cap xs) (hB:B<=w.heap.size)
  {src:Option Addr} {m c:Nat} {news:List P2} (hx:act.eval x=.slice src m c) (hm:news.length=m) (hc:src=none->c=0) (hn:Cs w src news) (ho1:Ones news) (hz:∀ i,Tryz.prog.info? el=some i->(n+m)*i.bytes<=140737488351232)
  (h:∀ a' cap' w',Own el B w' a' cap' (xs++news)->Below B w w'->K (act.put o.dst (.slice a' (n+m) cap')) w'):o.wp Tryz.prog act w K Q:=by
 subst hl
 obtain⟨a',cap',w',hr,h2,h3⟩:=own_appendB hT o.type hrow hB src m c news hm hc hn ho1 hz
 unfold Oper.wp execOp
 simp only[ho,resolve,invoke,builtin,Sem.run_bind,Sem.run_pure,Result.andThen_ok,List.map_toArray,List.map_cons,List.map_nil,hs,hx,hr]
 exact h a' cap' w' h2 h3
theorem wp_append_own {sl el:TypeId} {z:P2} (hT:Two sl el z) {B:Nat} {w:World} {o:Oper} {act:Act} {K:Act->World->Prop} {Q:Exit->Act->World->Prop} (s x:Operand)
  (ho:o.op=.call {callee:=.builtin .append,args:=#[s,x],argTypes:=#[sl,sl]})
  {a:Option Addr} {cap n:Nat} {xs:List P2} (hs:act.eval s=.slice a n cap) (hl:n=xs.length) (hrow:Own el B w a cap xs) (hB:B<=w.heap.size)
  {src:Option Addr} {m c:Nat} {news:List P2} (hx:act.eval x=.slice src m c) (hm:news.length=m) (hc:src=none->c=0) (hn:Cs w src news) (ho1:Ones news) (hz:n+m<=100000)
  (h:∀ a' cap' w',Own el B w' a' cap' (xs++news)->Below B w w'->K (act.put o.dst (.slice a' (n+m) cap')) w'):o.wp Tryz.prog act w K Q:=by
 exact wp_append_ownB hT s x ho hs hl hrow hB hx hm hc hn ho1 (hzB_of hT hz) h
theorem wpList_append_ownB {sl el:TypeId} {z:P2} (hT:Two sl el z) {B:Nat} {w:World} {ops:Array Oper} {rest:List Oper} {o:Oper} {act:Act} {Q:Exit->Act->World->Prop} (hgd:o.guard=none) (s x:Operand)
  (ho:o.op=.call {callee:=.builtin .append,args:=#[s,x],argTypes:=#[sl,sl]})
  {a:Option Addr} {cap n:Nat} {xs:List P2} (hs:act.eval s=.slice a n cap) (hl:n=xs.length) (hrow:Own el B w a cap xs) (hB:B<=w.heap.size)
  {src:Option Addr} {m c:Nat} {news:List P2} (hx:act.eval x=.slice src m c) (hm:news.length=m) (hc:src=none->c=0) (hn:Cs w src news) (ho1:Ones news) (hz:∀ i,Tryz.prog.info? el=some i->(n+m)*i.bytes<=140737488351232)
  (h:∀ a' cap' w',Own el B w' a' cap' (xs++news)->Below B w w'->wpList Tryz.prog ops Q rest (act.put o.dst (.slice a' (n+m) cap')) w'):wpList Tryz.prog ops Q (o ::rest) act w :=
 wpList_plain hgd fun _ hK=>wp_append_ownB hT s x ho hs hl hrow hB hx hm hc hn ho1 hz fun a' cap' w' h2 h3=>hK _ _ (h a' cap' w' h2 h3)
theorem wpList_append_own' {sl el:TypeId} {z:P2} (hT:Two sl el z) {B:Nat} {w:World} {ops:Array Oper} {rest:List Oper} {o:Oper} {act:Act} {Q:Exit->Act->World->Prop} (hgd:o.guard=none) (s x:Operand)
  (ho:o.op=.call {callee:=.builtin .append,args:=#[s,x],argTypes:=#[sl,sl]})
  {a:Option Addr} {cap n:Nat} {xs:List P2} (hs:act.eval s=.slice a n cap) (hl:n=xs.length) (hrow:Own el B w a cap xs) (hB:B<=w.heap.size)
  {src:Option Addr} {m c:Nat} {news:List P2} (hx:act.eval x=.slice src m c) (hm:news.length=m) (hc:src=none->c=0) (hn:Cs w src news) (ho1:Ones news) (hz:n+m<=100000)
  (h:∀ a' cap' w',Own el B w' a' cap' (xs++news)->Below B w w'->wpList Tryz.prog ops Q rest (act.put o.dst (.slice a' (n+m) cap')) w'):wpList Tryz.prog ops Q (o ::rest) act w :=
 wpList_plain hgd fun _ hK=>wp_append_own hT s x ho hs hl hrow hB hx hm hc hn ho1 hz fun a' cap' w' h2 h3=>hK _ _ (h a' cap' w' h2 h3)
theorem two_im:Two 52 227 (.int .i64 0,.string ⟨#[]⟩) :=
 ⟨Tryz.underlying52,by
  obtain⟨i,h1,h2,h3,h4⟩:=info_parts (show(Tryz.prog.info? 227).map (fun i=>(i.zero,i.size,i.bytes))=some (some (.agg #[.int .i64 0,.string ⟨#[]⟩]),2,24) by kernel_rfl)
  exact⟨i,h1,h2,h3,by omega,by omega⟩,rfl,rfl⟩
theorem two_tb:Two 35 40 (.int .i64 0,.int .i64 0) :=
 ⟨Tryz.underlying35,by
  obtain⟨i,h1,h2,h3,h4⟩:=info_parts (show(Tryz.prog.info? 40).map (fun i=>(i.zero,i.size,i.bytes))=some (some (.agg #[.int .i64 0,.int .i64 0]),2,16) by kernel_rfl)
  exact⟨i,h1,h2,h3,by omega,by omega⟩,rfl,rfl⟩
def encI (l:List Im):List P2:=l.map fun p=>(.int .i64 p.1,.string p.2)
def encT (l:List Tb):List P2:=l.map fun p=>(.int .i64 p.1,.int .i64 p.2)
theorem encI_length (l:List Im):(encI l).length=l.length:=by simp[encI]
theorem encT_length (l:List Tb):(encT l).length=l.length:=by simp[encT]
theorem encI_ones (l:List Im):Ones (encI l):=by
 intro p hp
 obtain⟨q,_,rfl⟩:=List.mem_map.1 hp
 exact⟨rfl,rfl⟩
theorem encT_ones (l:List Tb):Ones (encT l):=by
 intro p hp
 obtain⟨q,_,rfl⟩:=List.mem_map.1 hp
 exact⟨rfl,rfl⟩
theorem encI_append (a b:List Im):encI (a++b)=encI a++encI b:=by simp[encI]
theorem encT_append (a b:List Tb):encT (a++b)=encT a++encT b:=by simp[encT]
structure SlI (w:World) (v:Value) (l:List Im):Prop where
 ex:∃ a c,v=.slice a l.length c/\Cs w a (encI l)/\(a=none->c=0)/\l.length<=c/\(l≠[]->∀ ad,a=some ad->ad.spot=none)
structure SlT (w:World) (v:Value) (l:List Tb):Prop where
 ex:∃ a c,v=.slice a l.length c/\Cs w a (encT l)/\(a=none->c=0)/\l.length<=c/\(l≠[]->∀ ad,a=some ad->ad.spot=none)
section
variable {w w':World}{v:Value}{l:List Im}{g:List Tb}
theorem SlI.below (h:SlI w v l) (hb:Below w.heap.size w w'):SlI w' v l:=by
 obtain⟨a,c,h0,h1,h2⟩:=h.ex;exact⟨a,c,h0,h1.below hb,h2⟩
theorem SlT.below (h:SlT w v g) (hb:Below w.heap.size w w'):SlT w' v g:=by
 obtain⟨a,c,h0,h1,h2⟩:=h.ex;exact⟨a,c,h0,h1.below hb,h2⟩
theorem SlI.one (h:SlI w v l):v.oneCell'=true:=by obtain⟨a,c,rfl,_⟩:=h.ex;rfl
theorem SlT.one (h:SlT w v g):v.oneCell'=true:=by obtain⟨a,c,rfl,_⟩:=h.ex;rfl
theorem SlI.nil (w:World):SlI w nilV []:=⟨none,0,rfl,Cs.nil _ _,fun _=>rfl,Nat.le_refl _,fun _ _ h=>by cases h⟩
theorem SlT.nil (w:World):SlT w nilV []:=⟨none,0,rfl,Cs.nil _ _,fun _=>rfl,Nat.le_refl _,fun _ _ h=>by cases h⟩
theorem csI_at {a:Option Addr} (h:Cs w a (encI l)) {i:Nat} (hi:i<l.length):∃ b off,a=some ⟨b,off,none⟩/\b<w.heap.size/\∀ w',Below w.heap.size w w'->w'.cell? ⟨b,off+i*2,none⟩=some (.int .i64 l[i].1)/\w'.cell? ⟨b,off+i*2+1,none⟩=some (.string l[i].2):=by
 obtain⟨b,off,h0,h1,h2,h3⟩:=h.at_ i (by rw[encI_length];exact hi)
 simp only[encI,List.getElem_map] at h2 h3
 exact⟨b,off,h0,h1,fun w' hb=>⟨(hb.cell (by exact h1)).trans h2,(hb.cell (by exact h1)).trans h3⟩⟩
theorem csT_at {a:Option Addr} (h:Cs w a (encT g)) {i:Nat} (hi:i<g.length):∃ b off,a=some ⟨b,off,none⟩/\b<w.heap.size/\∀ w',Below w.heap.size w w'->w'.cell? ⟨b,off+i*2,none⟩=some (.int .i64 g[i].1)/\w'.cell? ⟨b,off+i*2+1,none⟩=some (.int .i64 g[i].2):=by
 obtain⟨b,off,h0,h1,h2,h3⟩:=h.at_ i (by rw[encT_length];exact hi)
 simp only[encT,List.getElem_map] at h2 h3
 exact⟨b,off,h0,h1,fun w' hb=>⟨(hb.cell (by exact h1)).trans h2,(hb.cell (by exact h1)).trans h3⟩⟩
end
structure Fr (w:World) (v:Value) (L:List P2) (B:Nat):Prop where
 ex:∃ a c,v=.slice a L.length c/\Cs w a L/\(a=none->c=0)/\L.length<=c/\(∀ ad,a=some ad->ad.spot=none)/\(∀ b off,a=some ⟨b,off,none⟩->B<=b)
theorem Fr.off {w w':World} {v:Value} {L:List P2} {B b:Nat} (h:Fr w v L B) (o:Pk.Off b w w') (hb:b<B):Fr w' v L B:=by
 obtain⟨a,c,h0,h1,h2,h3,h4,h5⟩:=h.ex
 exact⟨a,c,h0,h1.off o (fun b' off e=>by have:=h5 b' off e;omega),h2,h3,h4,h5⟩
theorem Fr.below {w w':World} {v:Value} {L:List P2} {B:Nat} (h:Fr w v L B) (o:Below w.heap.size w w'):Fr w' v L B:=by
 obtain⟨a,c,h0,h1,h2,h3,h4,h5⟩:=h.ex
 exact⟨a,c,h0,h1.below o,h2,h3,h4,h5⟩
theorem Own.fr {el:TypeId} {B:Nat} {w:World} {a:Option Addr} {cap:Nat} {L:List P2} (h:Own el B w a cap L):Fr w (.slice a L.length cap) L B:=by
 refine⟨a,cap,rfl,h.row.cs,?_,?_,?_,fun b off e=>h.fresh b (by simp[own,e])⟩
 ·rintro rfl
  rcases h.row with⟨_,h1,_⟩ |⟨g,cur,h1,_⟩
  ·exact h1
  ·cases h1
 ·rcases h.row with⟨_,h1,h2⟩ |⟨g,cur,h1,_,h2,_⟩
  ·rw[h2];exact Nat.zero_le _
  ·exact h2
 ·intro ad e
  rcases h.row with⟨h0,_,_⟩ |⟨g,cur,h1,_,h2,_⟩
  ·rw[h0] at e;cases e
  ·rw[h1] at e;cases e;rfl
theorem Own.frI {el:TypeId} {B:Nat} {w:World} {a:Option Addr} {cap:Nat} (l:List Im) (h:Own el B w a cap ([]++encI l)):Fr w (.slice a l.length cap) (encI l) B:=by
 have:=h.fr
 rw[List.nil_append,encI_length] at this
 exact this
theorem Own.frT {el:TypeId} {B:Nat} {w:World} {a:Option Addr} {cap:Nat} (l:List Tb) (h:Own el B w a cap ([]++encT l)):Fr w (.slice a l.length cap) (encT l) B:=by
 have:=h.fr
 rw[List.nil_append,encT_length] at this
 exact this
theorem Fr.slI {w:World} {v:Value} {l:List Im} {B:Nat} (h:Fr w v (encI l) B):SlI w v l:=by
 obtain⟨a,c,h0,h1,h2,h3,h4,h5⟩:=h.ex
 rw[encI_length] at h0 h3
 exact⟨a,c,h0,h1,h2,h3,fun _=>h4⟩
theorem Fr.slT {w:World} {v:Value} {l:List Tb} {B:Nat} (h:Fr w v (encT l) B):SlT w v l:=by
 obtain⟨a,c,h0,h1,h2,h3,h4,h5⟩:=h.ex
 rw[encT_length] at h0 h3
 exact⟨a,c,h0,h1,h2,h3,fun _=>h4⟩
structure RecV (w:World) (v:Value) (m:Rm):Prop where
 ex:∃ I T,v=.agg (m.s.A I T)/\SlI w I m.im/\SlT w T m.tb
theorem RecV.below {w w':World} {v:Value} {m:Rm} (h:RecV w v m) (hb:Below w.heap.size w w'):RecV w' v m:=by
 obtain⟨I,T,h0,h1,h2⟩:=h.ex;exact⟨I,T,h0,h1.below hb,h2.below hb⟩
section
variable {w w':World}{b:Nat}{s:Sc}{I T:Value}
theorem values_3 (h:RcAt w b s I T) (ha:actOf s=3):Calls Tryz.prog 137 #[.pointer (some ⟨b,0,none⟩)] w fun e w'=>e=.returned (.slice (some ⟨w.heap.size,0,none⟩) 1 1)/\w'=w.alloc (.cells #[.pointer (some ⟨b,7,none⟩)] 204):=by
 have hc0:=h.c0
 have hc4:=h.c4
 clear h
 unfold actOf at ha
 by_cases hk:s.kd=6
 ·rw[if_pos hk] at ha
  rw[hk] at hc0
  rw[ha] at hc4
  go_enter Tryz.func137,Tryz.ntmps137
  go_wp2
  go_ret
  exact⟨rfl,rfl⟩
 ·rw[if_neg hk] at ha
  rw[ha] at hc0
  go_enter Tryz.func137,Tryz.ntmps137
  go_wp2
  go_ret
  exact⟨rfl,rfl⟩
theorem values_4 (h:RcAt w b s I T) (ha:actOf s=4):Calls Tryz.prog 137 #[.pointer (some ⟨b,0,none⟩)] w fun e w'=>e=.returned (.slice (some ⟨w.heap.size,0,none⟩) 1 1)/\w'=w.alloc (.cells #[.pointer (some ⟨b,6,none⟩)] 204):=by
 have hc0:=h.c0
 have hc4:=h.c4
 clear h
 unfold actOf at ha
 by_cases hk:s.kd=6
 ·rw[if_pos hk] at ha
  rw[hk] at hc0
  rw[ha] at hc4
  go_enter Tryz.func137,Tryz.ntmps137
  go_wp2
  go_ret
  exact⟨rfl,rfl⟩
 ·rw[if_neg hk] at ha
  rw[ha] at hc0
  go_enter Tryz.func137,Tryz.ntmps137
  go_wp2
  go_ret
  exact⟨rfl,rfl⟩
theorem values_o (h:RcAt w b s I T) (h3:actOf s≠3) (h4:actOf s≠4):Calls Tryz.prog 137 #[.pointer (some ⟨b,0,none⟩)] w fun e w'=>e=.returned (.slice (some ⟨w.heap.size,0,none⟩) 2 2)/\w'=w.drew.alloc (.cells #[.pointer (some ⟨b,6,none⟩),.pointer (some ⟨b,7,none⟩)] 204):=by
 have hc0:=h.c0
 have hc4:=h.c4
 clear h
 unfold actOf at h3 h4
 by_cases hk:s.kd=6
 ·rw[if_pos hk] at h3 h4
  rw[hk] at hc0
  have e3:(s.ac==3)=false:=by simpa using h3
  have e4:(s.ac==4)=false:=by simpa using h4
  go_enter Tryz.func137,Tryz.ntmps137
  go_wp2
  go_region
  go_wp2
  go_ret
  exact⟨rfl,rfl⟩
 ·rw[if_neg hk] at h3 h4
  have e6:(s.kd==6)=false:=by simpa using hk
  have e3:(s.kd==3)=false:=by simpa using h3
  have e4:(s.kd==4)=false:=by simpa using h4
  go_enter Tryz.func137,Tryz.ntmps137
  go_wp2
  go_region
  go_wp2
  go_ret
  exact⟨rfl,rfl⟩
end
section
variable {w w':World}{b c:Nat}{s t:Sc}{I T J U:Value}
def chg (s t:Sc):Sc:={s with pg:=t.pg,ky:=t.ky}
theorem copy_start (h:RcAt w b s I T) (h':RcAt w c t J U) (hne:b≠c) :
  RcAt ((w.setCell ⟨b,3,none⟩ (.int .i64 t.pg)).setCell ⟨b,5,none⟩ (.string t.ky)).drew b (chg s t) I T/\RcAt ((w.setCell ⟨b,3,none⟩ (.int .i64 t.pg)).setCell ⟨b,5,none⟩ (.string t.ky)).drew c t J U/\Pk.Off b w ((w.setCell ⟨b,3,none⟩ (.int .i64 t.pg)).setCell ⟨b,5,none⟩ (.string t.ky)).drew:=by
 have o:Pk.Off b w ((w.setCell ⟨b,3,none⟩ (.int .i64 t.pg)).setCell ⟨b,5,none⟩ (.string t.ky)).drew:=(((Pk.Off.refl _ _).setCell _ _).setCell _ _).drew
 refine⟨RcAt.drew ((h.set (k:=3) (s':={s with pg:=t.pg}) (I':=I) (T':=T) rfl).set (k:=5) (s':=chg s t) (I':=I) (T':=T) rfl),h'.off o (fun e=>hne e.symm),o⟩
structure Vl (w w':World) (b c g d:Nat) (s t:Sc) (I T J U:Value) (P G:Array Value):Prop where
 tb:RcAt w' b s I T
 fc:RcAt w' c t J U
 pg:w'.heap[g]?=some (.cells P 204)
 pd:w'.heap[d]?=some (.cells G 204)
 off:Pk.Off b w w'
theorem Vl.mk' {w w1:World} {P G:Array Value} (h:RcAt w1 b s I T) (h':RcAt w1 c t J U) (o:Pk.Off b w w1) {w2 w3:World} (h2:w2=w1.alloc (.cells P 204)) (h3:w3=w2.alloc (.cells G 204)):Vl w w3 b c w1.heap.size w2.heap.size s t I T J U P G:=by
 subst h2 h3
 have b1:Below w1.heap.size w1 (w1.alloc (.cells P 204)):=(Below.refl _ _).alloc (Nat.le_refl _) _
 have b2:Below (w1.alloc (.cells P 204)).heap.size (w1.alloc (.cells P 204)) ((w1.alloc (.cells P 204)).alloc (.cells G 204)):=(Below.refl _ _).alloc (Nat.le_refl _) _
 refine⟨(h.below b1).below b2,(h'.below b1).below b2,(b2.block _ ?_).trans (MapKept.heap_alloc w1 _).1,(MapKept.heap_alloc _ _).1,(o.alloc _).alloc _⟩
 simp
theorem Vl.mk2 {w w1:World} {P G:Array Value} (h:RcAt w1 b s I T) (h':RcAt w1 c t J U) (o:Pk.Off b w w1) {w2 w3:World} (h2:w2=w1.drew.alloc (.cells P 204)) (h3:w3=w2.drew.alloc (.cells G 204)):Vl w w3 b c w1.heap.size w2.heap.size s t I T J U P G:=by
 subst h2 h3
 have b1:Below w1.heap.size w1 (w1.drew.alloc (.cells P 204)):=((Below.refl _ _).drew).alloc (Nat.le_refl _) _
 have b2:Below (w1.drew.alloc (.cells P 204)).heap.size (w1.drew.alloc (.cells P 204)) ((w1.drew.alloc (.cells P 204)).drew.alloc (.cells G 204)):=((Below.refl (w1.drew.alloc (.cells P 204)).heap.size (w1.drew.alloc (.cells P 204))).drew).alloc (Nat.le_refl _) _
 refine⟨(h.below b1).below b2,(h'.below b1).below b2,(b2.block _ ?_).trans (MapKept.heap_alloc w1.drew _).1,(MapKept.heap_alloc _ _).1,((o.drew.alloc _).drew).alloc _⟩
 simp
theorem copy_3 (h:RcAt w b s I T) (h':RcAt w c t J U) (hne:b≠c) (ha:actOf s=3) (ha':actOf t=3):Calls Tryz.prog 104 #[.pointer (some ⟨b,0,none⟩),.pointer (some ⟨c,0,none⟩)] w fun e w'=>e=.returned (.tuple #[])/\RcAt w' b {chg s t with nw:=t.nw} I T/\Pk.Off b w w':=by
 have a3:=h.c3
 have a5:=h.c5
 have af:=h.f
 have b3:=h'.c3
 have b5:=h'.c5
 have K:=copy_start h h' hne
 clear h h'
 go_enter Tryz.func104,Tryz.ntmps104
 go_wp2
 go_region
 generalize ((w.setCell ⟨b,3,none⟩ (.int .i64 t.pg)).setCell ⟨b,5,none⟩ (.string t.ky)).drew=w1 at K ⊢
 obtain⟨r1,q1,o1⟩:=K
 have hx:actOf (chg s t)=3:=ha
 have C1:=values_3 q1 ha'
 have C2:∀ w2,w2=w1.alloc (.cells #[.pointer (some ⟨c,7,none⟩)] 204)->Calls Tryz.prog 137 #[.pointer (some ⟨b,0,none⟩)] w2 fun e w'=>e=.returned (.slice (some ⟨w1.heap.size+1,0,none⟩) 1 1)/\Vl w w' b c w1.heap.size (w1.heap.size+1) (chg s t) t I T J U #[.pointer (some ⟨c,7,none⟩)] #[.pointer (some ⟨b,7,none⟩)]:=fun w2 h2=>by
  have r2:=r1.below (show Below w1.heap.size w1 w2 by subst h2;exact(Below.refl _ _).alloc (Nat.le_refl _) _)
  refine(values_3 r2 hx).mono ?_
  rintro e w3 ⟨he,hw⟩
  have hz:w2.heap.size=w1.heap.size+1:=by subst h2;simp
  have V:=Vl.mk' r1 q1 o1 h2 hw
  rw[hz] at he V
  exact⟨he,V⟩
 have D1:Hid (∀ w2,w2=w1->Calls Tryz.prog 137 #[.pointer (some ⟨c,0,none⟩)] w2 fun e w'=>e=.returned (.slice (some ⟨w1.heap.size,0,none⟩) 1 1)/\w'=w1.alloc (.cells #[.pointer (some ⟨c,7,none⟩)] 204)):=fun w2 h2=>by subst h2;exact C1
 have D2:Hid _:=C2
 clear C1 C2 r1 q1 o1 a3 a5 af b3 b5 ha ha' hx
 go_wp2_with (first |(go_at_call 137;refine(D1.out _ rfl).mono ?_;clear D1;rintro e w2 ⟨rfl,rfl⟩) |(go_at_call 137;refine(D2.out _ rfl).mono ?_;clear D2;rintro e w3 ⟨rfl,V⟩))
 have k1:=V.tb.c7
 have k2:=V.fc.c7
 have k3:=Joins.cell_of_block V.pg 0
 have k4:=Joins.cell_of_block V.pd 0
 have k5:=V.tb.f
 simp only[List.getElem?_toArray,List.getElem?_cons_zero] at k3 k4
 refine wp_loop_rounds 2 ?_
 rw[rounds_succ]
 go_wp2
 rw[rounds_succ]
 go_wp2
 go_end0
 exact⟨rfl,V.tb.set rfl,V.off.setCell _ _⟩
theorem copy_4 (h:RcAt w b s I T) (h':RcAt w c t J U) (hne:b≠c) (ha:actOf s=4) (ha':actOf t=4):Calls Tryz.prog 104 #[.pointer (some ⟨b,0,none⟩),.pointer (some ⟨c,0,none⟩)] w fun e w'=>e=.returned (.tuple #[])/\RcAt w' b {chg s t with ol:=t.ol} I T/\Pk.Off b w w':=by
 have a3:=h.c3
 have a5:=h.c5
 have af:=h.f
 have b3:=h'.c3
 have b5:=h'.c5
 have K:=copy_start h h' hne
 clear h h'
 go_enter Tryz.func104,Tryz.ntmps104
 go_wp2
 go_region
 generalize ((w.setCell ⟨b,3,none⟩ (.int .i64 t.pg)).setCell ⟨b,5,none⟩ (.string t.ky)).drew=w1 at K ⊢
 obtain⟨r1,q1,o1⟩:=K
 have hx:actOf (chg s t)=4:=ha
 have C1:=values_4 q1 ha'
 have C2:∀ w2,w2=w1.alloc (.cells #[.pointer (some ⟨c,6,none⟩)] 204)->Calls Tryz.prog 137 #[.pointer (some ⟨b,0,none⟩)] w2 fun e w'=>e=.returned (.slice (some ⟨w1.heap.size+1,0,none⟩) 1 1)/\Vl w w' b c w1.heap.size (w1.heap.size+1) (chg s t) t I T J U #[.pointer (some ⟨c,6,none⟩)] #[.pointer (some ⟨b,6,none⟩)]:=fun w2 h2=>by
  have r2:=r1.below (show Below w1.heap.size w1 w2 by subst h2;exact(Below.refl _ _).alloc (Nat.le_refl _) _)
  refine(values_4 r2 hx).mono ?_
  rintro e w3 ⟨he,hw⟩
  have hz:w2.heap.size=w1.heap.size+1:=by subst h2;simp
  have V:=Vl.mk' r1 q1 o1 h2 hw
  rw[hz] at he V
  exact⟨he,V⟩
 have D1:Hid (∀ w2,w2=w1->Calls Tryz.prog 137 #[.pointer (some ⟨c,0,none⟩)] w2 fun e w'=>e=.returned (.slice (some ⟨w1.heap.size,0,none⟩) 1 1)/\w'=w1.alloc (.cells #[.pointer (some ⟨c,6,none⟩)] 204)):=fun w2 h2=>by subst h2;exact C1
 have D2:Hid _:=C2
 clear C1 C2 r1 q1 o1 a3 a5 af b3 b5 ha ha' hx
 go_wp2_with (first |(go_at_call 137;refine(D1.out _ rfl).mono ?_;clear D1;rintro e w2 ⟨rfl,rfl⟩) |(go_at_call 137;refine(D2.out _ rfl).mono ?_;clear D2;rintro e w3 ⟨rfl,V⟩))
 have k1:=V.tb.c6
 have k2:=V.fc.c6
 have k3:=Joins.cell_of_block V.pg 0
 have k4:=Joins.cell_of_block V.pd 0
 have k5:=V.tb.f
 simp only[List.getElem?_toArray,List.getElem?_cons_zero] at k3 k4
 refine wp_loop_rounds 2 ?_
 rw[rounds_succ]
 go_wp2
 rw[rounds_succ]
 go_wp2
 go_end0
 exact⟨rfl,V.tb.set rfl,V.off.setCell _ _⟩
theorem copy_o (h:RcAt w b s I T) (h':RcAt w c t J U) (hne:b≠c) (h3:actOf s≠3) (h4:actOf s≠4) (ha:actOf t=actOf s):Calls Tryz.prog 104 #[.pointer (some ⟨b,0,none⟩),.pointer (some ⟨c,0,none⟩)] w fun e w'=>e=.returned (.tuple #[])/\RcAt w' b {chg s t with ol:=t.ol,nw:=t.nw} I T/\Pk.Off b w w':=by
 have a3:=h.c3
 have a5:=h.c5
 have af:=h.f
 have b3:=h'.c3
 have b5:=h'.c5
 have K:=copy_start h h' hne
 clear h h'
 go_enter Tryz.func104,Tryz.ntmps104
 go_wp2
 go_region
 generalize ((w.setCell ⟨b,3,none⟩ (.int .i64 t.pg)).setCell ⟨b,5,none⟩ (.string t.ky)).drew=w1 at K ⊢
 obtain⟨r1,q1,o1⟩:=K
 have hx3:actOf (chg s t)≠3:=h3
 have hx4:actOf (chg s t)≠4:=h4
 have C1:=values_o q1 (by rw[ha];exact h3) (by rw[ha];exact h4)
 have C2:∀ w2,w2=w1.drew.alloc (.cells #[.pointer (some ⟨c,6,none⟩),.pointer (some ⟨c,7,none⟩)] 204)->Calls Tryz.prog 137 #[.pointer (some ⟨b,0,none⟩)] w2 fun e w'=>e=.returned (.slice (some ⟨w1.heap.size+1,0,none⟩) 2 2)/\Vl w w' b c w1.heap.size (w1.heap.size+1) (chg s t) t I T J U #[.pointer (some ⟨c,6,none⟩),.pointer (some ⟨c,7,none⟩)] #[.pointer (some ⟨b,6,none⟩),.pointer (some ⟨b,7,none⟩)]:=fun w2 h2=>by
  have r2:=r1.below (show Below w1.heap.size w1 w2 by subst h2;exact((Below.refl _ _).drew).alloc (Nat.le_refl _) _)
  refine(values_o r2 hx3 hx4).mono ?_
  rintro e w3 ⟨he,hw⟩
  have hz:w2.heap.size=w1.heap.size+1:=by subst h2;simp
  have V:=Vl.mk2 r1 q1 o1 h2 hw
  rw[hz] at he V
  exact⟨he,V⟩
 have D1:Hid (∀ w2,w2=w1->Calls Tryz.prog 137 #[.pointer (some ⟨c,0,none⟩)] w2 fun e w'=>e=.returned (.slice (some ⟨w1.heap.size,0,none⟩) 2 2)/\w'=w1.drew.alloc (.cells #[.pointer (some ⟨c,6,none⟩),.pointer (some ⟨c,7,none⟩)] 204)):=fun w2 h2=>by subst h2;exact C1
 have D2:Hid _:=C2
 clear C1 C2 r1 q1 o1 a3 a5 af b3 b5 ha h3 h4 hx3 hx4
 go_wp2_with (first |(go_at_call 137;refine(D1.out _ rfl).mono ?_;clear D1;rintro e w2 ⟨rfl,rfl⟩) |(go_at_call 137;refine(D2.out _ rfl).mono ?_;clear D2;rintro e w3 ⟨rfl,V⟩))
 have k1:=V.tb.c6
 have k2:=V.fc.c6
 have k1':=V.tb.c7
 have k2':=V.fc.c7
 have k3:=Joins.cell_of_block V.pg 0
 have k4:=Joins.cell_of_block V.pd 0
 have k3':=Joins.cell_of_block V.pg 1
 have k4':=Joins.cell_of_block V.pd 1
 have k5:=V.tb.f
 simp only[List.getElem?_toArray,List.getElem?_cons_zero,List.getElem?_cons_succ] at k3 k4 k3' k4'
 refine wp_loop_rounds 3 ?_
 rw[rounds_succ]
 go_wp2
 rw[rounds_succ]
 go_wp2
 rw[rounds_succ]
 go_wp2
 go_end0
 exact⟨rfl,(V.tb.set (k:=6) (s':={chg s t with ol:=t.ol}) (I':=I) (T':=T) rfl).set rfl,(V.off.setCell _ _).setCell _ _⟩
def copyS (s t:Sc):Sc:={s with pg:=t.pg,ky:=t.ky,ol:=if actOf t=3 then s.ol else t.ol,nw:=if actOf t=4 then s.nw else t.nw}
theorem copy_any (h:RcAt w b s I T) (h':RcAt w c t J U) (hne:b≠c) (ha:actOf t=actOf s):Calls Tryz.prog 104 #[.pointer (some ⟨b,0,none⟩),.pointer (some ⟨c,0,none⟩)] w fun e w'=>e=.returned (.tuple #[])/\RcAt w' b (copyS s t) I T/\Pk.Off b w w':=by
 unfold copyS
 by_cases h3:actOf s=3
 ·rw[ha,if_pos h3,if_neg (by rw[h3];decide)]
  exact copy_3 h h' hne h3 (ha.trans h3)
 ·by_cases h4:actOf s=4
  ·rw[ha,if_neg h3,if_pos h4]
   exact copy_4 h h' hne h4 (ha.trans h4)
  ·rw[ha,if_neg h3,if_neg h4]
   exact copy_o h h' hne h3 h4 ha
end
structure WrS (w:World) (b:Nat) (A:ByteArray × Int) (j:Nat):Prop where
 wr:Pk.WrIs w b A.1 A.2
 sz:A.1.size<=j
section
variable {w w':World}{b j:Nat}{A:ByteArray × Int}
theorem WrS.lt (h:WrS w b A j):b<w.heap.size:=h.wr.lt
theorem WrS.below (h:WrS w b A j) (hb:Below w.heap.size w w'):WrS w' b A j:=⟨h.wr.below hb,h.sz⟩
theorem WrS.num (h:WrS w b A j) (hj:j<=10000000000000) (n k:Int):Calls Tryz.prog 131 #[.pointer (some ⟨b,0,none⟩),.int .i64 n,.int .i64 k] w fun r w'=>r=.returned (.tuple #[])/\WrS w' b (stepW A n k) (j+6)/\Pk.Off b w w':=by
 have hz:=h.sz
 refine(Pk.WNum_any b A.1 A.2 n k w h.wr (by omega)).mono ?_
 rintro e w'' ⟨he,hw,ho⟩
 exact⟨he,⟨hw,by have:=stepW_size A n k;omega⟩,ho⟩
theorem WrS.text (h:WrS w b A j) (hj:j<=10000000000000) (t:ByteArray) (ht:t.size<=140737488351232):Calls Tryz.prog 163 #[.pointer (some ⟨b,0,none⟩),.string t] w fun r w'=>r=.returned (.tuple #[])/\WrS w' b (stepT A t) (j+65537)/\Pk.Off b w w':=by
 have hz:=h.sz
 refine(Pk.WText_any b A.1 A.2 t w h.wr (by omega) ht).mono ?_
 rintro e w'' ⟨he,hw,ho⟩
 exact⟨he,⟨hw,by have:=stepT_size A t;omega⟩,ho⟩
theorem keep_new {o:Obj} (ho:Pk.Off b (w.alloc o) w') (hb:b<w.heap.size):w'.heap[w.heap.size]?=some o:=by
 have:=ho.block w.heap.size (by simp) (by omega)
 rw[this]
 exact(MapKept.heap_alloc w o).1
def ints (ps:List Int):Array Value:=(ps.map fun p=>.int .i64 p).toArray
theorem ints_at {g:Nat} {ps:List Int} (h:w.heap[g]?=some (.cells (ints ps) 3)) {i:Nat} (hi:i<ps.length):w.cell? ⟨g,i,none⟩=some (.int .i64 ps[i]):=by
 rw[Joins.cell_of_block h]
 simp[ints,hi]
set_option maxHeartbeats 400000 in
theorem layPlaces_any (h:WrS w b A j) (hj:j<=1000000000000) {g n:Nat} (ps:List Int) (hg:w.heap[g]?=some (.cells (ints ps) 3)) (hgb:g≠b) (hn:ps.length=n) (h3:n<=3) :
  Calls Tryz.prog 133 #[.pointer (some ⟨b,0,none⟩),.slice (some ⟨g,0,none⟩) n n] w fun r w'=>r=.returned (.tuple #[])/\WrS w' b (layP ps A) (j+6*n)/\Pk.Off b w w':=by
 have hgl:g<w.heap.size:=(Array.getElem?_eq_some_iff.1 hg).1
 go_enter Tryz.func133,Tryz.ntmps133
 go_wp2
 go_loopw [8] (fun ix wr=>∃ i:Nat,i<=n/\ix=.int .i64 (i:Int)/\WrS wr b (layP (ps.take i) A) (j+6*i)/\Pk.Off b w wr) (fun ix _=>n-(intOf ix).toNat)
 case atStart=>exact⟨0,Nat.zero_le _,rfl,h,Pk.Off.refl _ _⟩
 case round =>
  obtain⟨i,hi,rfl,hw,ho⟩:=hrel
  by_cases hlt:i<n
  ·have hc:=ints_at ((ho.block g hgl hgb).trans hg) (i:=i) (by omega)
   have hs:layP (ps.take (i+1)) A=stepW (layP (ps.take i) A) (ps[i]'(by omega)) 6:=by
    rw[List.take_succ_eq_append_getElem (by omega),layP_snoc]
   have HS:Hid _:=hs
   have hi2:(i:Int)<(n:Int):=by omega
   have HO:Hid (Pk.Off b w wr):=ho
   clear hs h hg ho
   generalize ps[i]'(by omega)=p at *
   go_wp2_with (go_at_call 131;refine(hw.num (by omega) _ _).mono ?_;rintro e w1 ⟨rfl,h1,o1⟩)
   go_roundw
   case rel =>
    refine⟨i+1,by omega,by go_num,?_,HO.out.trans o1⟩
    rw[HS.out]
    exact h1
   case measure=>simp[intOf];omega
  ·have hin:i=n:=by omega
   subst hin
   have hi2:¬ (i:Int)<(i:Int):=by omega
   go_wp2
   go_end0
   rw[List.take_of_length_le (by omega)] at hw
   exact⟨rfl,hw,ho⟩
set_option maxHeartbeats 400000 in
theorem layImages_J (h:WrS w b A j) (hj:j<=100000000000) {a:Option Addr} {n c:Nat} (l:List Im) (hl:l.length=n) (hn:n<=10000000000000) (J:Nat) (hJ:J<=100000000000) (hS:∀ i,i<=n->(layI (l.take i) (stepW A n 1)).1.size<=J) (hcs:Cs w a (encI l)) (hne:l≠[]->∀ b' off,a=some ⟨b',off,none⟩->b'≠b) (ht:∀ p∈l,p.2.size<=1000) :
  Calls Tryz.prog 132 #[.pointer (some ⟨b,0,none⟩),.slice a n c] w fun r w'=>r=.returned (.tuple #[])/\WrS w' b (layI l (stepW A n 1)) J/\Pk.Off b w w':=by
 go_enter Tryz.func132,Tryz.ntmps132
 go_wp2_with (go_at_call 131;refine(h.num (by omega) _ _).mono ?_;rintro e w1 ⟨rfl,h1,o1⟩)
 go_loopw [12] (fun ix wr=>∃ i:Nat,i<=n/\ix=.int .i64 (i:Int)/\WrS wr b (layI (l.take i) (stepW A n 1)) J/\Pk.Off b w wr) (fun ix _=>n-(intOf ix).toNat)
 case atStart=>exact⟨0,Nat.zero_le _,rfl,⟨h1.wr,hS 0 (Nat.zero_le _)⟩,o1⟩
 case round =>
  obtain⟨i,hi,rfl,hw,ho⟩:=hrel
  by_cases hlt:i<n
  ·obtain⟨b',off,rfl,hb',HC⟩:=csI_at (hcs.off ho (hne (List.length_pos_iff.1 (by omega)))) (i:=i) (by omega)
   obtain⟨q0,q1⟩:=HC wr (Below.refl _ _)
   have hs:layI (l.take (i+1)) (stepW A n 1)=stepT (stepW (layI (l.take i) (stepW A n 1)) (l[i]'(by omega)).1 2) (l[i]'(by omega)).2:=by
    rw[List.take_succ_eq_append_getElem (by omega),layI_snoc]
   have hz1:(l[i]'(by omega)).2.size<=140737488351232:=Nat.le_trans (ht (l[i]'(by omega)) (List.getElem_mem _)) (by omega)
   have HS:Hid _:=hs
   have HSz:Hid _:=hS (i+1) (by omega)
   rw[hs] at HSz
   have hi2:(i:Int)<(n:Int):=by omega
   have HO:Hid (Pk.Off b w wr):=ho
   have hbl:=hw.lt
   clear hs h ho HC h1 o1 hcs ht hS
   generalize l[i]'(by omega)=p at *
   obtain⟨p,t⟩:=p
   dsimp only at q0 q1 hz1 HS
   go_wp2_with (first
    | (go_at_call 131;refine((hw.below ((Below.refl _ _).alloc (Nat.le_refl _) _)).num (by omega) _ _).mono ?_;rintro e w2 ⟨rfl,h2,o2⟩;have k1:=Joins.cell_of_block (keep_new o2 hbl) 1;have HO2:Hid (Pk.Off b w w2):=(HO.out.alloc _).trans o2)
    | (go_at_call 163;refine(h2.text (by omega) _ hz1).mono ?_;rintro e w3 ⟨rfl,h3,o3⟩))
   go_roundw
   case rel =>
    refine⟨i+1,by omega,by go_num,?_,HO2.out.trans o3⟩
    rw[HS.out]
    exact⟨h3.wr,HSz.out⟩
   case measure=>simp[intOf];omega
  ·have hin:i=n:=by omega
   subst hin
   have hi2:¬ (i:Int)<(i:Int):=by omega
   go_wp2
   go_end0
   rw[List.take_of_length_le (by omega)] at hw
   exact⟨rfl,hw,ho⟩
set_option maxHeartbeats 400000 in
theorem layTable_J (h:WrS w b A j) (hj:j<=100000000000) {a:Option Addr} {n c:Nat} (l:List Tb) (hl:l.length=n) (hn:n<=10000000000000) (J:Nat) (hJ:J<=100000000000) (hS:∀ i,i<=n->(layB (l.take i) (stepW A n 1)).1.size<=J) (hcs:Cs w a (encT l)) (hne:l≠[]->∀ b' off,a=some ⟨b',off,none⟩->b'≠b) :
  Calls Tryz.prog 135 #[.pointer (some ⟨b,0,none⟩),.slice a n c] w fun r w'=>r=.returned (.tuple #[])/\WrS w' b (layB l (stepW A n 1)) J/\Pk.Off b w w':=by
 go_enter Tryz.func135,Tryz.ntmps135
 go_wp2_with (go_at_call 131;refine(h.num (by omega) _ _).mono ?_;rintro e w1 ⟨rfl,h1,o1⟩)
 go_loopw [12] (fun ix wr=>∃ i:Nat,i<=n/\ix=.int .i64 (i:Int)/\WrS wr b (layB (l.take i) (stepW A n 1)) J/\Pk.Off b w wr) (fun ix _=>n-(intOf ix).toNat)
 case atStart=>exact⟨0,Nat.zero_le _,rfl,⟨h1.wr,hS 0 (Nat.zero_le _)⟩,o1⟩
 case round =>
  obtain⟨i,hi,rfl,hw,ho⟩:=hrel
  by_cases hlt:i<n
  ·obtain⟨b',off,rfl,hb',HC⟩:=csT_at (hcs.off ho (hne (List.length_pos_iff.1 (by omega)))) (i:=i) (by omega)
   obtain⟨q0,q1⟩:=HC wr (Below.refl _ _)
   have hs:layB (l.take (i+1)) (stepW A n 1)=layP [(l[i]'(by omega)).1,(l[i]'(by omega)).2] (layB (l.take i) (stepW A n 1)):=by
    rw[List.take_succ_eq_append_getElem (by omega),layB_snoc];rfl
   have HS:Hid _:=hs
   have HSz:Hid _:=hS (i+1) (by omega)
   rw[hs] at HSz
   have hi2:(i:Int)<(n:Int):=by omega
   have HO:Hid (Pk.Off b w wr):=ho
   have hbl:=hw.lt
   clear hs h ho HC h1 o1 hcs hS
   generalize l[i]'(by omega)=p at *
   obtain⟨p,t⟩:=p
   dsimp only at q0 q1 HS
   have CP:Hid (∀ w2,w2=(wr.alloc (.cells #[.int .i64 p,.int .i64 t] 40)).alloc (.cells #[.int .i64 p,.int .i64 t] 3)->Calls Tryz.prog 133 #[.pointer (some ⟨b,0,none⟩),.slice (some ⟨wr.heap.size+1,0,none⟩) 2 2] w2 fun r w'=>r=.returned (.tuple #[])/\WrS w' b (layP [p,t] (layB (l.take i) (stepW A n 1))) (J+12)/\Pk.Off b wr w'):=fun w2 h2=>by
    have hb2:Below wr.heap.size wr w2:=by subst h2;exact((Below.refl _ _).alloc (Nat.le_refl _) _).alloc (by simp) _
    have hg:w2.heap[wr.heap.size+1]?=some (.cells (ints [p,t]) 3):=by
     subst h2
     have:=(MapKept.heap_alloc (wr.alloc (.cells #[.int .i64 p,.int .i64 t] 40)) (.cells #[.int .i64 p,.int .i64 t] 3)).1
     simpa[ints] using this
    refine(layPlaces_any (n:=2) (hw.below hb2) (by omega) [p,t] hg (by omega) rfl (by omega)).mono ?_
    rintro e w3 ⟨he,h3,o3⟩
    exact⟨he,h3,(Pk.Off.of_below hb2).trans o3⟩
   go_wp2_with (go_at_call 133;refine(CP.out _ rfl).mono ?_;rintro e w3 ⟨rfl,h3,o3⟩)
   go_roundw
   case rel =>
    refine⟨i+1,by omega,by go_num,?_,HO.out.trans o3⟩
    rw[HS.out]
    exact⟨h3.wr,HSz.out⟩
   case measure=>simp[intOf];omega
  ·have hin:i=n:=by omega
   subst hin
   have hi2:¬ (i:Int)<(i:Int):=by omega
   go_wp2
   go_end0
   rw[List.take_of_length_le (by omega)] at hw
   exact⟨rfl,hw,ho⟩
theorem layI_err {B:ByteArray × Int} (h:B.2≠0) (l:List Im):layI l B=B:=by
 obtain⟨a,e⟩:=B
 induction l with
 | nil=>rfl
 | cons p l ih=>show layI l (stepT (stepW (a,e) p.1 2) p.2)=_;rw[stepW_had h,stepT_had h];exact ih
theorem layB_err {B:ByteArray × Int} (h:B.2≠0) (l:List Tb):layB l B=B:=by
 obtain⟨a,e⟩:=B
 induction l with
 | nil=>rfl
 | cons p l ih=>show layB l (stepW (stepW (a,e) p.1 6) p.2 6)=_;rw[stepW_had h,stepW_had h];exact ih
theorem many_err {A:ByteArray × Int} (hA:Bare A) {n:Nat} (hn:255<n):(stepW A n 1).2≠0/\(stepW A n 1).1.size=0:=by
 obtain⟨a,e⟩:=A
 by_cases h:e=0
 ·subst h
  rw[stepW_bad (by omega) (by omega) (Or.inr (by rw[Pk.limI_1];omega))]
  exact⟨by decide,rfl⟩
 ·rw[stepW_had h]
  have:=hA h
  dsimp only at this
  exact⟨h,by rw[this];rfl⟩
theorem layImages_any (h:WrS w b A j) (hj:j<=10000000000) (hA:Bare A) {a:Option Addr} {n c:Nat} (l:List Im) (hl:l.length=n) (hn:n<=10000000000000) (hcs:Cs w a (encI l)) (hne:l≠[]->∀ b' off,a=some ⟨b',off,none⟩->b'≠b) (ht:∀ p∈l,p.2.size<=1000) :
  Calls Tryz.prog 132 #[.pointer (some ⟨b,0,none⟩),.slice a n c] w fun r w'=>r=.returned (.tuple #[])/\WrS w' b (layI l (stepW A n 1)) (j+70000000)/\Pk.Off b w w':=by
 refine layImages_J h (by omega) l hl hn (j+70000000) (by omega) (fun i hi=>?_) hcs hne ht
 rcases Nat.lt_or_ge 255 n with h2 |h2
 ·obtain⟨e1,e2⟩:=many_err hA h2
  rw[layI_err e1,e2];omega
 ·have:=layI_size (l.take i) (stepW A n 1)
  have:=stepW_size A n 1
  have:=h.sz
  have:(l.take i).length<=255:=by rw[List.length_take];omega
  omega
theorem layTable_any (h:WrS w b A j) (hj:j<=10000000000) (hA:Bare A) {a:Option Addr} {n c:Nat} (l:List Tb) (hl:l.length=n) (hn:n<=10000000000000) (hcs:Cs w a (encT l)) (hne:l≠[]->∀ b' off,a=some ⟨b',off,none⟩->b'≠b) :
  Calls Tryz.prog 135 #[.pointer (some ⟨b,0,none⟩),.slice a n c] w fun r w'=>r=.returned (.tuple #[])/\WrS w' b (layB l (stepW A n 1)) (j+70000000)/\Pk.Off b w w':=by
 refine layTable_J h (by omega) l hl hn (j+70000000) (by omega) (fun i hi=>?_) hcs hne
 rcases Nat.lt_or_ge 255 n with h2 |h2
 ·obtain⟨e1,e2⟩:=many_err hA h2
  rw[layB_err e1,e2];omega
 ·have:=layB_size (l.take i) (stepW A n 1)
  have:=stepW_size A n 1
  have:=h.sz
  have:(l.take i).length<=255:=by rw[List.length_take];omega
  omega
end
structure LdS (w wx:World) (b0 b:Nat) (s:Sc) (I T:Value) (A:ByteArray × Int) (j:Nat):Prop where
 rc:RcAt wx b0 s I T
 wS:WrS wx b A j
 ne:b0≠b
 off:Pk.Off b w wx
section
variable {w wr wq:World}{b0 b j j':Nat}{s:Sc}{I T:Value}{A A':ByteArray × Int}
theorem LdS.step (h:LdS w wr b0 b s I T A j) (h':WrS wq b A' j') (o:Pk.Off b wr wq):LdS w wq b0 b s I T A' j':=⟨h.rc.off o h.ne,h',h.ne,h.off.trans o⟩
theorem LdS.below (h:LdS w wr b0 b s I T A j) (hb:Below wr.heap.size wr wq):LdS w wq b0 b s I T A j:=⟨h.rc.below hb,h.wS.below hb,h.ne,h.off.trans (Pk.Off.of_below hb)⟩
theorem LdS.num (h:LdS w wr b0 b s I T A j) (hj:j<=1000000000000) (n k:Int):Calls Tryz.prog 131 #[.pointer (some ⟨b,0,none⟩),.int .i64 n,.int .i64 k] wr fun r w'=>r=.returned (.tuple #[])/\LdS w w' b0 b s I T (stepW A n k) (j+6) :=
 (h.wS.num (by omega) n k).mono fun e w' ⟨he,h1,o1⟩=>⟨he,h.step h1 o1⟩
theorem LdS.text (h:LdS w wr b0 b s I T A j) (hj:j<=1000000000000) (t:ByteArray) (ht:t.size<=140737488351232):Calls Tryz.prog 163 #[.pointer (some ⟨b,0,none⟩),.string t] wr fun r w'=>r=.returned (.tuple #[])/\LdS w w' b0 b s I T (stepT A t) (j+65537) :=
 (h.wS.text (by omega) t ht).mono fun e w' ⟨he,h1,o1⟩=>⟨he,h.step h1 o1⟩
structure LvS (w wx:World) (b0 b:Nat) (s:Sc) (I T:Value) (A:ByteArray × Int) (j g:Nat) (P:Array Value):Prop where
 ld:LdS w wx b0 b s I T A j
 pg:wx.heap[g]?=some (.cells P 204)
 ne:g≠b
theorem LvS.text {g:Nat} {P:Array Value} (h:LvS w wr b0 b s I T A j g P) (hj:j<=1000000000000) (t:ByteArray) (ht:t.size<=140737488351232):Calls Tryz.prog 163 #[.pointer (some ⟨b,0,none⟩),.string t] wr fun r w'=>r=.returned (.tuple #[])/\LvS w w' b0 b s I T (stepT A t) (j+65537) g P :=
 (h.ld.wS.text (by omega) t ht).mono fun e w' ⟨he,h1,o1⟩=>⟨he,h.ld.step h1 o1,(o1.block g (Array.getElem?_eq_some_iff.1 h.pg).1 h.ne).trans h.pg,h.ne⟩
end
section
variable {w:World}{b j:Nat}{s:Sc}{I T:Value}{A:ByteArray × Int}
set_option maxHeartbeats 1000000 in
theorem layChange_3 (h:WrS w b A j) (hj:j<=100000000000) (ha:actOf s=3) (hk:s.ky.size<=1000) (ho:s.ol.size<=1000) (hw:s.nw.size<=1000) :
  Calls Tryz.prog 134 #[.pointer (some ⟨b,0,none⟩),.agg (s.A I T)] w fun r w'=>r=.returned (.tuple #[])/\WrS w' b (stepT (stepT (stepW A s.pg 2) s.ky) s.nw) (j+300000)/\Pk.Off b w w':=by
 have hk':s.ky.size<=140737488351232:=by omega
 have ho':s.ol.size<=140737488351232:=by omega
 have hw':s.nw.size<=140737488351232:=by omega
 have hbl:=h.lt
 have CV:Hid (∀ wr A' j',LdS w wr w.heap.size b s I T A' j'->Calls Tryz.prog 137 #[.pointer (some ⟨w.heap.size,0,none⟩)] wr fun e w'=>∃ g,e=.returned (.slice (some ⟨g,0,none⟩) 1 1)/\LvS w w' w.heap.size b s I T A' j' g #[.pointer (some ⟨w.heap.size,7,none⟩)]):=fun wr A' j' H=>by
  refine(values_3 H.rc ha).mono ?_
  rintro e w' ⟨he,hw'⟩
  refine⟨wr.heap.size,he,?_⟩
  subst hw'
  refine⟨H.below ((Below.refl _ _).alloc (Nat.le_refl _) _),(MapKept.heap_alloc wr _).1,by have:=H.wS.lt;omega⟩
 clear hk ho hw
 go_enter Tryz.func134,Tryz.ntmps134
 go_wp2_with (first
  | (refine wpList_box_rc (s:=s) (I:=I) (T:=T) _ rfl _ rfl rfl ?_;intro w0 b0 N0;obtain rfl:=N0.eq;have L:LdS w w0 w.heap.size b s I T A j:=⟨N0.rc,h.below N0.below,(fun e=>absurd e (by omega)),Pk.Off.of_below N0.below⟩;clear N0;have k3:=L.rc.c3;have k5:=L.rc.c5)
  | (go_at_call 131;refine(L.num (by omega) _ _).mono ?_;clear L;rintro e w2 ⟨rfl,L⟩;have k5:=L.rc.c5)
  | (go_at_call 163;refine(L.text (by omega) _ hk').mono ?_;clear L;rintro e w3 ⟨rfl,L⟩)
  | (go_at_call 137;refine(CV.out _ _ _ L).mono ?_;clear L;rintro e w4 ⟨g,rfl,LV⟩;have f7:=LV.ld.rc.c7;have g0:=Joins.cell_of_block LV.pg 0;simp only[List.getElem?_toArray,List.getElem?_cons_zero,List.getElem?_cons_succ] at g0))
 refine wp_loop_rounds 2 ?_
 rw[rounds_succ]
 go_wp2_with (go_at_call 163;refine(LV.text (by omega) _ (by assumption)).mono ?_;clear LV;rintro e w4 ⟨rfl,LV⟩;have f7:=LV.ld.rc.c7;have g0:=Joins.cell_of_block LV.pg 0;simp only[List.getElem?_toArray,List.getElem?_cons_zero,List.getElem?_cons_succ] at g0)
 rw[rounds_succ]
 go_wp2
 go_end0
 exact⟨rfl,⟨LV.ld.wS.wr,Nat.le_trans LV.ld.wS.sz (by omega)⟩,LV.ld.off⟩
set_option maxHeartbeats 1000000 in
theorem layChange_4 (h:WrS w b A j) (hj:j<=100000000000) (ha:actOf s=4) (hk:s.ky.size<=1000) (ho:s.ol.size<=1000) (hw:s.nw.size<=1000) :
  Calls Tryz.prog 134 #[.pointer (some ⟨b,0,none⟩),.agg (s.A I T)] w fun r w'=>r=.returned (.tuple #[])/\WrS w' b (stepT (stepT (stepW A s.pg 2) s.ky) s.ol) (j+300000)/\Pk.Off b w w':=by
 have hk':s.ky.size<=140737488351232:=by omega
 have ho':s.ol.size<=140737488351232:=by omega
 have hw':s.nw.size<=140737488351232:=by omega
 have hbl:=h.lt
 have CV:Hid (∀ wr A' j',LdS w wr w.heap.size b s I T A' j'->Calls Tryz.prog 137 #[.pointer (some ⟨w.heap.size,0,none⟩)] wr fun e w'=>∃ g,e=.returned (.slice (some ⟨g,0,none⟩) 1 1)/\LvS w w' w.heap.size b s I T A' j' g #[.pointer (some ⟨w.heap.size,6,none⟩)]):=fun wr A' j' H=>by
  refine(values_4 H.rc ha).mono ?_
  rintro e w' ⟨he,hw'⟩
  refine⟨wr.heap.size,he,?_⟩
  subst hw'
  refine⟨H.below ((Below.refl _ _).alloc (Nat.le_refl _) _),(MapKept.heap_alloc wr _).1,by have:=H.wS.lt;omega⟩
 clear hk ho hw
 go_enter Tryz.func134,Tryz.ntmps134
 go_wp2_with (first
  | (refine wpList_box_rc (s:=s) (I:=I) (T:=T) _ rfl _ rfl rfl ?_;intro w0 b0 N0;obtain rfl:=N0.eq;have L:LdS w w0 w.heap.size b s I T A j:=⟨N0.rc,h.below N0.below,(fun e=>absurd e (by omega)),Pk.Off.of_below N0.below⟩;clear N0;have k3:=L.rc.c3;have k5:=L.rc.c5)
  | (go_at_call 131;refine(L.num (by omega) _ _).mono ?_;clear L;rintro e w2 ⟨rfl,L⟩;have k5:=L.rc.c5)
  | (go_at_call 163;refine(L.text (by omega) _ hk').mono ?_;clear L;rintro e w3 ⟨rfl,L⟩)
  | (go_at_call 137;refine(CV.out _ _ _ L).mono ?_;clear L;rintro e w4 ⟨g,rfl,LV⟩;have f6:=LV.ld.rc.c6;have g0:=Joins.cell_of_block LV.pg 0;simp only[List.getElem?_toArray,List.getElem?_cons_zero,List.getElem?_cons_succ] at g0))
 refine wp_loop_rounds 2 ?_
 rw[rounds_succ]
 go_wp2_with (go_at_call 163;refine(LV.text (by omega) _ (by assumption)).mono ?_;clear LV;rintro e w4 ⟨rfl,LV⟩;have f6:=LV.ld.rc.c6;have g0:=Joins.cell_of_block LV.pg 0;simp only[List.getElem?_toArray,List.getElem?_cons_zero,List.getElem?_cons_succ] at g0)
 rw[rounds_succ]
 go_wp2
 go_end0
 exact⟨rfl,⟨LV.ld.wS.wr,Nat.le_trans LV.ld.wS.sz (by omega)⟩,LV.ld.off⟩
set_option maxHeartbeats 1000000 in
theorem layChange_o (h:WrS w b A j) (hj:j<=100000000000) (h3:actOf s≠3) (h4:actOf s≠4) (hk:s.ky.size<=1000) (ho:s.ol.size<=1000) (hw:s.nw.size<=1000) :
  Calls Tryz.prog 134 #[.pointer (some ⟨b,0,none⟩),.agg (s.A I T)] w fun r w'=>r=.returned (.tuple #[])/\WrS w' b (stepT (stepT (stepT (stepW A s.pg 2) s.ky) s.ol) s.nw) (j+300000)/\Pk.Off b w w':=by
 have hk':s.ky.size<=140737488351232:=by omega
 have ho':s.ol.size<=140737488351232:=by omega
 have hw':s.nw.size<=140737488351232:=by omega
 have hbl:=h.lt
 have CV:Hid (∀ wr A' j',LdS w wr w.heap.size b s I T A' j'->Calls Tryz.prog 137 #[.pointer (some ⟨w.heap.size,0,none⟩)] wr fun e w'=>∃ g,e=.returned (.slice (some ⟨g,0,none⟩) 2 2)/\LvS w w' w.heap.size b s I T A' j' g #[.pointer (some ⟨w.heap.size,6,none⟩),.pointer (some ⟨w.heap.size,7,none⟩)]):=fun wr A' j' H=>by
  refine(values_o H.rc h3 h4).mono ?_
  rintro e w' ⟨he,hw'⟩
  refine⟨wr.heap.size,he,?_⟩
  subst hw'
  refine⟨H.below (((Below.refl _ _).drew).alloc (Nat.le_refl _) _),(MapKept.heap_alloc wr.drew _).1,by have:=H.wS.lt;omega⟩
 clear hk ho hw
 go_enter Tryz.func134,Tryz.ntmps134
 go_wp2_with (first
  | (refine wpList_box_rc (s:=s) (I:=I) (T:=T) _ rfl _ rfl rfl ?_;intro w0 b0 N0;obtain rfl:=N0.eq;have L:LdS w w0 w.heap.size b s I T A j:=⟨N0.rc,h.below N0.below,(fun e=>absurd e (by omega)),Pk.Off.of_below N0.below⟩;clear N0;have k3:=L.rc.c3;have k5:=L.rc.c5)
  | (go_at_call 131;refine(L.num (by omega) _ _).mono ?_;clear L;rintro e w2 ⟨rfl,L⟩;have k5:=L.rc.c5)
  | (go_at_call 163;refine(L.text (by omega) _ hk').mono ?_;clear L;rintro e w3 ⟨rfl,L⟩)
  | (go_at_call 137;refine(CV.out _ _ _ L).mono ?_;clear L;rintro e w4 ⟨g,rfl,LV⟩;have f6:=LV.ld.rc.c6;have f7:=LV.ld.rc.c7;have g0:=Joins.cell_of_block LV.pg 0;simp only[List.getElem?_toArray,List.getElem?_cons_zero,List.getElem?_cons_succ] at g0;have g1:=Joins.cell_of_block LV.pg 1;simp only[List.getElem?_toArray,List.getElem?_cons_zero,List.getElem?_cons_succ] at g1))
 refine wp_loop_rounds 3 ?_
 rw[rounds_succ]
 go_wp2_with (go_at_call 163;refine(LV.text (by omega) _ (by assumption)).mono ?_;clear LV;rintro e w4 ⟨rfl,LV⟩;have f6:=LV.ld.rc.c6;have f7:=LV.ld.rc.c7;have g0:=Joins.cell_of_block LV.pg 0;simp only[List.getElem?_toArray,List.getElem?_cons_zero,List.getElem?_cons_succ] at g0;have g1:=Joins.cell_of_block LV.pg 1;simp only[List.getElem?_toArray,List.getElem?_cons_zero,List.getElem?_cons_succ] at g1)
 rw[rounds_succ]
 go_wp2_with (go_at_call 163;refine(LV.text (by omega) _ (by assumption)).mono ?_;clear LV;rintro e w4 ⟨rfl,LV⟩;have f6:=LV.ld.rc.c6;have f7:=LV.ld.rc.c7;have g0:=Joins.cell_of_block LV.pg 0;simp only[List.getElem?_toArray,List.getElem?_cons_zero,List.getElem?_cons_succ] at g0;have g1:=Joins.cell_of_block LV.pg 1;simp only[List.getElem?_toArray,List.getElem?_cons_zero,List.getElem?_cons_succ] at g1)
 rw[rounds_succ]
 go_wp2
 go_end0
 exact⟨rfl,⟨LV.ld.wS.wr,Nat.le_trans LV.ld.wS.sz (by omega)⟩,LV.ld.off⟩
theorem layChange_any (h:WrS w b A j) (hj:j<=100000000000) (hk:s.ky.size<=1000) (ho:s.ol.size<=1000) (hw:s.nw.size<=1000) :
  Calls Tryz.prog 134 #[.pointer (some ⟨b,0,none⟩),.agg (s.A I T)] w fun r w'=>r=.returned (.tuple #[])/\WrS w' b (layC s A) (j+300000)/\Pk.Off b w w':=by
 unfold layC layV
 by_cases h3:actOf s=3
 ·rw[if_pos h3]
  exact layChange_3 h hj h3 hk ho hw
 ·by_cases h4:actOf s=4
  ·rw[if_neg h3,if_pos h4]
   exact layChange_4 h hj h4 hk ho hw
  ·rw[if_neg h3,if_neg h4]
   exact layChange_o h hj h3 h4 hk ho hw
end
theorem whole_take_succ {l:List Im} {i:Nat} (hi:i<l.length):whole (l.take (i+1))=(whole (l.take i)&&decide (l[i].2.size=224)):=by
 rw[List.take_succ_eq_append_getElem hi];simp only[whole,List.all_append,List.all_cons,List.all_nil,Bool.and_true]
theorem whole_false {l:List Im} {i:Nat} (hi:i<l.length) (h:¬ l[i].2.size=224):whole l=false:=by
 unfold whole
 rw[List.all_eq_false]
 exact⟨l[i],List.getElem_mem hi,by simpa using h⟩
set_option maxHeartbeats 400000 in
theorem areWhole_any {w:World} {a:Option Addr} {n c:Nat} (l:List Im) (hl:l.length=n) (hn:n<=10000000000000) (hcs:Cs w a (encI l)) (ht:∀ p∈l,p.2.size<=9223372036854775807) :
  Calls Tryz.prog 161 #[.slice a n c] w fun r w'=>r=.returned (.bool (whole l))/\Below w.heap.size w w':=by
 go_enter Tryz.func161,Tryz.ntmps161
 go_wp2
 go_loopw [7] (fun ix wr=>∃ i:Nat,i<=n/\ix=.int .i64 (i:Int)/\whole (l.take i)=true/\Below w.heap.size w wr) (fun ix _=>n-(intOf ix).toNat)
 case atStart=>exact⟨0,Nat.zero_le _,rfl,rfl,Below.refl _ _⟩
 case round =>
  obtain⟨i,hi,rfl,hw,hb⟩:=hrel
  by_cases hlt:i<n
  ·obtain⟨b',off,rfl,hb',HC⟩:=csI_at hcs (i:=i) (by omega)
   obtain⟨q0,q1⟩:=HC wr hb
   have hz:=ht (l[i]'(by omega)) (List.getElem_mem _)
   have hi2:(i:Int)<(n:Int):=by omega
   have HS:Hid _:=whole_take_succ (l:=l) (i:=i) (by omega)
   have HF:Hid _:=whole_false (l:=l) (i:=i) (by omega)
   have HW:Hid (whole (l.take i)=true):=hw
   have HB:Hid (Below w.heap.size w wr):=hb
   clear HC hcs ht hw hb
   generalize l[i]'(by omega)=p at *
   obtain⟨p,t⟩:=p
   dsimp only at q0 q1 hz HS HF
   by_cases h2:t.size=224
   ·have e:((t.size:Int) !=224)=false:=by simp[h2]
    go_wp2
    go_roundw
    case rel =>
     refine⟨i+1,by omega,by go_num,?_,HB.out.alloc HB.out.size _⟩
     rw[HS.out,HW.out];simp[h2]
    case measure=>simp[intOf];omega
   ·have e:((t.size:Int) !=224)=true:=by simp;omega
    go_wp2
    go_ret
    rw[HF.out h2]
    exact⟨rfl,HB.out.alloc HB.out.size _⟩
  ·have hin:i=n:=by omega
   subst hin
   have hi2:¬ (i:Int)<(i:Int):=by omega
   go_wp2
   go_ret
   rw[List.take_of_length_le (by omega)] at hw
   rw[hw]
   exact⟨rfl,hb⟩
theorem tooLong_1 {w:World} {g:Nat} {t:ByteArray} (m:Int) (hg:w.cell? ⟨g,0,none⟩=some (.string t)) (ht:t.size<=9223372036854775807) :
  Calls Tryz.prog 130 #[.int .i64 m,.slice (some ⟨g,0,none⟩) 1 1] w fun r w'=>r=.returned (.bool (decide (m<t.size)))/\w'=w:=by
 by_cases h:m<(t.size:Int)
 ·go_enter Tryz.func130,Tryz.ntmps130
  go_wp2
  refine wp_loop_rounds 2 ?_
  rw[rounds_succ]
  go_wp2
  go_ret
  exact⟨by simp[h],rfl⟩
 ·go_enter Tryz.func130,Tryz.ntmps130
  go_wp2
  refine wp_loop_rounds 2 ?_
  rw[rounds_succ]
  go_wp2
  rw[rounds_succ]
  go_wp2
  go_ret
  exact⟨by simp[h],rfl⟩
theorem tooLong_2 {w:World} {g:Nat} {t u:ByteArray} (m:Int) (hg:w.cell? ⟨g,0,none⟩=some (.string t)) (hg':w.cell? ⟨g,1,none⟩=some (.string u)) (ht:t.size<=9223372036854775807) (hu:u.size<=9223372036854775807) :
  Calls Tryz.prog 130 #[.int .i64 m,.slice (some ⟨g,0,none⟩) 2 2] w fun r w'=>r=.returned (.bool (decide (m<t.size)||decide (m<u.size)))/\w'=w:=by
 by_cases h:m<(t.size:Int)
 ·go_enter Tryz.func130,Tryz.ntmps130
  go_wp2
  refine wp_loop_rounds 3 ?_
  rw[rounds_succ]
  go_wp2
  go_ret
  exact⟨by simp[h],rfl⟩
 ·by_cases h2:m<(u.size:Int)
  ·go_enter Tryz.func130,Tryz.ntmps130
   go_wp2
   refine wp_loop_rounds 3 ?_
   rw[rounds_succ]
   go_wp2
   rw[rounds_succ]
   go_wp2
   go_ret
   exact⟨by simp[h2],rfl⟩
  ·go_enter Tryz.func130,Tryz.ntmps130
   go_wp2
   refine wp_loop_rounds 3 ?_
   rw[rounds_succ]
   go_wp2
   rw[rounds_succ]
   go_wp2
   rw[rounds_succ]
   go_wp2
   go_ret
   exact⟨by simp[h,h2],rfl⟩
section
variable {w:World}{s:Sc}{T:Value}{a:Option Addr}{c:Nat}{l:List Im}{g:List Tb}
set_option maxHeartbeats 400000 in
theorem isFormed_any (hn:l.length<=10000000000000) (hcs:Cs w a (encI l)) (ht:∀ p∈l,p.2.size<=9223372036854775807) :
  Calls Tryz.prog 129 #[.agg (s.A (.slice a l.length c) T)] w fun r w'=>r=.returned (.bool (formed ⟨s,l,g⟩))/\Below w.heap.size w w':=by
 have CW:Hid (∀ w',Below w.heap.size w w'->Calls Tryz.prog 161 #[.slice a l.length c] w' fun r w''=>r=.returned (.bool (whole l))/\Below w'.heap.size w' w''):=fun w' hb=>areWhole_any l rfl hn (hcs.below hb) ht
 clear hcs ht
 unfold formed
 dsimp only
 by_cases h1:s.kd=1
 ·rw[if_pos h1]
  have e1:(s.kd==1)=true:=by simpa using h1
  by_cases hl:l.length=1
  ·have e2:((l.length:Int)==1)=true:=by simp[hl]
   have hd:decide (l.length=1)=true:=by simpa using hl
   rw[hd,Bool.true_and]
   generalize whole l=q at *
   clear h1 hl hd
   go_enter Tryz.func129,Tryz.ntmps129
   go_wp2_with (first
    | (refine wpList_box_rc (s:=s) (I:=_) (T:=_) _ rfl _ rfl rfl ?_;intro w0 b0 N0;have k0:=N0.rc.c0;have k9:=N0.rc.c9)
    | (go_at_call 161;refine(CW.out _ N0.below).mono ?_;rintro e w1 ⟨rfl,b1⟩))
   go_ret
   exact⟨rfl,thn N0.below b1⟩
  ·have e2:((l.length:Int)==1)=false:=by simp;omega
   have hd:decide (l.length=1)=false:=by simpa using hl
   rw[hd,Bool.false_and]
   clear h1 hl hd
   go_enter Tryz.func129,Tryz.ntmps129
   go_wp2_with (refine wpList_box_rc (s:=s) (I:=_) (T:=_) _ rfl _ rfl rfl ?_;intro w0 b0 N0;have k0:=N0.rc.c0;have k9:=N0.rc.c9)
   go_ret
   exact⟨rfl,N0.below⟩
 ·rw[if_neg h1]
  have e1:(s.kd==1)=false:=by simpa using h1
  by_cases h2:s.kd=2
  ·rw[if_pos h2]
   have e2:(s.kd==2)=true:=by simpa using h2
   generalize whole l=q at *
   clear h1 h2
   go_enter Tryz.func129,Tryz.ntmps129
   go_wp2_with (first
    | (refine wpList_box_rc (s:=s) (I:=_) (T:=_) _ rfl _ rfl rfl ?_;intro w0 b0 N0;have k0:=N0.rc.c0;have k9:=N0.rc.c9)
    | (go_at_call 161;refine(CW.out _ N0.below).mono ?_;rintro e w1 ⟨rfl,b1⟩))
   go_ret
   exact⟨rfl,thn N0.below b1⟩
  ·rw[if_neg h2]
   have e2:(s.kd==2)=false:=by simpa using h2
   by_cases h6:s.kd=6
   ·rw[if_pos h6]
    have e6:(s.kd==6)=true:=by simpa using h6
    clear h1 h2 h6
    by_cases a3:s.ac=3
    ·have f3:(s.ac==3)=true:=by simpa using a3
     have hd:decide (s.ac=3∨s.ac=4∨s.ac=5)=true:=by simp[a3]
     rw[hd]
     clear a3 hd
     go_enter Tryz.func129,Tryz.ntmps129
     go_wp2_with (refine wpList_box_rc (s:=s) (I:=_) (T:=_) _ rfl _ rfl rfl ?_;intro w0 b0 N0;have k0:=N0.rc.c0;have k4:=N0.rc.c4)
     go_ret
     exact⟨rfl,N0.below⟩
    ·have f3:(s.ac==3)=false:=by simpa using a3
     by_cases a4:s.ac=4
     ·have f4:(s.ac==4)=true:=by simpa using a4
      have hd:decide (s.ac=3∨s.ac=4∨s.ac=5)=true:=by simp[a4]
      rw[hd]
      clear a3 a4 hd
      go_enter Tryz.func129,Tryz.ntmps129
      go_wp2_with (refine wpList_box_rc (s:=s) (I:=_) (T:=_) _ rfl _ rfl rfl ?_;intro w0 b0 N0;have k0:=N0.rc.c0;have k4:=N0.rc.c4)
      go_ret
      exact⟨rfl,N0.below⟩
     ·have f4:(s.ac==4)=false:=by simpa using a4
      have hd:decide (s.ac=3∨s.ac=4∨s.ac=5)=(s.ac==5):=by by_cases a5:s.ac=5 <;> simp[a3,a4,a5]
      rw[hd]
      clear a3 a4 hd
      generalize hq:(s.ac==5)=q at *
      go_enter Tryz.func129,Tryz.ntmps129
      go_wp2_with (refine wpList_box_rc (s:=s) (I:=_) (T:=_) _ rfl _ rfl rfl ?_;intro w0 b0 N0;have k0:=N0.rc.c0;have k4:=N0.rc.c4)
      go_ret
      exact⟨rfl,N0.below⟩
   ·rw[if_neg h6]
    have e6:(s.kd==6)=false:=by simpa using h6
    clear h1 h2 h6
    go_enter Tryz.func129,Tryz.ntmps129
    go_wp2_with (refine wpList_box_rc (s:=s) (I:=_) (T:=_) _ rfl _ rfl rfl ?_;intro w0 b0 N0;have k0:=N0.rc.c0;have k4:=N0.rc.c4)
    go_ret
    exact⟨rfl,N0.below⟩
end
section
variable {w:World}{s:Sc}{T:Value}{a:Option Addr}{c:Nat}{l:List Im}{g:List Tb}
set_option maxHeartbeats 1000000 in
theorem refusalR_any (hn:l.length<=10000000000000) (hcs:Cs w a (encI l)) (ht:∀ p∈l,p.2.size<=9223372036854775807) (hk:s.ky.size<=9223372036854775807) (ho:s.ol.size<=9223372036854775807) (hw:s.nw.size<=9223372036854775807) :
  Calls Tryz.prog 102 #[.agg (s.A (.slice a l.length c) T)] w fun r w'=>r=.returned (.int .i64 (refM ⟨s,l,g⟩))/\Below w.heap.size w w':=by
 have CF:Hid (∀ w',Below w.heap.size w w'->Calls Tryz.prog 129 #[.agg (s.A (.slice a l.length c) T)] w' fun r w''=>r=.returned (.bool (formed ⟨s,l,g⟩))/\Below w'.heap.size w' w''):=fun w' hb=>isFormed_any hn (hcs.below hb) ht
 clear hcs ht
 unfold refM
 dsimp only
 by_cases h1:s.kd<1
 ·rw[if_pos (Or.inl h1)]
  go_enter Tryz.func102,Tryz.ntmps102
  go_wp2_with (refine wpList_box_rc (s:=s) (I:=_) (T:=_) _ rfl _ rfl rfl ?_;intro w0 b0 N0;have k0:=N0.rc.c0)
  go_ret
  exact⟨rfl,N0.below⟩
 by_cases h2:10<s.kd
 ·rw[if_pos (Or.inr h2)]
  go_enter Tryz.func102,Tryz.ntmps102
  go_wp2_with (refine wpList_box_rc (s:=s) (I:=_) (T:=_) _ rfl _ rfl rfl ?_;intro w0 b0 N0;have k0:=N0.rc.c0)
  go_ret
  exact⟨rfl,N0.below⟩
 rw[if_neg (by omega)]
 by_cases h3:formed ⟨s,l,g⟩=false
 ·rw[if_pos h3]
  rw[h3] at CF
  go_enter Tryz.func102,Tryz.ntmps102
  go_wp2_with (first
   | (refine wpList_box_rc (s:=s) (I:=_) (T:=_) _ rfl _ rfl rfl ?_;intro w0 b0 N0;have k0:=N0.rc.c0)
   | (refine wpList_load_rc _ rfl _ rfl rfl N0.rc ?_)
   | (go_at_call 129;refine(CF.out _ N0.below).mono ?_;rintro e w1 ⟨rfl,b1⟩))
  go_ret
  exact⟨rfl,thn N0.below b1⟩
 rw[if_neg h3]
 have h3':formed ⟨s,l,g⟩=true:=by simpa using h3
 rw[h3'] at CF
 clear h3 h3'
 obtain⟨K,hK⟩:∃ K,K=decide ((16:Int)<s.ky.size):=⟨_,rfl⟩
 obtain⟨V,hV⟩:∃ V,V=(decide ((32:Int)<s.ol.size)||decide ((32:Int)<s.nw.size)):=⟨_,rfl⟩
 have C1:Hid (∀ w1:World,Calls Tryz.prog 130 #[.int .i64 16,.slice (some ⟨w1.heap.size,0,none⟩) 1 1] (w1.alloc (.cells #[.string s.ky] 9)) fun r w'=>r=.returned (.bool K)/\w'=w1.alloc (.cells #[.string s.ky] 9)):=fun w1=>by
  rw[hK]
  exact tooLong_1 16 (Joins.cell_of_block (MapKept.heap_alloc w1 _).1 0) hk
 have C2:Hid (∀ w1:World,Calls Tryz.prog 130 #[.int .i64 32,.slice (some ⟨w1.heap.size+1,0,none⟩) 2 2] ((w1.alloc (.cells #[.string s.ky] 9)).alloc (.cells #[.string s.ol,.string s.nw] 9)) fun r w'=>r=.returned (.bool V)/\w'=(w1.alloc (.cells #[.string s.ky] 9)).alloc (.cells #[.string s.ol,.string s.nw] 9)):=fun w1=>by
  rw[hV]
  have hz:(w1.alloc (.cells #[.string s.ky] 9)).heap.size=w1.heap.size+1:=by simp
  have hb:=(MapKept.heap_alloc (w1.alloc (.cells #[.string s.ky] 9)) (.cells #[.string s.ol,.string s.nw] 9)).1
  rw[hz] at hb
  exact tooLong_2 32 (Joins.cell_of_block hb 0) (Joins.cell_of_block hb 1) ho hw
 by_cases h4:16<s.ky.size
 ·rw[if_pos h4]
  have hK':K=true:=by rw[hK];simp;omega
  subst hK'
  clear hK hV C2 h4 hk ho hw
  go_enter Tryz.func102,Tryz.ntmps102
  go_wp2_with (first
   | (refine wpList_box_rc (s:=s) (I:=_) (T:=_) _ rfl _ rfl rfl ?_;intro w0 b0 N0;have k0:=N0.rc.c0)
   | (refine wpList_load_rc _ rfl _ rfl rfl N0.rc ?_)
   | (go_at_call 129;refine(CF.out _ N0.below).mono ?_;rintro e w1 ⟨rfl,b1⟩;have k5:=(N0.rc.below b1).c5)
   | (go_at_call 130;refine(C1.out _).mono ?_;rintro e w2 ⟨rfl,rfl⟩))
  go_ret
  exact⟨rfl,thn (thn N0.below b1) ((Below.refl _ _).alloc (Nat.le_refl _) _)⟩
 rw[if_neg h4]
 have hK':K=false:=by rw[hK];simp;omega
 subst hK'
 by_cases h5:32<s.ol.size∨32<s.nw.size
 ·rw[if_pos h5]
  have hV':V=true:=by rw[hV];simp;omega
  subst hV'
  clear hK hV h4 h5 hk ho hw
  go_enter Tryz.func102,Tryz.ntmps102
  go_wp2_with (first
   | (refine wpList_box_rc (s:=s) (I:=_) (T:=_) _ rfl _ rfl rfl ?_;intro w0 b0 N0;have k0:=N0.rc.c0)
   | (refine wpList_load_rc _ rfl _ rfl rfl N0.rc ?_)
   | (go_at_call 129;refine(CF.out _ N0.below).mono ?_;rintro e w1 ⟨rfl,b1⟩;have k5:=(N0.rc.below b1).c5;have k6:=(N0.rc.below b1).c6;have k7:=(N0.rc.below b1).c7;have hlt:=(N0.rc.below b1).lt)
   | (go_at_call 130;refine(C1.out _).mono ?_;clear C1;rintro e w2 ⟨rfl,rfl⟩;have B2:Below w1.heap.size w1 (w1.alloc (.cells #[.string s.ky] 9)):=(Below.refl _ _).alloc (Nat.le_refl _) _)
   | (go_at_call 130;refine(C2.out _).mono ?_;clear C2;rintro e w3 ⟨rfl,rfl⟩))
  go_ret
  exact⟨rfl,thn (thn (thn N0.below b1) B2) ((Below.refl _ _).alloc (Nat.le_refl _) _)⟩
 ·rw[if_neg h5]
  have hV':V=false:=by rw[hV];simp;omega
  subst hV'
  clear hK hV h4 h5 hk ho hw
  go_enter Tryz.func102,Tryz.ntmps102
  go_wp2_with (first
   | (refine wpList_box_rc (s:=s) (I:=_) (T:=_) _ rfl _ rfl rfl ?_;intro w0 b0 N0;have k0:=N0.rc.c0)
   | (refine wpList_load_rc _ rfl _ rfl rfl N0.rc ?_)
   | (go_at_call 129;refine(CF.out _ N0.below).mono ?_;rintro e w1 ⟨rfl,b1⟩;have k5:=(N0.rc.below b1).c5;have k6:=(N0.rc.below b1).c6;have k7:=(N0.rc.below b1).c7;have hlt:=(N0.rc.below b1).lt)
   | (go_at_call 130;refine(C1.out _).mono ?_;clear C1;rintro e w2 ⟨rfl,rfl⟩;have B2:Below w1.heap.size w1 (w1.alloc (.cells #[.string s.ky] 9)):=(Below.refl _ _).alloc (Nat.le_refl _) _)
   | (go_at_call 130;refine(C2.out _).mono ?_;clear C2;rintro e w3 ⟨rfl,rfl⟩))
  go_ret
  exact⟨rfl,thn (thn (thn N0.below b1) B2) ((Below.refl _ _).alloc (Nat.le_refl _) _)⟩
end
end Go.Proofs.YtjlhohljkedbbaaGreat
namespace Go.Proofs.YtjlhohljkedbbaaGreat.Sm
abbrev R:=BitVec 32
def taps:R:=0x82f63b78#32
def st (c:R):R:=if c.getLsbD 0 then(c >>> 1) ^^^ taps else c >>> 1
def stn:Nat->R->R
 | 0,c=>c
 | n+1,c=>stn n (st c)
theorem st_xor (a b:R):st (a ^^^ b)=st a ^^^ st b:=by
 unfold st
 rw[BitVec.getLsbD_xor,BitVec.ushiftRight_xor_distrib]
 cases a.getLsbD 0 <;> cases b.getLsbD 0 <;> simp
 ·rw[BitVec.xor_assoc]
 ·rw[BitVec.xor_assoc,BitVec.xor_assoc]
  congr 1
  rw[BitVec.xor_comm]
 ·have:a >>> 1 ^^^ taps ^^^ (b >>> 1 ^^^ taps)=a >>> 1 ^^^ b >>> 1 ^^^ (taps ^^^ taps):=by
   simp only[BitVec.xor_assoc]
   congr 1
   rw[← BitVec.xor_assoc,BitVec.xor_comm taps,BitVec.xor_assoc]
  rw[this,BitVec.xor_self]
  simp
theorem stn_add (m n:Nat) (c:R):stn (m+n) c=stn n (stn m c):=by
 induction m generalizing c with
 | zero=>simp[stn]
 | succ m ih=>rw[Nat.succ_add];exact ih (st c)
theorem stn_succ (n:Nat) (c:R):stn (n+1) c=st (stn n c):=by rw[stn_add];rfl
theorem stn_xor (n:Nat) (a b:R):stn n (a ^^^ b)=stn n a ^^^ stn n b:=by
 induction n generalizing a b with
 | zero=>rfl
 | succ n ih=>show stn n (st (a ^^^ b))=_;rw[st_xor,ih];rfl
theorem four_steps (c:R):stn 4 c=(c >>> 4) ^^^ stn 4 (c &&& 15#32):=by
 have e:c=((c >>> 4) <<< 4) ^^^ (c &&& 15#32):=by
  apply BitVec.eq_of_getLsbD_eq
  intro i hi
  have h15:(15#32:R).getLsbD i=decide (i<4):=by
   have:∀ j:Fin 32,(15#32:R).getLsbD j.val=decide (j.val<4):=by decide
   exact this ⟨i,hi⟩
  by_cases h:i<4
  ·simp[h,h15]
  ·simp only[BitVec.getLsbD_xor,BitVec.getLsbD_and,BitVec.getLsbD_shiftLeft,BitVec.getLsbD_ushiftRight,h15,h,hi,decide_true,decide_false,Bool.not_false,Bool.true_and,Bool.and_false,Bool.bne_false]
   rw[show 4+(i-4)=i by omega]
 have e2:stn 4 ((c >>> 4) <<< 4)=c >>> 4:=by
  have s:∀ z:R,z.getLsbD 0=false->st z=z >>> 1:=by
   intro z hz
   unfold st
   rw[hz]
   rfl
  show st (st (st (st ((c >>> 4) <<< 4))))=_
  have s1:st ((c >>> 4) <<< 4)=((c >>> 4) <<< 4) >>> 1:=s _ (by simp)
  have s2:st (((c >>> 4) <<< 4) >>> 1)=((c >>> 4) <<< 4) >>> 1 >>> 1:=s _ (by simp)
  have s3:st (((c >>> 4) <<< 4) >>> 1 >>> 1)=((c >>> 4) <<< 4) >>> 1 >>> 1 >>> 1:=s _ (by simp)
  have s4:st (((c >>> 4) <<< 4) >>> 1 >>> 1 >>> 1)=((c >>> 4) <<< 4) >>> 1 >>> 1 >>> 1 >>> 1:=s _ (by simp)
  rw[s1,s2,s3,s4]
  apply BitVec.eq_of_getLsbD_eq
  intro i hi
  simp only[BitVec.getLsbD_ushiftRight,BitVec.getLsbD_shiftLeft]
  have e5:¬ (1+(1+(1+(1+i)))<4):=by omega
  have e6:4+(1+(1+(1+(1+i)))-4)=4+i:=by omega
  rw[e6]
  by_cases h:1+(1+(1+(1+i)))<32
  ·simp only[h,e5,decide_true,decide_false,Bool.not_false,Bool.true_and]
  ·have:32<=4+i:=by omega
   rw[BitVec.getLsbD_of_ge c (4+i) this,Bool.and_false]
 conv=>lhs;rw[e]
 rw[stn_xor,e2]
def ofB (b:UInt8):R:=BitVec.ofNat 32 b.toNat
def runB:R->List UInt8->R
 | c,[]=>c
 | c,b :: l=>runB (stn 8 (c ^^^ ofB b)) l
theorem runB_append (c:R) (l m:List UInt8):runB c (l++m)=runB (runB c l) m:=by
 induction l generalizing c with
 | nil=>rfl
 | cons b l ih=>exact ih _
def ones:R:=0xffffffff#32
def sumB (l:List UInt8):R:=runB ones l ^^^ ones
def moreB (c:R) (l:List UInt8):R:=runB (c ^^^ ones) l ^^^ ones
theorem more_zero (t:List UInt8):moreB 0#32 t=sumB t:=by
 unfold moreB sumB
 simp
open Go.RowKit
def vI (c:R):Int:=c.toNat
theorem vI_nonneg (c:R):0<=vI c:=Int.natCast_nonneg _
theorem vI_lt (c:R):vI c<4294967296:=by unfold vI;have:=c.isLt;omega
theorem ofInt_vI (c:R):BitVec.ofInt 32 (vI c)=c:=by unfold vI;rw[BitVec.ofInt_natCast,BitVec.ofNat_toNat];simp
theorem vI_lit (n:Nat) (h:n<4294967296):vI (BitVec.ofNat 32 n)=n:=by unfold vI;rw[BitVec.toNat_ofNat];omega
theorem xor32 (a b:R):bits .xor .u32 (vI a) (vI b)=vI (a ^^^ b):=by
 show IntKind.u32.wrap ((BitVec.ofInt 32 (vI a) ^^^ BitVec.ofInt 32 (vI b)).toNat:Int)=_
 rw[ofInt_vI,ofInt_vI,IntKind.wrap_u32]
 have:=vI_lt (a ^^^ b)
 have:=vI_nonneg (a ^^^ b)
 unfold vI at *
 omega
theorem and32 (a b:R):bits .and .u32 (vI a) (vI b)=vI (a &&& b):=by
 show IntKind.u32.wrap ((BitVec.ofInt 32 (vI a) &&& BitVec.ofInt 32 (vI b)).toNat:Int)=_
 rw[ofInt_vI,ofInt_vI,IntKind.wrap_u32]
 have:=vI_lt (a &&& b)
 have:=vI_nonneg (a &&& b)
 unfold vI at *
 omega
theorem shr32 (c:R):vI c / (2:Int)=vI (c >>> 1):=by unfold vI;rw[BitVec.toNat_ushiftRight,Nat.shiftRight_eq_div_pow];omega
theorem shr32_4 (c:R):vI c / (16:Int)=vI (c >>> 4):=by unfold vI;rw[BitVec.toNat_ushiftRight,Nat.shiftRight_eq_div_pow];omega
theorem and_one (c:R):c &&& 1#32=if c.getLsbD 0 then 1#32 else 0#32:=by
 apply BitVec.eq_of_getLsbD_eq
 intro i hi
 rw[BitVec.getLsbD_and,BitVec.getLsbD_one]
 by_cases h:i=0
 ·subst h
  cases c.getLsbD 0 <;> simp
 ·simp only[h,decide_false,Bool.and_false]
  split
  ·rw[BitVec.getLsbD_one];simp[h]
  ·simp
theorem odd_test (c:R) (h:c.getLsbD 0=true):(bits .and .u32 (vI c) 1==0)=false:=by
 have:(1:Int)=vI 1#32:=rfl
 rw[this,and32,and_one,h]
 rfl
theorem even_test (c:R) (h:c.getLsbD 0=false):(bits .and .u32 (vI c) 1==0)=true:=by
 have:(1:Int)=vI 1#32:=rfl
 rw[this,and32,and_one,h]
 rfl
theorem shift_any (c:R) (w:World) :
  Calls Tryz.prog 173 #[.int .u32 (vI c)] w fun e w'=>e=.returned (.int .u32 (vI (st c)))/\w'=w:=by
 cases h:c.getLsbD 0
 ·have h1:=even_test c h
  have e1:Hid _:=shr32 c
  have e2:Hid (st c=c >>> 1):=by show st c=_;unfold st;rw[h];rfl
  clear h
  go_enter Tryz.func173,Tryz.ntmps173
  go_wp2
  go_ret
  rw[e1.out,e2.out]
  exact⟨rfl,rfl⟩
 ·have h1:=odd_test c h
  have e1:Hid _:=shr32 c
  have e2:Hid (st c=c >>> 1 ^^^ taps):=by show st c=_;unfold st;rw[h];rfl
  have e3:Hid _:=xor32 (c >>> 1) taps
  clear h
  go_enter Tryz.func173,Tryz.ntmps173
  go_wp2
  go_ret
  rw[e1.out,e2.out,← e3.out]
  exact⟨rfl,rfl⟩
theorem wrap64_vI (c:R):wrap64 (vI c)=vI c:=by
 have h1:=vI_nonneg c
 have h2:=vI_lt c
 unfold wrap64
 omega
end Go.Proofs.YtjlhohljkedbbaaGreat.Sm
