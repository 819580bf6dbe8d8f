import Derived.Test.YtpcnjncgilmehabGreatMap
import Derived.Test.YtpcnjncgilmehabGreatMak
import Derived.Test.YtpcnjncgilmehabGreatMad
import Derived.Shelf.SlGeneric
import Derived.Shelf.SlSortCmp.NoneTotal
import Derived.Ground.SlsfProg
import Derived.Test.YtpcnjncgilmehabGreatProg
set_option linter.unusedVariables false
set_option linter.unusedSimpArgs false
set_option maxRecDepth 100000
namespace Go.Proofs.YtpcnjncgilmehabGreat
open Go.RowKit Go.Maps Go.ChangeMaps
structure Qs (S:Dk) (bs sc r:Nat) (Q:Nat->Sec):Prop where
 now:∀ i,i<sc->S.now (bs+i)=encQ (Q i)
 run:∀ i,i<sc->(Q i).1<=r
 sz:∀ i,i<sc->(Q i).2.size<=58
 wait:∀ i,S.wait i=none
structure Lv [Inhabited PrSet] (B:Nat) (w:World) (l k:Nat) (S:Dk) (db bs sc run:Nat) (fs:List ByteArray) (sure:Nat):Prop where
 lx:Lx B w l k S (lgR db bs sc run fs (off fs sure) false)
 up:S.up=true
 fit:Fit sc fs
 hs:sure<=fs.length
 n:bs+sc<=S.n
 r2:run<=4294967295
 q:∃ Q,Qs S bs sc run Q/\Std Q sc run (cat (fs.take sure))
structure Wt (S:Dk) (bs sc r:Nat) (fs:List ByteArray) (lo:Nat):Prop where
 q:∃ Q,Qs S bs sc r Q/\∀ run,r<=run->∃ x,cat fs=stand Q run sc++x/\off fs lo<=(stand Q run sc).size
section
variable {bs sc r sure:Nat}{S:Dk}{Q:Nat->Sec}
theorem Qs.lasts (h:Qs S bs sc r Q) {i:Nat} (hi:i<sc):S.sure (bs+i)=encQ (Q i):=by
 have:=h.now i hi
 unfold Dk.now at this
 rw[h.wait] at this
 exact this
end
section
variable {fs:List ByteArray}
theorem fs_split (fs:List ByteArray) (i:Nat):cat fs=cat (fs.take i)++cat (fs.drop i):=by rw[← cat_append,List.take_append_drop]
end
section
variable [Inhabited PrSet]{B l k db bs sc run sure:Nat}{w w':World}{S:Dk}{fs:List ByteArray}{Q:Nat->Sec}
theorem Lv.below (h:Lv B w l k S db bs sc run fs sure) (hb:Below w.heap.size w w'):Lv B w' l k S db bs sc run fs sure:=⟨h.lx.below hb,h.up,h.fit,h.hs,h.n,h.r2,h.q⟩
theorem Lv.mono {k':Nat} (h:Lv B w l k S db bs sc run fs sure) (hk:k<=k'):Lv B w l k' S db bs sc run fs sure:=⟨h.lx.mono hk,h.up,h.fit,h.hs,h.n,h.r2,h.q⟩
theorem Lv.wt (h:Lv B w l k S db bs sc run fs sure):Wt S bs sc run fs sure:=by
 obtain⟨Q,hQ,hs⟩:=h.q
 refine⟨Q,hQ,fun rn hr=>⟨cat (fs.drop sure),?_,?_⟩⟩
 ·rw[hs.stands hr];exact fs_split fs sure
 ·rw[hs.stands hr];exact Nat.le_refl _
end
section
variable {bs sc run r:Nat}{S S':Dk}{Q:Nat->Sec}
theorem Qs.laid (h:Qs S bs sc r Q) {t:ByteArray} {rr a b:Nat} (hr:r<=rr) (hL:Laid S S' (nw bs t rr a b) 0):Qs S' bs sc rr (putQ Q t rr a b):=by
 obtain⟨hu,hw,hsu⟩:=hL.ok rfl
 refine⟨fun i hi=>?_,fun i hi=>?_,fun i hi=>?_,hw⟩
 ·unfold Dk.now
  rw[hw,hsu]
  show(nw bs t rr a b (bs+i)).getD (S.now (bs+i))=_
  unfold nw putQ
  by_cases hc:a<=i/\i<b
  ·rw[if_pos (by omega),if_pos hc,show bs+i-bs=i by omega];rfl
  ·rw[if_neg (by omega),if_neg hc]
   exact h.now i hi
 ·unfold putQ
  split
  ·exact Nat.le_refl _
  ·exact Nat.le_trans (h.run i hi) hr
 ·unfold putQ
  split
  ·exact part_le t i
  ·exact h.sz i hi
end
section
variable {bs sc run r sure:Nat}{S S':Dk}{Q:Nat->Sec}
theorem Qs.lost (h:Qs S bs sc r Q) {t:ByteArray} {rr a b:Nat} {y:Int} (hr:r<=rr) (hL:Laid S S' (nw bs t rr a b) y) (hy:y≠0):∃ Q',Qs S' bs sc rr Q'/\∀ i,i<sc->Q' i=Q i∨(a<=i/\i<b/\Q' i=(rr,part t i)):=by
 obtain⟨_,hu,hw⟩:=hL.bad hy
 have hA:AllR (fun j c=>∀ i,i<sc->j=bs+i->c=encQ (Q i)∨(a<=i/\i<b/\c=encQ (rr,part t i))) S:=by
  refine⟨fun j i hi e=>?_,fun j c hc=>by rw[h.wait] at hc;cases hc⟩
  subst e
  exact Or.inl (h.lasts hi)
 have hB:=hL.all _ hA (fun j c hc i hi e=>by
  subst e
  unfold nw at hc
  split at hc
  ·rename_i hc2
   rw[show bs+i-bs=i by omega] at hc
   injection hc with hc
   exact Or.inr ⟨by omega,by omega,hc.symm⟩
  ·cases hc)
 refine⟨fun i=>if S'.sure (bs+i)=encQ (Q i) then Q i else(rr,part t i),⟨fun i hi=>?_,fun i hi=>?_,fun i hi=>?_,hw⟩,fun i hi=>?_⟩
 ·unfold Dk.now
  rw[hw]
  show S'.sure (bs+i)=_
  split
  ·rename_i e;exact e
  ·rename_i e
   rcases hB.sure (bs+i) i hi rfl with e2 |⟨_,_,e2⟩
   ·exact absurd e2 e
   ·exact e2
 ·split
  ·exact Nat.le_trans (h.run i hi) hr
  ·exact Nat.le_refl _
 ·split
  ·exact h.sz i hi
  ·exact part_le t i
 ·dsimp only
  split
  ·exact Or.inl rfl
  ·rename_i e
   rcases hB.sure (bs+i) i hi rfl with e2 |⟨e3,e4,e2⟩
   ·exact absurd e2 e
   ·exact Or.inr ⟨e3,e4,rfl⟩
end
section
variable {sc:Nat}{fs:List ByteArray}
theorem Fit.take (h:Fit sc fs) (i:Nat):Fit sc (fs.take i):=by
 refine⟨fun f hf=>h.frm f (List.mem_of_mem_take hf),?_,h.s0,h.s1⟩
 have e:=fs_split fs i
 have:=h.sz
 rw[e,bsz] at this
 omega
end
section
variable {sc:Nat}{fs gs:List ByteArray}
theorem Fit.snoc (h:Fit sc fs) {gs:List ByteArray} (hg:∀ g∈gs,Frm g) (hz:(cat fs).size+(cat gs).size<=58*sc):Fit sc (fs++gs):=⟨fun f hf=>by
 rcases List.mem_append.1 hf with q |q
 ·exact h.frm f q
 ·exact hg f q,by rw[cat_append,bsz];exact hz,h.s0,h.s1⟩
end
section
variable [Inhabited PrSet]{B l k db bs sc run r sure lo:Nat}{w w':World}{S S':Dk}{fs gs:List ByteArray}{Q:Nat->Sec}
theorem Lv.grown (h:Lv B w l k S db bs sc run fs sure) {gs:List ByteArray} (hg:∀ g∈gs,Frm g) (hz:(cat fs).size+(cat gs).size<=58*sc) (hl:Lx B w' l k S (lgR db bs sc run (fs++gs) (off fs sure) false)):Lv B w' l k S db bs sc run (fs++gs) sure:=by
 have e:(fs++gs).take sure=fs.take sure:=List.take_append_of_le_length h.hs
 have e2:off (fs++gs) sure=off fs sure:=by unfold off;rw[e]
 refine⟨by rw[e2];exact hl,h.up,h.fit.snoc hg hz,by rw[List.length_append];have:=h.hs;omega,h.n,h.r2,?_⟩
 rw[e]
 exact h.q
theorem Wt.open2 (h:Wt S bs sc r fs lo) (hF:Fit sc fs) (hlo:lo<=fs.length) (hd:Ds B w db k S) (hk:k<=300000000000) (hrun:r<run) (hr2:run<=4294967295) (hfit:bs+sc<=S.n) (hu:S.up=true) (hc:S.set=false) :
  Calls Tryz.prog 25 #[.pointer (some ⟨db,0,none⟩),.int .i64 (bs:Int),.int .i64 (sc:Int),.int .i64 (run:Int)] w fun e w' =>
   ∃ j S' l,e=.returned (.tuple #[.pointer (some ⟨l,0,none⟩),.int .i64 0])/\(lo<=j/\j<=fs.length/\S'.set=false/\S'.n=S.n)/\Lv B w' l (k+sc+1) S' db bs sc run (fs.take j) j/\Kp isA B w w'/\Opn S S' bs sc run (cat (fs.take j)):=by
 obtain⟨Q,hQ,hst⟩:=h.q
 refine(Open_calm hd hk bs sc run hF.s0 hF.s1 (by omega) hr2 hfit hu hc Q (fun i hi=>⟨hQ.now i hi,by have:=hQ.run i hi;omega,hQ.sz i hi⟩)).mono ?_
 rintro e w' ⟨gs,S',l,rfl,hsp,hop,hlx,hK⟩
 obtain⟨x,hx,hlow⟩:=hst run (Nat.le_of_lt hrun)
 obtain⟨j,hj,rfl,hmax⟩:=Spl.take fs gs _ x hF.frm hx hsp
 have hlj:lo<=j:=hmax lo hlo hlow
 have hjl:(fs.take j).length=j:=by rw[List.length_take];omega
 obtain⟨y,hy⟩:=hsp.pre
 have hstd:=std_new (Q:=Q) (secs:=sc) (r:=run) (T:=cat (fs.take j)) (x:=y) (fun i hi=>by have:=hQ.run i hi;omega) hQ.sz hy (hF.take j).sz (by omega)
 have mk:S'.up=true->S'.n=S.n->(∃ Q',Qs S' bs sc run Q'/\Std Q' sc run (cat (fs.take j)))->Lv B w' l (k+sc+1) S' db bs sc run (fs.take j) j:=fun hu' hn' hq=>by
  refine⟨?_,hu',hF.take j,by omega,by rw[hn'];exact hfit,hr2,by rw[List.take_take,Nat.min_self];exact hq⟩
  have:off (fs.take j) j=(cat (fs.take j)).size:=by unfold off;rw[List.take_take,Nat.min_self]
  rw[this]
  exact hlx
 have hop2:=hop
 rcases hop with⟨h1,rfl⟩ |⟨h1,hLd⟩
 ·refine⟨j,_,l,rfl,⟨hlj,hj,hc,rfl⟩,mk hu rfl ⟨Q,⟨hQ.now,fun i hi=>by have:=hQ.run i hi;omega,hQ.sz,hQ.wait⟩,?_⟩,hK,hop2⟩
  have e:putQ Q (cat (fs.take j)) run ((cat (fs.take j)).size / 58) (min ((cat (fs.take j)).size / 58+1) sc)=Q:=by
   funext i
   exact putQ_out (by omega)
  rw[e] at hstd
  exact hstd
 ·obtain⟨hu',_,_⟩:=hLd.ok rfl
  exact⟨j,S',l,rfl,⟨hlj,hj,(hLd.calm hc).2,hLd.n⟩,mk hu' hLd.n ⟨_,hQ.laid (Nat.le_of_lt hrun) hLd,hstd⟩,hK,hop2⟩
end
open Go.RowKit
section
variable {bs sc:Nat}
theorem new_wt (n bs sc:Nat) (h:1<=sc):Wt (newDk n) bs sc 0 [] 0:=by
 refine⟨fun _=>(0,⟨#[]⟩),⟨fun i hi=>?_,fun i hi=>Nat.le_refl _,fun i hi=>Nat.zero_le _,fun i=>rfl⟩,fun rn hr=>⟨⟨#[]⟩,?_,Nat.zero_le _⟩⟩
 ·rw[enc_zero];rfl
 ·obtain⟨m,rfl⟩:∃ m,sc=m+1:=⟨sc-1,by omega⟩
  show cat []=stK _ rn (m+1) 0 1++_
  rw[stK,if_pos (Or.inl (by show 0<1;omega))]
  rfl
end
section
variable {sc:Nat}
theorem fit_nil (h0:1<=sc) (h1:sc<=8000):Fit sc []:=⟨(fun f hf=>by cases hf),Nat.zero_le _,h0,h1⟩
end
def isF:Obj->Prop
 | .cells _ t _=>t=132∨t=137
 | _=>False
def isQ (o:Obj):Prop:=isA o∨isF o
def nwK (b:Nat) (t:Nat->ByteArray) (k i:Nat):Option ByteArray:=if b<=i/\i<b+k then some (pad (t (i-b))) else none
section
theorem isF_not:∀ o,isA o->¬ isF o:=by
 intro o ha hs
 cases o with
 | cells cs t fz =>
  rcases hs with hs |hs
  ·subst hs
   rcases ha with ha |ha
   ·rcases ha with ha |ha <;> exact absurd ha (by decide)
   ·rcases ha with ha |ha |ha <;> exact absurd ha (by decide)
  ·subst hs
   rcases ha with ha |ha
   ·rcases ha with ha |ha <;> exact absurd ha (by decide)
   ·rcases ha with ha |ha |ha <;> exact absurd ha (by decide)
 | _=>exact hs
end
section
variable [Inhabited PrSet]{B k db sb base pages gen:Nat}{w w':World}{S:Dk}
section
variable {l:Nat}{R:Lr}{A:Obj->Prop}
theorem Lx.keptA (h:Lx B w l k S R) {B':Nat} (hA:∀ o,isA o->¬ A o) (hb:Kp A B' w w'):Lx B w' l k S R:=by
 obtain⟨lb,mb,m,d1,d2,d3,d4⟩:=h.d.dsk
 obtain⟨p,v,pv,h1,h2,h3,h4,n3,n4⟩:=h.g.ex
 have e1:w'.heap[lb]?=w.heap[lb]?:=by
  obtain⟨cur,fz,e2⟩:=d1.row.ty
  rw[e2];exact hb.block _ _ e2 (hA _ (Or.inl (Or.inr rfl)))
 have e3:w'.heap[mb]?=w.heap[mb]?:=by
  obtain⟨es,c,e2⟩:=d1.map.is
  rw[e2];exact hb.block _ _ e2 (hA _ (Or.inl trivial))
 refine⟨⟨⟨lb,mb,m,⟨hb.block _ _ d1.blk (hA _ (Or.inl (Or.inl rfl))),d1.row.of_block e1 hb.size,d1.map.of_block e3,d1.ne⟩,d2,d3,d4⟩,h.d.q,h.d.hd,Nat.le_trans h.d.lt hb.size,h.d.lp.kp hb⟩,?_⟩
 exact⟨⟨p,v,pv,hb.block l _ h1 (hA _ (Or.inr (Or.inr (Or.inr rfl)))),h2,ownF_of h3 (fun k cur fz e=>hb.block k _ e (hA _ (Or.inr (Or.inr (Or.inl rfl))))),h4.of_block (fun k cur fz e=>hb.block k _ e (hA _ (Or.inr (Or.inl rfl)))),n3,n4⟩,h.g.ge,Nat.le_trans h.g.le hb.size,h.g.lp.kp hb⟩
end
theorem Kp.q {w1:World} (h:Kp isA B w w1):Kp isQ B w w1:=h.mono (fun _=>Or.inl)
theorem Kp.f {w1:World} (h:Kp isF B w w1):Kp isQ B w w1:=h.mono (fun _=>Or.inr)
theorem StIs.kept {B':Nat} (h:StIs w sb db base pages gen) (hb:Kp isQ B' w w'):StIs w' sb db base pages gen:=⟨hb.block _ _ h.blk (by simp[isQ,isA,isD,isL,isF])⟩
end
section
variable {db sb base pages gen:Nat}{w:World}{S:Dk}
theorem disk_ne {lb mb m:Nat} (h:DkIs w db lb mb m S) (hs:StIs w sb db base pages gen):¬ disk3 db lb mb sb:=by
 rintro(rfl |rfl |rfl)
 ·have:=hs.blk;rw[h.blk] at this;simp at this
 ·obtain⟨cur,fz,e⟩:=h.row.ty;rw[hs.blk] at e;simp at e
 ·obtain⟨es,c,e⟩:=h.map.is;rw[hs.blk] at e;simp at e
end
section
theorem nwK_zero (b:Nat) (t:Nat->ByteArray):nwK b t 0=fun _=>none:=by
 funext i;unfold nwK;rw[if_neg (by omega)]
end
section
variable {k:Nat}
theorem nwK_succ (b:Nat) (t:Nat->ByteArray) (k i:Nat):nwK b t (k+1) i=if i=b+k then some (pad (t k)) else nwK b t k i:=by
 unfold nwK
 by_cases e:i=b+k
 ·subst e;rw[if_pos (by omega),if_pos rfl,show b+k-b=k by omega]
 ·rw[if_neg e]
  by_cases h:b<=i/\i<b+k
  ·rw[if_pos h,if_pos (by omega)]
  ·rw[if_neg h,if_neg (by omega)]
end
section
variable {k:Nat}{S:Dk}
theorem wrK_wrt (hu:S.up=true) {b:Nat} {t:Nat->ByteArray} (hb:b+4<=S.n) (hz:∀ i,i<4->(t i).size<=64) (k:Nat) (hk:k<=4):Wrt S (wrK b t S k).1 (nwK b t k) (wrK b t S k).2:=by
 induction k with
 | zero=>rw[nwK_zero];exact Wrt.refl S hu
 | succ k ih =>
  have ih:=ih (by omega)
  rw[wrK]
  split
  ·rename_i h0
   rw[h0] at ih
   exact ih.step (i:=b+k) (by omega) (hz k (by omega)) (by unfold nwK;rw[if_neg (by omega)]) (nwK_succ b t k)
  ·rename_i h0
   refine⟨ih.n,fun e=>absurd e h0,ih.bad,fun R hR hc=>ih.all R hR (fun i c hi=>hc i c ?_),fun hs=>absurd (ih.calm hs).1 h0⟩
   rw[nwK_succ]
   by_cases e:i=b+k
   ·subst e;unfold nwK at hi;rw[if_neg (by omega)] at hi;cases hi
   ·rw[if_neg e];exact hi
end
structure NewO (w w':World) (b:Nat) (A:Array Value) (t:TypeId):Prop where
 blk:w'.heap[b]?=some (.cells A t)
 below:Below w.heap.size w w'
 eq:b=w.heap.size
structure PutO (w w':World) (b:Nat) (A:Array Value) (t:TypeId):Prop where
 blk:w'.heap[b]?=some (.cells A t)
 off:Off (fun k=>k=b) w w'
section
variable {ops:Array Oper}{rest:List Oper}{o:Oper}{a:Act}{Q:Exit->Act->World->Prop}{A:Array Value}{t:TypeId}{b:Nat}
theorem wpList_box_o (w:World) (hg:o.guard=none) (x:Operand) (hop:o.op=Op.box t x) (hx:a.eval x=.agg A)
  (h:∀ w' b,NewO w w' b A t->wpList Tryz.prog ops Q rest (a.put o.dst (.pointer (some ⟨b,0,none⟩))) w'):wpList Tryz.prog ops Q (o ::rest) a w:=by
 refine wpList_plain hg fun K' hK'=>?_
 unfold Oper.wp
 simp[execOp,hop,hx,Instr.box,Result.andThen,Value.cells]
 exact hK' _ _ (h _ _ ⟨(MapKept.heap_alloc w _).1,(Below.refl _ _).alloc (Nat.le_refl _) _,rfl⟩)
end
section
variable {ops:Array Oper}{rest:List Oper}{o:Oper}{a:Act}{Q:Exit->Act->World->Prop}{A:Array Value}{t:TypeId}{b:Nat}
theorem wpList_new_o (w:World) (hg:o.guard=none) (hop:o.op=Op.alloc t) (hz:(zeroValue t).run Tryz.prog w=.ok (.agg A) w)
  (h:∀ w' b,NewO w w' b A t->wpList Tryz.prog ops Q rest (a.put o.dst (.pointer (some ⟨b,0,none⟩))) w'):wpList Tryz.prog ops Q (o ::rest) a w:=by
 refine wpList_plain hg fun K' hK'=>?_
 unfold Oper.wp
 simp[execOp,hop,Instr.alloc,hz,Result.andThen,Value.cells]
 exact hK' _ _ (h _ _ ⟨(MapKept.heap_alloc w _).1,(Below.refl _ _).alloc (Nat.le_refl _) _,rfl⟩)
end
section
variable {A A':Array Value}{t:TypeId}{b:Nat}
theorem setCells_o {w:World} (h:w.heap[b]?=some (.cells A t)) (hz:A.size=A'.size) (h1:∀ v∈A'.toList,v.oneCell'=true):w.setCells b 0 A'.toList=w.setRow b A':=by
 have hth:∀ j,j<A'.size->((w.cell? ⟨b,0+j,none⟩).isSome=true):=fun j hj=>by
  rw[cell_of_row w b _ _ t (0,0) h]
  simp[hz,hj]
 have e1:=run_storeCells_at Tryz.prog b 0 t A'.toList 0 A w h (by simp[hz]) h1
 have e2:=run_storeCells_cells (P:=Tryz.prog) b 0 A'.toList 0 w (fun j hj=>by have:=hth j (by simpa using hj);simpa using this) (fun j hj=>by have:=Joins.unfrozen_of_block h (0+0+j);simpa using this) h1
 have e:(List.take (0+0) A.toList++A'.toList++List.drop (0+0+A'.toList.length) A.toList).toArray=A':=by
  have e0:List.drop (0+0+A'.toList.length) A.toList=[]:=List.drop_eq_nil_of_le (by simp[hz])
  rw[e0]
  simp
 rw[e,e2] at e1
 simpa using e1
end
section
variable {ops:Array Oper}{rest:List Oper}{o:Oper}{a:Act}{Q:Exit->Act->World->Prop}{A A':Array Value}{t:TypeId}{b:Nat}
theorem wpList_put_o (w:World) (hg:o.guard=none) (x y:Operand) (hop:o.op=Op.store t x y)
  (hx:a.eval x=.pointer (some ⟨b,0,none⟩)) (hy:a.eval y=.agg A') (hs:w.heap[b]?=some (.cells A t)) (hi:(Tryz.prog.info? t).map (·.size)=some A'.size) (hz:A.size=A'.size) (h1:∀ v∈A'.toList,v.oneCell'=true)
  (h:∀ w',PutO w w' b A' t->wpList Tryz.prog ops Q rest (a.put o.dst undef) w'):wpList Tryz.prog ops Q (o ::rest) a w:=by
 refine wpList_store_mid hg t x y hop b 0 A' hx hy ?_ hi (Array.all_eq_true_iff_forall_mem.2 (fun v hv=>h1 v (by simpa using hv))) ?_
 ·intro j hj
  refine⟨?_,Joins.unfrozen_of_block hs _⟩
  rw[cell_of_row w b _ _ t (0,0) hs]
  simp[hz,hj]
 ·rw[setCells_o hs hz h1]
  refine h _ ⟨setRow_heap w b _ _ t _ hs,⟨rfl,rfl,rfl,by simp,fun k _ hk=>setRow_other w b k _ hk⟩⟩
end
structure Fm where
 id:Int
 tx:ByteArray
 ln:Int
 us:Bool
 si:Int
 pn:Int
def Fm.A (f:Fm):Array Value:=#[.int .i64 f.id,.string f.tx,.int .i64 f.ln,.bool f.us,.int .i64 f.si,.int .i64 f.pn]
def zF:Fm:=⟨0,⟨#[]⟩,0,false,0,0⟩
structure Ad where
 db:Nat
 sb:Nat
 l:Nat
 pb:Nat
 ra:Nat
 cp:Nat
 n:Nat
 fb:Nat->Nat
structure Gp where
 hd:Int
 sv:Int
 tk:Int
 F:Nat->Fm
def Gp.A (G:Gp) (X:Ad):Array Value:=#[.pointer (some ⟨X.sb,0,none⟩),.pointer (some ⟨X.l,0,none⟩),.slice (some ⟨X.ra,0,none⟩) X.n X.cp,.int .i64 G.hd,.int .i64 G.sv,.int .i64 G.tk]
structure PoIs [Inhabited PrSet] (B:Nat) (w:World) (X:Ad) (G:Gp):Prop where
 blk:w.heap[X.pb]?=some (.cells (G.A X) 132)
 row:∃ cur fz,w.heap[X.ra]?=some (.cells cur 133 fz)/\∀ j,j<X.n->cur[j]?=some (.pointer (some ⟨X.fb j,0,none⟩))
 fr:∀ j,j<X.n->w.heap[X.fb j]?=some (.cells (G.F j).A 137)
 inj:∀ i j,i<X.n->j<X.n->X.fb i=X.fb j->i=j
 n1:2<=X.n
 n2:X.n<=64
 gp:Ow B X.pb
 gf:∀ j,j<X.n->Ow B (X.fb j)
 gr:np X.ra
 h0:0<=G.hd
 h1:G.hd<=(X.n:Int)
section
variable [Inhabited PrSet]{B:Nat}{w w':World}{X:Ad}{G:Gp}
theorem PoIs.c0 (h:PoIs B w X G):w.cell? ⟨X.pb,0,none⟩=some (.pointer (some ⟨X.sb,0,none⟩)):=Joins.cell_of_block h.blk 0
theorem PoIs.c1 (h:PoIs B w X G):w.cell? ⟨X.pb,1,none⟩=some (.pointer (some ⟨X.l,0,none⟩)):=Joins.cell_of_block h.blk 1
theorem PoIs.c2 (h:PoIs B w X G):w.cell? ⟨X.pb,2,none⟩=some (.slice (some ⟨X.ra,0,none⟩) X.n X.cp):=Joins.cell_of_block h.blk 2
theorem PoIs.c3 (h:PoIs B w X G):w.cell? ⟨X.pb,3,none⟩=some (.int .i64 G.hd):=Joins.cell_of_block h.blk 3
theorem PoIs.c4 (h:PoIs B w X G):w.cell? ⟨X.pb,4,none⟩=some (.int .i64 G.sv):=Joins.cell_of_block h.blk 4
theorem PoIs.c5 (h:PoIs B w X G):w.cell? ⟨X.pb,5,none⟩=some (.int .i64 G.tk):=Joins.cell_of_block h.blk 5
theorem PoIs.z (h:PoIs B w X G) (i:Nat):w.frozen? ⟨X.pb,i,none⟩=false:=Joins.unfrozen_of_block h.blk i
theorem PoIs.lt (h:PoIs B w X G):X.pb<w.heap.size:=lt_of_some h.blk
theorem PoIs.ra (h:PoIs B w X G) {j:Nat} (hj:j<X.n):w.cell? ⟨X.ra,j,none⟩=some (.pointer (some ⟨X.fb j,0,none⟩)):=by
 obtain⟨cur,fz,e,hc⟩:=h.row
 rw[cell_of_row w X.ra j cur _ fz e]
 exact hc j hj
theorem PoIs.f0 (h:PoIs B w X G) {j:Nat} (hj:j<X.n):w.cell? ⟨X.fb j,0,none⟩=some (.int .i64 (G.F j).id):=Joins.cell_of_block (h.fr j hj) 0
theorem PoIs.f1 (h:PoIs B w X G) {j:Nat} (hj:j<X.n):w.cell? ⟨X.fb j,1,none⟩=some (.string (G.F j).tx):=Joins.cell_of_block (h.fr j hj) 1
theorem PoIs.f2 (h:PoIs B w X G) {j:Nat} (hj:j<X.n):w.cell? ⟨X.fb j,2,none⟩=some (.int .i64 (G.F j).ln):=Joins.cell_of_block (h.fr j hj) 2
theorem PoIs.f3 (h:PoIs B w X G) {j:Nat} (hj:j<X.n):w.cell? ⟨X.fb j,3,none⟩=some (.bool (G.F j).us):=Joins.cell_of_block (h.fr j hj) 3
theorem PoIs.f4 (h:PoIs B w X G) {j:Nat} (hj:j<X.n):w.cell? ⟨X.fb j,4,none⟩=some (.int .i64 (G.F j).si):=Joins.cell_of_block (h.fr j hj) 4
theorem PoIs.f5 (h:PoIs B w X G) {j:Nat} (hj:j<X.n):w.cell? ⟨X.fb j,5,none⟩=some (.int .i64 (G.F j).pn):=Joins.cell_of_block (h.fr j hj) 5
theorem PoIs.fz (h:PoIs B w X G) {j:Nat} (hj:j<X.n) (i:Nat):w.frozen? ⟨X.fb j,i,none⟩=false:=Joins.unfrozen_of_block (h.fr j hj) i
theorem PoIs.flt (h:PoIs B w X G) {j:Nat} (hj:j<X.n):X.fb j<w.heap.size:=lt_of_some (h.fr j hj)
theorem PoIs.below (h:PoIs B w X G) (hb:Below w.heap.size w w'):PoIs B w' X G:=by
 refine⟨(hb.block _ h.lt).trans h.blk,?_,fun j hj=>(hb.block _ (h.flt hj)).trans (h.fr j hj),h.inj,h.n1,h.n2,h.gp,h.gf,h.gr,h.h0,h.h1⟩
 obtain⟨cur,fz,e,hc⟩:=h.row
 exact⟨cur,fz,(hb.block _ (lt_of_some e)).trans e,hc⟩
theorem PoIs.kept {B':Nat} (h:PoIs B w X G) (hb:Kp isA B' w w'):PoIs B w' X G:=by
 refine⟨hb.block _ _ h.blk (by simp[isA,isD,isL]),?_,fun j hj=>hb.block _ _ (h.fr j hj) (by simp[isA,isD,isL]),h.inj,h.n1,h.n2,h.gp,h.gf,h.gr,h.h0,h.h1⟩
 obtain⟨cur,fz,e,hc⟩:=h.row
 exact⟨cur,fz,hb.block _ _ e (by simp[isA,isD,isL]),hc⟩
def Gp.set (G:Gp) (j:Nat) (f:Fm):Gp:={G with F:=upd G.F j f}
theorem PoIs.pf (h:PoIs B w X G) {j:Nat} (hj:j<X.n):X.pb≠X.fb j:=fun e=>by
 have:=h.fr j hj
 rw[← e,h.blk] at this
 simp at this
theorem PoIs.rf (h:PoIs B w X G) {j:Nat} (hj:j<X.n):X.ra≠X.fb j:=fun e=>by
 obtain⟨cur,fz,e2,hc⟩:=h.row
 rw[e,h.fr j hj] at e2
 simp at e2
theorem PoIs.rp (h:PoIs B w X G):X.ra≠X.pb:=fun e=>by
 obtain⟨cur,fz,e2,hc⟩:=h.row
 rw[e,h.blk] at e2
 simp at e2
theorem PoIs.putF (h:PoIs B w X G) {j:Nat} (hj:j<X.n) {f:Fm} (ho:Off (fun k=>k=X.fb j) w w') (hb:w'.heap[X.fb j]?=some (.cells f.A 137)) (hB:B<=w.heap.size):PoIs B w' X (G.set j f)/\Kp isF B w w':=by
 refine⟨⟨(ho.block _ h.lt (h.pf hj)).trans h.blk,?_,fun i hi=>?_,h.inj,h.n1,h.n2,h.gp,h.gf,h.gr,h.h0,h.h1⟩,ho.below (fun k hk=>by subst hk;exact(h.gf j hj).ge) hB,fun i o e hn=>(ho.block i (lt_of_some e) (fun e2=>?_)).trans e,fun i o e hn=>(ho.block i (lt_of_some e) (fun e2=>by subst e2;exact(h.gf j hj).np hn)).trans e⟩
 ·obtain⟨cur,fz,e,hc⟩:=h.row
  exact⟨cur,fz,(ho.block _ (lt_of_some e) (h.rf hj)).trans e,hc⟩
 ·by_cases e:i=j
  ·subst e
   show w'.heap[X.fb i]?=some (.cells (upd G.F i f i).A _)
   rw[upd_same];exact hb
  ·show w'.heap[X.fb i]?=some (.cells (upd G.F j f i).A _)
   rw[upd_other _ _ e]
   exact(ho.block _ (h.flt hi) (fun e2=>e (h.inj i j hi hj e2))).trans (h.fr i hi)
 ·subst e2
  rw[h.fr j hj] at e;cases e
  exact hn (Or.inr rfl)
theorem PoIs.setF (h:PoIs B w X G) {j:Nat} (hj:j<X.n) {f:Fm} {i:Nat} {u:Value} (e:(G.F j).A.setIfInBounds i u=f.A) (hB:B<=w.heap.size):PoIs B (w.setCell ⟨X.fb j,i,none⟩ u) X (G.set j f)/\Kp isF B w (w.setCell ⟨X.fb j,i,none⟩ u) :=
 h.putF hj (Off.setCell (B:=fun k=>k=X.fb j) (Off.refl _ _) rfl _ _) (by rw[← e];exact Joins.block_setCell (h.fr j hj) _) hB
theorem PoIs.setP (h:PoIs B w X G) {G':Gp} {i:Nat} {u:Value} (e:(G.A X).setIfInBounds i u=G'.A X) (eF:G'.F=G.F) (h0:0<=G'.hd) (h1:G'.hd<=(X.n:Int)) (hB:B<=w.heap.size):PoIs B (w.setCell ⟨X.pb,i,none⟩ u) X G'/\Kp isF B w (w.setCell ⟨X.pb,i,none⟩ u):=by
 have ho:Off (fun k=>k=X.pb) w (w.setCell ⟨X.pb,i,none⟩ u):=Off.setCell (B:=fun k=>k=X.pb) (Off.refl _ _) rfl _ _
 refine⟨⟨by rw[← e];exact Joins.block_setCell h.blk _,?_,fun j hj=>by rw[eF];exact(ho.block _ (h.flt hj) (fun e2=>h.pf hj e2.symm)).trans (h.fr j hj),h.inj,h.n1,h.n2,h.gp,h.gf,h.gr,h0,h1⟩,ho.below (fun k hk=>by subst hk;exact h.gp.ge) hB,fun j o e hn=>(ho.block j (lt_of_some e) (fun e2=>?_)).trans e,fun j o e hn=>(ho.block j (lt_of_some e) (fun e2=>by subst e2;exact h.gp.np hn)).trans e⟩
 ·obtain⟨cur,fz,e,hc⟩:=h.row
  exact⟨cur,fz,(ho.block _ (lt_of_some e) h.rp).trans e,hc⟩
 ·subst e2
  rw[h.blk] at e;cases e
  exact hn (Or.inl rfl)
theorem isMade_po (h:PoIs B w X G):Calls Tryz.prog 61 #[.pointer (some ⟨X.pb,0,none⟩)] w fun e w'=>e=.returned (.bool true)/\w'=w:=by
 have c2:=h.c2
 have hn:0<X.n:=by have:=h.n1;omega
 clear h
 generalize X.n=n at *
 go_enter Tryz.func61,Tryz.ntmps61
 go_wp2
 go_ret
 exact⟨by simp[hn],rfl⟩
end
section
variable {w w':World}
theorem isDirty_at {b:Nat} {x:Int} (hc:w.cell? ⟨b,4,none⟩=some (.int .i64 x)):Calls Tryz.prog 78 #[.pointer (some ⟨b,0,none⟩)] w fun e w'=>e=.returned (.bool (decide (0<x)))/\w'=w:=by
 by_cases hx:0<x
 ·go_enter Tryz.func78,Tryz.ntmps78
  go_wp2
  go_ret
  exact⟨by simp[hx],rfl⟩
 ·go_enter Tryz.func78,Tryz.ntmps78
  go_wp2
  go_ret
  exact⟨by simp[hx],rfl⟩
end
section
variable [Inhabited PrSet]{B:Nat}{w w':World}{X:Ad}{G:Gp}
def Fm.has (f:Fm) (id:Int):Prop:=f.us=true/\f.id=id
set_option maxHeartbeats 1000000 in
theorem find_hit (h:PoIs B w X G) (id:Int) (j:Nat) (hj:j<X.n) (hh:(G.F j).has id) (hlt:∀ i,i<j->¬ (G.F i).has id):Calls Tryz.prog 122 #[.pointer (some ⟨X.pb,0,none⟩),.int .i64 id] w fun e w'=>e=.returned (.pointer (some ⟨X.fb j,0,none⟩))/\w'=w:=by
 have CM:Hid (Calls Tryz.prog 61 #[.pointer (some ⟨X.pb,0,none⟩)] w fun e w'=>e=.returned (.bool true)/\w'=w):=isMade_po h
 have c2:=h.c2
 have H:Hid (PoIs B w X G):=h
 have HJ:Hid ((G.F j).has id):=hh
 have HL:Hid (∀ i,i<j->¬ (G.F i).has id):=hlt
 clear h hh hlt
 go_enter Tryz.func122,Tryz.ntmps122
 go_wp2_with (go_at_call 61;refine CM.out.mono ?_;rintro e w' ⟨rfl,rfl⟩)
 go_loopw [15] (fun iv wr=>∃ i:Nat,i<=j/\iv=.int .i64 (i:Int)/\wr=w') (fun iv _=>j-(intOf iv).toNat)
 case atStart=>exact⟨0,Nat.zero_le _,rfl,rfl⟩
 case round =>
  obtain⟨i,hi,rfl,rfl⟩:=hrel
  have hin:i<X.n:=by omega
  have i1:(i:Int)<(X.n:Int):=by omega
  have ra:=H.out.ra hin
  have f3:=H.out.f3 hin
  have f0:=H.out.f0 hin
  have hi64:(i:Int)<=64:=by have:=H.out.n2;omega
  by_cases hij:i=j
  ·subst hij
   have e1:=HJ.out.1
   have e2:=HJ.out.2
   rw[e1] at f3
   rw[e2] at f0
   clear e1 e2
   go_wp2
   go_ret
   exact⟨rfl,rfl⟩
  ·have hn:=HL.out i (by omega)
   cases hu:(G.F i).us with
   | false =>
    rw[hu] at f3
    clear hu
    go_wp2
    go_roundw
    case rel=>exact⟨i+1,by omega,by go_num,by first |rfl |trivial⟩
    case measure=>simp[intOf];omega
   | true =>
    have hne:((G.F i).id==id)=false:=by
     have:(G.F i).id≠id:=fun e=>hn ⟨hu,e⟩
     simpa using this
    rw[hu] at f3
    clear hn hu
    generalize (G.F i).id=y at *
    go_wp2
    go_roundw
    case rel=>exact⟨i+1,by omega,by go_num,by first |rfl |trivial⟩
    case measure=>simp[intOf];omega
set_option maxHeartbeats 1000000 in
theorem find_miss (h:PoIs B w X G) (id:Int) (hlt:∀ i,i<X.n->¬ (G.F i).has id):Calls Tryz.prog 122 #[.pointer (some ⟨X.pb,0,none⟩),.int .i64 id] w fun e w'=>e=.returned (.pointer none)/\w'=w:=by
 have CM:Hid (Calls Tryz.prog 61 #[.pointer (some ⟨X.pb,0,none⟩)] w fun e w'=>e=.returned (.bool true)/\w'=w):=isMade_po h
 have c2:=h.c2
 have H:Hid (PoIs B w X G):=h
 have HL:Hid (∀ i,i<X.n->¬ (G.F i).has id):=hlt
 clear h hlt
 go_enter Tryz.func122,Tryz.ntmps122
 go_wp2_with (go_at_call 61;refine CM.out.mono ?_;rintro e w' ⟨rfl,rfl⟩)
 go_loopw [15] (fun iv wr=>∃ i:Nat,i<=X.n/\iv=.int .i64 (i:Int)/\wr=w') (fun iv _=>X.n-(intOf iv).toNat)
 case atStart=>exact⟨0,Nat.zero_le _,rfl,rfl⟩
 case round =>
  obtain⟨i,hi,rfl,rfl⟩:=hrel
  by_cases hin:i<X.n
  ·have i1:(i:Int)<(X.n:Int):=by omega
   have ra:=H.out.ra hin
   have f3:=H.out.f3 hin
   have f0:=H.out.f0 hin
   have hi64:(i:Int)<=64:=by have:=H.out.n2;omega
   have hn:=HL.out i (by omega)
   cases hu:(G.F i).us with
   | false =>
    rw[hu] at f3
    clear hu
    go_wp2
    go_roundw
    case rel=>exact⟨i+1,by omega,by go_num,by first |rfl |trivial⟩
    case measure=>simp[intOf];omega
   | true =>
    have hne:((G.F i).id==id)=false:=by
     have:(G.F i).id≠id:=fun e=>hn ⟨hu,e⟩
     simpa using this
    rw[hu] at f3
    clear hn hu
    generalize (G.F i).id=y at *
    go_wp2
    go_roundw
    case rel=>exact⟨i+1,by omega,by go_num,by first |rfl |trivial⟩
    case measure=>simp[intOf];omega
  ·have i1:¬ (i:Int)<(X.n:Int):=by omega
   clear hin
   go_wp2
   go_ret
   exact⟨rfl,rfl⟩
end
section
theorem rem_lt {a n:Nat} (h:a<2*n):((a:Int).tmod (n:Int))=((if a<n then a else a-n:Nat):Int):=by
 rw[← Int.ofNat_tmod]
 congr 1
 split
 ·rename_i h1;exact Nat.mod_eq_of_lt h1
 ·rename_i h1
  rw[Nat.mod_eq_sub_mod (by omega),Nat.mod_eq_of_lt (by omega)]
end
end Go.Proofs.YtpcnjncgilmehabGreat
namespace Go.Proofs
open Go.Shelf
def Tryz.sortF_ren:Go.Shelf.Ren:=⟨fun |6=>141 |15=>193 |14=>192 |28=>231 |29=>232 |20=>223 |21=>224 |22=>225 |23=>226 |24=>227 |25=>228 |26=>229 |27=>230 |46=>241 |47=>242 |48=>243 |49=>244 |50=>245 |57=>249 |n=>n,fun |22=>130 |24=>133 |25=>205 |3=>3 |39=>212 |0=>0 |53=>281 |55=>118 |4=>4 |46=>275 |45=>274 |50=>86 |5=>5 |9=>9 |66=>293 |70=>219 |76=>300 |77=>301 |n=>n,fun |n=>n⟩
theorem Tryz.sortF:Go.Proofs.SlLaysF.n6 Tryz.prog Tryz.sortF_ren:={
 mixed:=by kernel_rfl
 f6:=⟨Tryz.f141.name,by decide,Tryz.func141.trans (congrArg some (by kernel_rfl))⟩
 f14:=⟨Tryz.f192.name,by decide,Tryz.func192.trans (congrArg some (by kernel_rfl))⟩
 f15:=Tryz.func193.trans (congrArg some (by kernel_rfl))
 f20:=⟨Tryz.f223.name,by decide,Tryz.func223.trans (congrArg some (by kernel_rfl))⟩
 f21:=⟨Tryz.f224.name,by decide,Tryz.func224.trans (congrArg some (by kernel_rfl))⟩
 f22:=⟨Tryz.f225.name,by decide,Tryz.func225.trans (congrArg some (by kernel_rfl))⟩
 f23:=⟨Tryz.f226.name,by decide,Tryz.func226.trans (congrArg some (by kernel_rfl))⟩
 f24:=⟨Tryz.f227.name,by decide,Tryz.func227.trans (congrArg some (by kernel_rfl))⟩
 f25:=⟨Tryz.f228.name,by decide,Tryz.func228.trans (congrArg some (by kernel_rfl))⟩
 f26:=⟨Tryz.f229.name,by decide,Tryz.func229.trans (congrArg some (by kernel_rfl))⟩
 f27:=⟨Tryz.f230.name,by decide,Tryz.func230.trans (congrArg some (by kernel_rfl))⟩
 f28:=Tryz.func231.trans (congrArg some (by kernel_rfl))
 f29:=Tryz.func232.trans (congrArg some (by kernel_rfl))
 f46:=⟨Tryz.f241.name,by decide,Tryz.func241.trans (congrArg some (by kernel_rfl))⟩
 f47:=Tryz.func242.trans (congrArg some (by kernel_rfl))
 f48:=Tryz.func243.trans (congrArg some (by kernel_rfl))
 f49:=⟨Tryz.f244.name,by decide,Tryz.func244.trans (congrArg some (by kernel_rfl))⟩
 f50:=⟨Tryz.f245.name,by decide,Tryz.func245.trans (congrArg some (by kernel_rfl))⟩
 f57:=⟨Tryz.f249.name,by decide,Tryz.func249.trans (congrArg some (by kernel_rfl))⟩
 t0:=Tryz.underlying0
 a0:=Tryz.isAgg0
 z0:=Tryz.sizeOf0
 v0:=Tryz.zeroValue0
 t3:=Tryz.underlying3
 a3:=Tryz.isAgg3
 z3:=Tryz.sizeOf3
 v3:=Tryz.zeroValue3
 t4:=Tryz.underlying4
 a4:=Tryz.isAgg4
 z4:=Tryz.sizeOf4
 v4:=Tryz.zeroValue4
 t5:=Tryz.underlying5
 a5:=Tryz.isAgg5
 z5:=Tryz.sizeOf5
 v5:=Tryz.zeroValue5
 t9:=Tryz.underlying9
 a9:=Tryz.isAgg9
 z9:=Tryz.sizeOf9
 v9:=Tryz.zeroValue9
 t22:=Tryz.underlying130
 a22:=Tryz.isAgg130
 z22:=Tryz.sizeOf130
 v22:=Tryz.zeroValue130
 a24:=Tryz.isAgg133
 z24:=Tryz.sizeOf133
 t25:=Tryz.underlying205
 a25:=Tryz.isAgg205
 z25:=Tryz.sizeOf205
 v25:=Tryz.zeroValue205
 t39:=Tryz.underlying212
 a39:=Tryz.isAgg212
 z39:=Tryz.sizeOf212
 v39:=Tryz.zeroValue212
 t45:=Tryz.underlying274
 a45:=Tryz.isAgg274
 z45:=Tryz.sizeOf274
 v45:=Tryz.zeroValue274
 t46:=Tryz.underlying275
 a46:=Tryz.isAgg275
 z46:=Tryz.sizeOf275
 v46:=Tryz.zeroValue275
 t50:=Tryz.underlying86
 a50:=Tryz.isAgg86
 z50:=Tryz.sizeOf86
 v50:=Tryz.zeroValue86
 t53:=Tryz.underlying281
 a53:=Tryz.isAgg281
 z53:=Tryz.sizeOf281
 v53:=Tryz.zeroValue281
 t55:=Tryz.underlying118
 a55:=Tryz.isAgg118
 z55:=Tryz.sizeOf118
 v55:=Tryz.zeroValue118
 t66:=Tryz.underlying293
 a66:=Tryz.isAgg293
 z66:=Tryz.sizeOf293
 v66:=Tryz.zeroValue293
 t70:=Tryz.underlying219
 a70:=Tryz.isAgg219
 z70:=Tryz.sizeOf219
 v70:=Tryz.zeroValue219
 t76:=Tryz.underlying300
 a76:=Tryz.isAgg300
 z76:=Tryz.sizeOf300
 v76:=Tryz.zeroValue300
 t77:=Tryz.underlying301
 a77:=Tryz.isAgg301
 z77:=Tryz.sizeOf301
 v77:=Tryz.zeroValue301}
end Go.Proofs
namespace Go.Proofs.YtpcnjncgilmehabGreat
open Go.RowKit Go.Maps Go.ChangeMaps
def cmpI (a b:Int):Int:=if a<b then -1 else if b<a then 1 else 0
theorem isNaN_int (x:Int) (w:World):Calls Tryz.prog 194 #[.int .i64 x] w fun e w'=>e=.returned (.bool false)/\w'=w:=by
 go_enter Tryz.func194,Tryz.ntmps194
 go_wp2
 go_ret
 exact⟨by simp,rfl⟩
theorem Compare_int (x y:Int) (w:World):Calls Tryz.prog 143 #[.int .i64 x,.int .i64 y] w fun e w'=>e=.returned (.int .i64 (cmpI x y))/\w'=w:=by
 have CN:Hid (∀ z wx,Calls Tryz.prog 194 #[.int .i64 z] wx fun e w'=>e=.returned (.bool false)/\w'=wx):=fun z wx=>isNaN_int z wx
 by_cases h1:x<y
 ·have e:cmpI x y=-1:=by unfold cmpI;rw[if_pos h1]
  rw[e]
  go_enter Tryz.func143,Tryz.ntmps143
  go_wp2_with (go_at_call 194;refine(CN.out _ _).mono ?_;rintro e w' ⟨rfl,rfl⟩)
  go_ret
  exact⟨rfl,rfl⟩
 ·by_cases h2:y<x
  ·have e:cmpI x y=1:=by unfold cmpI;rw[if_neg h1,if_pos h2]
   rw[e]
   go_enter Tryz.func143,Tryz.ntmps143
   go_wp2_with (go_at_call 194;refine(CN.out _ _).mono ?_;rintro e w' ⟨rfl,rfl⟩)
   go_ret
   exact⟨rfl,rfl⟩
  ·have e:cmpI x y=0:=by unfold cmpI;rw[if_neg h1,if_neg h2]
   rw[e]
   go_enter Tryz.func143,Tryz.ntmps143
   go_wp2_with (go_at_call 194;refine(CN.out _ _).mono ?_;rintro e w' ⟨rfl,rfl⟩)
   go_ret
   exact⟨rfl,rfl⟩
theorem closure_po {W:World} {a b:Nat} {x y:Int} (ha:W.cell? ⟨a,0,none⟩=some (.int .i64 x)) (hb:W.cell? ⟨b,0,none⟩=some (.int .i64 y)) :
  Calls Tryz.prog 142 #[.pointer (some ⟨a,0,none⟩),.pointer (some ⟨b,0,none⟩)] W fun e w'=>e=.returned (.int .i64 (cmpI x y))/\∃ q,w'=W.drewN q:=by
 have CC:Hid (∀ wx,Calls Tryz.prog 143 #[.int .i64 x,.int .i64 y] wx fun e w'=>e=.returned (.int .i64 (cmpI x y))/\w'=wx):=fun wx=>Compare_int x y wx
 generalize cmpI x y=r at *
 go_enter Tryz.func142,Tryz.ntmps142
 go_wp2
 go_quiet ((go_at_call 143;exact Calls.quiet_of_same (CC.out _)))
 go_wp2
 go_ret
 exact⟨rfl,nq,rfl⟩
def ptF (X:Ad) (j:Nat):Value:=.pointer (some ⟨X.fb j,0,none⟩)
structure Ps (w:World) (X:Ad) (a:Option Addr) (js:List Nat):Prop where
 at_:∀ i,(h:i<js.length)->js[i]<X.n/\∃ g,a=some ⟨g,0,none⟩/\g<w.heap.size/\(∃ cur fz,w.heap[g]?=some (.cells cur 133 fz))/\w.cell? ⟨g,i,none⟩=some (ptF X js[i])
structure OwnP (B:Nat) (w:World) (v:Value) (X:Ad) (js:List Nat):Prop where
 row:w.ownsRow B 133 1 v js.length (js.map (ptF X))
section
variable {w w':World}{X:Ad}{a:Option Addr}{js:List Nat}
theorem Ps.below (h:Ps w X a js) (hb:Below w.heap.size w w'):Ps w' X a js:=⟨fun i hi=>by
 obtain⟨h1,g,h2,h3,⟨cur,fz,h5⟩,h4⟩:=h.at_ i hi
 exact⟨h1,g,h2,Nat.lt_of_lt_of_le h3 hb.size,⟨cur,fz,(hb.block _ h3).trans h5⟩,(World.cell?_of_block (hb.block g h3)).trans h4⟩⟩
end
section
variable [Inhabited PrSet]{w w':World}{X:Ad}{a:Option Addr}{js:List Nat}
theorem Ps.kept {B':Nat} (h:Ps w X a js) (hb:Kp isQ B' w w'):Ps w' X a js:=⟨fun i hi=>by
 obtain⟨h1,g,h2,h3,⟨cur,fz,h5⟩,h4⟩:=h.at_ i hi
 have e:=hb.block _ _ h5 (by simp[isQ,isA,isD,isL,isF])
 exact⟨h1,g,h2,Nat.lt_of_lt_of_le h3 hb.size,⟨cur,fz,e⟩,(World.cell?_of_block (w:=w) (e.trans h5.symm)).trans h4⟩⟩
end
section
variable {w:World}{X:Ad}
theorem Ps.one (w:World) {j:Nat} (hj:j<X.n):Ps (w.alloc (.cells #[ptF X j] 133)) X (some ⟨w.heap.size,0,none⟩) [j]:=⟨fun i hi=>by
 obtain rfl:i=0:=by simpa using hi
 have e:=(MapKept.heap_alloc w (.cells #[ptF X j] 133)).1
 exact⟨hj,w.heap.size,rfl,lt_of_some e,⟨_,_,e⟩,Joins.cell_of_block e 0⟩⟩
end
section
variable {w:World}
theorem cell_new0 (w:World) (x:Value) (t:TypeId):(w.alloc (.cells #[x] t)).cell? ⟨w.heap.size,0,none⟩=some x:=Joins.cell_of_block (MapKept.heap_alloc w (.cells #[x] t)).1 0
end
section
variable {B:Nat}{w:World}{X:Ad}
theorem OwnP.nil (B:Nat) (w:World):OwnP B w (.slice none 0 0) X []:=⟨rfl,Or.inl ⟨rfl,rfl⟩⟩
end
section
variable {b0:Nat}{w w':World}{X:Ad}{js:List Nat}{v:Value}
theorem OwnP.below (h:OwnP b0 w v X js) (hb:Below w.heap.size w w'):OwnP b0 w' v X js:=by
 obtain⟨h1,h2⟩:=h.row
 refine⟨h1,?_⟩
 rcases h2 with h2 |⟨g,cap,cur,e,hB,hg,h3⟩
 ·exact Or.inl h2
 ·exact Or.inr ⟨g,cap,cur,e,hB,(hb.block _ (lt_of_some hg)).trans hg,h3⟩
end
section
variable {b0:Nat}{w:World}{X:Ad}{a:Option Addr}{js:List Nat}{v:Value}
theorem OwnP.ex (h:OwnP b0 w v X js):∃ a c,v=.slice a js.length c:=by
 obtain⟨h1,h2⟩:=h.row
 rcases h2 with⟨rfl,h2⟩ |⟨g,cap,cur,e,hB,hg,h3⟩
 ·exact⟨none,0,by rw[h2]⟩
 ·exact⟨_,_,e⟩
end
section
theorem info_ptr:∃ i,Tryz.prog.info? 133=some i/\i.zero=some (.pointer none)/\i.size=1/\i.bytes=8 :=
 info_parts (show(Tryz.prog.info? 133).map (fun i=>(i.zero,i.size,i.bytes))=some (some (.pointer none),1,8) by kernel_rfl)
end
section
variable {b0:Nat}{w w':World}{X:Ad}{js:List Nat}{v:Value}
theorem wpList_append_ptr {ops:Array Oper} {rest:List Oper} {o:Oper} {act:Act} {Q:Exit->Act->World->Prop} (hgd:o.guard=none) (s x:Operand)
  (ho:o.op=.call {callee:=.builtin .append,args:=#[s,x],argTypes:=#[130,130]}) (hs:act.eval s=v) (h:OwnP b0 w v X js)
  {g:Nat} {j:Nat} (hx:act.eval x=.slice (some ⟨g,0,none⟩) 1 1) (hg:w.cell? ⟨g,0,none⟩=some (ptF X j)) (hB:b0<=w.heap.size) (hl:js.length<=100000)
  (K:∀ v' w',OwnP b0 w' v' X (js++[j])->Below b0 w w'->(∀ (k:Nat) (t:TypeId) (cur:Array Value) (fz:Nat × Nat),w.heap[k]?=some (Obj.cells cur t fz)->t≠133->w'.heap[k]?=some (Obj.cells cur t fz))->wpList Tryz.prog ops Q rest (act.put o.dst v') w'):wpList Tryz.prog ops Q (o ::rest) act w:=by
 obtain⟨i,hi,hz0,hz1,hz2⟩:=info_ptr
 refine Go.wpList_append_own (P:=Tryz.prog) (w:=w) hgd s x 130 ho b0 133 i (.pointer none) 1 8 Tryz.underlying130 hi hz0 hz1 hz2 rfl (by omega) v js.length (js.map (ptF X)) hs h.row ⟨g,0,none⟩ 1 1 [ptF X j] hx rfl ?_ ?_ (by unfold maxLen;omega) (by omega) hB ?_
 ·intro j u hu
  have:j=0:=by
   have:=(List.getElem?_eq_some_iff.1 hu).1
   simpa using this
  subst this
  simp at hu
  subst hu
  have hadd:(⟨g,0,none⟩:Addr).add 0=⟨g,0,none⟩:=by unfold Addr.add;split <;> simp_all
  rw[hadd]
  exact hg
 ·intro u hu
  simp at hu
  subst hu
  rfl
 ·intro v' w' hr hgr hn
  have hC:∀ j,v.ownBlock=some j->b0<=j/\∃ cur,w.heap[j]?=some (.cells cur 133 (0,0)):=by
   intro j e
   rcases h.row.2 with⟨rfl,_⟩ |⟨b,cap,cur,rfl,hbg,hgg,_⟩
   ·simp[Value.ownBlock] at e
   ·simp[Value.ownBlock] at e
    subst e
    exact⟨hbg,cur,hgg⟩
  refine K v' w' ⟨?_⟩ ((Below.refl b0 w).grown hgr hB (fun j e=>(hC j e).1)) (fun j t cur fz e hnr=>(hgr.block j (lt_of_some e) (fun e2=>?_)).trans e)
  ·have e1:(js++[j]).length=js.length+1:=by simp
   have e2:(js++[j]).map (ptF X)=js.map (ptF X)++[ptF X j]:=by simp
   rw[e1,e2]
   exact hr
  ·obtain⟨_,cur,e3⟩:=hC j e2.symm
   rw[e] at e3;cases e3;exact hnr rfl
end
section
open Go.Sort Go.Shelf
variable {α:Type}[Inhabited α]{enc:α->Value}
theorem heap_sortedE {w:World} {g n:Nat} {os:Array Obj} {cur:Array Value} {e:TypeId} {fr:Nat × Nat} (d:Array α) (hb:w.heap[g]?=some (.cells cur e fr)) :
  (sortWorld enc w g 0 n d os).heap[g]?=some (.cells (putCells enc 0 d cur) e fr):=by
 have hlt:=lt_of_some hb
 unfold sortWorld
 rw[heap_grow_old _ _ (by simpa[putRow,mapBlock,Sort.ahead] using hlt)]
 simp[putRow,mapBlock,Sort.ahead,Array.getElem?_modify,hb]
 rfl
theorem grownBy_sortedE {w:World} {g n:Nat} {os:Array Obj} (d:Array α):w.grownBy (sortWorld enc w g 0 n d os) (some g):=by
 refine⟨rfl,rfl,rfl,by simp[sortWorld,grow,putRow,mapBlock,Sort.ahead],fun k hk hne=>?_⟩
 unfold sortWorld
 rw[heap_grow_old _ _ (by simpa[putRow,mapBlock,Sort.ahead] using hk)]
 have:g≠k:=fun e=>hne (by rw[e])
 simp[putRow,mapBlock,Sort.ahead,Array.getElem?_modify,this]
theorem cell_sortedE {w:World} {g n:Nat} {os:Array Obj} (d:Array α) {p:Addr} (hp:p.block<w.heap.size) (hn:p.block≠g):(sortWorld enc w g 0 n d os).cell? p=w.cell? p :=
 World.cell?_of_block ((grownBy_sortedE (os:=os) (n:=n) d).block _ hp (fun e=>hn (by cases e;rfl)))
end
section
variable [Inhabited PrSet]
def toF {n:Nat} (hn:0<n) (j:Nat):Fin n:=if h:j<n then⟨j,h⟩ else⟨0,hn⟩
end
section
theorem toF_val {n:Nat} (hn:0<n) {j:Nat} (h:j<n):(toF hn j).val=j:=by unfold toF;rw[dif_pos h]
end
section
variable [Inhabited PrSet]{B b0:Nat}{w w':World}{X:Ad}{G:Gp}{js:List Nat}{v:Value}
open Go.Sort Go.Shelf in
set_option maxHeartbeats 1000000 in
theorem sort_po (h:PoIs B w X G) (hne:js≠[]) (hjs:∀ j∈js,j<X.n) (hl:js.length<=1000) (ho:OwnP b0 w v X js) :
  Calls Tryz.prog 141 #[v,.func (.func 142) #[] #[]] w fun e w'=>e=.returned (.tuple #[])/\∃ ds,ds.Perm js/\ds.Pairwise (fun i j=>(G.F i).id<=(G.F j).id)/\OwnP b0 w' v X ds/\∃ g,v.ownBlock=some g/\b0<=g/\w.grownBy w' (some g):=by
 have hn:0<X.n:=by have:=h.n1;omega
 haveI:Inhabited (Fin X.n):=⟨⟨0,hn⟩⟩
 rcases ho.row.2 with⟨rfl,hz⟩ |⟨g,cap,cur,rfl,hbg,hgg,hnc,hcm,hcs,htake⟩
 ·exact absurd (List.eq_nil_of_length_eq_zero hz) hne
 have hd:(js.map (toF hn)).length=js.length:=by simp
 have henc:∀ j∈js,(fun i:Fin X.n=>ptF X i.val) (toF hn j)=ptF X j:=fun j hj=>by dsimp only;rw[toF_val hn (hjs j hj)]
 have hmap:(js.map (toF hn)).map (fun i:Fin X.n=>ptF X i.val)=js.map (ptF X):=by
  rw[List.map_map];exact List.map_congr_left henc
 have hgf:∀ i:Fin X.n,X.fb i.val≠g:=fun i e=>by
  have:=h.fr i.val i.isLt
  rw[e,hgg] at this
  simp at this
 have hH:Holds (fun i:Fin X.n=>ptF X i.val) w g 0 (js.map (toF hn)).toArray:=by
  intro j hj
  have hj':j<js.length:=by simpa using hj
  refine⟨?_,Joins.unfrozen_of_block hgg _⟩
  rw[Nat.zero_add,cell_of_row w g j cur _ (0,0) hgg]
  have e1:(cur.toList.take (js.length*1))[j]?=(js.map (ptF X))[j]?:=by rw[htake]
  rw[List.getElem?_take_of_lt (by omega)] at e1
  rw[← Array.getElem?_toList,e1,← hmap]
  simp[hj']
 have hcf:∀ x y:Fin X.n,ltOf (fun x y:Fin X.n=>cmpI (G.F x.val).id (G.F y.val).id) x y=decide ((G.F x.val).id<(G.F y.val).id):=fun x y=>by
  unfold ltOf cmpI
  by_cases h1:(G.F x.val).id<(G.F y.val).id
  ·simp[h1]
  ·by_cases h2:(G.F y.val).id<(G.F x.val).id <;> simp[h1,h2]
 have hO:SWO (ltOf (fun x y:Fin X.n=>cmpI (G.F x.val).id (G.F y.val).id)):=by
  refine⟨fun x=>?_,fun x y z h1 h2=>?_,fun x y z h1 h2=>?_⟩
  ·rw[hcf];simp
  ·rw[hcf] at *;simp at *;omega
  ·rw[hcf] at *;simp at *;omega
 have hC:CmpReads Tryz.prog 142 #[] (fun i:Fin X.n=>ptF X i.val) (fun x y:Fin X.n=>cmpI (G.F x.val).id (G.F y.val).id) g 0 (js.map (toF hn)).toArray.size w:=by
  intro m os dk hdk x y
  have cx:(sortWorld (fun i:Fin X.n=>ptF X i.val) w g 0 m dk os).cell? ⟨X.fb x.val,0,none⟩=some (.int .i64 (G.F x.val).id):=(cell_sortedE dk (h.flt x.isLt) (hgf x)).trans (h.f0 x.isLt)
  have cy:(sortWorld (fun i:Fin X.n=>ptF X i.val) w g 0 m dk os).cell? ⟨X.fb y.val,0,none⟩=some (.int .i64 (G.F y.val).id):=(cell_sortedE dk (h.flt y.isLt) (hgf y)).trans (h.f0 y.isLt)
  exact closure_po cx cy
 have eg:∀ args w,(callFunc 142 args).run Tryz.prog w=.ok (.enter 142 args) w:=enters_of Tryz.func142 (by kernel_rfl) rfl
 have hcon:=Any.slices_SortFunc Tryz.sortF (fun i:Fin X.n=>ptF X i.val) (fun _=>rfl) (fun x y:Fin X.n=>cmpI (G.F x.val).id (G.F y.val).id) hO 142 #[] g 0 cap (js.map (toF hn)).toArray w eg hC.lays hH (lt_of_some hgg) (by simp;omega)
 change Calls Tryz.prog 141 _ _ _ at hcon
 rw[show(js.map (toF hn)).toArray.size=js.length by simp] at hcon
 refine hcon.mono ?_
 rintro e w' ⟨he,d',m,os,hp,hs,rfl⟩
 refine⟨he,d'.toList.map Fin.val,?_,?_,⟨?_⟩,g,rfl,hbg,grownBy_sortedE d'⟩
 ·have h3:=hp.2.2
  have hsz:d'.size=js.length:=by rw[hp.1];simp
  have e1:(d'.extract 0 js.length).toList=d'.toList:=by rw[← hsz];simp
  have e2:((js.map (toF hn)).toArray.extract 0 js.length).toList=js.map (toF hn):=by
   simp
   exact List.take_of_length_le (by simp)
  rw[e1,e2] at h3
  have h4:=h3.map Fin.val
  rw[List.map_map] at h4
  have e3:js.map (Fin.val ∘ toF hn)=js:=by
   conv=>rhs;rw[← List.map_id js]
   exact List.map_congr_left (fun j hj=>toF_val hn (hjs j hj))
  rw[e3] at h4
  exact h4
 ·have hsz:d'.size=js.length:=by rw[hp.1];simp
  rw[List.pairwise_map,List.pairwise_iff_getElem]
  intro i j hi hj hij
  have hi':i<d'.size:=by simpa using hi
  have hj':j<d'.size:=by simpa using hj
  have:=hs i j (Nat.zero_le _) hij (by omega)
  rw[hcf] at this
  simp[hi',hj'] at this
  simp
  omega
 ·have hsz:d'.size=js.length:=by rw[hp.1];simp
  refine⟨by simp,Or.inr ⟨g,cap,_,by simp[hsz],hbg,heap_sortedE d' hgg,by simp[hsz];exact hnc,hcm,by simp[putCells];omega,?_⟩⟩
  apply List.ext_getElem?
  intro j
  by_cases hj:j<js.length
  ·have hjd:j<d'.size:=by omega
   have hjc:j<cur.size:=by omega
   rw[List.getElem?_take_of_lt (by simp[hsz];omega),Array.getElem?_toList]
   simp[putCells,hjd,hjc]
  ·rw[List.getElem?_take_eq_none (by simp[hsz];omega),List.getElem?_eq_none (by simp[hsz];omega)]
end
def dty (G:Gp) (j:Nat):Bool:=decide (0<(G.F j).si)
structure Dl (w w':World) (X:Ad) (G:Gp) (js:List Nat) (e:Ending) (a:Option Addr) (c:Nat) (ds:List Nat):Prop where
 e:e=.returned (.slice a ds.length c)
 ps:Ps w' X a ds
 perm:ds.Perm (js.filter (dty G))
 sort:ds.Pairwise (fun i j=>(G.F i).id<=(G.F j).id)
 below:Below w.heap.size w w'
section
variable {b0:Nat}{w:World}{X:Ad}{a:Option Addr}{js:List Nat}{v:Value}
theorem OwnP.ps (h:OwnP b0 w v X js) (hj:∀ j∈js,j<X.n) {a:Option Addr} {n c:Nat} (hv:v=.slice a n c):Ps w X a js:=by
 refine⟨fun i hi=>⟨hj _ (List.getElem_mem hi),?_⟩⟩
 obtain⟨h1,h2⟩:=h.row
 rcases h2 with⟨rfl,h2⟩ |⟨g,cap,cur,e,hB,hg,h3,h4,h5,h6⟩
 ·omega
 ·rw[hv] at e
  cases e
  refine⟨g,rfl,lt_of_some hg,⟨_,_,hg⟩,?_⟩
  rw[cell_of_row w g i cur _ (0,0) hg]
  have:(js.map (ptF X))[i]?=some (ptF X js[i]):=by simp[hi]
  rw[← h6,List.getElem?_take,if_pos (by omega)] at this
  simpa using this
end
section
variable [Inhabited PrSet]{B b0:Nat}{w w':World}{X:Ad}{G:Gp}{a:Option Addr}{js:List Nat}{v:Value}
set_option maxHeartbeats 4000000 in
theorem dirtyOf_po (h:PoIs B w X G) (hp:Ps w X a js) (hl:js.length<=64) (c:Nat):Calls Tryz.prog 91 #[.slice a js.length c] w fun e w'=>∃ a' c' ds,Dl w w' X G js e a' c' ds:=by
 have hjs:∀ j∈js,j<X.n:=fun j hj=>by
  obtain⟨i,hi,rfl⟩:=List.getElem_of_mem hj
  exact(hp.at_ i hi).1
 have HD:Hid (∀ wx i (hi:i<js.length),Below w.heap.size w wx->Calls Tryz.prog 78 #[ptF X js[i]] wx fun e w'=>e=.returned (.bool (dty G js[i]))/\w'=wx):=fun wx i hi hx=>isDirty_at ((h.below hx).f4 (hp.at_ i hi).1)
 have HA:Hid (∀ wx i (hi:i<js.length),Below w.heap.size w wx->∃ g,a=some ⟨g,0,none⟩/\wx.cell? ⟨g,i,none⟩=some (ptF X js[i])):=fun wx i hi hx=>by
  obtain⟨_,g,e,_,_,hc⟩:=(hp.below hx).at_ i hi
  exact⟨g,e,hc⟩
 have HT:Hid (∀ i (hi:i<js.length),(js.take (i+1)).filter (dty G)=(js.take i).filter (dty G)++(if dty G js[i]=true then [js[i]] else [])):=fun i hi=>by
  rw[List.take_succ_eq_append_getElem hi,List.filter_append]
  by_cases hd:dty G js[i]=true
  ·rw[if_pos hd];simp[hd]
  ·rw[if_neg hd];simp[hd]
 have HL:Hid (∀ i,((js.take i).filter (dty G)).length<=100000):=fun i=>by
  have h1:=List.length_filter_le (dty G) (js.take i)
  have h2:=List.length_take_le' i js
  omega
 have HS:Hid (∀ wx v,Below w.heap.size w wx->OwnP w.heap.size wx v X (js.filter (dty G))->js.filter (dty G)≠[]->Calls Tryz.prog 141 #[v,.func (.func 142) #[] #[]] wx fun e w'=>e=.returned (.tuple #[])/\∃ ds,ds.Perm (js.filter (dty G))/\ds.Pairwise (fun i j=>(G.F i).id<=(G.F j).id)/\OwnP w.heap.size w' v X ds/\Below w.heap.size w w'):=fun wx v hx ho hne=>by
  refine(sort_po (h.below hx) hne (fun j hj=>hjs j ((List.mem_filter.1 hj).1)) (by have:=HL.out js.length;rw[List.take_length] at this;have h1:=List.length_filter_le (dty G) js;omega) ho).mono ?_
  rintro e w' ⟨he,ds,h1,h2,h3,g,hg,hbg,hgr⟩
  exact⟨he,ds,h1,h2,h3,hx.grown hgr hx.size (fun j e=>by cases e;exact hbg)⟩
 have HN:Hid (∀ wx p cap fv,Calls Tryz.prog 141 #[.slice p 0 cap,fv] wx fun e w'=>e=.returned (.tuple #[])/\w'=wx):=fun wx p cap fv=>AnyF.slices_SortFunc_none {Tryz.sortF with} p cap fv wx
 have HW:Hid (Below w.heap.size w w):=Below.refl _ _
 have HO:Hid (∀ wx v,OwnP w.heap.size wx v X (js.filter (dty G))->OwnP w.heap.size wx v X (js.filter (dty G))):=fun _ _ h=>h
 have HJ:Hid (∀ j∈js,j<X.n):=hjs
 clear h hp hjs
 go_enter Tryz.func91,Tryz.ntmps91
 go_wp2
 go_loopw [3,8] (fun dv iv wr=>∃ (i:Nat) (ad:Option Addr) (cc:Nat),i<=js.length/\iv=.int .i64 (i:Int)/\dv=.slice ad ((js.take i).filter (dty G)).length cc/\OwnP w.heap.size wr (.slice ad ((js.take i).filter (dty G)).length cc) X ((js.take i).filter (dty G))/\Below w.heap.size w wr) (fun _ iv _=>js.length-(intOf iv).toNat)
 case atStart=>exact⟨0,none,0,Nat.zero_le _,rfl,rfl,OwnP.nil _ _,HW.out⟩
 case round =>
  obtain⟨i,ad,cc,hi,rfl,rfl,ho,hb⟩:=hrel
  have HB:Hid (Below w.heap.size w wr):=hb
  by_cases hlt:i<js.length
  ·have i1:(i:Int)<(js.length:Int):=by omega
   have i64:(i:Int)<=64:=by omega
   obtain⟨g,ha,hc⟩:=HA.out wr i hlt hb
   subst ha
   have hT:=HT.out i hlt
   have CD:=fun wx hx=>HD.out wx i hlt hx
   have hlen:=HL.out i
   obtain⟨j,hj⟩:∃ j,j=js[i]:=⟨_,rfl⟩
   rw[← hj] at hT hc CD
   have HCD:Hid (∀ wx,Below w.heap.size w wx->Calls Tryz.prog 78 #[ptF X j] wx fun e w'=>e=.returned (.bool (dty G j))/\w'=wx):=CD
   have HOw:Hid (OwnP w.heap.size wr (.slice ad ((js.take i).filter (dty G)).length cc) X ((js.take i).filter (dty G))):=ho
   clear CD ho hj
   simp only[ptF] at hc HCD
   by_cases hd:dty G j=true
   ·rw[if_pos hd] at hT
    rw[hd] at HCD
    have hTH:Hid ((js.take (i+1)).filter (dty G)=(js.take i).filter (dty G)++[j]):=hT
    clear hT hd hb
    generalize (js.take i).filter (dty G)=L at *
    go_wp2_with (first
     | (go_at_call 78;refine(HCD.out _ HB.out).mono ?_;rintro e w1 ⟨rfl,rfl⟩)
     | (at_builtin;refine wpList_append_ptr (b0:=w.heap.size) (X:=X) (j:=j) rfl _ _ rfl rfl (HOw.out.below ((Below.refl _ _).alloc (Nat.le_refl _) _)) rfl (cell_new0 _ _ _) ?_ hlen ?_;exact Nat.le_trans HB.out.size (by simp);intro v2 w2 o2 b2 _;obtain⟨a2,c2,rfl⟩:=o2.ex))
    go_roundw
    case rel =>
     refine⟨i+1,a2,c2,hlt,by go_num,?_,?_,?_⟩
     ·rw[hTH.out];simp
     ·rw[hTH.out];exact o2
     ·exact(HB.out.alloc (by exact HB.out.size) _).trans b2
    case measure=>simp[intOf];omega
   ·rw[if_neg hd,List.append_nil] at hT
    have hd':dty G j=false:=by simpa using hd
    rw[hd'] at HCD
    have hTH:Hid ((js.take (i+1)).filter (dty G)=(js.take i).filter (dty G)):=hT
    clear hT hd hb hd'
    generalize (js.take i).filter (dty G)=L at *
    go_wp2_with (go_at_call 78;refine(HCD.out _ HB.out).mono ?_;rintro e w1 ⟨rfl,rfl⟩)
    go_roundw
    case rel =>
     refine⟨i+1,ad,cc,hlt,by go_num,?_,?_,HB.out⟩
     ·rw[hTH.out]
     ·rw[hTH.out];exact HOw.out
    case measure=>simp[intOf];omega
  ·obtain rfl:i=js.length:=by omega
   have i1:¬ (js.length:Int)<(js.length:Int):=by omega
   rw[List.take_length] at ho
   rw[List.take_length]
   clear hlt
   by_cases hne:js.filter (dty G)=[]
   ·have HP:Hid (js.filter (dty G)=[]):=hne
    rw[hne]
    clear ho hne
    go_wp2_with (go_at_call 141;refine(HN.out _ _ _ _).mono ?_;rintro e w1 ⟨rfl,rfl⟩)
    go_ret
    exact⟨ad,cc,[],rfl,⟨fun i hi=>absurd hi (Nat.not_lt_zero _)⟩,by rw[HP.out],List.Pairwise.nil,HB.out⟩
   ·have CS:Hid (Calls Tryz.prog 141 #[.slice ad (js.filter (dty G)).length cc,.func (.func 142) #[] #[]] wr fun e w'=>e=.returned (.tuple #[])/\∃ ds,ds.Perm (js.filter (dty G))/\ds.Pairwise (fun i j=>(G.F i).id<=(G.F j).id)/\OwnP w.heap.size w' (.slice ad (js.filter (dty G)).length cc) X ds/\Below w.heap.size w w'):=HS.out _ _ hb ho hne
    clear ho hb hne
    have HL2:Hid (∀ ds:List Nat,ds.Perm (js.filter (dty G))->ds.length=(js.filter (dty G)).length):=fun ds h=>h.length_eq
    go_wp2_with (go_at_call 141;refine CS.out.mono ?_;rintro e w1 ⟨rfl,ds,h1,h2,h3,h4⟩)
    go_ret
    refine⟨ad,cc,ds,?_,?_,h1,h2,h4⟩
    ·rw[h1.length_eq];rfl
    ·exact h3.ps (fun j hj=>HJ.out j (List.mem_filter.1 (h1.subset hj)).1) rfl
end
end Go.Proofs.YtpcnjncgilmehabGreat
