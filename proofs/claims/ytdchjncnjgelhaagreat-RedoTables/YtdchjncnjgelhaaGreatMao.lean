import Derived.Test.YtdchjncnjgelhaaGreatMan
import Derived.Test.YtdchjncnjgelhaaGreatMag
import Derived.Test.YtdchjncnjgelhaaGreatProg
import Derived.WalkKit
import Derived.Below
import Derived.Lib.SmallJoins
import Derived.Lib.SliceRun
import Derived.Deep.MidRow
import Derived.Laws.AppendOwn
import Derived.Laws.Append
import Derived.Deep.WholeRow
import Derived.Laws.ResultCell
import Derived.Laws.Rows
set_option linter.unusedVariables false
set_option linter.unusedSimpArgs false
set_option maxRecDepth 100000
namespace Go.Proofs.YtdchjncnjgelhaaGreat
open Go.RowKit Go.Maps Go.ChangeMaps
structure Own7 (w:World) (l:Nat) (v2:Value):Prop where
 ex:∃ pv,w.cell? ⟨l,7,none⟩=some pv/\∀ g,v2.ownBlock=some g->pv.ownBlock≠some g
structure Qs (S:Dk) (bs sc r:Nat) (Q:Nat->Sec):Prop where
 now:∀ i,i<sc->S.now (bs+i)=encQ (Q i)
 run:∀ i,i<sc->(Q i).1<=r
 sz:∀ i,i<sc->(Q i).2.size<=58
 wait:∀ i,S.wait i=none
structure Lv [Inhabited PrSet] (B:Nat) (w:World) (l k:Nat) (S:Dk) (db bs sc run:Nat) (fs:List ByteArray) (sure:Nat):Prop where
 lx:Lx B w l k S (lgR db bs sc run fs (off fs sure) false)
 up:S.up=true
 fit:Fit sc fs
 hs:sure<=fs.length
 n:bs+sc<=S.n
 r2:run<=4294967295
 q:∃ Q,Qs S bs sc run Q/\Std Q sc run (cat (fs.take sure))
structure Wt (S:Dk) (bs sc r:Nat) (fs:List ByteArray) (lo:Nat):Prop where
 q:∃ Q,Qs S bs sc r Q/\∀ run,r<=run->∃ x,cat fs=stand Q run sc++x/\off fs lo<=(stand Q run sc).size
section
variable {fs:List ByteArray}
theorem fs_split (fs:List ByteArray) (i:Nat):cat fs=cat (fs.take i)++cat (fs.drop i):=by rw[← cat_append,List.take_append_drop]
end
section
variable [Inhabited PrSet]{B l k db bs sc run sure:Nat}{w w':World}{S:Dk}{fs:List ByteArray}
theorem Lv.below (h:Lv B w l k S db bs sc run fs sure) (hb:Below w.heap.size w w'):Lv B w' l k S db bs sc run fs sure:=⟨h.lx.below hb,h.up,h.fit,h.hs,h.n,h.r2,h.q⟩
end
section
variable {bs sc run r:Nat}{S S':Dk}{Q:Nat->Sec}
theorem Qs.laid (h:Qs S bs sc r Q) {t:ByteArray} {rr a b:Nat} (hr:r<=rr) (hL:Laid S S' (nw bs t rr a b) 0):Qs S' bs sc rr (putQ Q t rr a b):=by
 obtain⟨hu,hw,hsu⟩:=hL.ok rfl
 refine⟨fun i hi=>?_,fun i hi=>?_,fun i hi=>?_,hw⟩
 ·unfold Dk.now
  rw[hw,hsu]
  show(nw bs t rr a b (bs+i)).getD (S.now (bs+i))=_
  unfold nw putQ
  by_cases hc:a<=i/\i<b
  ·rw[if_pos (by omega),if_pos hc,show bs+i-bs=i by omega];rfl
  ·rw[if_neg (by omega),if_neg hc]
   exact h.now i hi
 ·unfold putQ
  split
  ·exact Nat.le_refl _
  ·exact Nat.le_trans (h.run i hi) hr
 ·unfold putQ
  split
  ·exact part_le t i
  ·exact h.sz i hi
end
section
variable {sc:Nat}{fs:List ByteArray}
theorem Fit.take (h:Fit sc fs) (i:Nat):Fit sc (fs.take i):=by
 refine⟨fun f hf=>h.frm f (List.mem_of_mem_take hf),?_,h.s0,h.s1⟩
 have e:=fs_split fs i
 have:=h.sz
 rw[e,bsz] at this
 omega
end
section
variable {sc:Nat}{fs gs:List ByteArray}
theorem Fit.snoc (h:Fit sc fs) {gs:List ByteArray} (hg:∀ g∈gs,Frm g) (hz:(cat fs).size+(cat gs).size<=58*sc):Fit sc (fs++gs):=⟨fun f hf=>by
 rcases List.mem_append.1 hf with q |q
 ·exact h.frm f q
 ·exact hg f q,by rw[cat_append,bsz];exact hz,h.s0,h.s1⟩
end
section
variable [Inhabited PrSet]{B l k db bs sc run r sure lo:Nat}{w w':World}{S S':Dk}{fs gs:List ByteArray}{Q:Nat->Sec}
theorem Lv.grown (h:Lv B w l k S db bs sc run fs sure) {gs:List ByteArray} (hg:∀ g∈gs,Frm g) (hz:(cat fs).size+(cat gs).size<=58*sc) (hl:Lx B w' l k S (lgR db bs sc run (fs++gs) (off fs sure) false)):Lv B w' l k S db bs sc run (fs++gs) sure:=by
 have e:(fs++gs).take sure=fs.take sure:=List.take_append_of_le_length h.hs
 have e2:off (fs++gs) sure=off fs sure:=by unfold off;rw[e]
 refine⟨by rw[e2];exact hl,h.up,h.fit.snoc hg hz,by rw[List.length_append];have:=h.hs;omega,h.n,h.r2,?_⟩
 rw[e]
 exact h.q
theorem Wt.open2 (h:Wt S bs sc r fs lo) (hF:Fit sc fs) (hlo:lo<=fs.length) (hd:Ds B w db k S) (hk:k<=300000000000) (hrun:r<run) (hr2:run<=4294967295) (hfit:bs+sc<=S.n) (hu:S.up=true) (hc:S.set=false) :
  Calls Tryz.prog 8 #[.pointer (some ⟨db,0,none⟩),.int .i64 (bs:Int),.int .i64 (sc:Int),.int .i64 (run:Int)] w fun e w' =>
   ∃ j S' l,e=.returned (.tuple #[.pointer (some ⟨l,0,none⟩),.int .i64 0])/\(lo<=j/\j<=fs.length/\S'.set=false/\S'.n=S.n)/\Lv B w' l (k+sc+1) S' db bs sc run (fs.take j) j/\Kp isA B w w'/\Opn S S' bs sc run (cat (fs.take j)):=by
 obtain⟨Q,hQ,hst⟩:=h.q
 refine(Open_calm hd hk bs sc run hF.s0 hF.s1 (by omega) hr2 hfit hu hc Q (fun i hi=>⟨hQ.now i hi,by have:=hQ.run i hi;omega,hQ.sz i hi⟩)).mono ?_
 rintro e w' ⟨gs,S',l,rfl,hsp,hop,hlx,hK⟩
 obtain⟨x,hx,hlow⟩:=hst run (Nat.le_of_lt hrun)
 obtain⟨j,hj,rfl,hmax⟩:=Spl.take fs gs _ x hF.frm hx hsp
 have hlj:lo<=j:=hmax lo hlo hlow
 have hjl:(fs.take j).length=j:=by rw[List.length_take];omega
 obtain⟨y,hy⟩:=hsp.pre
 have hstd:=std_new (Q:=Q) (secs:=sc) (r:=run) (T:=cat (fs.take j)) (x:=y) (fun i hi=>by have:=hQ.run i hi;omega) hQ.sz hy (hF.take j).sz (by omega)
 have mk:S'.up=true->S'.n=S.n->(∃ Q',Qs S' bs sc run Q'/\Std Q' sc run (cat (fs.take j)))->Lv B w' l (k+sc+1) S' db bs sc run (fs.take j) j:=fun hu' hn' hq=>by
  refine⟨?_,hu',hF.take j,by omega,by rw[hn'];exact hfit,hr2,by rw[List.take_take,Nat.min_self];exact hq⟩
  have:off (fs.take j) j=(cat (fs.take j)).size:=by unfold off;rw[List.take_take,Nat.min_self]
  rw[this]
  exact hlx
 have hop2:=hop
 rcases hop with⟨h1,rfl⟩ |⟨h1,hLd⟩
 ·refine⟨j,_,l,rfl,⟨hlj,hj,hc,rfl⟩,mk hu rfl ⟨Q,⟨hQ.now,fun i hi=>by have:=hQ.run i hi;omega,hQ.sz,hQ.wait⟩,?_⟩,hK,hop2⟩
  have e:putQ Q (cat (fs.take j)) run ((cat (fs.take j)).size / 58) (min ((cat (fs.take j)).size / 58+1) sc)=Q:=by
   funext i
   exact putQ_out (by omega)
  rw[e] at hstd
  exact hstd
 ·obtain⟨hu',_,_⟩:=hLd.ok rfl
  exact⟨j,S',l,rfl,⟨hlj,hj,(hLd.calm hc).2,hLd.n⟩,mk hu' hLd.n ⟨_,hQ.laid (Nat.le_of_lt hrun) hLd,hstd⟩,hK,hop2⟩
theorem Wt.open_ (h:Wt S bs sc r fs lo) (hF:Fit sc fs) (hlo:lo<=fs.length) (hd:Ds B w db k S) (hk:k<=300000000000) (hrun:r<run) (hr2:run<=4294967295) (hfit:bs+sc<=S.n) (hu:S.up=true) (hc:S.set=false) :
  Calls Tryz.prog 8 #[.pointer (some ⟨db,0,none⟩),.int .i64 (bs:Int),.int .i64 (sc:Int),.int .i64 (run:Int)] w fun e w' =>
   ∃ j S' l,e=.returned (.tuple #[.pointer (some ⟨l,0,none⟩),.int .i64 0])/\(lo<=j/\j<=fs.length/\S'.set=false/\S'.n=S.n)/\Lv B w' l (k+sc+1) S' db bs sc run (fs.take j) j/\Kp isA B w w':=by
 refine(h.open2 hF hlo hd hk hrun hr2 hfit hu hc).mono ?_
 rintro e w' ⟨j,S',l,h1,h2,h3,h4,_⟩
 exact⟨j,S',l,h1,h2,h3,h4⟩
end
open Go.RowKit
section
variable {bs sc:Nat}
theorem new_wt (n bs sc:Nat) (h:1<=sc):Wt (newDk n) bs sc 0 [] 0:=by
 refine⟨fun _=>(0,⟨#[]⟩),⟨fun i hi=>?_,fun i hi=>Nat.le_refl _,fun i hi=>Nat.zero_le _,fun i=>rfl⟩,fun rn hr=>⟨⟨#[]⟩,?_,Nat.zero_le _⟩⟩
 ·rw[enc_zero];rfl
 ·obtain⟨m,rfl⟩:∃ m,sc=m+1:=⟨sc-1,by omega⟩
  show cat []=stK _ rn (m+1) 0 1++_
  rw[stK,if_pos (Or.inl (by show 0<1;omega))]
  rfl
end
section
variable {sc:Nat}
theorem fit_nil (h0:1<=sc) (h1:sc<=8000):Fit sc []:=⟨(fun f hf=>by cases hf),Nat.zero_le _,h0,h1⟩
end
section
variable [Inhabited PrSet]{B l k db bs sc run sure:Nat}{w w':World}{S:Dk}{fs:List ByteArray}
theorem Lv.append {v:Value} {m:Rm} (h:Lv B w l k S db bs sc run fs sure) (hv:RecV w v m) (hm:Small m) (he:(frameM m).2=0) (hn:(cat fs).size+(frameM m).1.size<=58*sc) :
  Calls Tryz.prog 35 #[.pointer (some ⟨l,0,none⟩),v] w fun e w'=>e=.returned (.tuple #[.int .i64 (((cat fs).size:Int)+1),.int .i64 0])/\Lv B w' l k S db bs sc run (fs++[(frameM m).1]) sure/\Kp isL B w w':=by
 refine(append_ok h.lx h.fit hv hm he hn).mono ?_
 rintro e w' ⟨he',h1,k1⟩
 refine⟨he',h.grown (fun g hg=>by rw[List.mem_singleton] at hg;subst hg;exact frm_good he) ?_ h1,k1⟩
 rw[cat,cat,app_nil];exact hn
end
structure RsV (w:World) (a:Option Addr) (n:Nat) (ms:List Rm):Prop where
 len:ms.length=n
 at_:∀ i,(h:i<ms.length)->∃ g o I T,a=some ⟨g,o,none⟩/\g<w.heap.size/\w.rangeAt g (o+i*13) ((ms[i].s.A I T).toList)/\RecV w (.agg (ms[i].s.A I T)) ms[i]/\Held ms[i]
section
variable {w w':World}
theorem wpList_load_rcs {ops:Array Oper} {rest:List Oper} {o:Oper} {a:Act} {Q:Exit->Act->World->Prop} {g of:Nat} {s:Sc} {I T:Value} (w:World) (hg:o.guard=none) (x:Operand) (hop:o.op=Op.load 54 x) (hx:a.eval x=.pointer (some ⟨g,of,none⟩)) (hr:w.rangeAt g of ((s.A I T).toList))
  (h:wpList Tryz.prog ops Q rest (a.put o.dst (.agg (s.A I T))) w):wpList Tryz.prog ops Q (o ::rest) a w :=
 wpList_load_mid hg 54 x hop g of hx _ _ hr Tryz.underlying54 rfl (info_rc s I T) h
theorem rangeAt_below {g o:Nat} {L:List Value} (h:w.rangeAt g o L) (hg:g<w.heap.size) (hb:Below w.heap.size w w'):w'.rangeAt g o L:=fun j u hu=>(World.cell?_of_block (hb.block g hg)).trans (h j u hu)
end
section
variable [Inhabited PrSet]{B l k db bs sc run sure:Nat}{w w':World}{S:Dk}{fs:List ByteArray}
theorem Lv.appendAny {v:Value} {m:Rm} (h:Lv B w l k S db bs sc run fs sure) (hv:RecV w v m) (hm:Small m) :
  Calls Tryz.prog 35 #[.pointer (some ⟨l,0,none⟩),v] w fun e w'=>∃ x y fs',e=.returned (.tuple #[.int .i64 x,.int .i64 y])/\Lv B w' l k S db bs sc run fs' sure/\Kp isL B w w'/\((y=0/\(frameM m).2=0/\fs'=fs++[(frameM m).1]/\x=((cat fs).size:Int)+1/\(cat fs).size+(frameM m).1.size<=58*sc)∨(y≠0/\fs'=fs/\x=0/\(((frameM m).2≠0/\y=(frameM m).2)∨((frameM m).2=0/\y=7/\¬ (cat fs).size+(frameM m).1.size<=58*sc)))):=by
 have hle:=h.lx.le
 by_cases he:(frameM m).2=0
 ·by_cases hn:(cat fs).size+(frameM m).1.size<=58*sc
  ·refine(h.append hv hm he hn).mono ?_
   rintro e w' ⟨he',h1,k1⟩
   exact⟨_,_,_,he',h1,k1,Or.inl ⟨rfl,he,rfl,rfl,hn⟩⟩
  ·refine(append_full h.lx h.fit hv hm he hn).mono ?_
   rintro e w' ⟨he',b1⟩
   exact⟨_,_,_,he',h.below b1,Kp.of_below b1 hle,Or.inr ⟨by omega,rfl,rfl,Or.inr ⟨he,rfl,hn⟩⟩⟩
 ·refine(append_err h.lx h.fit hv hm he).mono ?_
  rintro e w' ⟨he',b1⟩
  exact⟨_,_,_,he',h.below b1,Kp.of_below b1 hle,Or.inr ⟨he,rfl,rfl,Or.inl ⟨he,rfl⟩⟩⟩
end
end Go.Proofs.YtdchjncnjgelhaaGreat
namespace Go.Proofs.YtdchjncnjgelhaaGreat.Gm
open Go.RowKit
theorem lt_of {w:World} {j:Nat} {o:Obj} (h:w.heap[j]?=some o):j<w.heap.size:=(Array.getElem?_eq_some_iff.1 h).1
theorem thn {w w1 w2:World} (h:Below w.heap.size w w1) (k:Below w1.heap.size w1 w2):Below w.heap.size w w2:=h.trans (k.mono h.size)
theorem bl1 {w:World} (o:Obj):Below w.heap.size w (w.alloc o):=(Below.refl _ _).alloc (Nat.le_refl _) _
theorem bdr {w w':World} {B:Nat} (h:Below B w w') (q:Nat):Below B w (w'.drewN q):=⟨h.os,h.tape,h.output,h.size,h.block⟩
structure Fr (W W':Nat->Prop) (w w':World):Prop where
 os:w'.os=w.os
 tape:w'.tape=w.tape
 output:w'.output=w.output
 size:w.heap.size<=w'.heap.size
 blk:∀ j,j<w.heap.size->¬ W j->w'.heap[j]?=w.heap[j]?
 sub:∀ j,W' j->W j∨w.heap.size<=j
section
variable {W W' W2 V:Nat->Prop}{w w' w2:World}
theorem Fr.refl (W:Nat->Prop) (w:World):Fr W W w w:=⟨rfl,rfl,rfl,Nat.le_refl _,fun _ _ _=>rfl,fun _ h=>Or.inl h⟩
theorem Fr.trans (h:Fr W W' w w') (k:Fr W' W2 w' w2):Fr W W2 w w2:=⟨k.os.trans h.os,k.tape.trans h.tape,k.output.trans h.output,Nat.le_trans h.size k.size,fun j hj hn=>(k.blk j (Nat.lt_of_lt_of_le hj h.size) (fun e=>(h.sub j e).elim hn (fun e2=>by omega))).trans (h.blk j hj hn),fun j hj=>(k.sub j hj).elim (h.sub j) (fun e=>Or.inr (Nat.le_trans h.size e))⟩
theorem Fr.of_below (h:Below w.heap.size w w') (W:Nat->Prop):Fr W W w w':=⟨h.os,h.tape,h.output,h.size,fun j hj _=>h.block j hj,fun _ h=>Or.inl h⟩
theorem Fr.below (h:Fr W W' w w') (k:Below w'.heap.size w' w2):Fr W W' w w2:=h.trans (Fr.of_below k W')
theorem Fr.not (h:Fr W W' w w') {j:Nat} (hj:j<w.heap.size) (hn:¬ W j):¬ W' j:=fun e=>(h.sub j e).elim hn (fun e2=>by omega)
theorem Fr.more (h:Fr W W' w w') (hV:∀ j,V j->W j∨w.heap.size<=j):Fr W V w w':=⟨h.os,h.tape,h.output,h.size,h.blk,hV⟩
theorem Fr.grown {r:Option Nat} (h:w.grownBy w' r) (hr:∀ g,r=some g->W g):Fr W W w w':=⟨h.os,h.tape,h.output,h.size,fun j hj hn=>h.block j hj (fun e=>hn (hr j e.symm)),fun _ h=>Or.inl h⟩
theorem Fr.bel {B:Nat} (h:Fr W W' w w') (hW:∀ j,W j->B<=j) (hB:B<=w.heap.size):Below B w w':=⟨h.os,h.tape,h.output,h.size,fun k hk=>h.blk k (Nat.lt_of_lt_of_le hk hB) (fun e=>by have:=hW k e;omega)⟩
end
structure At (w:World) (b:Nat) (t:TypeId) (A:Array Value):Prop where
 blk:w.heap[b]?=some (.cells A t)
section
variable {w w':World}{b:Nat}{t:TypeId}{A:Array Value}{W W':Nat->Prop}
theorem At.c (h:At w b t A) (i:Nat):w.cell? ⟨b,i,none⟩=A[i]?:=Joins.cell_of_block h.blk i
theorem At.f (h:At w b t A) (i:Nat):w.frozen? ⟨b,i,none⟩=false:=Joins.unfrozen_of_block h.blk i
theorem At.lt (h:At w b t A):b<w.heap.size:=lt_of h.blk
theorem At.keep (h:At w b t A) (hb:w'.heap[b]?=w.heap[b]?):At w' b t A:=⟨hb.trans h.blk⟩
theorem At.bel (h:At w b t A) (hb:Below w.heap.size w w'):At w' b t A:=h.keep (hb.block b h.lt)
theorem At.fr (h:At w b t A) (hf:Fr W W' w w') (hn:¬ W b):At w' b t A:=h.keep (hf.blk b h.lt hn)
theorem At.new (w:World) (A:Array Value) (t:TypeId):At (w.alloc (.cells A t)) w.heap.size t A:=⟨(MapKept.heap_alloc w _).1⟩
theorem At.set (h:At w b t A) (i:Nat) (v:Value):At (w.setCell ⟨b,i,none⟩ v) b t (A.setIfInBounds i v):=⟨Joins.block_setCell h.blk _⟩
theorem At.range (h:At w b t A):w.rangeAt b 0 A.toList:=fun j v hv=>by
 rw[Nat.zero_add,h.c];simpa using hv
end
structure St (t:TypeId) (k:Nat):Prop where
 un:∃ fs,Tryz.prog.underlying t=some (.struct fs)
 info:(Tryz.prog.info? t).map (·.size)=some k
structure New (w w':World) (b:Nat) (t:TypeId) (A:Array Value):Prop where
 is:At w' b t A
 bel:Below w.heap.size w w'
 eq:b=w.heap.size
structure Put (w w':World) (b:Nat) (t:TypeId) (A:Array Value):Prop where
 is:At w' b t A
 off:∀ j,j≠b->w'.heap[j]?=w.heap[j]?
 fr:∀ W:Nat->Prop,W b->Fr W W w w'
section
variable {ops:Array Oper}{rest:List Oper}{o:Oper}{a:Act}{Q:Exit->Act->World->Prop}{t:TypeId}{k:Nat}{A A':Array Value}
theorem wpList_new_at (w:World) (hz:∀ w,(zeroValue t).run Tryz.prog w=.ok (.agg A) w) (hg:o.guard=none) (hop:o.op=Op.alloc t)
  (h:∀ w' b,New w w' b t A->wpList Tryz.prog ops Q rest (a.put o.dst (.pointer (some ⟨b,0,none⟩))) w'):wpList Tryz.prog ops Q (o ::rest) a w:=by
 refine wpList_plain hg fun K' hK'=>?_
 unfold Oper.wp
 simp[execOp,hop,Instr.alloc,hz,Result.andThen,Value.cells]
 exact hK' _ _ (h _ _ ⟨At.new _ _ _,bl1 _,rfl⟩)
theorem setCells_at {w:World} {b:Nat} (h:At w b t A) (hk:A'.size=A.size) (h1:∀ v∈A'.toList,v.oneCell'=true):w.setCells b 0 A'.toList=w.setRow b A':=by
 have hth:∀ j,j<A.size->((w.cell? ⟨b,0+j,none⟩).isSome=true):=fun j hj=>by
  rw[h.c]
  simp[hj]
 have e1:=run_storeCells_at Tryz.prog b 0 t A'.toList 0 A w h.blk (by simp[hk]) h1
 have e2:=run_storeCells_cells (P:=Tryz.prog) b 0 A'.toList 0 w (fun j hj=>by have:=hth j (by rw[← hk];simpa using hj);simpa using this) (fun j hj=>by have:=h.f (0+0+j);simpa using this) h1
 have e:(List.take (0+0) A.toList++A'.toList++List.drop (0+0+A'.toList.length) A.toList).toArray=A':=by
  have:List.drop (0+0+A'.toList.length) A.toList=[]:=List.drop_eq_nil_of_le (by simp[hk])
  rw[this]
  simp
 rw[e,e2] at e1
 simpa using e1
theorem wpList_put_at (hS:St t k) {b:Nat} (w:World) (hg:o.guard=none) (x y:Operand) (hop:o.op=Op.store t x y)
  (hx:a.eval x=.pointer (some ⟨b,0,none⟩)) (hy:a.eval y=.agg A') (hs:At w b t A) (hk:A.size=k) (hk':A'.size=k) (h1:∀ v∈A'.toList,v.oneCell'=true)
  (h:∀ w',Put w w' b t A'->wpList Tryz.prog ops Q rest (a.put o.dst undef) w'):wpList Tryz.prog ops Q (o ::rest) a w:=by
 refine wpList_store_mid hg t x y hop b 0 A' hx hy ?_ (by rw[hk'];exact hS.info) (Array.all_eq_true_iff_forall_mem.2 (fun v hv=>h1 v (by simpa using hv))) ?_
 ·intro j hj
  refine⟨?_,hs.f _⟩
  rw[hs.c]
  have:j<A.size:=by omega
  simp[this]
 ·rw[setCells_at hs (by omega) h1]
  refine h _ ⟨⟨setRow_heap w b _ _ t _ hs.blk⟩,fun k hk=>setRow_other w b k _ hk,fun W hW=>⟨rfl,rfl,rfl,by simp,fun k _ hk=>setRow_other w b k _ (fun e=>hk (e ▸ hW)),fun _ h=>Or.inl h⟩⟩
theorem run_set1 {b k:Nat} {u v:Value} (w:World) (t:TypeId) (hu:w.cell? ⟨b,k,none⟩=some u) (hf:w.frozen? ⟨b,k,none⟩=false) (h1:v.oneCell'=true) (hi:(Tryz.prog.info? t).map (·.size)=some 1):(Instr.storeAt t (.pointer (some ⟨b,k,none⟩)) v).run Tryz.prog w=.ok () (w.setCell ⟨b,k,none⟩ v):=by
 have hcs:v.cells=#[v]:=by cases v <;> first |rfl |cases h1
 have g1:∀ j,j<[v].length->(w.cell? ⟨b,k+0+j,none⟩).isSome=true:=by
  intro j hj
  obtain rfl:j=0:=by simpa using hj
  simp[hu]
 have g2:∀ j,j<[v].length->w.frozen? ⟨b,k+0+j,none⟩=false:=by
  intro j hj
  obtain rfl:j=0:=by simpa using hj
  simpa using hf
 have:=run_storeCells_cells (P:=Tryz.prog) b k [v] 0 w g1 g2 (fun x hx=>by simp at hx;subst hx;exact h1)
 cases hq:Tryz.prog.info? t with
 | none=>simp[hq] at hi
 | some i =>
  have hs:i.size=1:=by simpa[hq] using hi
  simp only[Nat.add_zero] at this
  simp[Instr.storeAt,Instr.sureAddr,storeVar,sizeOf,typeInfo,hq,hcs,hs,this,World.setCells]
theorem wpList_set1 {b k':Nat} {u v:Value} (w:World) (hg:o.guard=none) (t:TypeId) (x y:Operand) (hop:o.op=Op.store t x y) (hx:a.eval x=.pointer (some ⟨b,k',none⟩)) (hy:a.eval y=v) (hu:w.cell? ⟨b,k',none⟩=some u) (hf:w.frozen? ⟨b,k',none⟩=false) (h1:v.oneCell'=true) (hi:(Tryz.prog.info? t).map (·.size)=some 1)
  (h:∀ w',w'=w.setCell ⟨b,k',none⟩ v->wpList Tryz.prog ops Q rest (a.put o.dst undef) w'):wpList Tryz.prog ops Q (o ::rest) a w:=by
 refine wpList_plain hg fun K' hK'=>?_
 have hrun:=run_set1 (v:=v) w t hu hf h1 hi
 unfold Oper.wp
 simp[execOp,hop,hx,hy,hrun,Result.andThen]
 exact hK' _ _ (h _ rfl)
end
structure Row (w:World) (t:TypeId) (k:Nat) (v:Value) (L:List (List Value)):Prop where
 ks:∀ c∈L,c.length=k
 row:w.ownsRow 0 t k v L.length L.flatten
theorem flat_len {k:Nat}:∀ {L:List (List Value)},(∀ c∈L,c.length=k)->L.flatten.length=L.length*k
 | [],_=>by simp
 | c :: L,h=>by
  have:=flat_len (L:=L) (fun d hd=>h d (List.mem_cons_of_mem _ hd))
  simp only[List.flatten_cons,List.length_append,this,h c (List.mem_cons_self ..),List.length_cons,Nat.add_mul]
  omega
theorem flat_get {k:Nat}:∀ {L:List (List Value)},(∀ c∈L,c.length=k)->∀ (i:Nat) (hi:i<L.length) (j:Nat),j<k->L.flatten[i*k+j]?=(L[i])[j]?
 | [],_,i,hi,_,_=>absurd hi (Nat.not_lt_zero _)
 | c :: L,h,i,hi,j,hj=>by
  have hc:=h c (List.mem_cons_self ..)
  cases i with
  | zero=>rw[List.flatten_cons,Nat.zero_mul,Nat.zero_add,List.getElem?_append_left (by rw[hc];exact hj)];rfl
  | succ i =>
   have:=flat_get (L:=L) (fun d hd=>h d (List.mem_cons_of_mem _ hd)) i (by simpa using hi) j hj
   rw[List.flatten_cons,List.getElem?_append_right (by rw[hc,Nat.add_mul];omega),hc,show(i+1)*k+j-k=i*k+j by rw[Nat.add_mul];omega,this]
   rfl
section
variable {w w':World}{t:TypeId}{k:Nat}{v:Value}{L:List (List Value)}{W W':Nat->Prop}
theorem Row.nil (w:World) (t:TypeId) (k:Nat):Row w t k (.slice none 0 0) []:=⟨(fun c h=>by cases h),by simp,Or.inl ⟨rfl,rfl⟩⟩
theorem Row.sl (h:Row w t k v L):∃ a c,v=.slice a L.length c/\L.length<=c:=by
 rcases h.row.2 with⟨h1,h2⟩ |⟨g,cap,cur,e,_,_,h3,_⟩
 ·exact⟨none,0,by rw[h1,h2],by omega⟩
 ·exact⟨_,_,e,h3⟩
theorem Row.blkAt {g:Nat} (h:Row w t k v L) (e:v.ownBlock=some g):∃ cur,w.heap[g]?=some (.cells cur t):=by
 rcases h.row.2 with⟨h1,h2⟩ |⟨g',cap,cur,e',hB,hg,h3⟩
 ·rw[h1] at e;cases e
 ·rw[e'] at e;cases e;exact⟨cur,hg⟩
theorem Row.lt {g:Nat} (h:Row w t k v L) (e:v.ownBlock=some g):g<w.heap.size:=by obtain⟨cur,hc⟩:=h.blkAt e;exact lt_of hc
theorem Row.keep (h:Row w t k v L) (hb:∀ g,v.ownBlock=some g->w'.heap[g]?=w.heap[g]?):Row w' t k v L:=by
 refine⟨h.ks,h.row.1,?_⟩
 rcases h.row.2 with h2 |⟨g,cap,cur,e,hB,hg,h3⟩
 ·exact Or.inl h2
 ·exact Or.inr ⟨g,cap,cur,e,hB,(hb g (by rw[e];rfl)).trans hg,h3⟩
theorem Row.bel (h:Row w t k v L) (hb:Below w.heap.size w w'):Row w' t k v L:=h.keep fun g e=>hb.block g (h.lt e)
theorem Row.fr (h:Row w t k v L) (hf:Fr W W' w w') (hn:∀ g,v.ownBlock=some g->¬ W g):Row w' t k v L:=h.keep fun g e=>hf.blk g (h.lt e) (hn g e)
theorem Row.at_ {a:Option Addr} {n c:Nat} (h:Row w t k (.slice a n c) L) {i:Nat} (hi:i<L.length):∃ g,a=some ⟨g,0,none⟩/\g<w.heap.size/\∀ w':World,w'.heap[g]?=w.heap[g]?->w'.rangeAt g (i*k) L[i]/\∀ j,w'.frozen? ⟨g,j,none⟩=false:=by
 rcases h.row.2 with⟨_,h2⟩ |⟨g,cap,cur,e,hB,hg,h3,h4,h5,h6⟩
 ·omega
 ·cases e
  refine⟨g,rfl,lt_of hg,fun w' hw=>⟨?_,fun j=>Joins.unfrozen_of_block (hw.trans hg) j⟩⟩
  intro j u hu
  have hj:j<k:=by
   have:=(List.getElem?_eq_some_iff.1 hu).1
   rwa [h.ks _ (List.getElem_mem hi)] at this
  have hk:=flat_get h.ks i hi j hj
  rw[hu] at hk
  rw[cell_of_row w' g _ cur t (0,0) (hw.trans hg)]
  rw[← h6,List.getElem?_take] at hk
  split at hk
  ·simpa using hk
  ·cases hk
end
structure El (sl el:TypeId) (k:Nat) (z:Value):Prop where
 un:Tryz.prog.underlying sl=some (.slice el)
 info:∃ i,Tryz.prog.info? el=some i/\i.zero=some z/\i.size=k/\i.bytes<=200
 zc:z.cells.size=k
 k0:0<k
theorem append_gen {sl el:TypeId} {k:Nat} {z:Value} (hE:El sl el k z) {w:World} {v:Value} {L M:List (List Value)} (hR:Row w el k v L) (g of c:Nat) (hM:∀ d∈M,d.length=k)
  (hnews:∀ j u,M.flatten[j]?=some u->w.cell? ⟨g,of+j,none⟩=some u) (h1:∀ u∈M.flatten,u.oneCell'=true) (hn:L.length+M.length<=100000) (ty:TypeId) :
  ∃ v' w',(Builtin.append_ #[sl,sl] ty #[v,.slice (some ⟨g,of,none⟩) M.length c]).run Tryz.prog w=.ok v' w'/\Row w' el k v' (L++M)/\w.grownBy w' v.ownBlock/\(v'.ownBlock=v.ownBlock∨v'.ownBlock=some w.heap.size):=by
 obtain⟨i,hi,hz0,hz1,hz2⟩:=hE.info
 have hrow:=hR.row
 have hl:M.flatten.length=M.length*k:=flat_len hM
 have hadd:∀ j,(⟨g,of,none⟩:Addr).add j=⟨g,of+j,none⟩:=fun j=>Addr.add_mid g of j
 have hnews':∀ j u,M.flatten[j]?=some u->w.cell? ((⟨g,of,none⟩:Addr).add j)=some u:=fun j u hu=>by rw[hadd];exact hnews j u hu
 have hby:(L.length+M.length)*i.bytes<=140737488355328:=Nat.le_trans (Nat.mul_le_mul hn hz2) (by omega)
 obtain⟨v',w',hr,ho,hgr,_⟩:=run_append_own (P:=Tryz.prog) w 0 sl ty el i z k i.bytes hE.un hi hz0 hz1 rfl hE.zc hE.k0 v L.length L.flatten hrow ⟨g,of,none⟩ M.length c M.flatten hl hnews' h1 (by unfold maxLen;omega) hby (Nat.zero_le _)
 refine⟨v',w',hr,⟨fun d hd=>(List.mem_append.1 hd).elim (hR.ks d) (hM d),by rw[List.length_append,List.flatten_append];exact ho⟩,hgr,?_⟩
 have hl1:M.flatten.length=M.length*i.size:=by rw[hz1];exact hl
 rcases hrow.2 with⟨rfl,hn0⟩ |⟨b,cap,cur,rfl,hbg,hgg,hnc,hcm,hcs,htake⟩
 ·rcases Nat.eq_zero_or_pos M.length with h0 |hmp
  ·have hf:=run_firstCells_some (P:=Tryz.prog) w i.size 0 ⟨g,of,none⟩ 0 c [] (by simp) (fun j u hu=>by simp at hu)
   have hr2:(Builtin.append_ #[sl,sl] ty #[.slice none 0 0,.slice (some ⟨g,of,none⟩) 0 c]).run Tryz.prog w=.ok (.slice none 0 0) w:=by simp[Builtin.append_,run_underlying hE.un,sizeOf,typeInfo,hi,Builtin.lenOf,hf]
   rw[h0,hr2] at hr
   injection hr with e1 e2
   subst e1
   exact Or.inl rfl
  ·have hr2:=run_append_nil (P:=Tryz.prog) w sl ty el i z hE.un hi hz0 ⟨g,of,none⟩ M.length c M.flatten hl1 hnews' hmp (by omega) (by rw[hn0,Nat.zero_add] at hby;omega)
   rw[hr2] at hr
   injection hr with e1 e2
   subst e1
   exact Or.inr rfl
 ·by_cases hroom:L.length+M.length<=cap
  ·have hr2:=run_append_room (P:=Tryz.prog) w sl ty el i hE.un hi b L.length cap cur hgg ⟨g,of,none⟩ M.length c M.flatten hl1 hnews' h1 hroom (by rw[hz1,hcs,hl,← Nat.add_mul];exact Nat.mul_le_mul_right _ hroom)
   rw[hr2] at hr
   injection hr with e1 e2
   subst e1
   exact Or.inl rfl
  ·have holds:∀ j u,L.flatten[j]?=some u->w.cell? ((⟨b,0,none⟩:Addr).add j)=some u:=by
    intro j u hu
    rw[Addr.add_mid,Nat.zero_add,cell_of_row w b j cur el (0,0) hgg]
    rw[← htake,List.getElem?_take] at hu
    split at hu
    ·simpa using hu
    ·cases hu
   have hr2:=run_append_grow (P:=Tryz.prog) w sl ty el i z hE.un hi hz0 ⟨b,0,none⟩ L.length cap L.flatten (by rw[hz1,hrow.1]) holds ⟨g,of,none⟩ M.length c M.flatten hl1 hnews' (by omega) (by omega) (growslice_fits (by omega) (by omega))
   rw[hr2] at hr
   injection hr with e1 e2
   subst e1
   exact Or.inr rfl
structure App (w w':World) (t:TypeId) (k:Nat) (v v':Value) (L:List (List Value)):Prop where
 row:Row w' t k v' L
 grow:w.grownBy w' v.ownBlock
 own:v'.ownBlock=v.ownBlock∨v'.ownBlock=some w.heap.size
theorem App.fr {w w':World} {t:TypeId} {k:Nat} {v v':Value} {L:List (List Value)} (h:App w w' t k v v' L) {W W':Nat->Prop} (hW:∀ g,v.ownBlock=some g->W g) (hW':∀ j,W' j->W j∨v'.ownBlock=some j):Fr W W' w w' :=
 (Fr.grown h.grow hW).more fun j hj=>(hW' j hj).elim Or.inl fun e=>by
  rcases h.own with e2 |e2
  ·exact Or.inl (hW j (e2.symm.trans e))
  ·rw[e2] at e;cases e;exact Or.inr (Nat.le_refl _)
theorem App.bel {w w':World} {t:TypeId} {k B:Nat} {v v':Value} {L:List (List Value)} (h:App w w' t k v v' L) (hv:∀ g,v.ownBlock=some g->B<=g) (hB:B<=w.heap.size):Below B w w' :=
 (h.fr (W:=fun j=>v.ownBlock=some j) (W':=fun j=>v.ownBlock=some j) (fun g e=>e) (fun j hj=>Or.inl hj)).bel hv hB
section
variable {ops:Array Oper}{rest:List Oper}{o:Oper}{act:Act}{Q:Exit->Act->World->Prop}{sl el:TypeId}{k:Nat}{z:Value}
theorem wpList_append (hE:El sl el k z) {w:World} (hgd:o.guard=none) (s x:Operand) (ho:o.op=.call {callee:=.builtin .append,args:=#[s,x],argTypes:=#[sl,sl]}) {v:Value} {L M:List (List Value)} {g of c m:Nat}
  (hs:act.eval s=v) (hR:Row w el k v L) (hx:act.eval x=.slice (some ⟨g,of,none⟩) m c) (hm:M.length=m) (hM:∀ d∈M,d.length=k) (hnews:∀ j u,M.flatten[j]?=some u->w.cell? ⟨g,of+j,none⟩=some u) (h1:∀ u∈M.flatten,u.oneCell'=true) (hn:L.length+M.length<=100000)
  (K:∀ a' c' w',App w w' el k v (.slice a' (L.length+m) c') (L++M)->wpList Tryz.prog ops Q rest (act.put o.dst (.slice a' (L.length+m) c')) w'):wpList Tryz.prog ops Q (o ::rest) act w:=by
 refine wpList_plain hgd fun K' hK=>?_
 subst hm
 obtain⟨v',w',hr,h2,h3,h4⟩:=append_gen hE hR g of c hM hnews h1 hn o.type
 obtain⟨a',c',e,_⟩:=h2.sl
 unfold Oper.wp execOp
 simp only[ho,resolve,invoke,builtin,Sem.run_bind,Sem.run_pure,Result.andThen_ok,List.map_toArray,List.map_cons,List.map_nil,hs,hx,hr]
 rw[List.length_append] at e
 subst e
 exact hK _ _ (K _ _ w' ⟨h2,h3,h4⟩)
theorem wpList_push (hE:El sl el k z) {w:World} (hgd:o.guard=none) (s x:Operand) (ho:o.op=.call {callee:=.builtin .append,args:=#[s,x],argTypes:=#[sl,sl]}) {v:Value} {L:List (List Value)} {A:Array Value} {b c:Nat}
  (hs:act.eval s=v) (hR:Row w el k v L) (hx:act.eval x=.slice (some ⟨b,0,none⟩) 1 c) (hb:At w b el A) (hk:A.size=k) (h1:∀ u∈A.toList,u.oneCell'=true) (hn:L.length<=90000)
  (K:∀ a' c' w',App w w' el k v (.slice a' (L.length+1) c') (L++[A.toList])->wpList Tryz.prog ops Q rest (act.put o.dst (.slice a' (L.length+1) c')) w'):wpList Tryz.prog ops Q (o ::rest) act w :=
 wpList_append hE hgd s x ho (M:=[A.toList]) hs hR hx rfl (fun d hd=>by rw[List.mem_singleton] at hd;rw[hd,Array.length_toList,hk]) (fun j u hu=>hb.range j u (by simpa using hu)) (fun u hu=>h1 u (by simpa using hu)) (by simp;omega) K
end
end Go.Proofs.YtdchjncnjgelhaaGreat.Gm
namespace Go.Proofs.YtdchjncnjgelhaaGreat.Lg
open Go.RowKit Go.Maps Go.ChangeMaps
open Gm (thn bl1 bdr)
section
variable {B n:Nat}{w w':World}{v:Value}{xs:List Value}{ps:List Int}
theorem ownF_at2 (h:w.ownsRowF B 5 1 v n xs) (hb:∀ g,v.ownBlock=some g->w'.heap[g]?=w.heap[g]?):w'.ownsRowF B 5 1 v n xs:=by
 refine⟨h.1,?_⟩
 rcases h.2 with hn |⟨g,cap,cur,fz,hv,hbg,hg,rest⟩
 ·exact .inl hn
 ·exact .inr ⟨g,cap,cur,fz,hv,hbg,(hb g (by rw[hv];rfl)).trans hg,rest⟩
theorem ownF_lt (h:w.ownsRowF B 5 1 v n xs) {g:Nat} (e:v.ownBlock=some g):B<=g/\g<w.heap.size:=by
 rcases h.2 with⟨h2,_⟩ |⟨g',cap,cur,fz,e',hB,hg,_⟩
 ·rw[h2] at e;cases e
 ·rw[e'] at e
  have:g'=g:=by simpa[Value.ownBlock] using e
  subst this
  exact⟨hB,lt_of_some hg⟩
theorem ownI_at (h:OwnI B w v ps) (hb:∀ g,v.ownBlock=some g->w'.heap[g]?=w.heap[g]?):OwnI B w' v ps:=by
 obtain⟨h1,h2⟩:=h.row
 refine⟨h1,?_⟩
 rcases h2 with h2 |⟨g,cap,cur,e,hB,hg,h3⟩
 ·exact Or.inl h2
 ·exact Or.inr ⟨g,cap,cur,e,hB,(hb g (by rw[e];rfl)).trans hg,h3⟩
theorem ownI_lt (h:OwnI B w v ps) {g:Nat} (e:v.ownBlock=some g):B<=g/\g<w.heap.size:=by
 obtain⟨h1,h2⟩:=h.row
 rcases h2 with⟨h2,_⟩ |⟨g',cap,cur,e',hB,hg,h3⟩
 ·rw[h2] at e;cases e
 ·rw[e'] at e
  have:g'=g:=by simpa[Value.ownBlock] using e
  subst this
  exact⟨hB,lt_of_some hg⟩
end
structure Lq where
 B:Nat
 k:Nat
 S:Dk
 db:Nat
 bs:Nat
 sc:Nat
 run:Nat
 sure:Nat
structure Lw (w:World) (l:Nat) (fs:List ByteArray) (q:Lq) (W:Nat->Prop):Prop where
 lt:∀ j,W j->j<w.heap.size
 ge:∀ j,W j->q.B<=j
 go:∀ (I:Inhabited PrSet) (w':World),(∀ j,W j->w'.heap[j]?=w.heap[j]?)->w.heap.size<=w'.heap.size->(∀ j,W j->@np I j)->@Ltp I w'->@Lv I q.B w' l q.k q.S q.db q.bs q.sc q.run fs q.sure
section
variable {w w':World}{l:Nat}{fs:List ByteArray}{q:Lq}{W:Nat->Prop}
theorem Lw.turn (h:Lw w l fs q W) (hO:∀ j,W j->w'.heap[j]?=w.heap[j]?) (hs:w.heap.size<=w'.heap.size):Lw w' l fs q W :=
 ⟨fun j hj=>Nat.lt_of_lt_of_le (h.lt j hj) hs,h.ge,fun I w2 h1 h2 h3 h4=>h.go I w2 (fun j hj=>(h1 j hj).trans (hO j hj)) (Nat.le_trans hs h2) h3 h4⟩
end
structure Wk (w:World) (l:Nat) (W:Nat->Prop):Prop where
 a:∀ j,W j->∃ o,w.heap[j]?=some o/\isA o
 i:∀ j,W j->∀ A fz,w.heap[j]?=some (.cells A 3 fz)->∀ pv,w.cell? ⟨l,7,none⟩=some pv->pv.ownBlock=some j
theorem lv_sup {I:Inhabited PrSet} {w:World} {l:Nat} {fs:List ByteArray} {q:Lq} (h:@Lv I q.B w l q.k q.S q.db q.bs q.sc q.run fs q.sure):∃ W:Nat->Prop,(∀ j,W j->@np I j)/\Wk w l W/\Lw w l fs q W:=by
 have hd:=h.lx.d
 have hg:=h.lx.g
 obtain⟨lb,mb,m,d1,d2,d3,d4⟩:=hd.dsk
 obtain⟨p,v,pv,h1,h2,h3,h4,n3,n4⟩:=hg.ex
 have g3:=d3.ge
 have g4:=d4.ge
 have dq:=hd.q
 have dg:=hd.hd.ge
 have dl:=hd.lt
 have gg:=hg.ge.ge
 have gl:=hg.le
 have vu:=h.up
 have vf:=h.fit
 have vs:=h.hs
 have vn:=h.n
 have vr:=h.r2
 have vq:=h.q
 have vb:∀ j,v.ownBlock=some j->∃ A fz,w.heap[j]?=some (.cells A 5 fz):=fun j e2=>by
  rcases h3.2 with⟨e3,_⟩ |⟨g',cap,cur,fz,e',hB,hg',_⟩
  ·rw[e3] at e2;cases e2
  ·rw[e'] at e2
   have:g'=j:=by simpa[Value.ownBlock] using e2
   subst this
   exact⟨_,_,hg'⟩
 have pb:∀ j,pv.ownBlock=some j->∃ A fz,w.heap[j]?=some (.cells A 3 fz):=fun j e2=>by
  obtain⟨_,h5⟩:=h4.row
  rcases h5 with⟨e3,_⟩ |⟨g',cap,cur,e',hB,hg',_⟩
  ·rw[e3] at e2;cases e2
  ·rw[e'] at e2
   have:g'=j:=by simpa[Value.ownBlock] using e2
   subst this
   exact⟨_,_,hg'⟩
 refine⟨fun j=>j=q.db∨j=lb∨j=mb∨j=l∨v.ownBlock=some j∨pv.ownBlock=some j,?_,⟨?_,?_⟩,?_,?_,?_⟩
 rotate_left
 ·rintro j (rfl |rfl |rfl |rfl |e2 |e2)
  ·exact⟨_,d1.blk,Or.inl (Or.inl rfl)⟩
  ·obtain⟨c2,f2,e2⟩:=d1.row.ty;exact⟨_,e2,Or.inl (Or.inr rfl)⟩
  ·obtain⟨c2,f2,e2⟩:=d1.map.is;exact⟨_,e2,Or.inl trivial⟩
  ·exact⟨_,h1,Or.inr (Or.inr (Or.inr rfl))⟩
  ·obtain⟨A,fz,e3⟩:=vb j e2;exact⟨_,e3,Or.inr (Or.inr (Or.inl rfl))⟩
  ·obtain⟨A,fz,e3⟩:=pb j e2;exact⟨_,e3,Or.inr (Or.inl rfl)⟩
 ·rintro j (rfl |rfl |rfl |rfl |e2 |e2) A fz hA pv' hpv
  ·have e2:w.heap[q.db]?=some (.cells _ 81 (0,0)):=d1.blk
   rw[e2] at hA;simp at hA
  ·obtain⟨c2,f2,e2⟩:=d1.row.ty;rw[e2] at hA;simp at hA
  ·obtain⟨c2,f2,e2⟩:=d1.map.is;rw[e2] at hA;simp at hA
  ·rw[h1] at hA;simp at hA
  ·obtain⟨A',fz',e3⟩:=vb j e2;rw[e3] at hA;simp at hA
  ·have e7:w.cell? ⟨l,7,none⟩=some pv:=Joins.cell_of_block h1 7
   rw[e7] at hpv
   cases hpv
   exact e2
 rotate_right
 ·rintro j (rfl |rfl |rfl |rfl |e2 |e2)
  ·exact hd.hd.np
  ·exact d3.np
  ·exact d4.np
  ·exact hg.ge.np
  ·exact n3 j e2
  ·exact n4 j e2
 ·rintro j (rfl |rfl |rfl |rfl |e2 |e2)
  ·exact lt_of_some d1.blk
  ·obtain⟨c2,f2,e2⟩:=d1.row.ty;exact lt_of_some e2
  ·obtain⟨c2,f2,e2⟩:=d1.map.is;exact lt_of_some e2
  ·exact lt_of_some h1
  ·exact(ownF_lt h3 e2).2
  ·exact(ownI_lt h4 e2).2
 ·rintro j (rfl |rfl |rfl |rfl |e2 |e2)
  ·exact dg
  ·exact g3
  ·exact g4
  ·exact gg
  ·exact(ownF_lt h3 e2).1
  ·exact(ownI_lt h4 e2).1
 ·clear h hd hg d3 d4 n3 n4
  intro I' w' hO hs hW hL
  have D:DkIs w' q.db lb mb m q.S:=⟨(hO _ (Or.inl rfl)).trans d1.blk,d1.row.of_block (hO _ (Or.inr (Or.inl rfl))) hs,d1.map.of_block (hO _ (Or.inr (Or.inr (Or.inl rfl)))),d1.ne⟩
  have Dn:@Ds I' q.B w' q.db q.k q.S:=@Ds.mk I' _ _ _ _ _ ⟨lb,mb,m,D,d2,@Ow.mk I' _ _ g3 (hW _ (Or.inr (Or.inl rfl))),@Ow.mk I' _ _ g4 (hW _ (Or.inr (Or.inr (Or.inl rfl))))⟩ dq (@Ow.mk I' _ _ dg (hW _ (Or.inl rfl))) (Nat.le_trans dl hs) hL
  have Ln:@LrIs I' q.B w' l (lgR q.db q.bs q.sc q.run fs (off fs q.sure) false):=@LrIs.mk I' _ _ _ _ ⟨p,v,pv,(hO _ (Or.inr (Or.inr (Or.inr (Or.inl rfl))))).trans h1,h2,ownF_at2 h3 (fun g eg=>hO _ (Or.inr (Or.inr (Or.inr (Or.inr (Or.inl eg)))))),ownI_at h4 (fun g eg=>hO _ (Or.inr (Or.inr (Or.inr (Or.inr (Or.inr eg)))))),fun g eg=>hW _ (Or.inr (Or.inr (Or.inr (Or.inr (Or.inl eg))))),fun g eg=>hW _ (Or.inr (Or.inr (Or.inr (Or.inr (Or.inr eg)))))⟩ (@Ow.mk I' _ _ gg (hW _ (Or.inr (Or.inr (Or.inr (Or.inl rfl)))))) (Nat.le_trans gl hs) hL
  have Lxn:@Lx I' q.B w' l q.k q.S (lgR q.db q.bs q.sc q.run fs (off fs q.sure) false):=@Lx.mk I' _ _ _ _ _ _ Dn Ln
  exact @Lv.mk I' _ _ _ _ _ _ _ _ _ _ _ Lxn vu vf vs vn vr vq
theorem Lw.op {fn l:Nat} {w:World} {fs:List ByteArray} {q:Lq} {W:Nat->Prop} {args:Array Value} {A:Obj->Prop} {R:Ending->List ByteArray->World->Prop} (h:Lw w l fs q W)
  (hop:∀ (I:Inhabited PrSet),@Lv I q.B w l q.k q.S q.db q.bs q.sc q.run fs q.sure->Calls Tryz.prog fn args w fun e w'=>∃ (fs':List ByteArray) (q':Lq),R e fs' w'/\@Lv I q'.B w' l q'.k q'.S q'.db q'.bs q'.sc q'.run fs' q'.sure/\@Kp I A q.B w w'/\q'.sc=q.sc/\q'.B=q.B) :
  Calls Tryz.prog fn args w fun e w'=>∃ (fs':List ByteArray) (q':Lq) (W':Nat->Prop),R e fs' w'/\Lw w' l fs' q' W'/\Gm.Fr W W' w w'/\q'.sc=q.sc/\q'.B=q.B/\Wk w' l W':=by
 obtain⟨p,hp⟩:∃ p:Nat->Option Obj,(∀ j,(¬ W j/\j<w.heap.size)->p j=w.heap[j]?)/\(∀ j,¬ (¬ W j/\j<w.heap.size)->p j=none):=by
  refine⟨fun j=>@ite _ (¬ W j/\j<w.heap.size) (Classical.propDecidable _) (w.heap[j]?) none,fun j hj=>?_,fun j hj=>?_⟩
  ·exact if_pos hj
  ·exact if_neg hj
 have hnp:∀ j,@np ⟨⟨p⟩⟩ j->W j∨w.heap.size<=j:=fun j hj=>by
  rcases Classical.em (W j) with hw |hw
  ·exact Or.inl hw
  ·rcases Nat.lt_or_ge j w.heap.size with hl |hl
   ·exfalso
    refine hj (show p j≠none from ?_)
    rw[hp.1 j ⟨hw,hl⟩]
    simp[hl]
   ·exact Or.inr hl
 have hP:=h.go ⟨⟨p⟩⟩ w (fun _ _=>rfl) (Nat.le_refl _) (fun j hj e=>e (hp.2 j (fun x=>x.1 hj))) (fun j o e=>by
  rcases Classical.em (¬ W j/\j<w.heap.size) with ho |ho
  ·exact(hp.1 j ho).symm.trans e
  ·have:=(hp.2 j ho).symm.trans e;cases this)
 letI:Inhabited PrSet:=⟨⟨p⟩⟩
 refine(hop ⟨⟨p⟩⟩ hP).mono ?_
 rintro e w' ⟨fs',q',hR,hV,hK,hsc,hB⟩
 obtain⟨W2,n2,K2,U2⟩:=lv_sup hV
 refine⟨fs',q',W2,hR,U2,⟨hK.bel.os,hK.bel.tape,hK.bel.output,hK.bel.size,fun j hj hn=>?_,fun j hj=>hnp j (n2 j hj)⟩,hsc,hB,K2⟩
 have e1:w.heap[j]?=some w.heap[j]:=by simp[hj]
 rw[e1]
 exact hK.prot j _ e1 (fun e2=>by
  have e3:p j=none:=e2
  rw[hp.1 j ⟨hn,hj⟩,e1] at e3;cases e3)
structure Lo (W:Nat->Prop) (w:World) (l:Nat) (fs:List ByteArray):Prop where
 ex:∃ q,Lw w l fs q W/\q.sc=200
section
variable {w w':World}{l:Nat}{fs:List ByteArray}{W V:Nat->Prop}
theorem Lo.lt (h:Lo W w l fs) {j:Nat} (hj:W j):j<w.heap.size:=by obtain⟨q,h1,_⟩:=h.ex;exact h1.lt j hj
theorem Lo.turn (h:Lo W w l fs) (hO:∀ j,W j->w'.heap[j]?=w.heap[j]?) (hs:w.heap.size<=w'.heap.size):Lo W w' l fs:=by obtain⟨q,h1,h2⟩:=h.ex;exact⟨q,h1.turn hO hs,h2⟩
theorem Lo.below (h:Lo W w l fs) (hb:Below w.heap.size w w'):Lo W w' l fs:=h.turn (fun j hj=>hb.block j (h.lt hj)) hb.size
theorem Lo.fr (h:Lo W w l fs) {V':Nat->Prop} (hf:Gm.Fr V V' w w') (hn:∀ j,W j->¬ V j):Lo W w' l fs:=h.turn (fun j hj=>hf.blk j (h.lt hj) (hn j hj)) hf.size
theorem Lo.any_ (h:Lo W w l fs):∃ (I:Inhabited PrSet) (q:Lq),@Lv I q.B w l q.k q.S q.db q.bs q.sc q.run fs q.sure/\q.sc=200:=by
 obtain⟨q,h1,h2⟩:=h.ex
 exact⟨⟨⟨fun _=>none⟩⟩,q,h1.go ⟨⟨fun _=>none⟩⟩ w (fun _ _=>rfl) (Nat.le_refl _) (fun j _ e=>e rfl) (fun j o e=>by cases e),h2⟩
theorem Lo.fit (h:Lo W w l fs):Fit 200 fs:=by obtain⟨I,q,hv,e⟩:=h.any_;have:=hv.fit;rw[e] at this;exact this
theorem Lo.end_ (h:Lo W w l fs):Calls Tryz.prog 33 #[.pointer (some ⟨l,0,none⟩)] w fun e w'=>e=.returned (.int .i64 (((cat fs).size:Int)+1))/\w'=w:=by
 have hf:=h.fit.sz
 obtain⟨I,q,hv,e⟩:=h.any_
 exact End_any hv.lx.g (by show(cat fs).size<=1000000;omega)
theorem Lo.bound (h:Lo W w l fs) (x:Int):Calls Tryz.prog 74 #[.pointer (some ⟨l,0,none⟩),.int .i64 x] w fun e w'=>e=.returned (.bool (bnd fs x))/\Below w.heap.size w w':=by
 obtain⟨I,q,hv,e⟩:=h.any_
 exact Bound_any hv.lx hv.fit x
structure RdO (W:Nat->Prop) (w:World) (l:Nat) (fs:List ByteArray) (x n:Int) (m:Rm) (e:Ending) (w':World):Prop where
 ex:∃ v W',e=.returned (.tuple #[v,.int .i64 (x+n),.int .i64 0])/\RecF w' v m w.heap.size/\Lo W' w' l fs/\Gm.Fr W W' w w'
theorem Lo.read (h:Lo W w l fs) (x:Int) (hx1:1<=x) (hx2:x<((cat fs).size:Int)+1) {m:Rm} {n:Int} (ho:openM (cat fs) (x-1)=(m,n,0)) (hn0:0<=n) (hn1:n<=1000000):Calls Tryz.prog 36 #[.pointer (some ⟨l,0,none⟩),.int .i64 x] w fun e w'=>RdO W w l fs x n m e w':=by
 obtain⟨q,h1,h2⟩:=h.ex
 refine(Lw.op (A:=isL) (R:=fun e fs' w'=>fs'=fs/\∃ v,e=.returned (.tuple #[v,.int .i64 (x+n),.int .i64 0])/\RecF w' v m w.heap.size) h1 (fun I hv=>?_)).mono ?_
 ·refine(read_ok hv.lx hv.fit x hx1 hx2 ho hn0 hn1).mono ?_
  rintro e w' ⟨⟨v,he,hr⟩,hx,hk,_⟩
  exact⟨fs,q,⟨rfl,v,he,hr⟩,⟨hx,hv.up,hv.fit,hv.hs,hv.n,hv.r2,hv.q⟩,hk,rfl,rfl⟩
 ·rintro e w' ⟨fs',q',W',⟨rfl,v,he,hr⟩,hw,hf,e1,e2,_⟩
  exact⟨v,W',he,hr,⟨q',hw,e1.trans h2⟩,hf⟩
structure ApO (W:Nat->Prop) (w:World) (l:Nat) (fs:List ByteArray) (m:Rm) (e:Ending) (w':World):Prop where
 ex:∃ x y fs' W',e=.returned (.tuple #[.int .i64 x,.int .i64 y])/\Lo W' w' l fs'/\Gm.Fr W W' w w'/\((y=0/\(frameM m).2=0/\fs'=fs++[(frameM m).1]/\x=((cat fs).size:Int)+1/\(cat fs).size+(frameM m).1.size<=11600)∨(y≠0/\fs'=fs/\x=0/\(((frameM m).2≠0/\y=(frameM m).2)∨((frameM m).2=0/\y=7/\¬ (cat fs).size+(frameM m).1.size<=11600))))
theorem Lo.append (h:Lo W w l fs) {v:Value} {m:Rm} (hv:RecV w v m) (hm:Small m):Calls Tryz.prog 35 #[.pointer (some ⟨l,0,none⟩),v] w fun e w'=>ApO W w l fs m e w':=by
 obtain⟨q,h1,h2⟩:=h.ex
 refine(Lw.op (A:=isL) (R:=fun e fs' w'=>∃ x y,e=.returned (.tuple #[.int .i64 x,.int .i64 y])/\((y=0/\(frameM m).2=0/\fs'=fs++[(frameM m).1]/\x=((cat fs).size:Int)+1/\(cat fs).size+(frameM m).1.size<=58*q.sc)∨(y≠0/\fs'=fs/\x=0/\(((frameM m).2≠0/\y=(frameM m).2)∨((frameM m).2=0/\y=7/\¬ (cat fs).size+(frameM m).1.size<=58*q.sc))))) h1 (fun I hl=>?_)).mono ?_
 ·refine(hl.appendAny hv hm).mono ?_
  rintro e w' ⟨x,y,fs',he,hl',hk,hor⟩
  exact⟨fs',q,⟨x,y,he,hor⟩,hl',hk,rfl,rfl⟩
 ·rintro e w' ⟨fs',q',W',⟨x,y,he,hor⟩,hw,hf,e1,e2,_⟩
  refine⟨x,y,fs',W',he,⟨q',hw,e1.trans h2⟩,hf,?_⟩
  rw[h2] at hor
  exact hor
end
end Go.Proofs.YtdchjncnjgelhaaGreat.Lg
namespace Go.Proofs.YtdchjncnjgelhaaGreat
open Go.RowKit Go.Maps Go.ChangeMaps
section
variable [Inhabited PrSet]{B l k db bs sc run dur:Nat}{w w' w0 w1 w2 w5:World}{S:Dk}{fs:List ByteArray}{dead:Bool}{v:Value}{ms:List Rm}
set_option maxHeartbeats 4000000 in
theorem Records_ce (h:Lx B w l k S (lgR db bs sc run fs dur dead)) (hf:Fit sc fs):Calls Tryz.prog 17 #[.pointer (some ⟨l,0,none⟩)] w fun e w'=>(∃ v v2,e=.returned (.tuple #[v,v2])/\Rcs w.heap.size w' v (fs.map recF)/\OwnI w.heap.size w' v2 (plc 1 fs)/\Own7 w' l v2)/\Lx B w' l k S (lgR db bs sc run fs dur dead)/\Kp isL B w w'/\Ce w w':=by
 have h1:=hf.sz
 have h2:=hf.s1
 have hl:=fit_len hf
 have hlen:=plc_length 1 fs
 obtain⟨a,c,c7,ho⟩:=h.row
 have c7':w.cell? ⟨l,7,none⟩=some (.slice a (plc 1 fs).length c):=c7
 have ho':OwnI B w (.slice a (plc 1 fs).length c) (plc 1 fs):=ho
 have CI:Hid (Calls Tryz.prog 43 #[.pointer (some ⟨l,0,none⟩)] w fun e w'=>e=.returned (.bool true)/\w'=w):=isOpen_any h.g
 have CR:Hid (∀ wx i,(hi:i<fs.length)->Lx B wx l k S (lgR db bs sc run fs dur dead)->Calls Tryz.prog 36 #[.pointer (some ⟨l,0,none⟩),.int .i64 ((1+off fs i:Nat):Int)] wx fun e w'=>(∃ v n,e=.returned (.tuple #[v,.int .i64 n,.int .i64 0])/\RecF w' v (recF fs[i]) wx.heap.size)/\Lx B w' l k S (lgR db bs sc run fs dur dead)/\Kp isL B wx w'/\Ce wx w'):=fun wx i hi hx=>by
  have hoff:=off_lt hf.frm hi (Nat.le_refl _)
  rw[off_all] at hoff
  have hz:=(hf.frm fs[i] (List.getElem_mem _)).le
  have:=read_ok hx hf ((1+off fs i:Nat):Int) (by omega) (by omega) (m:=recF fs[i]) (n:=(fs[i].size:Int)) (by rw[show((1+off fs i:Nat):Int)-1=(off fs i:Int) by omega];exact open_at hf.frm hi) (by omega) (by omega)
  refine this.mono ?_
  rintro e w' ⟨⟨v,he,hr⟩,q⟩
  exact⟨⟨v,_,he,hr⟩,q⟩
 have HP:Hid (∀ wx i,(hi:i<fs.length)->Ce w wx->∃ g,a=some ⟨g,0,none⟩/\wx.cell? ⟨g,i,none⟩=some (.int .i64 ((1+off fs i:Nat):Int))):=fun wx i hi hc=>by
  obtain⟨g,e,hg⟩:=ho'.at_ (i:=i) (by rw[hlen];exact hi)
  have hgc:=hg w (Below.refl _ _)
  have hlt:g<w.heap.size:=by
   rcases Nat.lt_or_ge g w.heap.size with hh |hh
   ·exact hh
   ·simp[World.cell?,Array.getElem?_eq_none hh] at hgc
  refine⟨g,e,(hc.cell ⟨g,i,none⟩ hlt).trans ?_⟩
  rw[hgc]
  have:=plc_get 1 fs i hi
  rw[List.getElem?_eq_getElem (by rw[hlen];exact hi)] at this
  injection this with this
  rw[this]
 have CC:Hid (∀ wx,Ce w wx->Kp isL B w wx->Lx B wx l k S (lgR db bs sc run fs dur dead)->∃ a2 c2,wx.cell? ⟨l,7,none⟩=some (.slice a2 (plc 1 fs).length c2)/\Calls Tryz.prog 44 #[.slice a2 (plc 1 fs).length c2] wx fun e w'=>(∃ v',e=.returned v'/\OwnI wx.heap.size w' v' (plc 1 fs))/\Below wx.heap.size wx w'):=fun wx _ _ hx=>by
  obtain⟨a2,c2,q1,q2⟩:=hx.row
  exact⟨a2,c2,q1,clone_any q2 (by show(plc 1 fs).length<=1000000;omega)⟩
 have hle:=h.le
 have HLp:Hid (Ltp w):=h.g.lp
 have H:Hid (Lx B w l k S (lgR db bs sc run fs dur dead)):=h
 have hfl:fs.length<=70000:=by omega
 clear h h1 h2 c7 ho ho' hf hl
 rw[hlen] at CC c7'
 clear hlen
 go_enter Tryz.func17,Tryz.ntmps17
 go_wp2_with (go_at_call 43;refine CI.out.mono ?_;rintro e w0 ⟨rfl,rfl⟩)
 go_loopw [4,18] (fun sv ix wr=>∃ i:Nat,i<=fs.length/\ix=.int .i64 (i:Int)/\Rcs w0.heap.size wr sv ((fs.take i).map recF)/\Lx B wr l k S (lgR db bs sc run fs dur dead)/\Kp isL B w0 wr/\Ce w0 wr) (fun _ ix _=>fs.length-(intOf ix).toNat)
 case atStart=>exact⟨0,Nat.zero_le _,rfl,Rcs.nil _ _,H.out,Kp.refl _ _ _,Ce.of_below (Below.refl _ _)⟩
 case round =>
  obtain⟨i,hi,rfl,hR,hL,hK,hC⟩:=hrel
  by_cases hlt:i<fs.length
  ·obtain⟨g,rfl,cg⟩:=HP.out wr i hlt hC
   obtain⟨a3,c3,rfl⟩:=hR.slice
   have CR1:Hid (Calls Tryz.prog 36 #[.pointer (some ⟨l,0,none⟩),.int .i64 ((1+off fs i:Nat):Int)] wr fun e w'=>(∃ v n,e=.returned (.tuple #[v,.int .i64 n,.int .i64 0])/\RecF w' v (recF fs[i]) wr.heap.size)/\Lx B w' l k S (lgR db bs sc run fs dur dead)/\Kp isL B wr w'/\Ce wr w'):=CR.out wr i hlt hL
   have hm:Hid ((fs.take (i+1)).map recF=(fs.take i).map recF++[recF fs[i]]):=(by rw[List.take_succ_eq_append_getElem hlt,List.map_append];rfl:(fs.take (i+1)).map recF=(fs.take i).map recF++[recF fs[i]])
   obtain⟨M1,HM1⟩:∃ M1,Hid (M1=(fs.take (i+1)).map recF):=⟨_,rfl⟩
   rw[← HM1.out] at hm
   have hll:((fs.take i).map recF).length<=100000:=by simp;omega
   have hsep:Hid (∀ j,(Value.slice a3 ((fs.take i).map recF).length c3).ownBlock=some j->j<wr.heap.size):=(fun j e=>by
    obtain⟨es,_,hrow,_⟩:=hR.ex
    rcases hrow.2 with⟨e2,_⟩ |⟨b,cap,cur,e2,_,hgg,_⟩
    ·rw[e2] at e;simp[Value.ownBlock] at e
    ·rw[e2] at e
     simp[Value.ownBlock] at e
     subst e
     exact lt_of_some hgg:∀ j,(Value.slice a3 ((fs.take i).map recF).length c3).ownBlock=some j->j<wr.heap.size)
   have HR:Hid _:=hR
   have HK:Hid _:=hK
   have HC:Hid _:=hC
   have hi2:(i:Int)<(fs.length:Int):=by omega
   have hz0:=hC.size
   clear hR hK hC hL CR HP CC
   generalize ((1+off fs i:Nat):Int)=X at *
   generalize recF fs[i]=m at *
   obtain⟨s9,l9,g9⟩:=m
   generalize (fs.take i).map recF=ms at *
   go_wp2_with (first
    | (go_at_call 36;refine CR1.out.mono ?_;rintro e w1 ⟨⟨v,n,rfl,hv⟩,L1,k1,q1⟩;have R1:=HR.out.kept q1 (fun j cur fz e=>k1.block j _ e (by simp[isL]));have K1:Hid (Kp isL B w0 w1):=HK.out.trans k1;have C1:Hid (Ce w0 w1):=HC.out.trans q1;obtain⟨I,T,rfl,hI,hT⟩:=hv.ex;dsimp only at hI hT;clear HR HK HC)
    | (refine wpList_new_rc _ rfl rfl ?_;intro w2 b7 N2)
    | (refine wpList_at (Op.store 54 (.tmp 7) (.tmp 26)) rfl ?_;refine wpList_put_rc (s':=s9) (I':=I) (T':=T) _ rfl (.tmp 7) (.tmp 26) rfl rfl rfl N2.rc hI.slI.one hT.slT.one ?_;intro w3 P3;have b13:Below w1.heap.size w1 w3:=N2.below.trans (P3.below (by have:=N2.eq;omega) N2.below.size))
    | (refine wpList_load_rc _ rfl (.tmp 7) rfl rfl P3.rc ?_)
    | (refine wpList_build_rc (s:=s9) (I:=I) (T:=T) _ rfl (.tmp 30) rfl rfl ?_;intro w4 b8 N4;have bA:Below w1.heap.size w1 w4:=thn b13 N4.below;have R4:=R1.below bA;have I4:=hI.below bA;have T4:=hT.below bA;have rcA:=N4.rc;have L4:=L1.below bA;have K4:Hid (Kp isL B w0 w4):=K1.out.below bA hle;have C4:Hid (Ce w0 w4):=C1.out.trans (Ce.of_below bA);have hz4:=C4.out.size)
    | (at_builtin;refine wpList_append_rcs (B:=w0.heap.size) (m:=⟨s9,l9,g9⟩) rfl (.tmp 29) (.tmp 31) rfl rfl R4 rfl rcA (I4.mono hz0) (T4.mono hz0) (I4.apart hsep.out) (T4.apart hsep.out) hz4 hll (fun j hj=>HLp.out.new hj) ?_;intro v' w5 R5 k5;rw[← hm.out] at R5;obtain⟨a5,c5,rfl⟩:=R5.slice;have L5:=L4.keptR k5;have K5:Hid (Kp isL B w0 w5):=⟨K4.out.bel.trans (k5.bel.mono hle),fun j o e hn=>by
      have e4:=K4.out.block j o e hn
      exact(k5.bel.block j (lt_of_some e)).trans e4,fun j o e hn=>k5.prot j o (K4.out.prot j o e hn) hn⟩;have C5:Hid (Ce w0 w5):=⟨Nat.le_trans C4.out.size k5.size,fun p hp=>(World.cell?_of_block (k5.bel.block _ hp)).trans (C4.out.cell p hp)⟩))
   go_roundw
   case rel=>exact⟨i+1,by omega,by go_num,by rw[← HM1.out];exact R5,L5,K5.out,C5.out⟩
   case measure=>simp[intOf];omega
  ·obtain rfl:i=fs.length:=by omega
   have hi2:¬ (fs.length:Int)<(fs.length:Int):=by omega
   rw[List.take_length] at hR
   obtain⟨a2,c2,q7,CC1⟩:=CC.out wr hC hK hL
   have HC1:Hid (Calls Tryz.prog 44 #[.slice a2 fs.length c2] wr fun e w'=>(∃ v',e=.returned v'/\OwnI wr.heap.size w' v' (plc 1 fs))/\Below wr.heap.size wr w'):=CC1
   have HR:Hid _:=hR
   have HK:Hid _:=hK
   have HL:Hid _:=hL
   have HCe:Hid (Ce w0 wr):=hC
   have hz:=hC.size
   have H7:Hid (∃ pv,wr.cell? ⟨l,7,none⟩=some pv/\l<wr.heap.size/\∀ g,pv.ownBlock=some g->g<wr.heap.size):=by
    obtain⟨a5,c5,r1,r2⟩:=hL.row
    obtain⟨p,v9,pv,h1,_⟩:=hL.g.ex
    refine⟨_,r1,lt_of_some h1,fun g e=>?_⟩
    obtain⟨_,r3⟩:=r2.row
    rcases r3 with⟨r3,_⟩ |⟨g',cap,cur,e',hB,hg,_⟩
    ·rw[r3] at e;cases e
    ·rw[e'] at e
     have:g'=g:=by simpa[Value.ownBlock] using e
     subst this
     exact lt_of_some hg
   obtain⟨a3,c3,e3⟩:=hR.slice
   subst e3
   clear CC1 CC CR HP hR hK hL hC
   generalize (fs.map recF).length=n3 at *
   go_wp2_with (go_at_call 44;refine HC1.out.mono ?_;rintro e w2 ⟨⟨v',rfl,hO⟩,b2⟩)
   go_ret2
   refine⟨⟨_,_,rfl,HR.out.below b2,?_,?_⟩,HL.out.below b2,HK.out.below b2 hle,HCe.out.trans (Ce.of_below b2)⟩
   rotate_left
   ·obtain⟨pv,k1,k2,k3⟩:=H7.out
    refine⟨pv,by rw[World.cell?_of_block (b2.block l k2)];exact k1,fun g e e2=>?_⟩
    have:=k3 g e2
    obtain⟨_,r3⟩:=hO.row
    rcases r3 with⟨r3,_⟩ |⟨g',cap,cur,e',hB,hg,_⟩
    ·rw[r3] at e;cases e
    ·rw[e'] at e
     have:g'=g:=by simpa[Value.ownBlock] using e
     omega
   obtain⟨q1,q2⟩:=hO.row
   refine⟨q1,?_⟩
   rcases q2 with q2 |⟨g,cap,cur,e,hB,hg,q3⟩
   ·exact Or.inl q2
   ·exact Or.inr ⟨g,cap,cur,e,by omega,hg,q3⟩
end
end Go.Proofs.YtdchjncnjgelhaaGreat
namespace Go.Proofs.YtdchjncnjgelhaaGreat.Lg
open Go.RowKit Go.Maps Go.ChangeMaps
theorem lv_old {I:Inhabited PrSet} {w w0:World} {l:Nat} {fs:List ByteArray} {q:Lq} (h:@Lv I q.B w l q.k q.S q.db q.bs q.sc q.run fs q.sure) (h0:@Lv I q.B w0 l q.k q.S q.db q.bs q.sc q.run fs q.sure) (hc:Ce w0 w):∃ W:Nat->Prop,(∀ j,W j->@np I j)/\Wk w l W/\Lw w l fs q W/\∀ j,W j->j<w0.heap.size:=by
 have hd:=h.lx.d
 have hg:=h.lx.g
 obtain⟨lb,mb,m,d1,d2,d3,d4⟩:=hd.dsk
 obtain⟨p,v,pv,h1,h2,h3,h4,n3,n4⟩:=hg.ex
 have g3:=d3.ge
 have g4:=d4.ge
 have dq:=hd.q
 have dg:=hd.hd.ge
 have dl:=hd.lt
 have gg:=hg.ge.ge
 have gl:=hg.le
 have vu:=h.up
 have vf:=h.fit
 have vs:=h.hs
 have vn:=h.n
 have vr:=h.r2
 have vq:=h.q
 have vb:∀ j,v.ownBlock=some j->∃ A fz,w.heap[j]?=some (.cells A 5 fz):=fun j e2=>by
  rcases h3.2 with⟨e3,_⟩ |⟨g',cap,cur,fz,e',hB,hg',_⟩
  ·rw[e3] at e2;cases e2
  ·rw[e'] at e2
   have:g'=j:=by simpa[Value.ownBlock] using e2
   subst this
   exact⟨_,_,hg'⟩
 have pb:∀ j,pv.ownBlock=some j->∃ A fz,w.heap[j]?=some (.cells A 3 fz):=fun j e2=>by
  obtain⟨_,h5⟩:=h4.row
  rcases h5 with⟨e3,_⟩ |⟨g',cap,cur,e',hB,hg',_⟩
  ·rw[e3] at e2;cases e2
  ·rw[e'] at e2
   have:g'=j:=by simpa[Value.ownBlock] using e2
   subst this
   exact⟨_,_,hg'⟩
 refine⟨fun j=>j=q.db∨j=lb∨j=mb∨j=l∨v.ownBlock=some j∨pv.ownBlock=some j,?_,⟨?_,?_⟩,⟨?_,?_,?_⟩,?_⟩
 rotate_left
 ·rintro j (rfl |rfl |rfl |rfl |e2 |e2)
  ·exact⟨_,d1.blk,Or.inl (Or.inl rfl)⟩
  ·obtain⟨c2,f2,e2⟩:=d1.row.ty;exact⟨_,e2,Or.inl (Or.inr rfl)⟩
  ·obtain⟨c2,f2,e2⟩:=d1.map.is;exact⟨_,e2,Or.inl trivial⟩
  ·exact⟨_,h1,Or.inr (Or.inr (Or.inr rfl))⟩
  ·obtain⟨A,fz,e3⟩:=vb j e2;exact⟨_,e3,Or.inr (Or.inr (Or.inl rfl))⟩
  ·obtain⟨A,fz,e3⟩:=pb j e2;exact⟨_,e3,Or.inr (Or.inl rfl)⟩
 ·rintro j (rfl |rfl |rfl |rfl |e2 |e2) A fz hA pv' hpv
  ·have e2:w.heap[q.db]?=some (.cells _ 81 (0,0)):=d1.blk
   rw[e2] at hA;simp at hA
  ·obtain⟨c2,f2,e2⟩:=d1.row.ty;rw[e2] at hA;simp at hA
  ·obtain⟨c2,f2,e2⟩:=d1.map.is;rw[e2] at hA;simp at hA
  ·rw[h1] at hA;simp at hA
  ·obtain⟨A',fz',e3⟩:=vb j e2;rw[e3] at hA;simp at hA
  ·have e7:w.cell? ⟨l,7,none⟩=some pv:=Joins.cell_of_block h1 7
   rw[e7] at hpv
   cases hpv
   exact e2
 rotate_right
 ·rintro j (rfl |rfl |rfl |rfl |e2 |e2)
  ·exact hd.hd.np
  ·exact d3.np
  ·exact d4.np
  ·exact hg.ge.np
  ·exact n3 j e2
  ·exact n4 j e2
 ·rintro j (rfl |rfl |rfl |rfl |e2 |e2)
  ·exact lt_of_some d1.blk
  ·obtain⟨c2,f2,e2⟩:=d1.row.ty;exact lt_of_some e2
  ·obtain⟨c2,f2,e2⟩:=d1.map.is;exact lt_of_some e2
  ·exact lt_of_some h1
  ·exact(ownF_lt h3 e2).2
  ·exact(ownI_lt h4 e2).2
 ·rintro j (rfl |rfl |rfl |rfl |e2 |e2)
  ·exact dg
  ·exact g3
  ·exact g4
  ·exact gg
  ·exact(ownF_lt h3 e2).1
  ·exact(ownI_lt h4 e2).1
 ·clear h hd hg d3 d4 n3 n4
  intro I' w' hO hs hW hL
  have D:DkIs w' q.db lb mb m q.S:=⟨(hO _ (Or.inl rfl)).trans d1.blk,d1.row.of_block (hO _ (Or.inr (Or.inl rfl))) hs,d1.map.of_block (hO _ (Or.inr (Or.inr (Or.inl rfl)))),d1.ne⟩
  have Dn:@Ds I' q.B w' q.db q.k q.S:=@Ds.mk I' _ _ _ _ _ ⟨lb,mb,m,D,d2,@Ow.mk I' _ _ g3 (hW _ (Or.inr (Or.inl rfl))),@Ow.mk I' _ _ g4 (hW _ (Or.inr (Or.inr (Or.inl rfl))))⟩ dq (@Ow.mk I' _ _ dg (hW _ (Or.inl rfl))) (Nat.le_trans dl hs) hL
  have Ln:@LrIs I' q.B w' l (lgR q.db q.bs q.sc q.run fs (off fs q.sure) false):=@LrIs.mk I' _ _ _ _ ⟨p,v,pv,(hO _ (Or.inr (Or.inr (Or.inr (Or.inl rfl))))).trans h1,h2,ownF_at2 h3 (fun g eg=>hO _ (Or.inr (Or.inr (Or.inr (Or.inr (Or.inl eg)))))),ownI_at h4 (fun g eg=>hO _ (Or.inr (Or.inr (Or.inr (Or.inr (Or.inr eg)))))),fun g eg=>hW _ (Or.inr (Or.inr (Or.inr (Or.inr (Or.inl eg))))),fun g eg=>hW _ (Or.inr (Or.inr (Or.inr (Or.inr (Or.inr eg)))))⟩ (@Ow.mk I' _ _ gg (hW _ (Or.inr (Or.inr (Or.inr (Or.inl rfl)))))) (Nat.le_trans gl hs) hL
  have Lxn:@Lx I' q.B w' l q.k q.S (lgR q.db q.bs q.sc q.run fs (off fs q.sure) false):=@Lx.mk I' _ _ _ _ _ _ Dn Ln
  exact @Lv.mk I' _ _ _ _ _ _ _ _ _ _ _ Lxn vu vf vs vn vr vq
 ·clear h
  obtain⟨lb0,mb0,m0,e1,_⟩:=h0.lx.d.dsk
  obtain⟨p0,v0,pv0,k1,_,k3,k4,_⟩:=h0.lx.g.ex
  have c0:=hc.cell ⟨q.db,0,none⟩ (lt_of_some e1.blk)
  have c1:=hc.cell ⟨q.db,1,none⟩ (lt_of_some e1.blk)
  have c6:=hc.cell ⟨l,6,none⟩ (lt_of_some k1)
  have c7:=hc.cell ⟨l,7,none⟩ (lt_of_some k1)
  rw[show w.cell? ⟨q.db,0,none⟩=some (.slice (some ⟨lb,0,none⟩) q.S.n q.S.n) from Joins.cell_of_block d1.blk 0,show w0.cell? ⟨q.db,0,none⟩=some (.slice (some ⟨lb0,0,none⟩) q.S.n q.S.n) from Joins.cell_of_block e1.blk 0] at c0
  rw[show w.cell? ⟨q.db,1,none⟩=some (.map (some mb)) from Joins.cell_of_block d1.blk 1,show w0.cell? ⟨q.db,1,none⟩=some (.map (some mb0)) from Joins.cell_of_block e1.blk 1] at c1
  rw[show w.cell? ⟨l,6,none⟩=some v from Joins.cell_of_block h1 6,show w0.cell? ⟨l,6,none⟩=some v0 from Joins.cell_of_block k1 6] at c6
  rw[show w.cell? ⟨l,7,none⟩=some pv from Joins.cell_of_block h1 7,show w0.cell? ⟨l,7,none⟩=some pv0 from Joins.cell_of_block k1 7] at c7
  cases c0
  cases c1
  cases c6
  cases c7
  rintro j (rfl |rfl |rfl |rfl |e2 |e2)
  ·exact lt_of_some e1.blk
  ·obtain⟨c2,f2,e2⟩:=e1.row.ty;exact lt_of_some e2
  ·obtain⟨c2,f2,e2⟩:=e1.map.is;exact lt_of_some e2
  ·exact lt_of_some k1
  ·exact(ownF_lt k3 e2).2
  ·exact(ownI_lt k4 e2).2
structure Rc2 (W:Nat->Prop) (w:World) (l:Nat) (fs:List ByteArray) (e:Ending) (w':World):Prop where
 ex:∃ v v2 W',e=.returned (.tuple #[v,v2])/\Rcs w.heap.size w' v (fs.map recF)/\OwnI w.heap.size w' v2 (plc 1 fs)/\Lo W' w' l fs/\Gm.Fr W W' w w'/\∀ j,W' j->j<w.heap.size
theorem Lo.records2 {W:Nat->Prop} {w:World} {l:Nat} {fs:List ByteArray} (hLo:Lo W w l fs):Calls Tryz.prog 17 #[.pointer (some ⟨l,0,none⟩)] w fun e w'=>Rc2 W w l fs e w':=by
 obtain⟨q,h,hq⟩:=hLo.ex
 obtain⟨p,hp⟩:∃ p:Nat->Option Obj,(∀ j,(¬ W j/\j<w.heap.size)->p j=w.heap[j]?)/\(∀ j,¬ (¬ W j/\j<w.heap.size)->p j=none):=by
  refine⟨fun j=>@ite _ (¬ W j/\j<w.heap.size) (Classical.propDecidable _) (w.heap[j]?) none,fun j hj=>?_,fun j hj=>?_⟩
  ·exact if_pos hj
  ·exact if_neg hj
 have hnp:∀ j,@np ⟨⟨p⟩⟩ j->W j∨w.heap.size<=j:=fun j hj=>by
  rcases Classical.em (W j) with hw |hw
  ·exact Or.inl hw
  ·rcases Nat.lt_or_ge j w.heap.size with hl |hl
   ·exfalso
    refine hj (show p j≠none from ?_)
    rw[hp.1 j ⟨hw,hl⟩]
    simp[hl]
   ·exact Or.inr hl
 have hP:=h.go ⟨⟨p⟩⟩ w (fun _ _=>rfl) (Nat.le_refl _) (fun j hj e=>e (hp.2 j (fun x=>x.1 hj))) (fun j o e=>by
  rcases Classical.em (¬ W j/\j<w.heap.size) with ho |ho
  ·exact(hp.1 j ho).symm.trans e
  ·have:=(hp.2 j ho).symm.trans e;cases this)
 letI:Inhabited PrSet:=⟨⟨p⟩⟩
 refine(Records_ce hP.lx hP.fit).mono ?_
 rintro e w' ⟨⟨v,v2,he,hr,hi,_⟩,hx,hK,hC⟩
 have hV:@Lv ⟨⟨p⟩⟩ q.B w' l q.k q.S q.db q.bs q.sc q.run fs q.sure:=⟨hx,hP.up,hP.fit,hP.hs,hP.n,hP.r2,hP.q⟩
 obtain⟨W2,n2,K2,U2,O2⟩:=lv_old hV hP hC
 refine⟨v,v2,W2,he,hr,hi,⟨q,U2,hq⟩,⟨hK.bel.os,hK.bel.tape,hK.bel.output,hK.bel.size,fun j hj hn=>?_,fun j hj=>hnp j (n2 j hj)⟩,O2⟩
 have e1:w.heap[j]?=some w.heap[j]:=by simp[hj]
 rw[e1]
 exact hK.prot j _ e1 (fun e2=>by
  have e3:p j=none:=e2
  rw[hp.1 j ⟨hn,hj⟩,e1] at e3;cases e3)
open Gm (thn bl1 bdr)
def pla (fs:List ByteArray) (i:Nat):Int:=((1+off fs i:Nat):Int)
section
variable {W W':Nat->Prop}{w w' w2:World}{l:Nat}{fs:List ByteArray}{b:Nat}{s:Sc}{I T:Value}
theorem pla_end (fs:List ByteArray):pla fs fs.length=((cat fs).size:Int)+1:=by
 unfold pla
 rw[off_all]
 omega
theorem fr_put (hF:Gm.Fr W W' w w') (P:PutR w' w2 b s I T) (hb:w.heap.size<=b):Gm.Fr W W' w w2:=by
 have hw:w.heap.size<=w'.heap.size:=hF.size
 have hbl:=P.below hb hw
 exact⟨hbl.os.trans hF.os,hbl.tape.trans hF.tape,hbl.output.trans hF.output,Nat.le_trans hF.size P.off.size,fun j hj hn=>(P.off.block j (Nat.lt_of_lt_of_le hj hF.size) (by omega)).trans (hF.blk j hj hn),hF.sub⟩
structure ReO (W:Nat->Prop) (w:World) (l:Nat) (fs:List ByteArray) (i:Nat) (m:Rm) (e:Ending) (w':World):Prop where
 ex:∃ v W',e=.returned (.tuple #[v,.int .i64 (pla fs (i+1)),.int .i64 0])/\RecF w' v m w.heap.size/\Lo W' w' l fs/\Gm.Fr W W' w w'
set_option maxHeartbeats 2000000 in
theorem read_at (h:Lo W w l fs) {i:Nat} (hi:i<fs.length):Calls Tryz.prog 45 #[.pointer (some ⟨l,0,none⟩),.int .i64 (pla fs i)] w fun e w'=>ReO W w l fs i (recF fs[i]) e w':=by
 have hf:=h.fit
 have hoff:=off_lt hf.frm hi (Nat.le_refl _)
 rw[off_all] at hoff
 have hz:=(hf.frm fs[i] (List.getElem_mem _)).le
 have hsz:=hf.sz
 have hnx:pla fs i+(fs[i].size:Int)=pla fs (i+1):=by
  unfold pla
  rw[off_succ hi]
  omega
 have hbn:bnd fs (pla fs i)=true:=bnd_iff.2 ⟨i,Nat.le_of_lt hi,rfl⟩
 have HL:Hid (∀ wx,Below w.heap.size w wx->Lo W wx l fs):=fun wx hb=>h.below hb
 have HLt:Hid (∀ j,W j->j<w.heap.size):=fun j hj=>h.lt hj
 have CR:Hid (∀ wx,Lo W wx l fs->Calls Tryz.prog 36 #[.pointer (some ⟨l,0,none⟩),.int .i64 (pla fs i)] wx fun e w'=>∃ v W',e=.returned (.tuple #[v,.int .i64 (pla fs (i+1)),.int .i64 0])/\RecF w' v (recF fs[i]) wx.heap.size/\Lo W' w' l fs/\Gm.Fr W W' wx w'):=fun wx hx=>by
  refine(hx.read (pla fs i) (by unfold pla;omega) (by unfold pla;omega) (m:=recF fs[i]) (n:=(fs[i].size:Int)) (by rw[show pla fs i-1=(off fs i:Int) by unfold pla;omega];exact open_at hf.frm hi) (by omega) (by omega)).mono ?_
  rintro e w' ⟨v,W',he,h1⟩
  rw[hnx] at he
  exact⟨v,W',he,h1⟩
 have CB:Hid (∀ W' wx,Lo W' wx l fs->Calls Tryz.prog 74 #[.pointer (some ⟨l,0,none⟩),.int .i64 (pla fs i)] wx fun e w'=>e=.returned (.bool true)/\Below wx.heap.size wx w'):=fun W' wx hx=>by
  have:=hx.bound (pla fs i)
  rw[hbn] at this
  exact this
 clear h hf hoff hz hsz hnx hbn
 generalize recF fs[i]=m at *
 generalize hnx2:pla fs (i+1)=nx at *
 have HNX:Hid (pla fs (i+1)=nx):=hnx2
 obtain⟨s9,l9,g9⟩:=m
 generalize hpx:pla fs i=x at *
 clear hnx2 hpx
 go_enter Tryz.func45,Tryz.ntmps45
 go_wp2_with first
  | (have:=N1;refine wpList_new_rc _ rfl rfl ?_;intro w4 b7 N7)
  | (refine wpList_new_rc _ rfl rfl ?_;intro w1 b4 N1)
  | (go_at_call 36;refine(CR.out _ (HL.out _ N1.below)).mono ?_;rintro e w2 ⟨v,W2,rfl,hv,hl2,hf2⟩;have L2:Hid (Lo W2 w2 l fs):=hl2;have F2:Hid (Gm.Fr W W2 w w2):=(Gm.Fr.of_below N1.below W).trans hf2;have rc2:RcAt w2 b4 zS nilV nilV:=⟨(hf2.blk _ N1.rc.lt (fun e=>by have:=HLt.out _ e;have:=N1.eq;omega)).trans N1.rc.blk⟩;have Z2:Hid (w1.heap.size<=w2.heap.size):=hf2.size;have HS2:Hid (∀ j,W2 j->j≠b4):=(fun j hj e=>(hf2.sub j hj).elim (fun h=>by have:=HLt.out _ h;have:=N1.eq;omega) (fun h=>by have:=N1.rc.lt;omega));have HV:Hid (RecF w2 v ⟨s9,l9,g9⟩ w1.heap.size):=hv;clear hl2 hf2;obtain⟨I,T,rfl,hI,hT⟩:=hv.ex;dsimp only at hI hT)
  | (refine wpList_at (Op.store 54 (.tmp 7) (.tmp 14)) rfl ?_;refine wpList_put_rc (s':=s9) (I':=I) (T':=T) _ rfl (.tmp 7) (.tmp 14) rfl rfl rfl N7.rc hI.slI.one hT.slT.one ?_;intro w5 P7;have b25:Below w2.heap.size w2 w5:=N7.below.trans (P7.below (by have:=N7.eq;omega) N7.below.size);have rc5:=rc2.below b25;have L5:Hid (Lo W2 w5 l fs):=L2.out.below b25)
  | (go_at_call 74;refine(CB.out _ _ L5.out).mono ?_;rintro e w6 ⟨rfl,b56⟩;have b26:Below w2.heap.size w2 w6:=thn b25 b56;have rc6:=rc5.below b56;have rc7:=P7.rc.below b56)
  | (refine wpList_load_rc _ rfl (.tmp 7) rfl rfl rc7 ?_)
  | (refine wpList_at (Op.store 54 (.tmp 4) (.tmp 26)) rfl ?_;refine wpList_put_rc (s':=s9) (I':=I) (T':=T) _ rfl (.tmp 4) (.tmp 26) rfl rfl rfl rc6 hI.slI.one hT.slT.one ?_;intro w8 P4)
 refine bodyPost_ret (results_rc3 rfl _ _ rfl P4.rc) rfl ?_
 have e4:=N1.eq
 have s1:=N1.below.size
 have z2:=Z2.out
 have l1:=N1.rc.lt
 have F6:Gm.Fr W W2 w w6:=F2.out.below b26
 have L6:Lo W2 w6 l fs:=L2.out.below b26
 refine⟨_,W2,(show Ending.returned (.tuple #[.agg (s9.A I T),.int .i64 nx,.int .i64 0])=_ by rw[HNX.out]),?_,L6.turn (fun j hj=>P4.off.block j (L6.lt hj) (HS2.out j hj)) P4.off.size,fr_put F6 P4 (by omega)⟩
 have I6:=hI.below b26
 have T6:=hT.below b26
 exact⟨I,T,rfl,(I6.off P4.off (by omega)).mono (by omega),(T6.off P4.off (by omega)).mono (by omega)⟩
end
end Go.Proofs.YtdchjncnjgelhaaGreat.Lg
namespace Go.Proofs.YtdchjncnjgelhaaGreat.Gm
open Go.RowKit
section
variable {ops:Array Oper}{rest:List Oper}{o:Oper}{a:Act}{Q:Exit->Act->World->Prop}{t:TypeId}{u v:Value}
theorem wpList_box1 (w:World) (hg:o.guard=none) (x:Operand) (hop:o.op=Op.box t x) (hx:a.eval x=v) (hv:v.cells=#[v])
  (h:∀ w' b,New w w' b t #[v]->wpList Tryz.prog ops Q rest (a.put o.dst (.pointer (some ⟨b,0,none⟩))) w'):wpList Tryz.prog ops Q (o ::rest) a w:=by
 refine wpList_plain hg fun K' hK'=>?_
 unfold Oper.wp
 simp[execOp,hop,hx,Instr.box,Result.andThen,hv]
 exact hK' _ _ (h (w.alloc (.cells v.cells t)) w.heap.size ⟨by rw[hv];exact At.new _ _ _,bl1 _,rfl⟩)
theorem wpList_new1 (w:World) (hz:∀ w,(zeroValue t).run Tryz.prog w=.ok v w) (hv:v.cells=#[v]) (hg:o.guard=none) (hop:o.op=Op.alloc t)
  (h:∀ w' b,New w w' b t #[v]->wpList Tryz.prog ops Q rest (a.put o.dst (.pointer (some ⟨b,0,none⟩))) w'):wpList Tryz.prog ops Q (o ::rest) a w:=by
 refine wpList_plain hg fun K' hK'=>?_
 unfold Oper.wp
 simp[execOp,hop,Instr.alloc,hz,Result.andThen,hv]
 exact hK' _ _ (h (w.alloc (.cells v.cells t)) w.heap.size ⟨by rw[hv];exact At.new _ _ _,bl1 _,rfl⟩)
theorem put1_of {w:World} {b:Nat} (hs:At w b t #[u]):Put w (w.setCell ⟨b,0,none⟩ v) b t #[v]:=by
 refine⟨hs.set 0 v,fun j hj=>?_,fun W hW=>⟨rfl,rfl,rfl,by simp[World.setCell],fun j _ hn=>?_,fun _ h=>Or.inl h⟩⟩
 ·exact Below.heap_setCell w _ v j (fun e=>hj e)
 ·exact Below.heap_setCell w _ v j (fun e=>hn (by rw[e];exact hW))
theorem wpList_put1 {b:Nat} (w:World) (hg:o.guard=none) (x y:Operand) (hop:o.op=Op.store t x y) (hx:a.eval x=.pointer (some ⟨b,0,none⟩)) (hy:a.eval y=v) (hs:At w b t #[u]) (h1:v.oneCell'=true) (hi:(Tryz.prog.info? t).map (·.size)=some 1)
  (h:∀ w',Put w w' b t #[v]->wpList Tryz.prog ops Q rest (a.put o.dst undef) w'):wpList Tryz.prog ops Q (o ::rest) a w :=
 wpList_set1 w hg t x y hop hx hy (u:=u) (by rw[hs.c];rfl) (hs.f 0) h1 hi fun w' e=>by
  subst e
  exact h _ (put1_of hs)
end
end Go.Proofs.YtdchjncnjgelhaaGreat.Gm
