import Derived.Test.YtjlhohljkedbbaaGreatMaf
import Derived.Deep.Slices
import Derived.OpenShut
import Derived.Test.YtjlhohljkedbbaaGreatProg
import Derived.WalkKit
import Derived.ProofKit
import Derived.WalkSpells
import Derived.WalkLawsBesides
import Derived.Deep.QuietTactic
import Derived.BigQuiet
import Derived.Deep.MidRow
import Derived.Lib.SmallJoins
import Derived.Lib.SlBytesRow
import Derived.Lib.BufferWrite
import Derived.Maps.RangeWalk
import Derived.Maps.OwnSet
import Derived.Maps.Ext
import Derived.Shelf.Strings.Builder1
import Derived.Shelf.Small.Bits
import Derived.Shelf.Strings.BuilderF
import Derived.Shelf.Strings.BuilderK
import Derived.Shelf.Strconv.Itoa0
import Derived.Shelf.Sort.Plain
import Derived.Ground.Names2Prog
import Derived.Shelf.Slices.Clone
import Derived.Shelf.Slices.SearchI
import Derived.Shelf.Slices.In.SortNone
import Derived.Shelf.Slices.Empties
import Derived.Sort.OwnSortedInts
import Derived.Sort.KeysCollected
import Derived.Deep.RegionHeldLaw
import Derived.Deep.WholeRow
import Derived.WalkSmall
set_option linter.unusedVariables false
set_option linter.unusedSimpArgs false
set_option maxRecDepth 100000
namespace Go.Proofs.YtjlhohljkedbbaaGreat
open Go.RowKit
structure Held (m:Rm):Prop where
 im:m.im.length<=9223372036854775807
 tb:m.tb.length<=9223372036854775807
 t:∀ p∈m.im,p.2.size<=9223372036854775807
 ky:m.s.ky.size<=9223372036854775807
 ol:m.s.ol.size<=9223372036854775807
 nw:m.s.nw.size<=9223372036854775807
open Go.RowKit Go.Maps Go.ChangeMaps
structure Off (B:Nat->Prop) (w w':World):Prop where
 os:w'.os=w.os
 tape:w'.tape=w.tape
 output:w'.output=w.output
 size:w.heap.size<=w'.heap.size
 block:∀ k,k<w.heap.size->¬ B k->w'.heap[k]?=w.heap[k]?
theorem Off.refl (B:Nat->Prop) (w:World):Off B w w:=⟨rfl,rfl,rfl,Nat.le_refl _,fun _ _ _=>rfl⟩
theorem Off.trans {B:Nat->Prop} {a b c:World} (h:Off B a b) (k:Off B b c):Off B a c :=
 ⟨k.os.trans h.os,k.tape.trans h.tape,k.output.trans h.output,Nat.le_trans h.size k.size,fun i hi hn=>(k.block i (Nat.lt_of_lt_of_le hi h.size) hn).trans (h.block i hi hn)⟩
theorem Off.of_below {B:Nat->Prop} {w w':World} (h:Below w.heap.size w w'):Off B w w':=⟨h.os,h.tape,h.output,h.size,fun k hk _=>h.block k hk⟩
theorem Off.below {B:Nat->Prop} {b:Nat} {w w':World} (h:Off B w w') (hb:∀ k,B k->b<=k) (hB:b<=w.heap.size):Below b w w' :=
 ⟨h.os,h.tape,h.output,h.size,fun k hk=>h.block k (Nat.lt_of_lt_of_le hk hB) (fun x=>by have:=hb k x;omega)⟩
theorem Off.alloc {B:Nat->Prop} {a w:World} (h:Off B a w) (o:Obj):Off B a (w.alloc o) :=
 h.trans (Off.of_below ((Below.refl _ _).alloc (Nat.le_refl _) o))
theorem Off.drew {B:Nat->Prop} {a w:World} (h:Off B a w):Off B a w.drew:=⟨h.os,h.tape,h.output,h.size,h.block⟩
theorem Off.setCell {B:Nat->Prop} {a w:World} (h:Off B a w) {b:Nat} (hb:B b) (i:Nat) (v:Value):Off B a (w.setCell ⟨b,i,none⟩ v):=by
 refine h.trans ⟨rfl,rfl,rfl,?_,fun k _ hk=>Below.heap_setCell w _ v k (fun e=>hk (by rw[e];exact hb))⟩
 simp[go_sem]
theorem setCells_facts (b:Nat):∀ (vs:List Value) (o:Nat) (w:World),(w.setCells b o vs).os=w.os/\(w.setCells b o vs).tape=w.tape/\(w.setCells b o vs).output=w.output/\(w.setCells b o vs).heap.size=w.heap.size/\∀ k,k≠b->(w.setCells b o vs).heap[k]?=w.heap[k]?
 | [],_,_=>⟨rfl,rfl,rfl,rfl,fun _ _=>rfl⟩
 | v :: r,o,w=>by
  obtain⟨h1,h2,h3,h4,h5⟩:=setCells_facts b r (o+1) (w.setCell ⟨b,o,none⟩ v)
  rw[World.setCells]
  refine⟨h1.trans rfl,h2.trans rfl,h3.trans rfl,h4.trans (by simp[go_sem]),fun k hk=>(h5 k hk).trans (Below.heap_setCell w _ v k hk)⟩
theorem Off.setCells {B:Nat->Prop} {a w:World} (h:Off B a w) {b:Nat} (hb:B b) (o:Nat) (vs:List Value):Off B a (w.setCells b o vs):=by
 obtain⟨h1,h2,h3,h4,h5⟩:=setCells_facts b vs o w
 exact h.trans ⟨h1,h2,h3,by rw[h4];exact Nat.le_refl _,fun k _ hk=>h5 k (fun e=>hk (by rw[e];exact hb))⟩
theorem Off.grown {B:Nat->Prop} {a w w':World} {row:Option Nat} (h:Off B a w) (hg:w.grownBy w' row) (hr:∀ k,row=some k->k<a.heap.size->B k):Off B a w' :=
 ⟨hg.os.trans h.os,hg.tape.trans h.tape,hg.output.trans h.output,Nat.le_trans h.size hg.size,fun k hk hn=>(hg.block k (Nat.lt_of_lt_of_le hk h.size) (fun e=>hn (hr k e.symm hk))).trans (h.block k hk hn)⟩
theorem Off.cell {B:Nat->Prop} {w w':World} (h:Off B w w') {p:Addr} (hp:p.block<w.heap.size) (hn:¬ B p.block):w'.cell? p=w.cell? p:=World.cell?_of_block (h.block _ hp hn)
def secL (c:ByteArray):List Value:=Lib.byteCells c.data.toList
def secV (c:ByteArray):Value:=.agg (secL c).toArray
theorem secL_length (c:ByteArray):(secL c).length=c.size:=by rw[secL,Lib.byteCells_length];rfl
theorem secL_one (c:ByteArray):∀ v∈secL c,v.oneCell'=true:=Lib.byteCells_one _
theorem secL_get (c:ByteArray) (j:Nat) (hj:j<c.size):(secL c)[j]?=some (.int .u8 (c[j]).toNat):=by
 simp only[secL,Lib.byteCells,List.getElem?_map,Array.getElem?_toList]
 rw[Array.getElem?_eq_getElem (by exact hj)]
 rfl
def zs64:ByteArray:=⟨Array.replicate 64 0⟩
theorem zs64_size:zs64.size=64:=by simp[zs64,ByteArray.size]
theorem zero64 (w:World):(zeroValue 145).run Tryz.prog w=.ok (secV zs64) w:=by kernel_rfl
theorem info64:(Tryz.prog.info? 145).map (·.size)=some 64:=by kernel_rfl
theorem row64:Tryz.prog.underlying 145=some (.array 64 5):=by kernel_rfl
def secD:Value->DataW Unit
 | .int q a=>.lit (.int q a)
 | _=>.lit (.bool false)
def secR:Value->Option (DataW Unit × List MemPlace)
 | .agg cs=>some (.agg (cs.toList.map secD),[])
 | _=>none
def secDat (c:ByteArray):DataW Unit:=.agg ((secL c).map secD)
theorem secR_sec (c:ByteArray):secR (secV c)=some (secDat c,[]):=by simp[secR,secV,secDat]
theorem secD_inj:∀ (cs:List Value) (l:List UInt8),cs.map secD=(Lib.byteCells l).map secD->cs=Lib.byteCells l
 | [],[],_=>rfl
 | [],_ :: _,h=>by simp[Lib.byteCells] at h
 | _ :: _,[],h=>by simp[Lib.byteCells] at h
 | v :: cs,x :: l,h=>by
  simp only[Lib.byteCells,List.map_cons,List.cons.injEq] at h ⊢
  obtain⟨h1,h2⟩:=h
  refine⟨?_,secD_inj cs l h2⟩
  cases v <;> simp_all [secD]
theorem secR_inv {v:Value} {c:ByteArray} {ps:List MemPlace} (h:secR v=some (secDat c,ps)):v=secV c:=by
 cases v <;> simp[secR] at h
 rename_i cs
 obtain⟨h1,_⟩:=h
 simp only[secDat,DataW.agg.injEq] at h1
 have:=secD_inj cs.toList c.data.toList h1
 rw[secV,secL,← this]
theorem secR_agg {v:Value} {y:DataW Unit × List MemPlace} (h:secR v=some y):∃ cs:Array Value,v=.agg cs:=by
 cases v <;> simp[secR] at h
 exact⟨_,rfl⟩
structure MapV (D:DataW Unit) (f:Nat->Option ByteArray):Prop where
 has:∀ i:Nat,Maps.has D (.int .i64 (i:Int))=(f i).isSome
 at_:∀ (i:Nat) c,f i=some c->∀ z,D.atKey (.int .i64 (i:Int)) z=secDat c
 keys:∀ kl,Maps.has D kl=true->∃ i:Nat,kl=.int .i64 (i:Int)
def upd {α:Type} (f:Nat->α) (i:Nat) (x:α):Nat->α:=fun j=>if j=i then x else f j
theorem upd_same {α:Type} (f:Nat->α) (i:Nat) (x:α):upd f i x i=x:=by simp[upd]
theorem upd_other {α:Type} (f:Nat->α) {i j:Nat} (x:α) (h:j≠i):upd f i x j=f j:=by simp[upd,h]
theorem MapV.empty:MapV (.map []) (fun _=>none):=⟨fun i=>rfl,fun i c h=>(by cases h),fun kl h=>(by cases h)⟩
theorem key_ne {i j:Nat} (h:j≠i):(Lit.int .i64 (j:Int))≠.int .i64 (i:Int):=fun e=>by
 simp only[Lit.int.injEq,true_and] at e
 omega
theorem MapV.put {D:DataW Unit} {f:Nat->Option ByteArray} (h:MapV D f) (hD:IsMap D) (i:Nat) (c:ByteArray):MapV (D.put (.int .i64 (i:Int)) (secDat c)) (upd f i (some c)):=by
 refine⟨fun j=>?_,fun j c' hj z=>?_,fun kl hk=>?_⟩
 ·by_cases e:j=i
  ·subst e;rw[upd_same,has_put_same hD (show WideAt.IsKeyLit (.int .i64 (j:Int)) from trivial)];rfl
  ·rw[upd_other _ _ e,has_put_other (key_ne e),h.has]
 ·by_cases e:j=i
  ·subst e;rw[upd_same] at hj;cases hj;rw[atKey_put_same hD (show WideAt.IsKeyLit (.int .i64 (j:Int)) from trivial)]
  ·rw[upd_other _ _ e] at hj;rw[atKey_put_other (key_ne e)];exact h.at_ j c' hj z
 ·by_cases e:kl=.int .i64 (i:Int)
  ·exact⟨i,e⟩
  ·rw[has_put_other e] at hk;exact h.keys kl hk
theorem law3:Keyed Tryz.prog 3:=int_keyed Tryz.underlying3
theorem under51:Tryz.prog.underlying 69=some (.map 3 145):=Tryz.underlying69
def MapIs (w:World) (b m:Nat) (f:Nat->Option ByteArray):Prop:=∃ D,w.ownsMap Tryz.prog 3 secR b m D/\MapV D f
theorem wfI {i:Nat} (h:i<8192):(Lit.int .i64 (i:Int)).wf=true:=WalkArith.wf_i64 (by omega)
theorem MapIs.lt {w:World} {b m:Nat} {f:Nat->Option ByteArray} (h:MapIs w b m f):b<w.heap.size:=by obtain⟨D,h,_⟩:=h;exact h.lt
theorem MapIs.of_block {w w':World} {b m:Nat} {f:Nat->Option ByteArray} (h:MapIs w b m f) (hb:w'.heap[b]?=w.heap[b]?):MapIs w' b m f:=by
 obtain⟨D,⟨es,cl,h1,h2,h3,h4⟩,hv⟩:=h
 exact⟨D,⟨es,cl,hb.trans h1,h2,h3,h4⟩,hv⟩
theorem MapIs.mono {w:World} {b m m':Nat} {f:Nat->Option ByteArray} (h:MapIs w b m f) (hm:m<=m'):MapIs w b m' f:=by
 obtain⟨D,h,hv⟩:=h;exact⟨D,h.mono hm,hv⟩
theorem MapIs.made (w:World):MapIs (w.alloc (.map #[] 0)) w.heap.size 0 (fun _=>none):=⟨_,World.ownsMap_made _ _ _ _,MapV.empty⟩
theorem MapIs.look {w:World} {b m:Nat} {f:Nat->Option ByteArray} (h:MapIs w b m f) {i:Nat} (hi:i<8192) :
  (Instr.lookup 69 (.map (some b)) (.int .i64 (i:Int)) true).run Tryz.prog w=.ok (.tuple #[secV ((f i).getD zs64),.bool (f i).isSome]) w:=by
 obtain⟨D,h,hv⟩:=h
 obtain⟨v,ps,hrun,hR⟩:=h.look_ok law3 under51 (zero64 w) (secR_sec zs64) (keyOf_int_mk Tryz.underlying3 (wfI hi))
 rw[hrun,hv.has]
 cases hf:f i with
 | none =>
  rw[atKey_of_not_has (by rw[hv.has,hf];rfl)] at hR
  rw[secR_inv hR];rfl
 | some c =>
  rw[hv.at_ i c hf] at hR
  rw[secR_inv hR];rfl
theorem MapIs.look1 {w:World} {b m:Nat} {f:Nat->Option ByteArray} (h:MapIs w b m f) {i:Nat} (hi:i<8192) {c:ByteArray} (hc:f i=some c) :
  (Instr.lookup 69 (.map (some b)) (.int .i64 (i:Int)) false).run Tryz.prog w=.ok (secV c) w:=by
 obtain⟨D,h,hv⟩:=h
 obtain⟨v,ps,hrun,hR⟩:=h.lookup law3 under51 (zero64 w) (secR_sec zs64) (keyOf_int_mk Tryz.underlying3 (wfI hi))
 rw[hv.at_ i c hc] at hR
 rw[hrun,secR_inv hR]
theorem MapIs.store {w:World} {b m:Nat} {f:Nat->Option ByteArray} (h:MapIs w b m f) {i:Nat} (hi:i<8192) (hm:m<10000000000000) (c:ByteArray) :
  ∃ w',(Instr.mapUpdate 69 (.map (some b)) (.int .i64 (i:Int)) (secV c)).run Tryz.prog w=.ok () w'/\MapIs w' b (m+1) (upd f i (some c))/\w.mapTurned w' b:=by
 obtain⟨D,h,hv⟩:=h
 obtain⟨w',h1,h2,h3⟩:=h.store law3 under51 (by unfold maxLen;omega) (keyOf_int_mk Tryz.underlying3 (wfI hi)) (secR_sec c)
 exact⟨w',h1,⟨_,h2,hv.put h.isMap i c⟩,h3⟩
theorem MapIs.clear {w:World} {b m:Nat} {f:Nat->Option ByteArray} (h:MapIs w b m f) :
  ∃ w',(∀ ty,(Builtin.clear_ #[69] ty #[.map (some b)]).run Tryz.prog w=.ok (.tuple #[]) w')/\MapIs w' b 0 (fun _=>none)/\w.mapTurned w' b:=by
 obtain⟨D,⟨es,cl,h1,h2,h3,h4⟩,hv⟩:=h
 refine⟨setBlock w b (.map #[] cl),fun ty=>?_,⟨.map [],⟨#[],cl,heap_setBlock_same h1 _,⟨by simp,⟨by simp,by simp⟩,by simp⟩,by simp,by simp⟩,MapV.empty⟩,⟨es,cl,#[],cl,h1,rfl⟩⟩
 have hs:(setObj b (.map #[] cl)).run Tryz.prog w=.ok () (setBlock w b (.map #[] cl)):=by
  exact MapKept.run_setObj_map _ h1
 simp[Builtin.clear_,run_underlying under51,MapKept.run_getObj_map h1,hs,Result.andThen]
theorem Off.turned {B:Nat->Prop} {a w w':World} {b:Nat} (h:Off B a w) (ht:w.mapTurned w' b) (hb:b<a.heap.size->B b):Off B a w' :=
 h.grown ht.grown (fun k e hk=>by cases e;exact hb hk)
structure SecRow (w:World) (lb n:Nat) (f:Nat->ByteArray):Prop where
 lt:lb<w.heap.size
 at_:∀ i,i<n->w.rangeAt lb (i*64) (secL (f i))
 there:∀ i,i<n->w.there lb (i*64) 64
 size:∀ i,i<n->(f i).size=64
 ty:∃ cur fz,w.heap[lb]?=some (.cells cur 145 fz)
theorem SecRow.of_block {w w':World} {lb n:Nat} {f:Nat->ByteArray} (h:SecRow w lb n f) (hb:w'.heap[lb]?=w.heap[lb]?) (hs:w.heap.size<=w'.heap.size):SecRow w' lb n f :=
 ⟨Nat.lt_of_lt_of_le h.lt hs,fun i hi j v hv=>(World.cell?_of_block (w:=w) (by exact hb)).trans (h.at_ i hi j v hv),
  fun i hi j hj=>⟨by rw[World.cell?_of_block (w:=w) (w':=w') (by exact hb)];exact(h.there i hi j hj).1,by rw[World.frozen?_of_block (w:=w) (w':=w') (by exact hb)];exact(h.there i hi j hj).2⟩,h.size,by obtain⟨cur,fz,e⟩:=h.ty;exact⟨cur,fz,hb.trans e⟩⟩
theorem setCells_ty (b:Nat) (t:TypeId):∀ (vs:List Value) (o:Nat) (w:World),(∃ cur fz,w.heap[b]?=some (.cells cur t fz))->∃ cur fz,(w.setCells b o vs).heap[b]?=some (.cells cur t fz)
 | [],_,_,h=>h
 | v :: r,o,w,h=>by
  refine setCells_ty b t r (o+1) _ ?_
  obtain⟨cur,fz,e⟩:=h
  exact⟨_,fz,by simp[World.setCell,Array.getElem?_modify,e];rfl⟩
theorem SecRow.put {w:World} {lb n:Nat} {f:Nat->ByteArray} (h:SecRow w lb n f) {i:Nat} (hi:i<n) {c:ByteArray} (hc:c.size=64):SecRow (w.setCells lb (i*64) (secL c)) lb n (upd f i c):=by
 have hl:(secL c).length=64:=by rw[secL_length,hc]
 refine⟨by rw[(setCells_facts lb (secL c) (i*64) w).2.2.2.1];exact h.lt,fun j hj=>?_,fun j hj=>World.there_setCells (h.there j hj) _ _ _,fun j hj=>?_,setCells_ty _ _ _ _ _ h.ty⟩
 ·by_cases e:j=i
  ·subst e;rw[upd_same];exact World.rangeAt_setCells_same _ _ _ _ (by rw[hl];exact h.there j hj)
  ·rw[upd_other _ _ e]
   refine World.rangeAt_setCells_apart (h.at_ j hj) _ _ _ (Or.inr ?_)
   rw[secL_length,h.size j hj,hl]
   omega
 ·by_cases e:j=i
  ·subst e;rw[upd_same];exact hc
  ·rw[upd_other _ _ e];exact h.size j hj
structure Dk where
 n:Nat
 sure:Nat->ByteArray
 wait:Nat->Option ByteArray
 up:Bool
 set:Bool
 left:Int
 keep:Int
 acts:Int
 downs:Int
def Dk.cells (S:Dk) (lb mb:Nat):Array Value :=
 #[.slice (some ⟨lb,0,none⟩) S.n S.n,.map (some mb),.bool S.up,.bool S.set,.int .i64 S.left,.int .u64 S.keep,.int .i64 S.acts,.int .i64 S.downs]
structure Dk.Ok (S:Dk):Prop where
 n1:1<=S.n
 n2:S.n<=8192
 wait:∀ i c,S.wait i=some c->i<S.n/\c.size=64
 l0:0<=S.left
 l1:S.left<=9223372036854775807
 k0:0<=S.keep
 k1:S.keep<=18446744073709551615
 a0:0<=S.acts
 a1:S.acts<=10000000000000
 d0:0<=S.downs
 d1:S.downs<=10000000000000
structure DkIs (w:World) (db lb mb m:Nat) (S:Dk):Prop where
 blk:w.heap[db]?=some (.cells (S.cells lb mb) 74)
 row:SecRow w lb S.n S.sure
 map:MapIs w mb m S.wait
 ne:db≠lb
def disk3 (db lb mb:Nat):Nat->Prop:=fun k=>k=db∨k=lb∨k=mb
theorem d3a (db lb mb:Nat):disk3 db lb mb db:=Or.inl rfl
theorem d3b (db lb mb:Nat):disk3 db lb mb lb:=Or.inr (Or.inl rfl)
theorem d3_not {db lb mb g n:Nat} (h1:db<n) (h2:lb<n) (h3:mb<n) (hg:n<=g):¬ disk3 db lb mb g:=by
 rintro(e |e |e) <;> omega
theorem d3c (db lb mb:Nat):disk3 db lb mb mb:=Or.inr (Or.inr rfl)
variable {w w':World}{db lb mb m:Nat}{S:Dk}
theorem DkIs.lt (h:DkIs w db lb mb m S):db<w.heap.size:=by
 rcases Nat.lt_or_ge db w.heap.size with h' |h'
 ·exact h'
 ·have:=h.blk;simp[Array.getElem?_eq_none h'] at this
theorem DkIs.c (h:DkIs w db lb mb m S) (i:Nat):w.cell? ⟨db,i,none⟩=(S.cells lb mb)[i]?:=Joins.cell_of_block h.blk i
theorem DkIs.c0 (h:DkIs w db lb mb m S):w.cell? ⟨db,0,none⟩=some (.slice (some ⟨lb,0,none⟩) S.n S.n):=h.c 0
theorem DkIs.c1 (h:DkIs w db lb mb m S):w.cell? ⟨db,1,none⟩=some (.map (some mb)):=h.c 1
theorem DkIs.c2 (h:DkIs w db lb mb m S):w.cell? ⟨db,2,none⟩=some (.bool S.up):=h.c 2
theorem DkIs.c3 (h:DkIs w db lb mb m S):w.cell? ⟨db,3,none⟩=some (.bool S.set):=h.c 3
theorem DkIs.c4 (h:DkIs w db lb mb m S):w.cell? ⟨db,4,none⟩=some (.int .i64 S.left):=h.c 4
theorem DkIs.c5 (h:DkIs w db lb mb m S):w.cell? ⟨db,5,none⟩=some (.int .u64 S.keep):=h.c 5
theorem DkIs.c6 (h:DkIs w db lb mb m S):w.cell? ⟨db,6,none⟩=some (.int .i64 S.acts):=h.c 6
theorem DkIs.c7 (h:DkIs w db lb mb m S):w.cell? ⟨db,7,none⟩=some (.int .i64 S.downs):=h.c 7
theorem DkIs.f (h:DkIs w db lb mb m S) (i:Nat):w.frozen? ⟨db,i,none⟩=false:=Joins.unfrozen_of_block h.blk i
theorem DkIs.mdb (h:DkIs w db lb mb m S):mb≠db:=fun e=>by
 obtain⟨D,⟨es,cl,h1,_⟩,_⟩:=h.map
 rw[e,h.blk] at h1;cases h1
theorem DkIs.mlb (h:DkIs w db lb mb m S) (hn:1<=S.n):mb≠lb:=fun e=>by
 obtain⟨D,⟨es,cl,h1,_⟩,_⟩:=h.map
 have:=(h.row.there 0 (by omega) 0 (by omega)).1
 rw[e] at h1
 simp[World.cell?,h1] at this
theorem DkIs.keep (h:DkIs w db lb mb m S) (h1:w'.heap[db]?=w.heap[db]?) (h2:w'.heap[lb]?=w.heap[lb]?) (h3:w'.heap[mb]?=w.heap[mb]?) (hs:w.heap.size<=w'.heap.size):DkIs w' db lb mb m S :=
 ⟨h1.trans h.blk,h.row.of_block h2 hs,h.map.of_block h3,h.ne⟩
theorem DkIs.off {B:Nat->Prop} (h:DkIs w db lb mb m S) (ho:Off B w w') (h1:¬ B db) (h2:¬ B lb) (h3:¬ B mb):DkIs w' db lb mb m S :=
 h.keep (ho.block _ h.lt h1) (ho.block _ h.row.lt h2) (ho.block _ h.map.lt h3) ho.size
theorem DkIs.below (h:DkIs w db lb mb m S) (ho:Below w.heap.size w w'):DkIs w' db lb mb m S :=
 h.keep (ho.block _ h.lt) (ho.block _ h.row.lt) (ho.block _ h.map.lt) ho.size
theorem DkIs.drew (h:DkIs w db lb mb m S):DkIs w.drew db lb mb m S:=h.keep rfl rfl rfl (Nat.le_refl _)
theorem DkIs.mono (h:DkIs w db lb mb m S) {m':Nat} (hm:m<=m'):DkIs w db lb mb m' S:=⟨h.blk,h.row,h.map.mono hm,h.ne⟩
theorem DkIs.setC (h:DkIs w db lb mb m S) (i:Nat) (v:Value) (S':Dk) (hc:(S.cells lb mb).setIfInBounds i v=S'.cells lb mb) (hn:S'.n=S.n) (hs:S'.sure=S.sure) (hw:S'.wait=S.wait):DkIs (w.setCell ⟨db,i,none⟩ v) db lb mb m S':=by
 have hz:(w.setCell ⟨db,i,none⟩ v).heap.size=w.heap.size:=by simp[go_sem]
 refine⟨by rw[Joins.block_setCell h.blk,hc],?_,?_,h.ne⟩
 ·rw[hn,hs];exact h.row.of_block (Below.heap_setCell w _ v lb h.ne.symm) (by rw[hz];exact Nat.le_refl _)
 ·rw[hw];exact h.map.of_block (Below.heap_setCell w _ v mb h.mdb)
theorem DkIs.turned (h:DkIs w db lb mb m S) (hn:1<=S.n) (ht:w.mapTurned w' mb) {f:Nat->Option ByteArray} {m':Nat} (hm:MapIs w' mb m' f):DkIs w' db lb mb m' {S with wait:=f} :=
 ⟨(ht.grown.block db h.lt (fun e=>h.mdb (by cases e;rfl))).trans h.blk,h.row.of_block (ht.grown.block lb h.row.lt (fun e=>h.mlb hn (by cases e;rfl))) ht.grown.size,hm,h.ne⟩
theorem DkIs.rowput (h:DkIs w db lb mb m S) (hn:1<=S.n) {i:Nat} (hi:i<S.n) {c:ByteArray} (hc:c.size=64):DkIs (w.setCells lb (i*64) (secL c)) db lb mb m {S with sure:=upd S.sure i c}:=by
 obtain⟨h1,h2,h3,h4,h5⟩:=setCells_facts lb (secL c) (i*64) w
 exact⟨(h5 db h.ne).trans h.blk,h.row.put hi hc,h.map.of_block (h5 mb (h.mlb hn)),h.ne⟩
def NotMade (w:World) (p:Option Addr):Prop:=p=none∨∃ b,p=some ⟨b,0,none⟩/\w.cell? ⟨b,0,none⟩=some (.slice none 0 0)
theorem isMade_not (p:Option Addr) (w:World) (h:NotMade w p):Calls Tryz.prog 56 #[.pointer p] w fun e w'=>e=.returned (.bool false)/\w'=w:=by
 rcases h with rfl |⟨b,rfl,hc⟩
 ·go_enter Tryz.func56,Tryz.ntmps56
  go_wp2
  go_ret
  exact⟨rfl,rfl⟩
 ·go_enter Tryz.func56,Tryz.ntmps56
  go_wp2
  go_ret
  exact⟨rfl,rfl⟩
theorem isMade_any (w:World) (h:DkIs w db lb mb m S) (hn:1<=S.n):Calls Tryz.prog 56 #[.pointer (some ⟨db,0,none⟩)] w fun e w'=>e=.returned (.bool true)/\w'=w:=by
 have hc:=h.c0
 have hn0:decide (0<S.n)=true:=by simp;omega
 go_enter Tryz.func56,Tryz.ntmps56
 go_wp2
 go_ret
 exact⟨by simp[hn0],rfl⟩
theorem refusal_not (p:Option Addr) (w:World) (h:NotMade w p):Calls Tryz.prog 107 #[.pointer p] w fun e w'=>e=.returned (.int .i64 11)/\w'=w:=by
 have H:Hid _:=h
 clear h
 go_enter Tryz.func107,Tryz.ntmps107
 go_wp2_with (go_at_call 56;refine(isMade_not _ _ H.out).mono ?_;rintro e w' ⟨rfl,rfl⟩)
 go_ret
 exact⟨rfl,rfl⟩
def refI (up:Bool):Int:=if up then 0 else 9
theorem refusal_any (w:World) (h:DkIs w db lb mb m S) (hn:1<=S.n):Calls Tryz.prog 107 #[.pointer (some ⟨db,0,none⟩)] w fun e w'=>e=.returned (.int .i64 (refI S.up))/\w'=w:=by
 have hc:=h.c2
 have H:Hid _:=h
 clear h
 go_enter Tryz.func107,Tryz.ntmps107
 cases hu:S.up
 ·rw[hu] at hc
  go_wp2_with (go_at_call 56;refine(isMade_any _ H.out hn).mono ?_;rintro e w' ⟨rfl,rfl⟩)
  go_ret
  exact⟨rfl,rfl⟩
 ·rw[hu] at hc
  go_wp2_with (go_at_call 56;refine(isMade_any _ H.out hn).mono ?_;rintro e w' ⟨rfl,rfl⟩)
  go_ret
  exact⟨rfl,rfl⟩
def refAt (up:Bool) (n:Nat) (i:Int):Int:=if up then(if i<0∨(n:Int)<=i then 6 else 0) else 9
theorem refusalAt_any (w:World) (h:DkIs w db lb mb m S) (hn:1<=S.n) (i:Int):Calls Tryz.prog 83 #[.pointer (some ⟨db,0,none⟩),.int .i64 i] w fun e w'=>e=.returned (.int .i64 (refAt S.up S.n i))/\w'=w:=by
 have hc:=h.c0
 have H:Hid _:=h
 have C:Hid (∀ w,DkIs w db lb mb m S->Calls Tryz.prog 107 #[.pointer (some ⟨db,0,none⟩)] w fun e w'=>e=.returned (.int .i64 (refI S.up))/\w'=w):=fun w h=>refusal_any w h hn
 clear h
 cases hu:S.up
 ·rw[hu] at C
  have e0:refI false=9:=rfl
  rw[e0] at C
  go_enter Tryz.func83,Tryz.ntmps83
  go_wp2_with (go_at_call 107;refine(C.out _ H.out).mono ?_;rintro e w' ⟨rfl,rfl⟩)
  go_ret
  exact⟨rfl,rfl⟩
 ·rw[hu] at C
  have e0:refI true=0:=rfl
  rw[e0] at C
  by_cases h1:i<0
  ·go_enter Tryz.func83,Tryz.ntmps83
   go_wp2_with (go_at_call 107;refine(C.out _ H.out).mono ?_;rintro e w' ⟨rfl,rfl⟩)
   go_ret
   exact⟨by simp[refAt,h1],rfl⟩
  ·by_cases h2:(S.n:Int)<=i
   ·go_enter Tryz.func83,Tryz.ntmps83
    go_wp2_with (go_at_call 107;refine(C.out _ H.out).mono ?_;rintro e w' ⟨rfl,rfl⟩)
    go_ret
    exact⟨by simp[refAt,h1,h2],rfl⟩
   ·go_enter Tryz.func83,Tryz.ntmps83
    go_wp2_with (go_at_call 107;refine(C.out _ H.out).mono ?_;rintro e w' ⟨rfl,rfl⟩)
    go_ret
    exact⟨by simp[refAt,h1,h2],rfl⟩
theorem Size_any (w:World) (h:DkIs w db lb mb m S) (hn:1<=S.n):Calls Tryz.prog 28 #[.pointer (some ⟨db,0,none⟩)] w fun e w'=>e=.returned (.int .i64 S.n)/\w'=w:=by
 have hc0:=h.c0
 have H:Hid _:=h
 clear h
 go_enter Tryz.func28,Tryz.ntmps28
 go_wp2_with (go_at_call 56;refine(isMade_any _ H.out hn).mono ?_;rintro e w' ⟨rfl,rfl⟩)
 go_ret
 exact⟨rfl,rfl⟩
variable {w w':World}
theorem madeSec (n:Nat) (i j:Nat) (hi:i<n) (hj:j<64):(madeCells (secL zs64).toArray (n*64))[i*64+j]?=(secL zs64)[j]?:=by
 have hz:(secL zs64).length=64:=by rw[secL_length,zs64_size]
 have hl:i*64+j<n*64:=by omega
 have hm:(i*64+j) % 64=j:=by omega
 simp[madeCells,hl,hz,hm]
 rw[List.getElem?_eq_getElem (by omega)]
 simp[getElem!_def,List.getElem?_eq_getElem (show j<(secL zs64).length by omega)]
theorem run_make64 (n:Nat) (hn:n<=8192) (w:World):(Instr.makeSlice 68 (.int .i64 (n:Int)) (.int .i64 (n:Int))).run Tryz.prog w=.ok (.slice (some ⟨w.heap.size,0,none⟩) n n) (w.alloc (.cells (madeCells (secL zs64).toArray (n*64)) 145)):=by
 obtain⟨i,hi,hz⟩:=Option.map_eq_some_iff.1 (show(Tryz.prog.info? 145).map (fun i=>(i.zero,i.size,i.bytes))=some (some (secV zs64),64,64) by kernel_rfl)
 simp only[Prod.mk.injEq] at hz
 obtain⟨h1,h2,h3⟩:=hz
 have:=run_make (P:=Tryz.prog) w 68 145 i (secV zs64) Tryz.underlying68 hi h1 .i64 .i64 n n (by omega) (Int.le_refl _) (by rw[h3];omega) (by omega)
 rw[h2] at this
 simpa[secV,Value.cells] using this
def newDk (n:Nat):Dk:=⟨n,fun _=>zs64,fun _=>none,true,false,0,0,0,0⟩
theorem newDk_ok {n:Nat} (h1:1<=n) (h2:n<=8192):(newDk n).Ok:=⟨h1,h2,fun i c h=>(by cases h),by simp[newDk],by simp[newDk],by simp[newDk],by simp[newDk],by simp[newDk],by simp[newDk],by simp[newDk],by simp[newDk]⟩
theorem New_any (n:Nat) (h1:1<=n) (h2:n<=8192) (w:World):Calls Tryz.prog 7 #[.int .i64 (n:Int)] w fun e w'=>e=.returned (.tuple #[.pointer (some ⟨w.heap.size+2,0,none⟩),.int .i64 0])/\DkIs w' (w.heap.size+2) w.heap.size (w.heap.size+1) 0 (newDk n)/\Below w.heap.size w w':=by
 have hmm:=@run_makeMap Tryz.prog
 have hmk:=run_make64 n h2
 obtain⟨M,hM⟩:∃ M,M=madeCells (secL zs64).toArray (n*64):=⟨_,rfl⟩
 rw[← hM] at hmk
 have HM:Hid _:=hM
 clear hM
 have i1:¬ (n:Int)<1:=by omega
 have i2:¬ (8192:Int)<(n:Int):=by omega
 go_enter Tryz.func7,Tryz.ntmps7
 go_wp2
 go_ret2
 have bel:Below w.heap.size w (((w.alloc (.cells M 145)).alloc (.map #[] 0)).alloc (.cells ((newDk n).cells w.heap.size (w.heap.size+1)) 74)) :=
  (((Below.refl _ _).alloc (Nat.le_refl _) _).alloc (by simp) _).alloc (by simp;omega) _
 refine⟨rfl,(?_:DkIs (((w.alloc (.cells M 145)).alloc (.map #[] 0)).alloc (.cells ((newDk n).cells w.heap.size (w.heap.size+1)) 74)) _ _ _ _ _),bel⟩
 have z1:(w.alloc (.cells M 145)).heap.size=w.heap.size+1:=by simp
 have z2:((w.alloc (.cells M 145)).alloc (.map #[] 0)).heap.size=w.heap.size+2:=by simp
 have b1:(((w.alloc (.cells M 145)).alloc (.map #[] 0)).alloc (.cells ((newDk n).cells w.heap.size (w.heap.size+1)) 74)).heap[w.heap.size]?=some (.cells M 145):=by
  rw[Below.heap_alloc _ _ _ (by omega),Below.heap_alloc _ _ _ (by omega)];exact(MapKept.heap_alloc w _).1
 refine⟨?_,?_,?_,?_⟩
 ·rw[← z2];exact(MapKept.heap_alloc _ _).1
 ·refine⟨by simp;omega,fun i hi j v hv=>?_,fun i hi j hj=>⟨?_,by simp[World.frozen?,b1]⟩,fun i hi=>zs64_size,_,_,b1⟩
  ·have hj:j<64:=by have:=(List.getElem?_eq_some_iff.1 hv).1;rw[secL_length] at this;exact this
   rw[Joins.cell_of_block b1,HM.out,madeSec n i j hi hj];exact hv
  ·rw[Joins.cell_of_block b1,HM.out,madeSec n i j hi hj,List.getElem?_eq_getElem (by rw[secL_length,zs64_size];exact hj)];rfl
 ·have:=MapIs.made (w.alloc (.cells M 145))
  rw[z1] at this
  exact this.of_block (Below.heap_alloc _ _ _ (by omega))
 ·omega
end Go.Proofs.YtjlhohljkedbbaaGreat
namespace Go.Proofs
open Go.Shelf
open Go.RowKit in
def Tryz.lays189_ren:Go.Shelf.Ren:=⟨fun |189=>75 |125=>101 |257=>100 |128=>127 |129=>128 |294=>119 |295=>120 |296=>121 |297=>122 |298=>123 |299=>124 |216=>114 |300=>125 |301=>126 |328=>156 |329=>157 |330=>158 |331=>159 |332=>160 |215=>146 |343=>171 |n=>n,fun |28=>45 |3=>3 |46=>150 |0=>0 |51=>189 |53=>70 |4=>4 |183=>183 |182=>182 |131=>156 |5=>5 |9=>9 |218=>219 |222=>209 |228=>236 |229=>64 |n=>n,fun |n=>n⟩
theorem Tryz.lays189:Go.Proofs.Lays.n189 Tryz.prog Tryz.lays189_ren:={
 mixed:=by kernel_rfl
 f125:=Tryz.func101.trans (congrArg some (by kernel_rfl))
 f128:=Tryz.func127.trans (congrArg some (by kernel_rfl))
 f129:=Tryz.func128.trans (congrArg some (by kernel_rfl))
 f189:=Tryz.func75.trans (congrArg some (by kernel_rfl))
 f215:=Tryz.func146.trans (congrArg some (by kernel_rfl))
 f216:=Tryz.func114.trans (congrArg some (by kernel_rfl))
 f257:=Tryz.func100.trans (congrArg some (by kernel_rfl))
 f294:=Tryz.func119.trans (congrArg some (by kernel_rfl))
 f295:=Tryz.func120.trans (congrArg some (by kernel_rfl))
 f296:=Tryz.func121.trans (congrArg some (by kernel_rfl))
 f297:=Tryz.func122.trans (congrArg some (by kernel_rfl))
 f298:=Tryz.func123.trans (congrArg some (by kernel_rfl))
 f299:=Tryz.func124.trans (congrArg some (by kernel_rfl))
 f300:=Tryz.func125.trans (congrArg some (by kernel_rfl))
 f301:=Tryz.func126.trans (congrArg some (by kernel_rfl))
 f328:=Tryz.func156.trans (congrArg some (by kernel_rfl))
 f329:=Tryz.func157.trans (congrArg some (by kernel_rfl))
 f330:=Tryz.func158.trans (congrArg some (by kernel_rfl))
 f331:=Tryz.func159.trans (congrArg some (by kernel_rfl))
 f332:=Tryz.func160.trans (congrArg some (by kernel_rfl))
 f343:=Tryz.func171.trans (congrArg some (by kernel_rfl))
 t0:=Tryz.underlying0
 a0:=Tryz.isAgg0
 z0:=Tryz.sizeOf0
 v0:=Tryz.zeroValue0
 t3:=Tryz.underlying3
 a3:=Tryz.isAgg3
 z3:=Tryz.sizeOf3
 v3:=Tryz.zeroValue3
 t4:=Tryz.underlying4
 a4:=Tryz.isAgg4
 z4:=Tryz.sizeOf4
 v4:=Tryz.zeroValue4
 t5:=Tryz.underlying5
 a5:=Tryz.isAgg5
 z5:=Tryz.sizeOf5
 v5:=Tryz.zeroValue5
 t9:=Tryz.underlying9
 a9:=Tryz.isAgg9
 z9:=Tryz.sizeOf9
 v9:=Tryz.zeroValue9
 t28:=Tryz.underlying45
 a28:=Tryz.isAgg45
 z28:=Tryz.sizeOf45
 v28:=Tryz.zeroValue45
 t46:=Tryz.underlying150
 a46:=Tryz.isAgg150
 z46:=Tryz.sizeOf150
 v46:=Tryz.zeroValue150
 t51:=Tryz.underlying189
 a51:=Tryz.isAgg189
 z51:=Tryz.sizeOf189
 v51:=Tryz.zeroValue189
 t53:=Tryz.underlying70
 a53:=Tryz.isAgg70
 z53:=Tryz.sizeOf70
 v53:=Tryz.zeroValue70
 t131:=Tryz.underlying156
 a131:=Tryz.isAgg156
 z131:=Tryz.sizeOf156
 v131:=Tryz.zeroValue156
 t182:=Tryz.underlying182
 a182:=Tryz.isAgg182
 z182:=Tryz.sizeOf182
 v182:=Tryz.zeroValue182
 t183:=Tryz.underlying183
 a183:=Tryz.isAgg183
 z183:=Tryz.sizeOf183
 v183:=Tryz.zeroValue183
 t218:=Tryz.underlying219
 a218:=Tryz.isAgg219
 z218:=Tryz.sizeOf219
 v218:=Tryz.zeroValue219
 t222:=Tryz.underlying209
 a222:=Tryz.isAgg209
 z222:=Tryz.sizeOf209
 v222:=Tryz.zeroValue209
 t228:=Tryz.underlying236
 a228:=Tryz.isAgg236
 z228:=Tryz.sizeOf236
 v228:=Tryz.zeroValue236
 t229:=Tryz.underlying64
 a229:=Tryz.isAgg64
 z229:=Tryz.sizeOf64
 v229:=Tryz.zeroValue64}
open Go.Sort Go.RowKit in
theorem Tryz.slices_Sort_int (blk off cap:Nat) (zs:List Int) (w:World) (hH:Holds (Value.int .i64) w blk off zs.toArray) (hblk:blk<w.heap.size) (hsz:zs.length<4611686018427387904) :
  Calls Tryz.prog 75 #[.slice (some ⟨blk,off,none⟩) zs.length cap] w fun e w' =>
   e=.returned (.tuple #[])/\∃ n os,w'=grow (putRow (Value.int .i64) (Sort.ahead w n) blk off (zs.mergeSort fun x y=>decide (x<=y)).toArray) os:=Any.slices_Sort_int Tryz.lays189 blk off cap zs w hH hblk hsz
open Go.Sort Go.RowKit in
def Tryz.laysNm215_ren:Go.Shelf.Ren:=⟨fun |15=>42 |n=>n,fun |22=>45 |3=>3 |4=>4 |n=>n,fun |n=>n⟩
theorem Tryz.laysNm215:Go.Proofs.Lays2.n15 Tryz.prog Tryz.laysNm215_ren:={
 mixed:=by kernel_rfl
 f15:=Tryz.func42.trans (congrArg some (by kernel_rfl))
 t3:=Tryz.underlying3
 a3:=Tryz.isAgg3
 z3:=Tryz.sizeOf3
 v3:=Tryz.zeroValue3
 t4:=Tryz.underlying4
 a4:=Tryz.isAgg4
 z4:=Tryz.sizeOf4
 v4:=Tryz.zeroValue4
 t22:=Tryz.underlying45
 a22:=Tryz.isAgg45
 z22:=Tryz.sizeOf45
 v22:=Tryz.zeroValue45
 i3:=by kernel_rfl}
open Go.RowKit Go.Lib in
theorem Tryz.slices_Clone_int (b off n c:Nat) (zs:List Int) (w:World) (hz:n<=zs.length) (hbig:n*8<=140737488355328) (hc:∀ j,j<zs.length->w.cell? ⟨b,off+j,none⟩=some (.int .i64 (zs.getD j 0))) :
  Calls Tryz.prog 42 #[.slice (some ⟨b,off,none⟩) n c] w fun e w'=>∃ v',e=.returned v'/\w'.ownsRow w.heap.size 3 1 v' n ((zs.take n).map (Value.int .i64))/\v'≠.slice none 0 0/\Below w.heap.size w w':=Any.slices_Clone_int Tryz.laysNm215 b off n c zs w hz hbig hc
open Go.RowKit Go.Lib in
theorem Tryz.slices_Clone_int_nil (n c:Nat) (w:World) :
  Calls Tryz.prog 42 #[.slice none n c] w fun e w'=>e=.returned (.slice none 0 0)/\w'=w:=Any.slices_Clone_int_nil Tryz.laysNm215 n c w
open Go.RowKit Go.Lib in
def Tryz.laysNm225_ren:Go.Shelf.Ren:=⟨fun |25=>93 |31=>114 |32=>115 |37=>146 |n=>n,fun |22=>45 |3=>3 |4=>4 |40=>150 |0=>0 |n=>n,fun |n=>n⟩
theorem Tryz.laysNm225:Go.Proofs.Lays2.n25 Tryz.prog Tryz.laysNm225_ren:={
 mixed:=by kernel_rfl
 f25:=Tryz.func93.trans (congrArg some (by kernel_rfl))
 f31:=Tryz.func114.trans (congrArg some (by kernel_rfl))
 f32:=Tryz.func115.trans (congrArg some (by kernel_rfl))
 f37:=Tryz.func146.trans (congrArg some (by kernel_rfl))
 t0:=Tryz.underlying0
 a0:=Tryz.isAgg0
 z0:=Tryz.sizeOf0
 v0:=Tryz.zeroValue0
 t3:=Tryz.underlying3
 a3:=Tryz.isAgg3
 z3:=Tryz.sizeOf3
 v3:=Tryz.zeroValue3
 t4:=Tryz.underlying4
 a4:=Tryz.isAgg4
 z4:=Tryz.sizeOf4
 v4:=Tryz.zeroValue4
 t22:=Tryz.underlying45
 a22:=Tryz.isAgg45
 z22:=Tryz.sizeOf45
 v22:=Tryz.zeroValue45
 t40:=Tryz.underlying150
 a40:=Tryz.isAgg150
 z40:=Tryz.sizeOf150
 v40:=Tryz.zeroValue150}
open Go.RowKit Go.Lib in
theorem Tryz.slices_BinarySearch_int (b off n c:Nat) (zs:List Int) (x:Int) (w:World) (hz:n<=zs.length) (hbig:n<4611686018427387904) (hc:∀ j,j<zs.length->w.cell? ⟨b,off+j,none⟩=some (.int .i64 (zs.getD j 0))) (hs:(zs.take n).Pairwise (·<=·)) :
  Calls Tryz.prog 93 #[.slice (some ⟨b,off,none⟩) n c,.int .i64 x] w fun e w'=>e=.returned (.tuple #[.int .i64 ((zs.take n).countP (·<x):Nat),.bool ((zs.take n).contains x)])/\∃ q,w'=w.drewN q:=Any.slices_BinarySearch_int Tryz.laysNm225 b off n c zs x w hz hbig hc hs
open Go.RowKit Go.Lib in
theorem Tryz.slices_BinarySearch_int_empty (a:Option Addr) (c:Nat) (x:Int) (w:World) :
  Calls Tryz.prog 93 #[.slice a 0 c,.int .i64 x] w fun e w'=>e=.returned (.tuple #[.int .i64 0,.bool false])/\w'=w:=Any.slices_BinarySearch_int_empty Tryz.laysNm225 a c x w
end Go.Proofs
namespace Go.Proofs.YtjlhohljkedbbaaGreat
open Go.RowKit Go.Maps Go.ChangeMaps Go.Sort
variable {w w':World}{db lb mb m:Nat}{S:Dk}
def Dk.waitL (S:Dk):List Nat:=(List.range S.n).filter (fun i=>(S.wait i).isSome)
theorem waitL_mem {S:Dk} (hS:S.Ok) (i:Nat):i∈S.waitL↔(S.wait i).isSome=true:=by
 simp only[Dk.waitL,List.mem_filter,List.mem_range]
 refine⟨fun h=>h.2,fun h=>⟨?_,h⟩⟩
 obtain⟨c,hc⟩:=Option.isSome_iff_exists.1 h
 exact(hS.wait i c hc).1
theorem waitL_sorted (S:Dk):S.waitL.Pairwise (·<·):=List.pairwise_lt_range.filter _
theorem waitL_length (S:Dk):S.waitL.length<=S.n:=by
 have:=List.length_filter_le (fun i=>(S.wait i).isSome) (List.range S.n)
 simpa[Dk.waitL] using this
theorem sort_eq (ss L:List Nat) (hp:ss.Perm L) (hL:L.Pairwise (·<·)):(ss.map (fun x:Nat=>(x:Int))).mergeSort (fun x y=>decide (x<=y))=L.map (fun x:Nat=>(x:Int)):=by
 have tr:∀ a b c:Int,decide (a<=b)=true->decide (b<=c)=true->decide (a<=c)=true:=fun a b c h1 h2=>by simp only[decide_eq_true_eq] at *;omega
 have to:∀ a b:Int,(decide (a<=b)||decide (b<=a))=true:=fun a b=>by simp only[Bool.or_eq_true,decide_eq_true_eq];omega
 refine List.Perm.eq_of_pairwise (le:=fun a b:Int=>decide (a<=b)=true) (fun a b _ _ h1 h2=>?_) (List.pairwise_mergeSort tr to _) ?_ ((List.mergeSort_perm _ _).trans (hp.map _))
 ·simp only[decide_eq_true_eq] at h1 h2;omega
 ·refine List.pairwise_map.2 (hL.imp fun h=>?_)
  simp only[decide_eq_true_eq];omega
def Coll (S:Dk) (left:Lit->Bool) (ss:List Nat):Prop:=ss.Nodup/\∀ i:Nat,i∈ss↔((S.wait i).isSome=true/\left (.int .i64 (i:Int))=false)
theorem Coll.start {D:DataW Unit} (hv:MapV D S.wait):Coll S (Maps.has D) []:=⟨List.nodup_nil,fun i=>by rw[hv.has];cases (S.wait i).isSome <;> simp⟩
theorem Coll.step {left:Lit->Bool} {ss:List Nat} (h:Coll S left ss) {i:Nat} (hi:(S.wait i).isSome=true) (hl:left (.int .i64 (i:Int))=true):Coll S (fun z=>left z&&!z.sameKey (.int .i64 (i:Int))) (ss++[i]):=by
 have hnew:i ∉ ss:=fun hx=>by have:=((h.2 i).1 hx).2;rw[hl] at this;cases this
 refine⟨List.nodup_append.2 ⟨h.1,by simp,fun a ha b hb=>by simp at hb;subst hb;exact fun e=>hnew (e ▸ ha)⟩,fun j=>?_⟩
 by_cases hj:j=i
 ·subst hj;simp[hi,Lit.sameKey]
 ·have:¬ ((j:Int)=(i:Int)):=by omega
  simp[h.2 j,hj,Lit.sameKey,this]
theorem Coll.perm {left:Lit->Bool} {ss:List Nat} (h:Coll S left ss) (hS:S.Ok) (hl:∀ kl,left kl=false):ss.Perm S.waitL:=by
 refine(List.perm_ext_iff_of_nodup h.1 ((waitL_sorted S).imp (fun h=>by omega))).2 fun i=>?_
 rw[h.2 i,hl,waitL_mem hS];simp
set_option maxHeartbeats 2000000 in
theorem Waiting_any (w:World) (h:DkIs w db lb mb m S) (hS:S.Ok) (hm:m<=10000000000000):Calls Tryz.prog 166 #[.pointer (some ⟨db,0,none⟩)] w fun e w' =>
  ∃ (a:Option Addr) (g cap:Nat),e=.returned (.slice a S.waitL.length cap)/\(a=none/\S.waitL=[]∨a=some ⟨g,0,none⟩)/\w.heap.size<=g/\(∀ k (hk:k<S.waitL.length),w'.cell? ⟨g,k,none⟩=some (.int .i64 ((S.waitL[k]:Nat):Int)))/\Below w.heap.size w w':=by
 obtain⟨i0,hi,hz0,hz1,hz2⟩:=info_parts (show(Tryz.prog.info? 3).map (fun i=>(i.zero,i.size,i.bytes))=some (some (.int .i64 0),1,8) by kernel_rfl)
 have hc1:=h.c1
 have H:Hid _:=h
 obtain⟨D,hown,hv⟩:=h.map
 have hbl:=hown.lt
 have hn2:=hS.n2
 have hn1:=hS.n1
 clear h
 go_enter Tryz.func166,Tryz.ntmps166
 go_wp2_with (first
  | (go_at_call 56;refine(isMade_any _ H.out hn1).mono ?_;rintro e w' ⟨rfl,rfl⟩)
  | (at_range;refine wpList_range_own _ rfl _ 69 rfl 3 145 law3 Tryz.underlying69 _ mb m _ rfl hown ?_;intro w0 hrg0 hg0 hs0))
 go_frame
 go_loopw [3] (fun v wr=>∃ (left:Lit->Bool) (cnt:Nat) (ss:List Nat),wr.ranges Tryz.prog 3 secR mb w'.heap.size m D left cnt/\ss.length+cnt<=m/\Hid (Coll S left ss) /\
   wr.ownsRow w'.heap.size 3 1 v ss.length (ss.map (fun x:Nat=>Value.int .i64 (x:Int)))/\Below w'.heap.size w' wr)
  (fun _ wr=>wr.rangeLeft mb w'.heap.size)
 case atStart =>
  exact⟨_,_,[],hrg0,by simpa using hown.size_le,Coll.start hv,⟨rfl,.inl ⟨rfl,rfl⟩⟩,(Below.refl _ _).grown hg0 (Nat.le_refl _) (fun j hj=>by cases hj)⟩
 case round =>
  obtain⟨left,cnt,ss,hrg,hcm,hC,hrow,hnx⟩:=hrel
  have hss:ss.length<=10000000000000:=by omega
  go_wp2_with (first
   | (at_next;refine wpList_next_ranges _ rfl _ rfl 3 law3 secR (Value.int .i64) Value.agg (fun key kl hk=>by obtain⟨x,hx,_⟩:=Maps.keyOf_int_inv Tryz.underlying3 hk;exact⟨x,hx⟩) (fun v y hv=>secR_agg hv) mb w'.heap.size m _ _ _ rfl hrg ?_ ?_))
  ·intro hc0 hl0
   have hp:=hC.out.perm hS hl0
   have hlen:=hp.length_eq
   rcases hrow.2 with⟨rfl,hz⟩ |⟨g,cap,cur,rfl,hbase,hb,h1,h2,h3,h4⟩
   ·have hnil:S.waitL=[]:=List.eq_nil_of_length_eq_zero (by omega)
    go_wp2_with (go_at_call 75;refine(Any.slices_Sort_int_none Tryz.lays189 none 0 _).mono ?_;rintro e w1 ⟨rfl,hw1⟩)
    go_ret
    subst hw1
    exact⟨none,w'.heap.size,0,by rw[hnil];rfl,Or.inl ⟨rfl,hnil⟩,Nat.le_refl _,fun k hk=>by rw[hnil] at hk;simp at hk,hnx⟩
   ·have hlc:((ss.map (fun x:Nat=>(x:Int)))).length=ss.length:=by simp
    have hmm:(ss.map (fun x:Nat=>(x:Int))).map (Value.int .i64)=ss.map (fun x:Nat=>Value.int .i64 (x:Int)):=by simp
    have hH:Holds (Value.int .i64) wr g 0 (ss.map (fun x:Nat=>(x:Int))).toArray:=holds_of_blockI hb (by rw[hlc,hmm];simpa using h4)
    have hgl:g<wr.heap.size:=(Array.getElem?_eq_some_iff.1 hb).1
    have hc:=Tryz.slices_Sort_int g 0 cap (ss.map (fun x:Nat=>(x:Int))) wr hH hgl (by rw[hlc];omega)
    rw[hlc,sort_eq ss S.waitL hp (waitL_sorted S)] at hc
    have HC:Hid (Calls Tryz.prog 75 #[.slice (some ⟨g,0,none⟩) ss.length cap] wr fun e w'=>e=.returned (.tuple #[])/\∃ n os,w'=grow (putRow (Value.int .i64) (Sort.ahead wr n) g 0 (S.waitL.map (fun x:Nat=>(x:Int))).toArray) os):=hc
    have HL:Hid _:=hlen
    clear hc hlen hlc hmm
    go_wp2_with (go_at_call 75;refine HC.out.mono ?_;rintro e w1 ⟨rfl,nn,os,rfl⟩)
    go_ret
    have hlen:=HL.out
    have hlc:((ss.map (fun x:Nat=>(x:Int)))).length=ss.length:=by simp
    refine⟨_,g,cap,by rw[← hlen];rfl,Or.inr rfl,hbase,fun k hk=>?_,hnx.grown (grownBy_sortedI _) hnx.size (fun j hj=>by cases hj;exact hbase)⟩
    have hr:=ownsRow_sortedI (n:=nn) (os:=os) (ts:=S.waitL.map (fun x:Nat=>(x:Int))) (ss:=ss.map (fun x:Nat=>(x:Int))) (by simp[hlen]) hbase hb (by rw[hlc];exact h1) h2 h3
    have:=hr.cellAt k (by simp[hlen];exact hk)
    rw[this]
    simp[hk]
  ·intro x c kl yd yp w2 cnt2 hkey hlk hv2 hat hrg2 hlt hg2 hs2 hen
   obtain⟨x',ex,rfl,_⟩:=Maps.keyOf_int_inv Tryz.underlying3 hkey
   cases ex
   obtain⟨i,hix⟩:=hv.keys _ (has_true_of_atKey hat)
   have hxi:x=(i:Int):=by simpa using hix
   subst hxi
   have hwi:(S.wait i).isSome=true:=by rw[← hv.has];exact has_true_of_atKey hat
   have hrow2:=hrow.kept hg2 (Or.inr (row_ne_iter hrow hrg).symm)
   clear hs2
   go_wp2_with (first
    | (at_builtin;refine wpList_append_own _ rfl _ _ 45 rfl w'.heap.size 3 i0 (.int .i64 0) 1 8 Tryz.underlying45 hi hz0 hz1 hz2 rfl (by decide) _ _ _ rfl (hrow2.alloc _) ⟨w2.heap.size,0,none⟩ 1 1 [.int .i64 (i:Int)] rfl rfl (cell_one_new _ _ _) (by simp[Value.oneCell']) (by unfold maxLen at *;omega) (by omega) (by have:=hnx.size;have:=hg2.size;simp;omega) ?_;intro v' w3 hown' hg3 hnil3;go_frame))
   have hrg3:=(hrg2.alloc _).kept hg3 (row_ne_low hrow2 hbl) (row_ne_iter hrow2 hrg2)
   go_roundw
   case rel =>
    refine⟨_,cnt2,ss++[i],hrg3,by simp;omega,hC.out.step hwi hlk,by simpa using hown',?_⟩
    exact((hnx.grown hg2 hnx.size (fun j hj=>by cases hj;exact Nat.le_refl _)).alloc (by have:=hnx.size;have:=hg2.size;omega) _).grown hg3 (by have:=hnx.size;have:=hg2.size;simp;omega) (fun j hj=>(hrow2.lt j hj).1)
   case measure=>rw[hrg3.left_eq,hrg.left_eq];exact hlt
open Go.RowKit Go.Maps Go.ChangeMaps
variable {w w':World}{db lb mb m:Nat}{S:Dk}
theorem wpList_alloc64 {ops:Array Oper} {rest:List Oper} {o:Oper} {a:Act} {Q:Exit->Act->World->Prop} (w:World) (hg:o.guard=none) (hop:o.op=Op.alloc 145)
  (h:wpList Tryz.prog ops Q rest (a.put o.dst (.pointer (some ⟨w.heap.size,0,none⟩))) (w.alloc (.cells (secL zs64).toArray 145))):wpList Tryz.prog ops Q (o ::rest) a w:=by
 refine wpList_plain hg fun K' hK'=>?_
 unfold Oper.wp
 simp[execOp,hop,Instr.alloc,zero64,Result.andThen,secV,Value.cells]
 exact hK' _ _ h
theorem wpList_store_new64 {ops:Array Oper} {rest:List Oper} {o:Oper} {a:Act} {Q:Exit->Act->World->Prop} (w:World) (C:Array Value) (hg:o.guard=none) (x y:Operand) (hop:o.op=Op.store 145 x y)
  (hx:a.eval x=.pointer (some ⟨w.heap.size,0,none⟩)) (c:ByteArray) (hy:a.eval y=secV c) (hc:c.size=64) (hC:C.size=64)
  (h:wpList Tryz.prog ops Q rest (a.put o.dst undef) (w.alloc (.cells (secL c).toArray 145))):wpList Tryz.prog ops Q (o ::rest) a (w.alloc (.cells C 145)):=by
 refine wpList_plain hg fun K' hK'=>?_
 have hs:(secL c).toArray.size=64:=by simp[secL_length,hc]
 have hrun:=run_storeAt_new (P:=Tryz.prog) w 145 C (secL c).toArray (by rw[hs];exact info64) (by rw[hC,hs]) (all_oneCell_toArray (secL_one c))
 unfold Oper.wp
 simp[execOp,hop,hx,hy,secV,hrun,Result.andThen]
 exact hK' _ _ h
theorem wpList_load64 {ops:Array Oper} {rest:List Oper} {o:Oper} {a:Act} {Q:Exit->Act->World->Prop} (w:World) (hg:o.guard=none) (x:Operand) (hop:o.op=Op.load 145 x)
  (b of:Nat) (hx:a.eval x=.pointer (some ⟨b,of,none⟩)) (c:ByteArray) (hc:c.size=64) (hr:w.rangeAt b of (secL c))
  (h:wpList Tryz.prog ops Q rest (a.put o.dst (secV c)) w):wpList Tryz.prog ops Q (o ::rest) a w :=
 wpList_load_mid hg 145 x hop b of hx (secL c) _ hr row64 rfl (by rw[secL_length,hc];exact info64) h
def Dk.now (S:Dk) (i:Nat):ByteArray:=(S.wait i).getD (S.sure i)
theorem zsz:(secL zs64).toArray.size=64:=by simp[secL_length,zs64_size]
theorem conv64 {w:World} {b:Nat} {c:ByteArray} (hc:c.size=64) (h:w.rangeAt b 0 (secL c)):(convert 76 9 (.slice (some ⟨b,0,none⟩) 64 64)).run Tryz.prog w=.ok (.string c) w:=by
 have:=Lib.run_convert_whole (P:=Tryz.prog) w 76 5 9 Tryz.underlying76 Tryz.underlying5 Tryz.underlying9 b 0 c (fun i hi=>by
  have:=h i _ (secL_get c i hi)
  simpa using this) 64
 rw[hc] at this
 exact this
theorem rangeAt_new (w:World) (c:ByteArray):(w.alloc (.cells (secL c).toArray 145)).rangeAt w.heap.size 0 (secL c):=fun j v hv=>by
 rw[Joins.cell_of_block (MapKept.heap_alloc w _).1];simpa using hv
set_option maxHeartbeats 1000000 in
theorem Read_any (w:World) (h:DkIs w db lb mb m S) (hS:S.Ok) (i:Nat) (hi:i<S.n) (hu:S.up=true):Calls Tryz.prog 57 #[.pointer (some ⟨db,0,none⟩),.int .i64 (i:Int)] w fun e w'=>e=.returned (.tuple #[.string (S.now i),.int .i64 0])/\Below w.heap.size w w':=by
 have hc0:=h.c0
 have hc1:=h.c1
 have C:Hid (∀ w,DkIs w db lb mb m S->Calls Tryz.prog 83 #[.pointer (some ⟨db,0,none⟩),.int .i64 (i:Int)] w fun e w'=>e=.returned (.int .i64 0)/\w'=w):=fun w h=>by
  have:=refusalAt_any w h hS.n1 (i:Int)
  have e:refAt S.up S.n i=0:=by simp[refAt,hu];omega
  rwa [e] at this
 have hlk:=h.map.look (show i<8192 by have:=hS.n2;omega)
 have hrow:=h.row.at_ i hi
 have hsz:=h.row.size i hi
 have hws:=hS.wait i
 have H:Hid _:=h
 clear h
 obtain⟨s,hs⟩:∃ s,s=S.sure i:=⟨_,rfl⟩
 have hnow:S.now i=(S.wait i).getD s:=by rw[hs];rfl
 rw[hnow]
 rw[← hs] at hrow hsz
 clear hs hnow
 have hlt:=H.out.row.lt
 have hn2:=hS.n2
 cases hw:S.wait i with
 | some c =>
  rw[hw] at hlk
  have hcz:=(hws c hw).2
  clear hws hrow
  simp only[Option.getD_some,Option.isSome_some] at hlk ⊢
  have hcv:=conv64 hcz (rangeAt_new w c)
  go_enter Tryz.func57,Tryz.ntmps57
  go_wp2_with (first |(go_at_call 83;refine(C.out _ H.out).mono ?_;rintro e w' ⟨rfl,rfl⟩) |(refine wpList_alloc64 _ rfl rfl ?_) |(refine wpList_store_new64 _ _ rfl _ _ rfl rfl c rfl hcz zsz ?_))
  go_ret2
  exact⟨rfl,(Below.refl _ _).alloc (Nat.le_refl _) _⟩
 | none =>
  rw[hw] at hlk
  clear hws
  simp only[Option.getD_none,Option.isSome_none] at hlk ⊢
  have hcv:=conv64 hsz (rangeAt_new w s)
  have hrow':=fun o=>World.rangeAt_alloc hrow o
  have hiI:(i:Int)<(S.n:Int):=by omega
  have hdl:=H.out.lt
  have hc0':∀ o,(w.alloc o).cell? ⟨db,0,none⟩=some (.slice (some ⟨lb,0,none⟩) S.n S.n):=fun o=>by rw[World.cell?_alloc_lt _ _ _ hdl];exact hc0
  go_enter Tryz.func57,Tryz.ntmps57
  go_wp2_with (first |(go_at_call 83;refine(C.out _ H.out).mono ?_;rintro e w' ⟨rfl,rfl⟩) |(refine wpList_alloc64 _ rfl rfl ?_) |(refine wpList_store_new64 _ _ rfl _ _ rfl rfl zs64 rfl zs64_size zsz ?_) |(refine wpList_store_new64 _ _ rfl _ _ rfl rfl s rfl hsz zsz ?_) |(refine wpList_load64 _ rfl _ rfl lb (i*64) rfl s hsz (hrow' _) ?_))
  go_ret2
  exact⟨rfl,(Below.refl _ _).alloc (Nat.le_refl _) _⟩
variable {w w':World}{db lb mb m:Nat}{S:Dk}
def bitK (keep:Int) (k:Nat):Bool:=decide (keep / 2 ^ (k % 64) % 2=1)
def rank (f:Nat->Option ByteArray) (i:Nat):Nat:=((List.range i).filter (fun j=>(f j).isSome)).length
def lossF (sure:Nat->ByteArray) (wait:Nat->Option ByteArray) (keep:Int) (i:Nat):ByteArray :=
 match wait i with
 | none=>sure i
 | some c=>if bitK keep (rank wait i) then c else sure i
def lossK (S:Dk) (keep:Int) (k:Nat) (i:Nat):ByteArray:=if i∈S.waitL.take k then lossF S.sure S.wait keep i else S.sure i
theorem rank_at (f:Nat->Option ByteArray):∀ (n k i:Nat),((List.range n).filter (fun j=>(f j).isSome))[k]?=some i->i<n/\(f i).isSome=true/\rank f i=k
 | 0,k,i,h=>by simp at h
 | n+1,k,i,h=>by
  rw[List.range_succ,List.filter_append] at h
  by_cases hk:k<((List.range n).filter (fun j=>(f j).isSome)).length
  ·rw[List.getElem?_append_left hk] at h
   obtain⟨h1,h2,h3⟩:=rank_at f n k i h
   exact⟨by omega,h2,h3⟩
  ·rw[List.getElem?_append_right (by omega)] at h
   by_cases hn:(f n).isSome=true
   ·have e:[n].filter (fun j=>(f j).isSome)=[n]:=by simp[hn]
    rw[e] at h
    have hk0:k-((List.range n).filter (fun j=>(f j).isSome)).length=0:=by
     rcases Nat.eq_zero_or_pos (k-((List.range n).filter (fun j=>(f j).isSome)).length) with h0 |h0
     ·exact h0
     ·rw[List.getElem?_eq_none (by simp;omega)] at h;cases h
    rw[hk0] at h
    simp at h
    subst h
    exact⟨by omega,hn,by unfold rank;omega⟩
   ·have e:[n].filter (fun j=>(f j).isSome)=[]:=by simp[hn]
    rw[e] at h
    simp at h
theorem lossK_zero (S:Dk) (keep:Int):lossK S keep 0=S.sure:=by funext i;simp[lossK]
theorem lossK_all {S:Dk} (hS:S.Ok) (keep:Int):lossK S keep S.waitL.length=lossF S.sure S.wait keep:=by
 funext i
 simp only[lossK,List.take_length]
 split
 ·rfl
 ·rename_i h
  have:S.wait i=none:=by
   cases hw:S.wait i with
   | none=>rfl
   | some c=>exact absurd ((waitL_mem hS i).2 (by rw[hw];rfl)) h
  simp[lossF,this]
theorem lossK_step {S:Dk} (keep:Int) {k:Nat} (hk:k<S.waitL.length) {c:ByteArray} (hc:S.wait S.waitL[k]=some c) :
  lossK S keep (k+1)=if bitK keep k then upd (lossK S keep k) S.waitL[k] c else lossK S keep k:=by
 obtain⟨h1,h2,h3⟩:=rank_at S.wait S.n k S.waitL[k] (by rw[show(List.range S.n).filter (fun j=>(S.wait j).isSome)=S.waitL from rfl,List.getElem?_eq_getElem hk])
 have hnew:S.waitL[k] ∉ S.waitL.take k:=fun hm=>by
  obtain⟨j,hj,he⟩:=List.mem_take_iff_getElem.1 hm
  have:=List.pairwise_iff_getElem.1 (waitL_sorted S) j k (by omega) hk (by omega)
  rw[he] at this;omega
 have hl:lossF S.sure S.wait keep S.waitL[k]=if bitK keep k then c else S.sure S.waitL[k]:=by
  rw[lossF,hc,h3]
 funext i
 have ht:S.waitL.take (k+1)=S.waitL.take k++[S.waitL[k]]:=List.take_succ_eq_append_getElem hk
 by_cases hi:i=S.waitL[k]
 ·subst hi
  have hin:S.waitL[k]∈S.waitL.take (k+1):=by rw[ht];exact List.mem_append_right _ List.mem_cons_self
  cases hb:bitK keep k
  ·have e1:lossK S keep (k+1) S.waitL[k]=lossF S.sure S.wait keep S.waitL[k]:=if_pos hin
   have e2:lossK S keep k S.waitL[k]=S.sure S.waitL[k]:=if_neg hnew
   rw[e1,hl,hb]
   simp only[Bool.false_eq_true,if_false]
   exact e2.symm
  ·have e1:lossK S keep (k+1) S.waitL[k]=lossF S.sure S.wait keep S.waitL[k]:=if_pos hin
   rw[e1,hl,hb]
   simp only[if_true,upd_same]
 ·have e1:i∈S.waitL.take (k+1)↔i∈S.waitL.take k:=by rw[ht,List.mem_append,List.mem_singleton];exact⟨fun h=>h.resolve_right hi,Or.inl⟩
  cases hb:bitK keep k
  ·simp only[Bool.false_eq_true,if_false]
   unfold lossK
   simp only[e1]
  ·simp only[if_true,upd_other _ _ hi]
   unfold lossK
   simp only[e1]
def offDk (S:Dk) (keep:Int):Dk:={S with sure:=lossF S.sure S.wait keep,wait:=fun _=>none,up:=false,set:=false,left:=0,keep:=0,downs:=S.downs+1}
set_option maxHeartbeats 2000000 in
theorem powerGoes_any (w:World) (h:DkIs w db lb mb m S) (hS:S.Ok) (hm:m<=10000000000000) (keep:Int) (k0:0<=keep) (k1:keep<=18446744073709551615):Calls Tryz.prog 145 #[.pointer (some ⟨db,0,none⟩),.int .u64 keep] w fun e w' =>
  e=.returned (.tuple #[])/\DkIs w' db lb mb 0 (offDk S keep)/\Off (disk3 db lb mb) w w':=by
 have hdb:=h.lt
 have hlb:=h.row.lt
 have hmb:=h.map.lt
 have H:Hid _:=h
 have C:Hid (∀ w,DkIs w db lb mb m S->_):=fun w h=>Waiting_any w h hS hm
 have hL:=waitL_length S
 have hn2:=hS.n2
 clear h
 go_enter Tryz.func145,Tryz.ntmps145
 go_wp2_with (go_at_call 166;refine(C.out _ H.out).mono ?_;rintro e w1 ⟨a,g,cap,rfl,hag,hg,hcell,hbel⟩)
 go_loopw [9] (fun kv wr=>∃ k:Nat,kv=.int .i64 (k:Int)/\k<=S.waitL.length/\DkIs wr db lb mb m {S with sure:=lossK S keep k}/\Off (disk3 db lb mb) w1 wr) (fun kv _=>S.waitL.length-(intOf kv).toNat)
 case atStart =>
  exact⟨0,rfl,Nat.zero_le _,by rw[lossK_zero];exact H.out.below hbel,Off.refl _ _⟩
 case round =>
  obtain⟨k,rfl,hk,hD,hoff⟩:=hrel
  by_cases hkl:k<S.waitL.length
  ·have ha:a=some ⟨g,0,none⟩:=by
    rcases hag with⟨_,hnil⟩ |h
    ·rw[hnil] at hkl;simp at hkl
    ·exact h
   subst ha
   have hcl:=hcell k hkl
   have hg1:g<w1.heap.size:=World.block_lt_of_cell? _ _ hcl
   have hck:wr.cell? ⟨g,k,none⟩=some (.int .i64 ((S.waitL[k]:Nat):Int)):=by
    rw[hoff.cell hg1 (d3_not hdb hlb hmb hg)];exact hcl
   obtain⟨i,hi⟩:∃ i,i=S.waitL[k]:=⟨_,rfl⟩
   rw[← hi] at hck
   have hkI:(k:Int)<(S.waitL.length:Int):=by omega
   have hwi:(S.wait i).isSome=true:=by rw[hi];exact(waitL_mem hS _).1 (List.getElem_mem hkl)
   obtain⟨c,hc⟩:=Option.isSome_iff_exists.1 hwi
   have hin:=hS.wait i c hc
   have hstep:lossK S keep (k+1)=if bitK keep k then upd (lossK S keep k) i c else lossK S keep k:=by rw[hi];exact lossK_step keep hkl (by rw[← hi];exact hc)
   have HS:Hid _:=hstep
   clear hcell hcl hi hwi hstep
   have hbits:(bits BinOp.and IntKind.u64 (keep / 2 ^ (k % 64)) 1==1)=bitK keep k:=by
    have h0:0<=keep / 2 ^ (k % 64):=Int.ediv_nonneg k0 (Int.pow_nonneg (by decide))
    have h1:keep / 2 ^ (k % 64)<=18446744073709551615:=by
     have:=Int.ediv_le_self (2 ^ (k % 64)) k0
     omega
    rw[and_one_u64 _ h0 h1]
    rfl
   cases hb:bitK keep k
   ·rw[hb] at hbits
    rw[hb] at HS
    go_wp2
    refine⟨⟨k+1,by simp,hkl,?_,hoff⟩,by simp[intOf];omega⟩
    rw[HS.out]
    exact hD
   ·rw[hb] at hbits
    rw[hb] at HS
    have d0:=hD.c0
    have d1:=hD.c1
    have hi2:i<8192:=by omega
    have hiI:(i:Int)<(S.n:Int):=by omega
    obtain⟨cs,hcs⟩:∃ cs,cs=secL c:=⟨_,rfl⟩
    have hcl:cs.length=64:=by rw[hcs,secL_length,hin.2]
    have hone:∀ v∈cs,v.oneCell'=true:=by rw[hcs];exact secL_one c
    have hinf:(Tryz.prog.info? 145).map (·.size)=some cs.toArray.size:=by simp only[List.size_toArray,hcl];exact info64
    have hth:wr.drew.there lb (i*64) cs.toArray.size:=by simp only[List.size_toArray,hcl];rw[World.there_drew];exact hD.row.there i hin.1
    have hlk:(Instr.lookup 69 (.map (some mb)) (.int .i64 (i:Int)) false).run Tryz.prog wr.drew=.ok (.agg cs.toArray) wr.drew:=by
     rw[hcs];exact hD.drew.map.look1 hi2 hc
    have hkk:∀ vs:List Value,(wr.drew.setCells lb (i*64) vs).cell? ⟨db,0,none⟩=some (.slice (some ⟨lb,0,none⟩) S.n S.n)/\(wr.drew.setCells lb (i*64) vs).cell? ⟨db,1,none⟩=some (.map (some mb)):=fun vs =>
     ⟨(World.cell?_of_block (w:=wr) ((setCells_facts lb vs (i*64) wr.drew).2.2.2.2 db hD.ne)).trans d0,(World.cell?_of_block (w:=wr) ((setCells_facts lb vs (i*64) wr.drew).2.2.2.2 db hD.ne)).trans d1⟩
    have HC:Hid _:=hcs
    have HL:Hid _:=hcl
    have HK:Hid _:=hkk
    clear hkk
    clear hcs hcl
    go_wp2
    go_region_held_law (fun w'=>w'.cell? ⟨db,0,none⟩=some (.slice (some ⟨lb,0,none⟩) S.n S.n)/\w'.cell? ⟨db,1,none⟩=some (.map (some mb))) (first |exact⟨d0,d1⟩ |exact HK.out _) (fail)
    go_wp2
    refine⟨⟨k+1,by simp,hkl,?_,hoff.drew.setCells (d3b _ _ _) _ _⟩,by simp[intOf];omega⟩
    rw[HS.out,HC.out]
    exact hD.drew.rowput hS.n1 hin.1 hin.2
  ·have hke:k=S.waitL.length:=by omega
   subst hke
   rw[lossK_all hS] at hD
   obtain⟨w2,hrun,hm2,ht⟩:=hD.map.clear
   have hD2:=hD.turned hS.n1 ht hm2
   have c1:=hD.c1
   have d3:=hD2.c3
   have d4:=hD2.c4
   have d5:=hD2.c5
   have d2:=hD2.c2
   have d7:=hD2.c7
   have df:=hD2.f
   have a0:=hS.d0
   have a1:=hS.d1
   have HD:Hid _:=hD2
   have HT:Hid _:=ht
   clear hD hD2 hcell ht hm2
   have hkI:¬ ((S.waitL.length:Int)<(S.waitL.length:Int)):=by omega
   go_wp2
   go_end0
   have ho:Off (disk3 db lb mb) w w2:=((Off.of_below hbel).trans hoff).turned HT.out (fun _=>d3c _ _ _)
   refine⟨rfl,?_,((((ho.setCell (d3a _ _ _) _ _).setCell (d3a _ _ _) _ _).setCell (d3a _ _ _) _ _).setCell (d3a _ _ _) _ _).setCell (d3a _ _ _) _ _⟩
   exact((((HD.out.setC 3 _ {S with sure:=lossF S.sure S.wait keep,wait:=fun _=>none,set:=false} rfl rfl rfl rfl).setC 4 _ {S with sure:=lossF S.sure S.wait keep,wait:=fun _=>none,set:=false,left:=0} rfl rfl rfl rfl).setC 5 _ {S with sure:=lossF S.sure S.wait keep,wait:=fun _=>none,set:=false,left:=0,keep:=0} rfl rfl rfl rfl).setC 2 _ {S with sure:=lossF S.sure S.wait keep,wait:=fun _=>none,set:=false,left:=0,keep:=0,up:=false} rfl rfl rfl rfl).setC 7 _ (offDk S keep) rfl rfl rfl rfl
theorem offDk_ok {S:Dk} (hS:S.Ok) (keep:Int) (hd:S.downs<10000000000000):(offDk S keep).Ok :=
 ⟨hS.n1,hS.n2,fun i c h=>(by cases h),by simp[offDk],by simp[offDk],by simp[offDk],by simp[offDk],hS.a0,hS.a1,by have:=hS.d0;simp only[offDk];omega,by simp only[offDk];omega⟩
def actE (S:Dk):Int:=if S.set/\S.left=0 then 9 else 0
def actDk (S:Dk):Dk:=if S.set/\S.left=0 then offDk S S.keep else if S.set then {S with left:=S.left-1,acts:=S.acts+1} else {S with acts:=S.acts+1}
theorem act_any (w:World) (h:DkIs w db lb mb m S) (hS:S.Ok) (hm:m<=10000000000000):Calls Tryz.prog 113 #[.pointer (some ⟨db,0,none⟩)] w fun e w' =>
  e=.returned (.int .i64 (actE S))/\DkIs w' db lb mb m (actDk S)/\Off (disk3 db lb mb) w w':=by
 have hc3:=h.c3
 have hc4:=h.c4
 have hc5:=h.c5
 have hc6:=h.c6
 have hf:=h.f
 have a0:=hS.a0
 have a1:=hS.a1
 have l0:=hS.l0
 have l1:=hS.l1
 have C:Hid (∀ w,DkIs w db lb mb m S->Calls Tryz.prog 145 #[.pointer (some ⟨db,0,none⟩),.int .u64 S.keep] w fun e w' =>
  e=.returned (.tuple #[])/\DkIs w' db lb mb 0 (offDk S S.keep)/\Off (disk3 db lb mb) w w'):=fun w h=>powerGoes_any w h hS hm S.keep hS.k0 hS.k1
 have H:Hid _:=h
 clear h
 cases hs:S.set
 ·rw[hs] at hc3
  go_enter Tryz.func113,Tryz.ntmps113
  go_wp2
  go_ret
  have e1:actE S=0:=by simp[actE,hs]
  have e2:actDk S={S with acts:=S.acts+1}:=by simp[actDk,hs]
  rw[e1,e2]
  exact⟨rfl,H.out.setC 6 _ _ rfl rfl rfl rfl,(Off.refl _ _).setCell (d3a _ _ _) _ _⟩
 ·rw[hs] at hc3
  by_cases hl:S.left=0
  ·have e1:actE S=9:=by simp[actE,hs,hl]
   have e2:actDk S=offDk S S.keep:=by simp[actDk,hs,hl]
   rw[e1,e2]
   rw[hl] at hc4
   go_enter Tryz.func113,Tryz.ntmps113
   go_wp2_with (go_at_call 145;refine(C.out _ H.out).mono ?_;rintro e w1 ⟨rfl,hD,ho⟩)
   go_ret
   exact⟨rfl,hD.mono (Nat.zero_le _),ho⟩
  ·have e1:actE S=0:=by simp[actE,hs,hl]
   have e2:actDk S={S with left:=S.left-1,acts:=S.acts+1}:=by simp[actDk,hs,hl]
   rw[e1,e2]
   have hl':(S.left==0)=false:=by simpa using hl
   go_enter Tryz.func113,Tryz.ntmps113
   go_wp2
   go_ret
   exact⟨rfl,(H.out.setC 4 (.int .i64 (S.left-1)) {S with left:=S.left-1} rfl rfl rfl rfl).setC 6 _ _ rfl rfl rfl rfl,((Off.refl _ _).setCell (d3a _ _ _) _ _).setCell (d3a _ _ _) _ _⟩
theorem actDk_ok {S:Dk} (hS:S.Ok) (hd:S.downs<10000000000000) (ha:S.acts<10000000000000):(actDk S).Ok:=by
 unfold actDk
 split
 ·exact offDk_ok hS _ hd
 ·split
  ·rename_i h1 h2
   have:S.left≠0:=fun e=>h1 ⟨h2,e⟩
   have:=hS.l0
   have:=hS.l1
   have:=hS.a0
   exact⟨hS.n1,hS.n2,hS.wait,by simp only[];omega,by simp only[];omega,hS.k0,hS.k1,by simp only[];omega,by simp only[];omega,hS.d0,hS.d1⟩
  ·have:=hS.a0
   exact⟨hS.n1,hS.n2,hS.wait,hS.l0,hS.l1,hS.k0,hS.k1,by simp only[];omega,by simp only[];omega,hS.d0,hS.d1⟩
end Go.Proofs.YtjlhohljkedbbaaGreat
