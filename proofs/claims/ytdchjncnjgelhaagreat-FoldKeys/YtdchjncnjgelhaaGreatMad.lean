import Derived.Test.YtdchjncnjgelhaaGreatMaa
import Derived.Laws.StructEq
import Derived.Test.YtdchjncnjgelhaaGreatMac
import Derived.BigRegion
import Derived.BigQuiet
import Derived.Deep.LoopGhost
import Derived.Shelf.SlGeneric
import Derived.Shelf.SlIter.Nil
import Derived.Shelf.SlIterI.Nil
import Derived.Shelf.SortM.Plain
import Derived.Shelf.SortM.SortNone
import Derived.Ground.GgzProg
import Derived.Ground.SlgmProg
import Derived.Test.YtdchjncnjgelhaaGreatProg
set_option linter.unusedVariables false
set_option linter.unusedSimpArgs false
set_option maxRecDepth 100000
namespace Go.Proofs.YtdchjncnjgelhaaGreat.Gm
open Go.RowKit
end Go.Proofs.YtdchjncnjgelhaaGreat.Gm
namespace Go.Proofs.YtdchjncnjgelhaaGreat.Fd
open Go.RowKit Gm Go.Maps
def sumG (G:List Gt):Nat:=(G.map fun g=>g.ks.length).sum
structure Bd (s:Fs) (i:Nat):Prop where
 wt:s.K.length+sumG s.G<=i
 gl:s.G.length<=i
 n0:0<=s.n
 n1:s.n<=i
theorem Bd.zero:Bd ⟨[],[],0⟩ 0:=⟨by decide,by decide,by decide,by decide⟩
theorem putH_le (ks:List (ByteArray × Hs)) (k:ByteArray) (x:Hs):(putH ks k x).length<=ks.length+1:=by
 unfold putH
 rw[List.length_append,List.length_singleton]
 have:=List.length_filter_le (fun p:ByteArray × Hs=>p.1.data.toList !=k.data.toList) ks
 omega
theorem sumG_drop (G:List Gt) (t:Int):sumG (dropG G t)+(ksG G t).length<=sumG G:=by
 unfold sumG dropG ksG lkG
 induction G with
 | nil=>simp
 | cons g G ih =>
  rw[List.filter_cons,List.find?_cons]
  by_cases h:g.txn=t
  ·have h1:(g.txn !=t)=false:=by simpa using h
   have h2:(g.txn==t)=true:=by simpa using h
   rw[h1,h2]
   simp only[List.map_cons,List.sum_cons,Option.map_some,Option.getD_some,Bool.false_eq_true,if_false]
   have:(List.map (fun g=>g.ks.length) (List.filter (fun g=>g.txn !=t) G)).sum<=(List.map (fun g:Gt=>g.ks.length) G).sum:=by omega
   omega
  ·have h1:(g.txn !=t)=true:=by simpa using h
   have h2:(g.txn==t)=false:=by simpa using h
   rw[h1,h2]
   simp only[List.map_cons,List.sum_cons,if_true]
   omega
theorem cmsK_len (ks:List (ByteArray × Hs)):∀ K,(cmsK K ks).length<=K.length+ks.length:=by
 induction ks with
 | nil=>intro K;simp[cmsK]
 | cons p ks ih =>
  intro K
  have h1:=ih (comK K p.1 p.2)
  have h2:=comK_len K p.1 p.2
  show(cmsK (comK K p.1 p.2) ks).length<=_
  rw[List.length_cons]
  omega
theorem sumG_turn (t:Int) (k:ByteArray) (x:Hs):∀ G:List Gt,(G.Pairwise fun a b=>a.txn≠b.txn)->sumG (G.map (tnG t k x))<=sumG G+1
 | [],_=>by simp[sumG]
 | g :: G,hp=>by
  rw[List.pairwise_cons] at hp
  have ih:=sumG_turn t k x G hp.2
  unfold sumG at ih ⊢
  simp only[List.map_cons,List.sum_cons]
  by_cases h:g.txn=t
  ·have e:G.map (tnG t k x)=G:=by
    conv=>rhs;rw[← List.map_id G]
    refine List.map_congr_left fun y hy=>?_
    unfold tnG
    rw[if_neg (fun e2=>hp.1 y hy (h.trans e2.symm))]
    rfl
   rw[e]
   have h1:=putH_le g.ks k x
   unfold tnG
   rw[if_pos h]
   dsimp only
   omega
  ·have h1:tnG t k x g=g:=by unfold tnG;rw[if_neg h]
   rw[h1]
   omega
theorem sumG_put (G:List Gt) (t:Int) (k:ByteArray) (x:Hs) (hp:G.Pairwise fun a b=>a.txn≠b.txn):sumG (putG G t k x)<=sumG G+1/\(putG G t k x).length<=G.length+1:=by
 unfold putG
 split
 ·exact⟨sumG_turn t k x G hp,by rw[List.length_map];omega⟩
 ·unfold sumG
  rw[List.map_append,List.sum_append,List.length_append]
  simp
theorem Bd.note {s:Fs} {i:Nat} (h:Bd s i) (hp:s.G.Pairwise fun a b=>a.txn≠b.txn) (r:Rc):Bd (noteF s r) (i+1):=by
 have h1:=h.wt
 have h2:=h.gl
 have h3:=h.n0
 have h4:=h.n1
 have hd:=List.length_filter_le (fun g:Gt=>g.txn !=r.tx) s.G
 unfold noteF
 split
 ·have a1:=cmsK_len (ksG s.G r.tx) s.K
  have a2:=sumG_drop s.G r.tx
  exact⟨by dsimp only;omega,by dsimp only;unfold dropG;omega,by dsimp only;omega,by dsimp only;omega⟩
 ·split
  ·have a2:=sumG_drop s.G r.tx
   exact⟨by dsimp only;omega,by dsimp only;unfold dropG;omega,by dsimp only;omega,by dsimp only;omega⟩
  ·cases bhd r with
   | none=>exact⟨by dsimp only;omega,by dsimp only;omega,by dsimp only;omega,by dsimp only;omega⟩
   | some x =>
    obtain⟨a1,a2⟩:=sumG_put s.G r.tx r.ky x hp
    exact⟨by dsimp only;omega,by dsimp only;omega,by dsimp only;omega,by dsimp only;omega⟩
theorem sum_mem {G:List Gt} {g:Gt} (h:g∈G):g.ks.length<=sumG G:=by
 unfold sumG
 induction G with
 | nil=>cases h
 | cons a G ih =>
  rw[List.map_cons,List.sum_cons]
  rcases List.mem_cons.1 h with rfl |h1
  ·omega
  ·have:=ih h1;omega
theorem ksG_le (G:List Gt) (t:Int):(ksG G t).length<=sumG G:=by have:=sumG_drop G t;omega
section
variable {W:Nat->Prop}{w w':World}{fb i:Nat}{s:Fs}{r:Rc}{I T:Value}
theorem Note_bd (h:Fo W w fb s.K s.G s.n) (hb:Bd s i) (hi:i<=500) (hw:wfT r.tx) (hs:r.ky.size<=9223372036854775807):Calls Tryz.prog 54 #[.pointer (some ⟨fb,0,none⟩),.agg (r.A I T)] w fun e w'=>e=.returned (.tuple #[])/\FoO W w w' fb (noteF s r).K (noteF s r).G (noteF s r).n:=by
 have h1:=hb.wt
 have h2:=ksG_le s.G r.tx
 exact Note_any h hw hs (by omega) ⟨hb.n0,by have:=hb.n1;omega⟩ (fun g hg=>by have:=sum_mem hg;omega) (by have:=hb.gl;omega)
end
structure Rv (w:World) (v:Value) (C:List CL):Prop where
 ex:∃ a c,v=.slice a C.length c/\∀ i (hi:i<C.length),∃ g o,a=some ⟨g,o,none⟩/\g<w.heap.size/\w.cell? ⟨g,o+i*2,none⟩=some (.string C[i].1)/\w.cell? ⟨g,o+i*2+1,none⟩=some (.string C[i].2)
theorem Rv.bel {w w':World} {v:Value} {C:List CL} (h:Rv w v C) (hb:Below w.heap.size w w'):Rv w' v C:=by
 obtain⟨a,c,e,h⟩:=h.ex
 refine⟨a,c,e,fun i hi=>?_⟩
 obtain⟨g,o,ea,hg,h1,h2⟩:=h i hi
 exact⟨g,o,ea,Nat.lt_of_lt_of_le hg hb.size,by rw[World.cell?_of_block (hb.block g hg)];exact h1,by rw[World.cell?_of_block (hb.block g hg)];exact h2⟩
theorem Rv.at_ {w:World} {a:Option Addr} {n c:Nat} {C:List CL} (h:Rv w (.slice a n c) C) {i:Nat} (hi:i<C.length):∃ g o,a=some ⟨g,o,none⟩/\g<w.heap.size/\w.cell? ⟨g,o+i*2,none⟩=some (.string C[i].1)/\w.cell? ⟨g,o+i*2+1,none⟩=some (.string C[i].2):=by
 obtain⟨a',c',e,hh⟩:=h.ex
 cases e
 exact hh i hi
theorem Rv.of_row {w:World} {v:Value} {C:List CL} (h:Row w 69 2 v (C.map encC)):Rv w v C:=by
 obtain⟨a,c,e,_⟩:=h.sl
 rw[List.length_map] at e
 refine⟨a,c,e,fun i hi=>?_⟩
 subst e
 have h2:Row w 69 2 (.slice a C.length c) (C.map encC):=h
 obtain⟨g,ea,hg,hat⟩:=h2.at_ (i:=i) (by rw[List.length_map];exact hi)
 have hra:=(hat w rfl).1
 rw[List.getElem_map] at hra
 exact⟨g,0,ea,hg,by have:=hra 0 _ rfl;simpa using this,by have:=hra 1 _ rfl;simpa using this⟩
theorem tl_eq {a b:ByteArray}:(a.toList==b.toList)=true↔a=b:=by
 rw[beq_iff_eq,ByteArray.toList_eq,ByteArray.toList_eq]
 exact⟨ba_eq,fun h=>by rw[h]⟩
structure Bk where
 act:Int
 tx:Int
 ky:ByteArray
 nw:ByteArray
 deriving Inhabited
def hsB (x:Bk):Hs:=if x.act=4 then zH else⟨x.nw,true⟩
def ofT (B:List Bk) (t:Int):List Bk:=B.filter fun x=>decide (x.tx=t)
def offT (B:List Bk) (t:Int):List Bk:=B.filter fun x=>!decide (x.tx=t)
def comB (K:List CL) (x:Bk):List CL:=comK K x.ky (hsB x)
def foldC (K:List CL) (es:List Bk):List CL:=es.foldl comB K
def lastE (es:List Bk) (k:ByteArray):Option Hs:=es.foldl (fun o x=>if x.ky=k then some (hsB x) else o) none
structure Ps where
 K:List CL
 B:List Bk
 n:Int
def bkO (r:Rc):Bk:=⟨if r.kd=6 then r.ac else r.kd,r.tx,r.ky,r.nw⟩
def noteP (s:Ps) (r:Rc):Ps :=
 if 3<=r.kd/\r.kd<=6 then⟨s.K,s.B++[bkO r],s.n⟩
 else if r.kd=7 then⟨foldC s.K (ofT s.B r.tx),offT s.B r.tx,s.n+1⟩
 else if r.kd=8 then⟨s.K,offT s.B r.tx,s.n⟩
 else s
theorem foldC_snoc (K:List CL) (es:List Bk) (x:Bk):foldC K (es++[x])=comB (foldC K es) x:=by unfold foldC;rw[List.foldl_append];rfl
theorem lastE_snoc (es:List Bk) (x:Bk) (k:ByteArray):lastE (es++[x]) k=if x.ky=k then some (hsB x) else lastE es k:=by unfold lastE;rw[List.foldl_append];rfl
theorem ofT_snoc (B:List Bk) (x:Bk) (t:Int):ofT (B++[x]) t=if x.tx=t then ofT B t++[x] else ofT B t:=by
 unfold ofT
 rw[List.filter_append]
 by_cases h:x.tx=t <;> simp[h]
theorem ofT_off (B:List Bk) (t u:Int):ofT (offT B t) u=if u=t then [] else ofT B u:=by
 unfold ofT offT
 rw[List.filter_filter]
 split
 ·rename_i h
  subst h
  refine List.filter_eq_nil_iff.2 fun x _=>?_
  simp
 ·rename_i h
  refine List.filter_congr fun x _=>?_
  by_cases e:x.tx=u
  ·subst e;simp[h]
  ·simp[e]
theorem snocB {P:List Bk->Prop} (h0:P []) (h1:∀ A c,P A->P (A++[c])):∀ A,P A:=by
 intro A
 rw[← List.reverse_reverse A]
 generalize A.reverse=B
 induction B with
 | nil=>exact h0
 | cons b B ih=>rw[List.reverse_cons];exact h1 _ _ ih
theorem foldC_ris {K:List CL} (hr:Ris K):∀ es,Ris (foldC K es):=snocB hr fun A c ih=>by rw[foldC_snoc];exact comK_ris ih _ _
theorem foldC_mem {K:List CL} (hr:Ris K) (q:CL):∀ es,q∈foldC K es↔mt (lastE es q.1) q K:=snocB Iff.rfl fun A c ih=>by
 rw[foldC_snoc,lastE_snoc]
 unfold comB
 rw[comK_mem (foldC_ris hr A)]
 by_cases e:q.1=c.ky
 ·rw[if_pos e,if_pos e.symm]
  rfl
 ·rw[if_neg e,if_neg (fun h=>e h.symm)]
  exact ih
theorem ksG_put (G:List Gt) (t:Int) (k:ByteArray) (x:Hs) (u:Int):ksG (putG G t k x) u=if u=t then putH (ksG G t) k x else ksG G u:=by
 unfold ksG putG
 cases h:lkG G t with
 | some g =>
  have hg:g.txn=t:=by simpa using List.find?_some h
  rw[if_pos (show(some g).isSome=true from rfl)]
  have e:lkG (G.map (tnG t k x)) u=(lkG G u).map (tnG t k x):=by
   unfold lkG
   rw[List.find?_map]
   congr 1
   congr 1
   funext d
   simp only[Function.comp,tnG_txn]
  rw[e]
  by_cases hu:u=t
  ·subst hu
   rw[if_pos rfl,h]
   simp only[Option.map_some,Option.getD_some]
   unfold tnG
   rw[if_pos hg]
  ·rw[if_neg hu]
   cases h2:lkG G u with
   | none=>rfl
   | some g2 =>
    have hg2:g2.txn=u:=by simpa using List.find?_some h2
    simp only[Option.map_some,Option.getD_some]
    unfold tnG
    rw[if_neg (fun e=>hu (hg2.symm.trans e))]
 | none =>
  rw[if_neg (by simp)]
  have e:lkG (G++[⟨t,[(k,x)]⟩]) u=(lkG G u).or (if t=u then some ⟨t,[(k,x)]⟩ else none):=by
   unfold lkG
   rw[List.find?_append,List.find?_singleton]
   congr 1
   by_cases hu:t=u <;> simp[hu]
  rw[e]
  by_cases hu:u=t
  ·subst hu
   rw[if_pos rfl,h]
   simp[putH]
  ·rw[if_neg hu,if_neg (fun e=>hu e.symm)]
   cases lkG G u <;> rfl
theorem ksG_drop (G:List Gt) (t u:Int):ksG (dropG G t) u=if u=t then [] else ksG G u:=by
 unfold ksG
 have e:lkG (dropG G t) u=if u=t then none else lkG G u:=by
  unfold lkG dropG
  rw[List.find?_filter]
  split
  ·rename_i h
   subst h
   refine List.find?_eq_none.2 fun x _=>?_
   simp
  ·rename_i h
   congr 1
   funext x
   by_cases e:x.txn=u
   ·subst e;simp[h]
   ·simp[e]
 rw[e]
 split <;> rfl
structure Rel (s:Fs) (p:Ps):Prop where
 k:s.K=p.K
 n:s.n=p.n
 up:Ris s.K
 his:∀ t (k:ByteArray),(lkK (ksG s.G t) k.data.toList).map (·.2)=lastE (ofT p.B t) k
 tx:∀ t,(∃ g∈s.G,g.txn=t)↔∃ x∈p.B,x.tx=t
 kn:∀ t,(ksG s.G t).Pairwise fun a b=>a.1.data.toList≠b.1.data.toList
theorem Rel.start:Rel ⟨[],[],0⟩ ⟨[],[],0⟩:=⟨rfl,rfl,List.Pairwise.nil,fun t k=>rfl,fun t=>⟨fun⟨g,h,_⟩=>(by cases h),fun⟨g,h,_⟩=>(by cases h)⟩,fun t=>List.Pairwise.nil⟩
theorem putG_tx (G:List Gt) (t:Int) (k:ByteArray) (x:Hs) (u:Int):(∃ g∈putG G t k x,g.txn=u)↔((∃ g∈G,g.txn=u)∨u=t):=by
 unfold putG
 cases h:lkG G t with
 | some g =>
  rw[if_pos (show(some g).isSome=true from rfl)]
  constructor
  ·rintro⟨g1,h1,h2⟩
   obtain⟨g2,h3,rfl⟩:=List.mem_map.1 h1
   exact Or.inl ⟨g2,h3,by rw[← h2,tnG_txn]⟩
  ·rintro(⟨g1,h1,h2⟩ |rfl)
   ·exact⟨_,List.mem_map_of_mem h1,by rw[tnG_txn];exact h2⟩
   ·exact⟨_,List.mem_map_of_mem (List.mem_of_find?_eq_some h),by rw[tnG_txn];simpa using List.find?_some h⟩
 | none =>
  rw[if_neg (by simp)]
  constructor
  ·rintro⟨g1,h1,h2⟩
   rcases List.mem_append.1 h1 with h3 |h3
   ·exact Or.inl ⟨g1,h3,h2⟩
   ·rw[List.mem_singleton] at h3
    subst h3
    exact Or.inr h2.symm
  ·rintro(⟨g1,h1,h2⟩ |rfl)
   ·exact⟨g1,List.mem_append_left _ h1,h2⟩
   ·exact⟨_,List.mem_append_right _ (List.mem_singleton_self _),rfl⟩
theorem dropG_tx (G:List Gt) (t u:Int):(∃ g∈dropG G t,g.txn=u)↔((∃ g∈G,g.txn=u)/\u≠t):=by
 unfold dropG
 constructor
 ·rintro⟨g,h1,h2⟩
  obtain⟨h3,h4⟩:=List.mem_filter.1 h1
  subst h2
  exact⟨⟨g,h3,rfl⟩,by simpa using h4⟩
 ·rintro⟨⟨g,h1,rfl⟩,h3⟩
  exact⟨g,List.mem_filter.2 ⟨h1,by simpa using h3⟩,rfl⟩
theorem offT_tx (B:List Bk) (t u:Int):(∃ x∈offT B t,x.tx=u)↔((∃ x∈B,x.tx=u)/\u≠t):=by
 unfold offT
 constructor
 ·rintro⟨g,h1,h2⟩
  obtain⟨h3,h4⟩:=List.mem_filter.1 h1
  subst h2
  exact⟨⟨g,h3,rfl⟩,by simpa using h4⟩
 ·rintro⟨⟨g,h1,rfl⟩,h3⟩
  exact⟨g,List.mem_filter.2 ⟨h1,by simpa using h3⟩,rfl⟩
theorem Rel.com {s:Fs} {p:Ps} (h:Rel s p) (t:Int):cmsK s.K (ksG s.G t)=foldC p.K (ofT p.B t):=by
 rw[← h.k]
 refine ris_uniq (cmsK_ris h.up) (foldC_ris h.up _) fun q=>?_
 rw[cmsK_mem h.up (h.kn t),foldC_mem h.up,h.his]
theorem Rel.drop {s:Fs} {p:Ps} (h:Rel s p) (t:Int) {K:List CL} {n:Int} (hK:Ris K):Rel ⟨K,dropG s.G t,n⟩ ⟨K,offT p.B t,n⟩:=by
 refine⟨rfl,rfl,hK,fun u k=>?_,fun u=>?_,fun u=>?_⟩
 ·dsimp only
  rw[ksG_drop,ofT_off]
  split
  ·rfl
  ·exact h.his u k
 ·dsimp only
  rw[dropG_tx,offT_tx,h.tx]
 ·dsimp only
  rw[ksG_drop]
  split
  ·exact List.Pairwise.nil
  ·exact h.kn u
theorem Rel.turn {s:Fs} {p:Ps} (h:Rel s p) (b:Bk):Rel ⟨s.K,putG s.G b.tx b.ky (hsB b),s.n⟩ ⟨p.K,p.B++[b],p.n⟩:=by
 refine⟨h.k,h.n,h.up,fun u k=>?_,fun u=>?_,fun u=>?_⟩
 ·dsimp only
  rw[ksG_put,ofT_snoc]
  by_cases hu:u=b.tx
  ·subst hu
   rw[if_pos rfl,if_pos rfl,lkK_put,lastE_snoc]
   by_cases hk:k=b.ky
   ·subst hk
    rw[if_pos rfl,if_pos rfl]
    rfl
   ·rw[if_neg (fun e=>hk (ba_eq e)),if_neg (fun e=>hk e.symm)]
    exact h.his _ k
  ·rw[if_neg hu,if_neg (fun e=>hu e.symm)]
   exact h.his u k
 ·dsimp only
  rw[putG_tx,h.tx]
  constructor
  ·rintro(⟨x,h1,h2⟩ |rfl)
   ·exact⟨x,List.mem_append_left _ h1,h2⟩
   ·exact⟨b,List.mem_append_right _ (List.mem_singleton_self _),rfl⟩
  ·rintro⟨x,h1,h2⟩
   rcases List.mem_append.1 h1 with h3 |h3
   ·exact Or.inl ⟨x,h3,h2⟩
   ·rw[List.mem_singleton] at h3
    subst h3
    exact Or.inr h2.symm
 ·dsimp only
  rw[ksG_put]
  split
  ·exact putH_kn (h.kn _) _ _
  ·exact h.kn u
def wfR (r:Rc):Prop:=r.kd=6->r.ac=3∨r.ac=4∨r.ac=5
theorem bhd_bk {r:Rc} (hw:wfR r) (h1:3<=r.kd) (h2:r.kd<=6):bhd r=some (hsB (bkO r)):=by
 have hc:r.kd=3∨r.kd=4∨r.kd=5∨r.kd=6:=by omega
 unfold bhd actK hsB bkO
 dsimp only
 rcases hc with e |e |e |e
 ·rw[e];rfl
 ·rw[e];rfl
 ·rw[e];rfl
 ·rw[if_pos e]
  rcases hw e with e2 |e2 |e2 <;> (rw[e2];rfl)
theorem Rel.note {s:Fs} {p:Ps} (h:Rel s p) {r:Rc} (hw:wfR r):Rel (noteF s r) (noteP p r):=by
 unfold noteF noteP
 by_cases h7:r.kd=7
 ·rw[if_pos h7,if_neg (by omega),if_pos h7,h.com,h.n]
  exact h.drop _ (by rw[← h.com];exact cmsK_ris h.up)
 ·rw[if_neg h7]
  by_cases h8:r.kd=8
  ·rw[if_pos h8,if_neg (by omega),if_neg h7,if_pos h8,← h.k,← h.n]
   exact h.drop _ h.up
  ·rw[if_neg h8]
   by_cases hk:3<=r.kd/\r.kd<=6
   ·rw[if_pos hk,bhd_bk hw hk.1 hk.2]
    exact h.turn (bkO r)
   ·rw[if_neg hk,if_neg h7,if_neg h8]
    have e:bhd r=none:=by
     unfold bhd actK
     rw[if_neg (show ¬ r.kd=6 by omega),if_neg (by omega),if_neg (by omega)]
    rw[e]
    exact h
end Go.Proofs.YtdchjncnjgelhaaGreat.Fd
namespace Go.Proofs
open Go.Shelf
end Go.Proofs
namespace Go.Proofs.YtdchjncnjgelhaaGreat.Fd
open Go.RowKit Gm Go.Maps Go.Sort Go.Shelf
def getK (K:List CL) (k:ByteArray):ByteArray × Bool:=match isK K k,K[plc K k]? with
 | true,some c=>(c.2,true)
 | _,_=>(⟨#[]⟩,false)
section
variable {W:Nat->Prop}{w w':World}{fb bw:Nat}{v:Value}{K:List CL}{L:List Dv}{G:List Gt}{n:Int}
theorem Get_any (h:Fo W w fb K G n) (key:ByteArray) (hn:K.length<=1000):Calls Tryz.prog 57 #[.pointer (some ⟨fb,0,none⟩),.string key] w fun e w'=>e=.returned (.tuple #[.string (getK K key).1,.bool (getK K key).2])/\Below w.heap.size w w':=by
 obtain⟨v,bw,L,hI,rfl⟩:=h.ex
 obtain⟨a,c,ea,_⟩:=hI.row.sl
 rw[List.length_map] at ea
 subst ea
 have CM:=isMade_ok hI.is
 have CF:Hid (Calls Tryz.prog 89 #[.pointer (some ⟨fb,0,none⟩),.string key] w fun e w'=>e=.returned (.tuple #[.int .i64 (plc K key:Nat),.bool (isK K key)])/\Below w.heap.size w w'):=find_any hI.up hn hI.is hI.row key
 have HI:Hid (∀ wx,Below w.heap.size w wx->wx.cell? ⟨fb,0,none⟩=some (.slice a K.length c)):=fun wx hb=>(hI.is.bel hb).c 0
 cases hk:isK K key with
 | false =>
  have e9:getK K key=(⟨#[]⟩,false):=by unfold getK;rw[hk]
  rw[e9]
  rw[hk] at CF
  clear h hI e9 hk
  generalize plc K key=pl at *
  go_enter Tryz.func57,Tryz.ntmps57
  go_wp2_with first
   | (go_at_call 84;refine CM.mono ?_;rintro e w2 ⟨rfl,rfl⟩)
   | (go_at_call 89;refine CF.out.mono ?_;rintro e w3 ⟨rfl,b3⟩)
  go_ret2
  exact⟨rfl,b3⟩
 | true =>
  obtain⟨hp,hq⟩:=isK_at hk
  have e9:getK K key=(K[plc K key].2,true):=by unfold getK;rw[hk,List.getElem?_eq_getElem hp]
  rw[e9]
  rw[hk] at CF
  obtain⟨g,rfl,hg,hcell⟩:=row_at hI.row hp
  have HC:Hid (∀ wx,Below w.heap.size w wx->wx.cell? ⟨g,plc K key*2+1,none⟩=some (.string K[plc K key].2)):=fun wx hb=>(hcell wx hb).2
  clear h hI e9 hk hcell hq
  generalize K[plc K key].2=val at *
  have hpI:((plc K key:Nat):Int)<(K.length:Int):=by omega
  generalize plc K key=pl at *
  go_enter Tryz.func57,Tryz.ntmps57
  go_wp2_with first
   | (go_at_call 84;refine CM.mono ?_;rintro e w2 ⟨rfl,rfl⟩)
   | (go_at_call 89;refine CF.out.mono ?_;rintro e w3 ⟨rfl,b3⟩;have k0:=HI.out _ b3;have k1:=HC.out _ b3;have k0':w3.drew.cell? ⟨fb,0,none⟩=some (.slice (some ⟨g,0,none⟩) K.length c):=k0;have k1':w3.drew.cell? ⟨g,pl*2+1,none⟩=some (.string val):=k1)
  all_goals go_ret2
  exact⟨rfl,b3⟩
theorem Count_any (h:Fo W w fb K G n):Calls Tryz.prog 58 #[.pointer (some ⟨fb,0,none⟩)] w fun e w'=>e=.returned (.int .i64 n)/\w'=w:=by
 obtain⟨v,bw,L,hI,rfl⟩:=h.ex
 have C:=isMade_ok hI.is
 have c2:w.cell? ⟨fb,2,none⟩=some (.int .i64 n):=hI.is.c 2
 clear h hI
 go_enter Tryz.func58,Tryz.ntmps58
 go_wp2_with (go_at_call 84;refine C.mono ?_;rintro e w2 ⟨rfl,rfl⟩)
 go_ret
 exact⟨rfl,rfl⟩
structure ClE (w:World) (e:Ending) (w':World) (K:List CL):Prop where
 ex:∃ v,e=.returned v/\Row w' 69 2 v (K.map encC)/\∀ g,v.ownBlock=some g->w.heap.size<=g
 bel:Below w.heap.size w w'
theorem bC0 (w:World):(Instr.buildSlice 60 0 #[]).run Tryz.prog w=.ok (.slice (some ⟨w.heap.size,0,none⟩) 0 0) (w.alloc (.cells #[] 69)):=by kernel_rfl
theorem Clone_nil (w:World):Calls Tryz.prog 85 #[.slice none 0 0] w fun e w'=>e=.returned (.slice none 0 0)/\w'=w:=by
 have he:∀ w,(binOp .eql 60 (.slice none 0 0) (.slice none 0 0)).run Tryz.prog w=.ok (.bool true) w:=fun w=>by
  have:=Lib.run_eql_slice_nil (P:=Tryz.prog) w 60 _ none 0 0 0 0 Tryz.underlying60
  simpa using this
 go_enter Tryz.func85,Tryz.ntmps85
 go_wp2
 go_ret
 exact⟨rfl,rfl⟩
theorem Clone_row (h:Row w 69 2 v (K.map encC)) (hn:K.length<=90000):Calls Tryz.prog 85 #[v] w fun e w'=>ClE w e w' K:=by
 rcases h.row.2 with⟨rfl,h0⟩ |⟨g,cap,cur,rfl,hB,hg,h3,h4,h5,h6⟩
 ·have hK:K=[]:=List.eq_nil_of_length_eq_zero (by rw[List.length_map] at h0;exact h0)
  subst hK
  refine(Clone_nil w).mono ?_
  rintro e w' ⟨rfl,rfl⟩
  exact⟨⟨_,rfl,Row.nil _ _ _,fun g e=>by cases e⟩,Below.refl _ _⟩
 ·have HC:Hid (∀ wx,Below w.heap.size w wx->∀ j u,(K.map encC).flatten[j]?=some u->wx.cell? ⟨g,0+j,none⟩=some u):=fun wx hb j u hu=>by
   have:=(h.bel hb).seg (A:=[]) (M:=K.map encC) (R:=[]) (by simp) j u hu
   simpa using this
  have he:∀ w a n c,(binOp .eql 60 (.slice (some a) n c) (.slice none 0 0)).run Tryz.prog w=.ok (.bool false) w:=fun w a n c=>by
   have:=Lib.run_eql_slice_nil (P:=Tryz.prog) w 60 _ (some a) n c 0 0 Tryz.underlying60
   simpa using this
  have HN:Hid (K.length<=90000):=hn
  have Hm:Hid ((K.map encC).length=K.length):=List.length_map ..
  rw[Hm.out]
  clear h hB hg h3 h4 h5 h6 hn
  generalize K.length=m at *
  go_enter Tryz.func85,Tryz.ntmps85
  go_wp2_with first
   | (refine wpList_build0 _ rfl rfl bC0 ?_;intro w1 b1 N1)
   | (refine wpList_append elC (L:=[]) (M:=K.map encC) rfl _ _ rfl rfl (Row.empty N1.is) rfl Hm.out (enc_len K) (HC.out _ N1.bel) (flat_one K) (by have:=HN.out;have:=Hm.out;simp only[List.length_nil];omega) ?_;intro a2 c2 w2 A2)
  go_ret
  have A3:App w1 w2 69 2 (.slice (some ⟨b1,0,none⟩) 0 0) (.slice a2 m c2) (K.map encC):=by
   rw[show([]:List (List Value)).length+m=m from Nat.zero_add m] at A2
   exact A2
  clear A2
  refine⟨⟨.slice a2 m c2,rfl,A3.row,fun g e=>?_⟩,N1.bel.trans (A3.bel (fun g e=>by cases e;rw[N1.eq];exact Nat.le_refl _) N1.bel.size)⟩
  rcases A3.own with h |h
  ·rw[h] at e;cases e;rw[N1.eq];exact Nat.le_refl _
  ·rw[h] at e;cases e;exact N1.bel.size
theorem Cells_any (h:Fo W w fb K G n) (hn:K.length<=90000):Calls Tryz.prog 53 #[.pointer (some ⟨fb,0,none⟩)] w fun e w'=>ClE w e w' K:=by
 obtain⟨v,bw,L,hI,rfl⟩:=h.ex
 have C:=isMade_ok hI.is
 obtain⟨a,c,ea,_⟩:=hI.row.sl
 rw[List.length_map] at ea
 subst ea
 have CC:=Clone_row hI.row hn
 have c0:w.cell? ⟨fb,0,none⟩=some (.slice a K.length c):=hI.is.c 0
 clear h hI
 generalize K.length=m at *
 go_enter Tryz.func53,Tryz.ntmps53
 go_wp2_with first
  | (go_at_call 84;refine C.mono ?_;rintro e w2 ⟨rfl,rfl⟩)
  | (go_at_call 85;refine CC.mono ?_;rintro e w3 ⟨⟨v3,rfl,q1,q2⟩,q3⟩;obtain⟨a3,c3,e3,_⟩:=q1.sl;rw[List.length_map] at e3;subst e3)
 go_ret
 exact⟨⟨_,rfl,q1,q2⟩,q3⟩
end
open Go.RowKit Gm Go.Maps
theorem ltB_b (a b:ByteArray):Op.bytesLess a.toList b.toList=true↔blt a b:=by
 rw[Proofs.bytesLess_eq,Lib.toList_data,Lib.toList_data]
 exact decide_eq_true_iff
section
variable {w:World}{K:List CL}
set_option maxHeartbeats 1000000 in
theorem place_any {a:Option Addr} {c:Nat} (h:Rv w (.slice a K.length c) K) (hn:K.length<=100000) (key:ByteArray):Calls Tryz.prog 88 #[.slice a K.length c,.string key] w fun e w'=>e=.returned (.tuple #[.int .i64 (plc K key:Nat),.bool (isK K key)])/\Below w.heap.size w w':=by
 have HV:Hid (Rv w (.slice a K.length c) K):=h
 have hx:=plc_le K key
 clear h
 go_enter Tryz.func88,Tryz.ntmps88
 go_wp2
 go_loopw [6] (fun vi wr=>∃ i:Nat,vi=.int .i64 (i:Int)/\i<=plc K key/\Below w.heap.size w wr) (fun vi _=>plc K key-(intOf vi).toNat)
 case atStart=>exact⟨0,rfl,Nat.zero_le _,Below.refl _ _⟩
 case round =>
  obtain⟨i,rfl,hi,hB⟩:=hrel
  rename World=>wo
  have HB:Hid (Below w.heap.size w wo):=hB
  clear hB
  by_cases hlt:i<plc K key
  ·have hltI:(i:Int)<(K.length:Int):=by omega
   have hi1:i<K.length:=by omega
   obtain⟨g,o,rfl,_,c0,c1⟩:=(HV.out.bel HB.out).at_ hi1
   have hls:Op.bytesLess K[i].1.toList key.toList=true:=(ltB_b _ _).2 (plc_lt hlt)
   generalize K[i].1=ka at *
   clear c1
   go_wp2
   go_roundw
   case rel=>exact⟨i+1,by go_num,by omega,HB.out⟩
   case measure=>simp[intOf];omega
  ·obtain rfl:i=plc K key:=by omega
   by_cases hp:plc K key<K.length
   ·have hpI:((plc K key:Nat):Int)<(K.length:Int):=by omega
    obtain⟨g,o,rfl,_,c0,c1⟩:=(HV.out.bel HB.out).at_ hp
    have c0':wo.drew.cell? ⟨g,o+plc K key*2,none⟩=some (.string K[plc K key].1):=c0
    have hnl:¬ blt K[plc K key].1 key:=by
     have h2:(!decide (blt (K[plc K key]'hp).1 key))=true:=List.findIdx_getElem (w:=hp)
     simpa using h2
    have hls:Op.bytesLess K[plc K key].1.toList key.toList=false:=by
     cases e:Op.bytesLess K[plc K key].1.toList key.toList with
     | false=>rfl
     | true=>exact absurd ((ltB_b _ _).1 e) hnl
    have hi2:Hid (isK K key=(K[plc K key].1.toList==key.toList)):=by
     show _=_
     unfold isK
     rw[List.getElem?_eq_getElem hp]
     by_cases e:K[plc K key].1=key
     ·rw[tl_eq.2 e];simp[e]
     ·have:(K[plc K key].1.toList==key.toList)=false:=by
       cases e2:(K[plc K key].1.toList==key.toList) with
       | false=>rfl
       | true=>exact absurd (tl_eq.1 e2) e
      rw[this];simp[e]
    clear c1 hnl
    generalize K[plc K key].1=ka at *
    generalize hbb:(ka.toList==key.toList)=bb at *
    go_wp2_with fail
    go_big_region
    all_goals go_wp2
    all_goals go_ret2
    all_goals exact⟨by rw[hi2.out];rfl,bdr HB.out 1⟩
   ·have hpI:¬ ((plc K key:Nat):Int)<(K.length:Int):=by omega
    have hi2:Hid (isK K key=false):=by show _=_;unfold isK;rw[List.getElem?_eq_none (by omega)]
    go_wp2_with fail
    go_big_region
    all_goals go_wp2
    all_goals go_ret2
    all_goals exact⟨by rw[hi2.out];rfl,bdr HB.out 1⟩
theorem seg_at {a:Option Addr} {c:Nat} (h:Row w 69 2 (.slice a K.length c) (K.map encC)) (i k:Nat) (hi:i+k<=K.length) (hk:0<k):∃ g,a=some ⟨g,0,none⟩/\∀ wx,Below w.heap.size w wx->∀ j u,(((K.drop i).take k).map encC).flatten[j]?=some u->wx.cell? ⟨g,i*2+j,none⟩=some u:=by
 obtain⟨g,ea,_⟩:=h.at_ (i:=i) (by rw[List.length_map];omega)
 subst ea
 refine⟨g,rfl,fun wx hb j u hu=>?_⟩
 have e:K.map encC=(K.take i).map encC++((K.drop i).take k).map encC++(K.drop (i+k)).map encC:=by
  rw[← List.map_append,← List.map_append]
  congr 1
  conv=>lhs;rw[← List.take_append_drop i K]
  rw[List.append_assoc]
  congr 1
  conv=>lhs;rw[← List.take_append_drop k (K.drop i)]
  rw[List.drop_drop]
 have:=(h.bel hb).seg e j u hu
 rw[List.length_map,List.length_take,show min i K.length=i by omega] at this
 exact this
theorem run_app0 (w:World) (ty:TypeId) (b:Option Addr) (n cap:Nat) (x:Option Addr) (cx:Nat) (hn:n<=cap):(Builtin.append_ #[60,60] ty #[.slice b n cap,.slice x 0 cx]).run Tryz.prog w=.ok (.slice b n cap) w:=by
 obtain⟨i,hi,hz0,hz1,hz2⟩:=(elC).info
 have hf:(Builtin.firstCells i.size 0 (.slice x 0 cx)).run Tryz.prog w=.ok #[] w:=by
  cases x with
  | none=>rfl
  | some ad=>exact run_firstCells_some (P:=Tryz.prog) w i.size 0 ad 0 cx [] (by simp) (fun j u hu=>by simp at hu)
 cases b <;> simp[Builtin.append_,run_underlying Tryz.underlying60,sizeOf,typeInfo,hi,Builtin.lenOf,hn,hf,storeCells]
theorem wpList_app0 {ops:Array Oper} {rest:List Oper} {o:Oper} {act:Act} {Q:Exit->Act->World->Prop} {w:World} (hgd:o.guard=none) (s x:Operand) (ho:o.op=.call {callee:=.builtin .append,args:=#[s,x],argTypes:=#[60,60]}) {b xa:Option Addr} {n cap cx:Nat}
  (hs:act.eval s=.slice b n cap) (hx:act.eval x=.slice xa 0 cx) (hn:n<=cap) (K:wpList Tryz.prog ops Q rest (act.put o.dst (.slice b n cap)) w):wpList Tryz.prog ops Q (o ::rest) act w:=by
 refine wpList_plain hgd fun K' hK=>?_
 unfold Oper.wp execOp
 simp only[ho,resolve,invoke,builtin,Sem.run_bind,Sem.run_pure,Result.andThen_ok,List.map_toArray,List.map_cons,List.map_nil,hs,hx,run_app0 w o.type b n cap xa cx hn]
 exact hK _ _ K
structure Gat (w wx:World) (v:Value) (M:List CL):Prop where
 row:Row wx 69 2 v (M.map encC)
 bel:Below w.heap.size w wx
 own:∀ g,v.ownBlock=some g->w.heap.size<=g
theorem Gat.push {w wx wy:World} {v v':Value} {M M2:List CL} (h:Gat w wx v M) (A:App wx wy 69 2 v v' (M.map encC++M2.map encC)):Gat w wy v' (M++M2) :=
 ⟨by rw[List.map_append];exact A.row,h.bel.trans (A.bel (fun g e=>h.own g e) h.bel.size),fun g e=>A.own.elim (fun e2=>h.own g (e2.symm.trans e)) (fun e2=>by rw[e2] at e;cases e;exact h.bel.size)⟩
theorem Gat.below {w wx wy:World} {v:Value} {M:List CL} (h:Gat w wx v M) (hb:Below wx.heap.size wx wy):Gat w wy v M:=⟨h.row.bel hb,thn h.bel hb,h.own⟩
theorem Gat.start {w w2 w3:World} {b:Nat} (hb:Below w.heap.size w w2) (N:New w2 w3 b 69 #[]):Gat w w3 (.slice (some ⟨b,0,none⟩) 0 0) [] :=
 ⟨Row.empty N.is,thn hb N.bel,fun g e=>by cases e;rw[N.eq];exact hb.size⟩
set_option maxHeartbeats 2000000 in
theorem Lay_nil (w:World) (p t:ByteArray):Calls Tryz.prog 56 #[.slice none 0 0,.agg #[.string p,.string t]] w fun e w'=>ClE w e w' [(p,t)]:=by
 have CP:Hid (∀ wx,Calls Tryz.prog 88 #[.slice none 0 0,.string p] wx fun e w'=>e=.returned (.tuple #[.int .i64 0,.bool false])/\Below wx.heap.size wx w'):=fun wx=>place_any (K:=[]) (a:=none) (c:=0) (Rv.of_row (C:=[]) (Row.nil _ _ _)) (by decide) p
 go_enter Tryz.func56,Tryz.ntmps56
 go_wp2_with first
  | (refine wpList_box_at (A:=#[.string p,.string t]) _ rfl _ rfl rfl ?_;intro w1 b1 N1;have k1:w1.cell? ⟨b1,0,none⟩=some (.string p):=N1.is.c 0)
  | (go_at_call 88;refine(CP.out _).mono ?_;rintro e w2 ⟨rfl,b2⟩;have X2:Hid (Below w.heap.size w w2/\At w2 b1 69 #[.string p,.string t]):=⟨thn N1.bel b2,N1.is.bel b2⟩;clear b2)
  | (refine wpList_build0 _ rfl rfl bC0 ?_;intro w3 b3 N3;have G3:Hid (Gat w w3 (.slice (some ⟨b3,0,none⟩) 0 0) []):=Gat.start X2.out.1 N3;have A3:Hid (At w3 b1 69 #[.string p,.string t]):=X2.out.2.bel N3.bel)
  | (refine wpList_app0 rfl _ _ rfl rfl rfl (by omega) ?_)
  | (refine wpList_load_at stC (A:=#[.string p,.string t]) _ rfl _ rfl rfl A3.out rfl ?_)
  | (refine wpList_build1 (u:=.agg #[.string p,.string t]) (A:=#[.string p,.string t]) _ rfl _ rfl rfl (bC1 p t) ?_;intro w4 b4 N4;have G4:Hid (Gat w w4 (.slice (some ⟨b3,0,none⟩) 0 0) []):=G3.out.below N4.bel)
  | (refine wpList_push elC (A:=#[.string p,.string t]) (L:=List.map encC []) rfl _ _ rfl rfl G4.out.row rfl N4.is rfl (by intro u hu;simp at hu;rcases hu with rfl | rfl <;> rfl) (by simp) ?_;intro a5 c5 w5 A5;have G5:Hid (Gat w w5 (.slice a5 1 c5) [(p,t)]):=G4.out.push (M2:=[(p,t)]) A5;have hc5:1<=c5:=(by obtain⟨a6,c6,e6,h6⟩:=G5.out.row.sl;injection e6 with _ _ e7;rw[e7];exact h6))
 go_ret
 exact⟨⟨_,rfl,G5.out.row,G5.out.own⟩,G5.out.bel⟩
set_option maxHeartbeats 4000000 in
theorem Lay_some {g c:Nat} (h:Row w 69 2 (.slice (some ⟨g,0,none⟩) K.length c) (K.map encC)) (hn:K.length<=1000) (p t:ByteArray):Calls Tryz.prog 56 #[.slice (some ⟨g,0,none⟩) K.length c,.agg #[.string p,.string t]] w fun e w'=>ClE w e w' (putK K (p,t)):=by
 have HR:Hid (Row w 69 2 (.slice (some ⟨g,0,none⟩) K.length c) (K.map encC)):=h
 obtain⟨hkc,hcm⟩:K.length<=c/\c<=9223372036854775807:=by
  rcases h.row.2 with⟨e,h0⟩ |⟨g',cap,cur,e,_,_,h3,h4,_⟩
  ·injection e with e1 e2 e3
   cases e1
  ·injection e with e1 e2 e3
   rw[List.length_map] at h3
   unfold maxLen at h4
   omega
 have hx:=plc_le K p
 have CP:Hid (∀ wx,Below w.heap.size w wx->Calls Tryz.prog 88 #[.slice (some ⟨g,0,none⟩) K.length c,.string p] wx fun e w'=>e=.returned (.tuple #[.int .i64 (plc K p:Nat),.bool (isK K p)])/\Below wx.heap.size wx w'):=fun wx hb=>place_any (Rv.of_row (h.bel hb)) (by omega) p
 have HS:Hid (∀ i k,i+k<=K.length->0<k->∀ wx,Below w.heap.size w wx->∀ j u,(((K.drop i).take k).map encC).flatten[j]?=some u->wx.cell? ⟨g,i*2+j,none⟩=some u):=fun i k h1 h2 wx hb=>by
  obtain⟨g',e,hh⟩:=seg_at h i k h1 h2
  cases e
  exact hh wx hb
 have HPu:Hid (putK K (p,t)=K.take (plc K p)++[(p,t)]++K.drop (plc K p+if isK K p then 1 else 0)):=rfl
 have HT:Hid ((K.take (plc K p)).length=plc K p/\((K.take (plc K p)).map encC).length=plc K p):=⟨by rw[List.length_take];omega,by rw[List.length_map,List.length_take];omega⟩
 clear h
 cases hb:isK K p with
 | false =>
  rw[hb] at CP HPu
  rw[if_neg (by simp),Nat.add_zero] at HPu
  clear hb
  generalize plc K p=pl at *
  by_cases hcq:c=pl
  ·skip
   have hKl:K.length=pl:=by omega
   subst c
   rw[hKl] at CP ⊢
   have HD:Hid ((K.drop (pl)).length=K.length-(pl)):=List.length_drop
   have H1:Hid (∀ wx,Below w.heap.size w wx->∀ j u,((K.take pl).map encC).flatten[j]?=some u->wx.cell? ⟨g,0+j,none⟩=some u):=fun wx hb j u hu=>by
    rcases Nat.eq_zero_or_pos pl with h0 |h0
    ·rw[h0] at hu;simp at hu
    ·have:=HS.out 0 pl (by omega) h0 wx hb j u (by simpa using hu)
     simpa using this
   have H2:Hid (∀ wx,Below w.heap.size w wx->∀ j u,((K.drop (pl)).map encC).flatten[j]?=some u->wx.cell? ⟨g,(pl)*2+j,none⟩=some u):=fun wx hb j u hu=>by
    rcases Nat.lt_or_ge (pl) K.length with h0 |h0
    ·refine HS.out (pl) (K.length-(pl)) (by omega) (by omega) wx hb j u ?_
     rw[List.take_of_length_le (by rw[List.length_drop];omega)]
     exact hu
    ·rw[List.drop_of_length_le h0] at hu;simp at hu
   have hb2:(pl:Int)<=(K.length:Int):=by omega
   have hb4:(pl:Int)<=((pl:Nat):Int):=by omega
   have hb5:pl<=pl:=by omega
   have hb6:K.length<=pl:=hkc
   have hb7:(K.length:Int)<=((pl:Nat):Int):=by omega
   go_enter Tryz.func56,Tryz.ntmps56
   go_wp2_with first
    | (refine wpList_box_at (A:=#[.string p,.string t]) _ rfl _ rfl rfl ?_;intro w1 b1 N1;have k1:w1.cell? ⟨b1,0,none⟩=some (.string p):=N1.is.c 0)
    | (go_at_call 88;refine(CP.out _ N1.bel).mono ?_;rintro e w2 ⟨rfl,b2⟩;have X2:Hid (Below w.heap.size w w2/\At w2 b1 69 #[.string p,.string t]):=⟨thn N1.bel b2,N1.is.bel b2⟩;clear b2)
    | (refine wpList_build0 _ rfl rfl bC0 ?_;intro w3 b3 N3;have G3:Hid (Gat w w3 (.slice (some ⟨b3,0,none⟩) 0 0) []):=Gat.start X2.out.1 N3;have A3:Hid (At w3 b1 69 #[.string p,.string t]):=X2.out.2.bel N3.bel)
    | (have:=G5.out;refine wpList_app0 rfl _ _ rfl rfl rfl (by have:=HC5.out;omega) ?_)
    | (refine wpList_push elC (A:=#[.string p,.string t]) (L:=List.map encC (K.take pl)) rfl _ _ rfl rfl G4b.out.row rfl N4.is rfl (by intro u hu;simp at hu;rcases hu with rfl | rfl <;> rfl) (by rw[HT.out.2];omega) ?_;intro a5 c5 w5 A5;rw[HT.out.2] at A5 ⊢;have G5:Hid (Gat w w5 (.slice a5 (pl+1) c5) (K.take pl++[(p,t)])):=G4b.out.push (M2:=[(p,t)]) A5;have HC5:Hid (pl+1<=c5):=(by obtain⟨a7,c7,e7,h7⟩:=G5.out.row.sl;injection e7 with _ _ e8;rw[e8];rw[List.length_map,List.length_append,HT.out.1] at h7;exact h7))
    | (refine wpList_load_at stC (A:=#[.string p,.string t]) _ rfl _ rfl rfl A4.out rfl ?_)
    | (refine wpList_build1 (u:=.agg #[.string p,.string t]) (A:=#[.string p,.string t]) _ rfl _ rfl rfl (bC1 p t) ?_;intro w4b b4 N4;have G4b:Hid (Gat w w4b (.slice a4 pl c4) (K.take pl)):=G4.out.below N4.bel)
    | (refine wpList_append elC (L:=[]) (M:=(K.take pl).map encC) (g:=g) (of:=0) (m:=pl) rfl _ _ rfl rfl (Row.empty N3.is) rfl HT.out.2 (enc_len _) (H1.out _ G3.out.bel) (flat_one _) (by have h1:=HT.out.2;simp only[List.length_nil];omega) ?_;intro a4 c4 w4 A4';rw[show([]:List (List Value)).length+pl=pl from Nat.zero_add pl] at A4' ⊢;have G4:Hid (Gat w w4 (.slice a4 pl c4) (K.take pl)):=G3.out.push (M2:=K.take pl) A4';have A4:Hid (At w4 b1 69 #[.string p,.string t]):=A3.out.keep (A4'.grow.block b1 A3.out.lt (fun e=>by have e2:some b1=some b3:=e;injection e2 with e2;have:=X2.out.2.lt;have:=N3.eq;omega)))
   go_ret
   exact⟨⟨_,rfl,by rw[HPu.out,List.drop_of_length_le (by omega),List.append_nil];exact G5.out.row,G5.out.own⟩,G5.out.bel⟩
  ·skip
   have HD:Hid ((K.drop (pl)).length=K.length-(pl)):=List.length_drop
   have H1:Hid (∀ wx,Below w.heap.size w wx->∀ j u,((K.take pl).map encC).flatten[j]?=some u->wx.cell? ⟨g,0+j,none⟩=some u):=fun wx hb j u hu=>by
    rcases Nat.eq_zero_or_pos pl with h0 |h0
    ·rw[h0] at hu;simp at hu
    ·have:=HS.out 0 pl (by omega) h0 wx hb j u (by simpa using hu)
     simpa using this
   have H2:Hid (∀ wx,Below w.heap.size w wx->∀ j u,((K.drop (pl)).map encC).flatten[j]?=some u->wx.cell? ⟨g,(pl)*2+j,none⟩=some u):=fun wx hb j u hu=>by
    rcases Nat.lt_or_ge (pl) K.length with h0 |h0
    ·refine HS.out (pl) (K.length-(pl)) (by omega) (by omega) wx hb j u ?_
     rw[List.take_of_length_le (by rw[List.length_drop];omega)]
     exact hu
    ·rw[List.drop_of_length_le h0] at hu;simp at hu
   have hb2:(pl:Int)<=(K.length:Int):=by omega
   have hb4:(pl:Int)<=(c:Int):=by omega
   have hb5:pl<=c:=by omega
   have hb6:K.length<=c:=hkc
   have hb7:(K.length:Int)<=(c:Int):=by omega
   go_enter Tryz.func56,Tryz.ntmps56
   go_wp2_with first
    | (refine wpList_box_at (A:=#[.string p,.string t]) _ rfl _ rfl rfl ?_;intro w1 b1 N1;have k1:w1.cell? ⟨b1,0,none⟩=some (.string p):=N1.is.c 0)
    | (go_at_call 88;refine(CP.out _ N1.bel).mono ?_;rintro e w2 ⟨rfl,b2⟩;have X2:Hid (Below w.heap.size w w2/\At w2 b1 69 #[.string p,.string t]):=⟨thn N1.bel b2,N1.is.bel b2⟩;clear b2)
    | (refine wpList_build0 _ rfl rfl bC0 ?_;intro w3 b3 N3;have G3:Hid (Gat w w3 (.slice (some ⟨b3,0,none⟩) 0 0) []):=Gat.start X2.out.1 N3;have A3:Hid (At w3 b1 69 #[.string p,.string t]):=X2.out.2.bel N3.bel)
    | (have:=G5.out;refine wpList_append elC (L:=List.map encC (K.take pl++[(p,t)])) (M:=(K.drop (pl)).map encC) (g:=g) (of:=(pl)*2) (m:=K.length-(pl)) rfl _ _ rfl rfl G5.out.row rfl (by rw[List.length_map];exact HD.out) (enc_len _) (H2.out _ G5.out.bel) (flat_one _) (by have h1:=HT.out.1;have h2:=HD.out;simp only[List.length_map,List.length_append,List.length_singleton];omega) ?_;intro a6 c6 w6 A6;have hl6:(List.map encC (K.take pl++[(p,t)])).length=pl+1:=(by have h1:=HT.out.1;simp only[List.length_map,List.length_append,List.length_singleton];omega);rw[hl6] at A6 ⊢;have G6:=G5.out.push A6)
    | (refine wpList_push elC (A:=#[.string p,.string t]) (L:=List.map encC (K.take pl)) rfl _ _ rfl rfl G4b.out.row rfl N4.is rfl (by intro u hu;simp at hu;rcases hu with rfl | rfl <;> rfl) (by rw[HT.out.2];omega) ?_;intro a5 c5 w5 A5;rw[HT.out.2] at A5 ⊢;have G5:Hid (Gat w w5 (.slice a5 (pl+1) c5) (K.take pl++[(p,t)])):=G4b.out.push (M2:=[(p,t)]) A5;have HC5:Hid (pl+1<=c5):=(by obtain⟨a7,c7,e7,h7⟩:=G5.out.row.sl;injection e7 with _ _ e8;rw[e8];rw[List.length_map,List.length_append,HT.out.1] at h7;exact h7))
    | (refine wpList_load_at stC (A:=#[.string p,.string t]) _ rfl _ rfl rfl A4.out rfl ?_)
    | (refine wpList_build1 (u:=.agg #[.string p,.string t]) (A:=#[.string p,.string t]) _ rfl _ rfl rfl (bC1 p t) ?_;intro w4b b4 N4;have G4b:Hid (Gat w w4b (.slice a4 pl c4) (K.take pl)):=G4.out.below N4.bel)
    | (refine wpList_append elC (L:=[]) (M:=(K.take pl).map encC) (g:=g) (of:=0) (m:=pl) rfl _ _ rfl rfl (Row.empty N3.is) rfl HT.out.2 (enc_len _) (H1.out _ G3.out.bel) (flat_one _) (by have h1:=HT.out.2;simp only[List.length_nil];omega) ?_;intro a4 c4 w4 A4';rw[show([]:List (List Value)).length+pl=pl from Nat.zero_add pl] at A4' ⊢;have G4:Hid (Gat w w4 (.slice a4 pl c4) (K.take pl)):=G3.out.push (M2:=K.take pl) A4';have A4:Hid (At w4 b1 69 #[.string p,.string t]):=A3.out.keep (A4'.grow.block b1 A3.out.lt (fun e=>by have e2:some b1=some b3:=e;injection e2 with e2;have:=X2.out.2.lt;have:=N3.eq;omega)))
   go_ret
   exact⟨⟨_,rfl,by rw[HPu.out];exact G6.row,G6.own⟩,G6.bel⟩
 | true =>
  rw[hb] at CP HPu
  have hpt:plc K p<K.length:=(isK_at hb).1
  rw[if_pos rfl] at HPu
  clear hb
  generalize plc K p=pl at *
  by_cases hcq:c=pl+1
  ·skip
   have hKl:K.length=pl+1:=by omega
   subst c
   rw[hKl] at CP ⊢
   have HD:Hid ((K.drop (pl+1)).length=K.length-(pl+1)):=List.length_drop
   have H1:Hid (∀ wx,Below w.heap.size w wx->∀ j u,((K.take pl).map encC).flatten[j]?=some u->wx.cell? ⟨g,0+j,none⟩=some u):=fun wx hb j u hu=>by
    rcases Nat.eq_zero_or_pos pl with h0 |h0
    ·rw[h0] at hu;simp at hu
    ·have:=HS.out 0 pl (by omega) h0 wx hb j u (by simpa using hu)
     simpa using this
   have H2:Hid (∀ wx,Below w.heap.size w wx->∀ j u,((K.drop (pl+1)).map encC).flatten[j]?=some u->wx.cell? ⟨g,(pl+1)*2+j,none⟩=some u):=fun wx hb j u hu=>by
    rcases Nat.lt_or_ge (pl+1) K.length with h0 |h0
    ·refine HS.out (pl+1) (K.length-(pl+1)) (by omega) (by omega) wx hb j u ?_
     rw[List.take_of_length_le (by rw[List.length_drop];omega)]
     exact hu
    ·rw[List.drop_of_length_le h0] at hu;simp at hu
   have hw1:IntKind.i64.wrap ((pl:Int)+1)=(pl:Int)+1:=by rw[IntKind.wrap_i64];omega
   have htn:((pl:Int)+1).toNat=pl+1:=by omega
   have hb1:(0:Int)<=(pl:Int)+1:=by omega
   have hb2:(pl:Int)+1<=(K.length:Int):=by omega
   have hb3:pl+1<=K.length:=by omega
   have hb4:(pl:Int)<=((pl+1:Nat):Int):=by omega
   have hb5:pl<=pl+1:=by omega
   have hb6:K.length<=pl+1:=hkc
   have hb7:(K.length:Int)<=((pl+1:Nat):Int):=by omega
   go_enter Tryz.func56,Tryz.ntmps56
   go_wp2_with first
    | (refine wpList_box_at (A:=#[.string p,.string t]) _ rfl _ rfl rfl ?_;intro w1 b1 N1;have k1:w1.cell? ⟨b1,0,none⟩=some (.string p):=N1.is.c 0)
    | (go_at_call 88;refine(CP.out _ N1.bel).mono ?_;rintro e w2 ⟨rfl,b2⟩;have X2:Hid (Below w.heap.size w w2/\At w2 b1 69 #[.string p,.string t]):=⟨thn N1.bel b2,N1.is.bel b2⟩;clear b2)
    | (refine wpList_build0 _ rfl rfl bC0 ?_;intro w3 b3 N3;have G3:Hid (Gat w w3 (.slice (some ⟨b3,0,none⟩) 0 0) []):=Gat.start X2.out.1 N3;have A3:Hid (At w3 b1 69 #[.string p,.string t]):=X2.out.2.bel N3.bel)
    | (have:=G5.out;refine wpList_app0 rfl _ _ rfl rfl rfl (by have:=HC5.out;omega) ?_)
    | (refine wpList_push elC (A:=#[.string p,.string t]) (L:=List.map encC (K.take pl)) rfl _ _ rfl rfl G4b.out.row rfl N4.is rfl (by intro u hu;simp at hu;rcases hu with rfl | rfl <;> rfl) (by rw[HT.out.2];omega) ?_;intro a5 c5 w5 A5;rw[HT.out.2] at A5 ⊢;have G5:Hid (Gat w w5 (.slice a5 (pl+1) c5) (K.take pl++[(p,t)])):=G4b.out.push (M2:=[(p,t)]) A5;have HC5:Hid (pl+1<=c5):=(by obtain⟨a7,c7,e7,h7⟩:=G5.out.row.sl;injection e7 with _ _ e8;rw[e8];rw[List.length_map,List.length_append,HT.out.1] at h7;exact h7))
    | (refine wpList_load_at stC (A:=#[.string p,.string t]) _ rfl _ rfl rfl A4.out rfl ?_)
    | (refine wpList_build1 (u:=.agg #[.string p,.string t]) (A:=#[.string p,.string t]) _ rfl _ rfl rfl (bC1 p t) ?_;intro w4b b4 N4;have G4b:Hid (Gat w w4b (.slice a4 pl c4) (K.take pl)):=G4.out.below N4.bel)
    | (refine wpList_append elC (L:=[]) (M:=(K.take pl).map encC) (g:=g) (of:=0) (m:=pl) rfl _ _ rfl rfl (Row.empty N3.is) rfl HT.out.2 (enc_len _) (H1.out _ G3.out.bel) (flat_one _) (by have h1:=HT.out.2;simp only[List.length_nil];omega) ?_;intro a4 c4 w4 A4';rw[show([]:List (List Value)).length+pl=pl from Nat.zero_add pl] at A4' ⊢;have G4:Hid (Gat w w4 (.slice a4 pl c4) (K.take pl)):=G3.out.push (M2:=K.take pl) A4';have A4:Hid (At w4 b1 69 #[.string p,.string t]):=A3.out.keep (A4'.grow.block b1 A3.out.lt (fun e=>by have e2:some b1=some b3:=e;injection e2 with e2;have:=X2.out.2.lt;have:=N3.eq;omega)))
   go_ret
   exact⟨⟨_,rfl,by rw[HPu.out,List.drop_of_length_le (by omega),List.append_nil];exact G5.out.row,G5.out.own⟩,G5.out.bel⟩
  ·skip
   have HD:Hid ((K.drop (pl+1)).length=K.length-(pl+1)):=List.length_drop
   have H1:Hid (∀ wx,Below w.heap.size w wx->∀ j u,((K.take pl).map encC).flatten[j]?=some u->wx.cell? ⟨g,0+j,none⟩=some u):=fun wx hb j u hu=>by
    rcases Nat.eq_zero_or_pos pl with h0 |h0
    ·rw[h0] at hu;simp at hu
    ·have:=HS.out 0 pl (by omega) h0 wx hb j u (by simpa using hu)
     simpa using this
   have H2:Hid (∀ wx,Below w.heap.size w wx->∀ j u,((K.drop (pl+1)).map encC).flatten[j]?=some u->wx.cell? ⟨g,(pl+1)*2+j,none⟩=some u):=fun wx hb j u hu=>by
    rcases Nat.lt_or_ge (pl+1) K.length with h0 |h0
    ·refine HS.out (pl+1) (K.length-(pl+1)) (by omega) (by omega) wx hb j u ?_
     rw[List.take_of_length_le (by rw[List.length_drop];omega)]
     exact hu
    ·rw[List.drop_of_length_le h0] at hu;simp at hu
   have hw1:IntKind.i64.wrap ((pl:Int)+1)=(pl:Int)+1:=by rw[IntKind.wrap_i64];omega
   have htn:((pl:Int)+1).toNat=pl+1:=by omega
   have hb1:(0:Int)<=(pl:Int)+1:=by omega
   have hb2:(pl:Int)+1<=(K.length:Int):=by omega
   have hb3:pl+1<=K.length:=by omega
   have hb4:(pl:Int)<=(c:Int):=by omega
   have hb5:pl<=c:=by omega
   have hb6:K.length<=c:=hkc
   have hb7:(K.length:Int)<=(c:Int):=by omega
   go_enter Tryz.func56,Tryz.ntmps56
   go_wp2_with first
    | (refine wpList_box_at (A:=#[.string p,.string t]) _ rfl _ rfl rfl ?_;intro w1 b1 N1;have k1:w1.cell? ⟨b1,0,none⟩=some (.string p):=N1.is.c 0)
    | (go_at_call 88;refine(CP.out _ N1.bel).mono ?_;rintro e w2 ⟨rfl,b2⟩;have X2:Hid (Below w.heap.size w w2/\At w2 b1 69 #[.string p,.string t]):=⟨thn N1.bel b2,N1.is.bel b2⟩;clear b2)
    | (refine wpList_build0 _ rfl rfl bC0 ?_;intro w3 b3 N3;have G3:Hid (Gat w w3 (.slice (some ⟨b3,0,none⟩) 0 0) []):=Gat.start X2.out.1 N3;have A3:Hid (At w3 b1 69 #[.string p,.string t]):=X2.out.2.bel N3.bel)
    | (have:=G5.out;refine wpList_append elC (L:=List.map encC (K.take pl++[(p,t)])) (M:=(K.drop (pl+1)).map encC) (g:=g) (of:=(pl+1)*2) (m:=K.length-(pl+1)) rfl _ _ rfl rfl G5.out.row rfl (by rw[List.length_map];exact HD.out) (enc_len _) (H2.out _ G5.out.bel) (flat_one _) (by have h1:=HT.out.1;have h2:=HD.out;simp only[List.length_map,List.length_append,List.length_singleton];omega) ?_;intro a6 c6 w6 A6;have hl6:(List.map encC (K.take pl++[(p,t)])).length=pl+1:=(by have h1:=HT.out.1;simp only[List.length_map,List.length_append,List.length_singleton];omega);rw[hl6] at A6 ⊢;rw[show pl+1+(K.length-(pl+1))=K.length by omega] at A6 ⊢;have G6:=G5.out.push A6)
    | (refine wpList_push elC (A:=#[.string p,.string t]) (L:=List.map encC (K.take pl)) rfl _ _ rfl rfl G4b.out.row rfl N4.is rfl (by intro u hu;simp at hu;rcases hu with rfl | rfl <;> rfl) (by rw[HT.out.2];omega) ?_;intro a5 c5 w5 A5;rw[HT.out.2] at A5 ⊢;have G5:Hid (Gat w w5 (.slice a5 (pl+1) c5) (K.take pl++[(p,t)])):=G4b.out.push (M2:=[(p,t)]) A5;have HC5:Hid (pl+1<=c5):=(by obtain⟨a7,c7,e7,h7⟩:=G5.out.row.sl;injection e7 with _ _ e8;rw[e8];rw[List.length_map,List.length_append,HT.out.1] at h7;exact h7))
    | (refine wpList_load_at stC (A:=#[.string p,.string t]) _ rfl _ rfl rfl A4.out rfl ?_)
    | (refine wpList_build1 (u:=.agg #[.string p,.string t]) (A:=#[.string p,.string t]) _ rfl _ rfl rfl (bC1 p t) ?_;intro w4b b4 N4;have G4b:Hid (Gat w w4b (.slice a4 pl c4) (K.take pl)):=G4.out.below N4.bel)
    | (refine wpList_append elC (L:=[]) (M:=(K.take pl).map encC) (g:=g) (of:=0) (m:=pl) rfl _ _ rfl rfl (Row.empty N3.is) rfl HT.out.2 (enc_len _) (H1.out _ G3.out.bel) (flat_one _) (by have h1:=HT.out.2;simp only[List.length_nil];omega) ?_;intro a4 c4 w4 A4';rw[show([]:List (List Value)).length+pl=pl from Nat.zero_add pl] at A4' ⊢;have G4:Hid (Gat w w4 (.slice a4 pl c4) (K.take pl)):=G3.out.push (M2:=K.take pl) A4';have A4:Hid (At w4 b1 69 #[.string p,.string t]):=A3.out.keep (A4'.grow.block b1 A3.out.lt (fun e=>by have e2:some b1=some b3:=e;injection e2 with e2;have:=X2.out.2.lt;have:=N3.eq;omega)))
   go_ret
   exact⟨⟨_,rfl,by rw[HPu.out];exact G6.row,G6.own⟩,G6.bel⟩
set_option maxHeartbeats 4000000 in
theorem Gone_some {g c:Nat} (h:Row w 69 2 (.slice (some ⟨g,0,none⟩) K.length c) (K.map encC)) (hn:K.length<=1000) (p:ByteArray) (hk:isK K p=true):Calls Tryz.prog 55 #[.slice (some ⟨g,0,none⟩) K.length c,.string p] w fun e w'=>ClE w e w' (delK K p):=by
 have HR:Hid (Row w 69 2 (.slice (some ⟨g,0,none⟩) K.length c) (K.map encC)):=h
 obtain⟨hkc,hcm⟩:K.length<=c/\c<=9223372036854775807:=by
  rcases h.row.2 with⟨e,h0⟩ |⟨g',cap,cur,e,_,_,h3,h4,_⟩
  ·injection e with e1 e2 e3
   cases e1
  ·injection e with e1 e2 e3
   rw[List.length_map] at h3
   unfold maxLen at h4
   omega
 have hx:=plc_le K p
 have CP:Hid (∀ wx,Below w.heap.size w wx->Calls Tryz.prog 88 #[.slice (some ⟨g,0,none⟩) K.length c,.string p] wx fun e w'=>e=.returned (.tuple #[.int .i64 (plc K p:Nat),.bool (isK K p)])/\Below wx.heap.size wx w'):=fun wx hb=>place_any (Rv.of_row (h.bel hb)) (by omega) p
 have HS:Hid (∀ i k,i+k<=K.length->0<k->∀ wx,Below w.heap.size w wx->∀ j u,(((K.drop i).take k).map encC).flatten[j]?=some u->wx.cell? ⟨g,i*2+j,none⟩=some u):=fun i k h1 h2 wx hb=>by
  obtain⟨g',e,hh⟩:=seg_at h i k h1 h2
  cases e
  exact hh wx hb
 have HPu:Hid (delK K p=K.take (plc K p)++K.drop (plc K p+1)):=if_pos hk
 have HT:Hid ((K.take (plc K p)).length=plc K p/\((K.take (plc K p)).map encC).length=plc K p):=⟨by rw[List.length_take];omega,by rw[List.length_map,List.length_take];omega⟩
 clear h
 rw[hk] at CP
 have hpt:plc K p<K.length:=(isK_at hk).1
 clear hk
 generalize plc K p=pl at *
 by_cases hcq:c=pl+1
 ·skip
  have hKl:K.length=pl+1:=by omega
  subst c
  rw[hKl] at CP ⊢
  have HD:Hid ((K.drop (pl+1)).length=K.length-(pl+1)):=List.length_drop
  have H1:Hid (∀ wx,Below w.heap.size w wx->∀ j u,((K.take pl).map encC).flatten[j]?=some u->wx.cell? ⟨g,0+j,none⟩=some u):=fun wx hb j u hu=>by
   rcases Nat.eq_zero_or_pos pl with h0 |h0
   ·rw[h0] at hu;simp at hu
   ·have:=HS.out 0 pl (by omega) h0 wx hb j u (by simpa using hu)
    simpa using this
  have H2:Hid (∀ wx,Below w.heap.size w wx->∀ j u,((K.drop (pl+1)).map encC).flatten[j]?=some u->wx.cell? ⟨g,(pl+1)*2+j,none⟩=some u):=fun wx hb j u hu=>by
   rcases Nat.lt_or_ge (pl+1) K.length with h0 |h0
   ·refine HS.out (pl+1) (K.length-(pl+1)) (by omega) (by omega) wx hb j u ?_
    rw[List.take_of_length_le (by rw[List.length_drop];omega)]
    exact hu
   ·rw[List.drop_of_length_le h0] at hu;simp at hu
  have hw1:IntKind.i64.wrap ((pl:Int)+1)=(pl:Int)+1:=by rw[IntKind.wrap_i64];omega
  have htn:((pl:Int)+1).toNat=pl+1:=by omega
  have hb1:(0:Int)<=(pl:Int)+1:=by omega
  have hb2:(pl:Int)+1<=(K.length:Int):=by omega
  have hb3:pl+1<=K.length:=by omega
  have hb4:(pl:Int)<=((pl+1:Nat):Int):=by omega
  have hb5:pl<=pl+1:=by omega
  have hb6:K.length<=pl+1:=hkc
  have hb7:(K.length:Int)<=((pl+1:Nat):Int):=by omega
  go_enter Tryz.func55,Tryz.ntmps55
  go_wp2_with first
   | (go_at_call 88;refine(CP.out _ (Below.refl _ _)).mono ?_;rintro e w2 ⟨rfl,b2⟩;have X2:Hid (Below w.heap.size w w2):=b2;clear b2)
   | (refine wpList_build0 _ rfl rfl bC0 ?_;intro w3 b3 N3;have G3:Hid (Gat w w3 (.slice (some ⟨b3,0,none⟩) 0 0) []):=Gat.start X2.out N3)
   | (have:=G4.out;refine wpList_app0 rfl _ _ rfl rfl rfl (by have:=HC4.out;omega) ?_)
   | (refine wpList_append elC (L:=[]) (M:=(K.take pl).map encC) (g:=g) (of:=0) (m:=pl) rfl _ _ rfl rfl (Row.empty N3.is) rfl HT.out.2 (enc_len _) (H1.out _ G3.out.bel) (flat_one _) (by have h1:=HT.out.2;simp only[List.length_nil];omega) ?_;intro a4 c4 w4 A4';rw[show([]:List (List Value)).length+pl=pl from Nat.zero_add pl] at A4' ⊢;have G4:Hid (Gat w w4 (.slice a4 pl c4) (K.take pl)):=G3.out.push (M2:=K.take pl) A4';have HC4:Hid (pl<=c4):=(by obtain⟨a7,c7,e7,h7⟩:=G4.out.row.sl;injection e7 with _ _ e8;rw[e8];rw[HT.out.2] at h7;exact h7))
  go_ret
  exact⟨⟨_,rfl,by rw[HPu.out,List.drop_of_length_le (by omega),List.append_nil];exact G4.out.row,G4.out.own⟩,G4.out.bel⟩
 ·skip
  have HD:Hid ((K.drop (pl+1)).length=K.length-(pl+1)):=List.length_drop
  have H1:Hid (∀ wx,Below w.heap.size w wx->∀ j u,((K.take pl).map encC).flatten[j]?=some u->wx.cell? ⟨g,0+j,none⟩=some u):=fun wx hb j u hu=>by
   rcases Nat.eq_zero_or_pos pl with h0 |h0
   ·rw[h0] at hu;simp at hu
   ·have:=HS.out 0 pl (by omega) h0 wx hb j u (by simpa using hu)
    simpa using this
  have H2:Hid (∀ wx,Below w.heap.size w wx->∀ j u,((K.drop (pl+1)).map encC).flatten[j]?=some u->wx.cell? ⟨g,(pl+1)*2+j,none⟩=some u):=fun wx hb j u hu=>by
   rcases Nat.lt_or_ge (pl+1) K.length with h0 |h0
   ·refine HS.out (pl+1) (K.length-(pl+1)) (by omega) (by omega) wx hb j u ?_
    rw[List.take_of_length_le (by rw[List.length_drop];omega)]
    exact hu
   ·rw[List.drop_of_length_le h0] at hu;simp at hu
  have hw1:IntKind.i64.wrap ((pl:Int)+1)=(pl:Int)+1:=by rw[IntKind.wrap_i64];omega
  have htn:((pl:Int)+1).toNat=pl+1:=by omega
  have hb1:(0:Int)<=(pl:Int)+1:=by omega
  have hb2:(pl:Int)+1<=(K.length:Int):=by omega
  have hb3:pl+1<=K.length:=by omega
  have hb4:(pl:Int)<=(c:Int):=by omega
  have hb5:pl<=c:=by omega
  have hb6:K.length<=c:=hkc
  have hb7:(K.length:Int)<=(c:Int):=by omega
  go_enter Tryz.func55,Tryz.ntmps55
  go_wp2_with first
   | (go_at_call 88;refine(CP.out _ (Below.refl _ _)).mono ?_;rintro e w2 ⟨rfl,b2⟩;have X2:Hid (Below w.heap.size w w2):=b2;clear b2)
   | (refine wpList_build0 _ rfl rfl bC0 ?_;intro w3 b3 N3;have G3:Hid (Gat w w3 (.slice (some ⟨b3,0,none⟩) 0 0) []):=Gat.start X2.out N3)
   | (have:=G4.out;refine wpList_append elC (L:=List.map encC (K.take pl)) (M:=(K.drop (pl+1)).map encC) (g:=g) (of:=(pl+1)*2) (m:=K.length-(pl+1)) rfl _ _ rfl rfl G4.out.row rfl (by rw[List.length_map];exact HD.out) (enc_len _) (H2.out _ G4.out.bel) (flat_one _) (by have h1:=HT.out.1;have h2:=HD.out;simp only[List.length_map];omega) ?_;intro a6 c6 w6 A6;have hl6:(List.map encC (K.take pl)).length=pl:=(by have h1:=HT.out.1;simp only[List.length_map,List.length_append,List.length_singleton];omega);rw[hl6] at A6 ⊢;have G6:=G4.out.push A6)
   | (refine wpList_append elC (L:=[]) (M:=(K.take pl).map encC) (g:=g) (of:=0) (m:=pl) rfl _ _ rfl rfl (Row.empty N3.is) rfl HT.out.2 (enc_len _) (H1.out _ G3.out.bel) (flat_one _) (by have h1:=HT.out.2;simp only[List.length_nil];omega) ?_;intro a4 c4 w4 A4';rw[show([]:List (List Value)).length+pl=pl from Nat.zero_add pl] at A4' ⊢;have G4:Hid (Gat w w4 (.slice a4 pl c4) (K.take pl)):=G3.out.push (M2:=K.take pl) A4';have HC4:Hid (pl<=c4):=(by obtain⟨a7,c7,e7,h7⟩:=G4.out.row.sl;injection e7 with _ _ e8;rw[e8];rw[HT.out.2] at h7;exact h7))
  go_ret
  exact⟨⟨_,rfl,by rw[HPu.out];exact G6.row,G6.own⟩,G6.bel⟩
theorem Lay_row {v:Value} (h:Row w 69 2 v (K.map encC)) (hn:K.length<=1000) (p t:ByteArray):Calls Tryz.prog 56 #[v,.agg #[.string p,.string t]] w fun e w'=>ClE w e w' (putK K (p,t)):=by
 rcases h.row.2 with⟨rfl,h0⟩ |⟨g,cap,cur,e,hB,hg,h3,h4,h5,h6⟩
 ·have hK:K=[]:=List.eq_nil_of_length_eq_zero (by rw[List.length_map] at h0;exact h0)
  subst hK
  exact Lay_nil w p t
 ·rw[List.length_map] at e
  subst e
  exact Lay_some h hn p t
structure GoE (w:World) (e:Ending) (w':World) (v:Value) (K:List CL):Prop where
 ex:∃ v',e=.returned v'/\Row w' 69 2 v' (K.map encC)/\(v'=v∨∀ g,v'.ownBlock=some g->w.heap.size<=g)
 bel:Below w.heap.size w w'
theorem Gone_no {a:Option Addr} {c:Nat} (h:Row w 69 2 (.slice a K.length c) (K.map encC)) (hn:K.length<=1000) (p:ByteArray) (hk:isK K p=false):Calls Tryz.prog 55 #[.slice a K.length c,.string p] w fun e w'=>e=.returned (.slice a K.length c)/\Below w.heap.size w w':=by
 have CP:=place_any (Rv.of_row h) (by omega) p
 rw[hk] at CP
 clear h hk
 generalize K.length=m at *
 generalize plc K p=pl at *
 go_enter Tryz.func55,Tryz.ntmps55
 go_wp2_with (go_at_call 88;refine CP.mono ?_;rintro e w2 ⟨rfl,b2⟩)
 go_ret
 exact⟨rfl,b2⟩
theorem Gone_row {v:Value} (h:Row w 69 2 v (K.map encC)) (hn:K.length<=1000) (p:ByteArray):Calls Tryz.prog 55 #[v,.string p] w fun e w'=>GoE w e w' v (delK K p):=by
 obtain⟨a,c,ea,_⟩:=h.sl
 rw[List.length_map] at ea
 subst ea
 cases hk:isK K p with
 | false =>
  have e9:delK K p=K:=by unfold delK;rw[if_neg (by rw[hk];simp)]
  rw[e9]
  refine(Gone_no h hn p hk).mono ?_
  rintro e w' ⟨rfl,hb⟩
  exact⟨⟨_,rfl,h.bel hb,Or.inl rfl⟩,hb⟩
 | true =>
  obtain⟨hp,_⟩:=isK_at hk
  rcases h.row.2 with⟨e,h0⟩ |⟨g,cap,cur,e,hB,hg,h3,h4,h5,h6⟩
  ·rw[List.length_map] at h0;omega
  ·injection e with e1 e2 e3
   subst e1
   refine(Gone_some h hn p hk).mono ?_
   rintro e w' ⟨⟨v',rfl,r1,r2⟩,r3⟩
   exact⟨⟨v',rfl,r1,Or.inr r2⟩,r3⟩
end
end Go.Proofs.YtdchjncnjgelhaaGreat.Fd
