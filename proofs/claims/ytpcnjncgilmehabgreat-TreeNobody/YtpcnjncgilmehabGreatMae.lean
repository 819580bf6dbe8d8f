import Derived.Test.YtpcnjncgilmehabGreatMad
import Derived.Shelf.RegionOpenPlain
import Derived.Lib.Walk
import Derived.Lib.Builder
import Derived.Lib.UnsafeStr
import Derived.Lib.SmallJoins
import Derived.Laws.Externs
import Derived.BigRegion
import Derived.Test.YtpcnjncgilmehabGreatMac
import Derived.Deep.MidRow
import Derived.Laws.AppendOwn
import Derived.Laws.ResultCell
import Derived.Laws.Rows
import Derived.Deep.WholeRow
import Derived.Deep.RegionLaw
import Derived.Deep.OwnRows
set_option linter.unusedVariables false
set_option linter.unusedSimpArgs false
set_option maxRecDepth 100000
namespace Go.Proofs.YtpcnjncgilmehabGreat
open Go.RowKit Go.Maps Go.ChangeMaps
def is5:Obj->Prop
 | .cells _ t _=>t=5
 | _=>False
theorem is5_L [Inhabited PrSet] {B:Nat} {w w':World} (h:Kp is5 B w w'):Kp isL B w w':=h.mono (fun o e=>by
 cases o with
 | cells cs t fz=>exact Or.inr (Or.inl e)
 | _=>exact e)
def isT:Obj->Prop
 | .cells _ t _=>t=5∨t=85
 | _=>False
theorem isT_L [Inhabited PrSet] {B:Nat} {w w':World} (h:Kp isT B w w'):Kp isL B w w':=h.mono (fun o e=>by
 cases o with
 | cells cs t fz=>exact Or.inr e
 | _=>exact e)
def isB:Obj->Prop
 | .cells _ t _=>t=5∨t=82
 | _=>False
theorem infoU8:(Tryz.prog.info? 5).map (fun i=>(i.zero,i.size,i.bytes))=some (some (.int .u8 0),1,1):=by kernel_rfl
theorem cellsU8:Tryz.prog.cellsOf 5=1:=by kernel_rfl
theorem infoBld:(Tryz.prog.info? 82).map (·.size)=some 2:=by kernel_rfl
theorem setSame {w:World} {g i:Nat} {cs:Array Value} {t:TypeId} {fr:Nat × Nat} {v:Value} (h:w.heap[g]?=some (.cells cs t fr)) (hv:cs[i]?=some v):w.setCell ⟨g,i,none⟩ v=w:=by
 rw[setCell_eq_setRow w g i cs t fr v h]
 have:cs.setIfInBounds i v=cs:=by
  apply Array.ext
  ·simp
  ·intro j h1 h2
   rw[Array.getElem_setIfInBounds]
   split
   ·rename_i e
    subst e
    exact(Array.getElem?_eq_some_iff.1 hv).2.symm
   ·rfl
 rw[this,setRow_self w g cs t fr h]
theorem ownF_slice {w:World} {B n:Nat} {v:Value} {xs:List Value} (h:w.ownsRowF B 5 1 v n xs):∃ ao cap,v=.slice ao n cap:=by
 rcases h.2 with⟨hv,h0⟩ |⟨g,cap,cur,fz,hv,_⟩
 ·exact⟨none,0,by rw[hv,h0]⟩
 ·exact⟨_,_,hv⟩
theorem ownF_of {w w':World} {B n:Nat} {v:Value} {xs:List Value} (h:w.ownsRowF B 5 1 v n xs) (hb:∀ (k:Nat) (cur:Array Value) (fz:Nat × Nat),w.heap[k]?=some (Obj.cells cur 5 fz)->w'.heap[k]?=some (Obj.cells cur 5 fz)):w'.ownsRowF B 5 1 v n xs:=by
 refine⟨h.1,?_⟩
 rcases h.2 with hn |⟨g,cap,cur,fz,hv,hbg,hg,rest⟩
 ·exact .inl hn
 ·exact .inr ⟨g,cap,cur,fz,hv,hbg,hb _ _ _ hg,rest⟩
theorem ownF_below {B:Nat} {w w':World} {n:Nat} {v:Value} {xs:List Value} (h:w.ownsRowF B 5 1 v n xs) (hk:Below w.heap.size w w'):w'.ownsRowF B 5 1 v n xs :=
 ownF_of h (fun k cur fz e=>(hk.block k (lt_of_some e)).trans e)
theorem ownF_ne {w:World} {B:Nat} {T:TypeId} {v:Value} {n:Nat} {xs:List Value} {b:Nat} {cs:Array Value} {fr:Nat × Nat} (hown:w.ownsRowF B 5 1 v n xs) (hb:w.heap[b]?=some (.cells cs T fr)) (hT:T≠5):v.ownBlock≠some b:=Lib.ownBlock_neF hown hb hT
theorem kp_grown [Inhabited PrSet] {A:Obj->Prop} {w w':World} {B n:Nat} {v:Value} {xs:List Value} (h:w.ownsRowF B 5 1 v n xs) (hg:w.grownBy w' v.ownBlock) (hB:B<=w.heap.size) (hA:∀ cur fz,A (.cells cur 5 fz)) (hv:npv v):Kp A B w w':=by
 refine⟨(Below.refl B w).grown hg hB (fun k hk=>(h.lt k hk).1),fun k o e hn=>?_,fun k o e hn=>(hg.block k (lt_of_some e) (fun e2=>hv k e2.symm hn)).trans e⟩
 refine(hg.block k (lt_of_some e) (fun e2=>?_)).trans e
 rcases h.2 with⟨rfl,_⟩ |⟨g,cap,cur,fz,rfl,_,hgg,_⟩
 ·simp[Value.ownBlock] at e2
 ·simp only[Value.ownBlock,Option.some.injEq] at e2
  subst e2
  rw[hgg] at e
  cases e
  exact hn (hA _ _)
theorem kp_freeze [Inhabited PrSet] {A:Obj->Prop} {w:World} {B g n:Nat} {cur:Array Value} {fz:Nat × Nat} (hg:w.heap[g]?=some (.cells cur 5 fz)) (hB:B<=g) (hA:∀ cur fz,A (.cells cur 5 fz)) (hng:np g):Kp A B w (w.freeze ⟨g,0,none⟩ n):=by
 refine Kp.one hg (hA _ _) (Lib.below_freeze (Below.refl B w) (p:=⟨g,0,none⟩) hB _) hng (fun k o e hk=>?_)
 unfold World.freeze
 split
 ·exact e
 ·simp only[Array.getElem?_modify]
  rw[if_neg (fun e2=>hk e2.symm)]
  exact e
theorem ownF_freeze {w:World} {B g n cap:Nat} {xs:List Value} (h:w.ownsRowF B 5 1 (.slice (some ⟨g,0,none⟩) n cap) n xs):(w.freeze ⟨g,0,none⟩ n).ownsRowF B 5 1 (.slice (some ⟨g,0,none⟩) n cap) n xs:=by
 unfold World.freeze
 split
 ·exact h
 ·refine⟨h.1,?_⟩
  rcases h.2 with⟨hv,_⟩ |⟨g',cap',cur,fz,hv,hbg,hg,hfz,rest⟩
  ·cases hv
  ·injection hv with ha _ hcap
   injection ha with ha
   injection ha with hgg _ _
   subst hgg
   subst hcap
   obtain⟨lo,hi⟩:=fz
   refine .inr ⟨g,_,cur,(if lo==hi then(0,0+n) else(min lo 0,max hi (0+n))),rfl,hbg,?_,?_,rest⟩
   ·simp[Array.getElem?_modify,hg]
   ·simp only at hfz
    split <;> simp <;> omega
theorem append_str {B n:Nat} {w:World} {v:Value} {xs:List Value} (hown:w.ownsRowF B 5 1 v n xs) (s:ByteArray) (hlen:n+s.size<=140737488355328) (hB:B<=w.heap.size) (ty:TypeId) :
  ∃ v' w',(Builtin.append_ #[80,9] ty #[v,.string s]).run Tryz.prog w=.ok v' w'/\w'.ownsRowF B 5 1 v' (n+s.size) (xs++Lib.strCells s)/\w.grownBy w' v.ownBlock/\(v'.ownBlock=v.ownBlock∨v'.ownBlock=some w.heap.size∨v'.ownBlock=none):=by
 obtain⟨i,hi,hz0,hz1,hz2⟩:=info_parts infoU8
 have h63:n+s.size<=maxLen:=by unfold maxLen;omega
 obtain⟨v',w',hr,h2,h3,h4⟩:=Lib.run_append_own_stringF (P:=Tryz.prog) w B 80 9 ty 5 i Tryz.underlying80 Tryz.underlying9 hi hz0 hz1 hz2 v n xs hown s h63 hlen hB
 refine⟨v',w',hr,h2,h3,?_⟩
 have hxl:xs.length=n:=by simpa using hown.1
 rcases hown.2 with⟨rfl,rfl⟩ |⟨g,cap,cur,fz,rfl,hbg,hg,hfz,hnc,hcm,hcs,htake⟩
 ·by_cases hm:s.size=0
  ·have:=h4.2 ⟨rfl,hm⟩
   subst this
   exact Or.inl rfl
  ·have hr2:=run_append_nil_string (P:=Tryz.prog) w 80 9 ty 5 i (.int .u8 0) Tryz.underlying80 Tryz.underlying9 hi hz0 s (by omega) (by omega) (by rw[hz2];omega)
   rw[hr2] at hr
   injection hr with e1 e2
   subst e1
   exact Or.inr (Or.inl rfl)
 ·by_cases hroom:n+s.size<=cap
  ·have hcs':cur.size=cap:=by simpa using hcs
   have hr2:=Lib.run_append_room_stringF (P:=Tryz.prog) w 80 9 ty 5 i Tryz.underlying80 Tryz.underlying9 hi hz1 g n cap cur fz hg (by simpa using hfz) s hroom (by omega)
   rw[hr2] at hr
   injection hr with e1 e2
   subst e1
   exact Or.inl rfl
  ·have holds:∀ j u,xs[j]?=some u->w.cell? ((⟨g,0,none⟩:Addr).add j)=some u:=hown.cells (g:=g) rfl
   have hr2:=Lib.run_append_grow_string (P:=Tryz.prog) w 80 9 ty 5 i (.int .u8 0) Tryz.underlying80 Tryz.underlying9 hi hz0 ⟨g,0,none⟩ n cap xs (by rw[hz1];simpa using hxl) holds s (by omega) (by omega) (by rw[hz2];exact growslice_fits (by omega) (by omega))
   rw[hr2] at hr
   injection hr with e1 e2
   subst e1
   exact Or.inr (Or.inl rfl)
theorem wpList_append_str {ops:Array Oper} {rest:List Oper} {o:Oper} {a:Act} {Q:Exit->Act->World->Prop} {w:World} {B n:Nat} {v:Value} {xs:List Value} (hgd:o.guard=none) (sl x:Operand)
  (ho:o.op=.call {callee:=.builtin .append,args:=#[sl,x],argTypes:=#[80,9]}) (hs:a.eval sl=v) (hown:w.ownsRowF B 5 1 v n xs) (s:ByteArray) (hx:a.eval x=.string s)
  (hlen:n+s.size<=140737488355328) (hB:B<=w.heap.size)
  (h:∀ v' w',w'.ownsRowF B 5 1 v' (n+s.size) (xs++Lib.strCells s)->w.grownBy w' v.ownBlock->(v'.ownBlock=v.ownBlock∨v'.ownBlock=some w.heap.size∨v'.ownBlock=none)->wpList Tryz.prog ops Q rest (a.put o.dst v') w'):wpList Tryz.prog ops Q (o ::rest) a w:=by
 refine wpList_plain hgd fun K hK=>?_
 obtain⟨v',w',hr,h2,h3,h4⟩:=append_str hown s hlen hB o.type
 unfold Oper.wp execOp
 simp only[ho,resolve,invoke,builtin,Sem.run_bind,Sem.run_pure,Result.andThen_ok,List.map_toArray,List.map_cons,List.map_nil,hs,hx,hr]
 exact hK _ _ (h v' w' h2 h3 h4)
theorem Bo_lies:liesAt Tryz.prog Tryz.prog.depth 82 (2 / Tryz.prog.cellsOf 82) 0 82 1=true:=by kernel_rfl
section
variable {b:Nat}{p v:Value}{w:World}
set_option maxHeartbeats 1000000 in
theorem Bo_copyCheck (h:w.heap[b]?=some (.cells #[p,v] 82 (0,0))) (hp:p=.pointer none∨p=(.pointer (some ⟨b,0,none⟩))):Calls Tryz.prog 147 #[(.pointer (some ⟨b,0,none⟩))] w fun e w'=>e=.returned (.tuple #[])/\w'=w.setCell ⟨b,0,none⟩ (.pointer (some ⟨b,0,none⟩)):=by
 obtain⟨j,hj,hjs⟩:=Option.map_eq_some_iff.1 infoBld
 have c0:w.cell? ⟨b,0,none⟩=some p:=by rw[Lib.cell_of_heap h];rfl
 have hsh:w.shape? b=some (82,2):=by simp[World.shape?,h]
 have hfz:w.frozen? ⟨b,0,none⟩=false:=Lib.frozen_of_heap h 0
 rcases hp with rfl |rfl
 ·go_enter Tryz.func147,Tryz.ntmps147
  go_wp2
  rw[Lib.run_to_unsafe w ⟨b,0,none⟩ Tryz.underlying79 Tryz.underlying241 hj (by rw[hjs];decide) hsh (by show 0<2;omega)]
  simp only[Result.andThen]
  rw[Oper.upon_value]
  go_wp2
  rw[run_callFunc_extern Tryz.func196 (by kernel_rfl) (by kernel_rfl) (by kernel_rfl) (e:=Extern.AbiNoEscape.same) (by kernel_rfl)]
  rw[Lib.run_noEscape]
  simp only[Result.andThen]
  rw[Oper.upon_value]
  go_wp2
  rw[Lib.run_from_unsafe w ⟨b,0,none⟩ Tryz.underlying241 Tryz.underlying79 hj hsh Bo_lies]
  simp only[Result.andThen]
  rw[Oper.upon_value]
  go_wp2
  go_end0
  exact⟨rfl,rfl⟩
 ·go_enter Tryz.func147,Tryz.ntmps147
  go_wp2
  rw[Lib.run_neq_ptr_same w _ Tryz.underlying79 hj]
  go_wp2
  go_end0
  exact⟨rfl,(setSame h rfl).symm⟩
set_option maxHeartbeats 2000000 in
theorem Bo_WriteString [Inhabited PrSet] {B:Nat} {xs:List Value} {n:Nat} (h:w.heap[b]?=some (.cells #[p,v] 82 (0,0))) (hp:p=.pointer none∨p=(.pointer (some ⟨b,0,none⟩))) (hown:w.ownsRowF B 5 1 v n xs) (s:ByteArray) (hlen:n+s.size<=140737488355328) (hB:Ow B b) (hBw:B<=w.heap.size) (hv:npv v) (hl:Ltp w) :
  Calls Tryz.prog 96 #[(.pointer (some ⟨b,0,none⟩)),.string s] w fun e w'=>(∃ v',w'.heap[b]?=some (.cells #[(.pointer (some ⟨b,0,none⟩)),v'] 82 (0,0))/\w'.ownsRowF B 5 1 v' (n+s.size) (xs++Lib.strCells s)/\npv v')/\e=.returned (.tuple #[.int .i64 s.size,.nilIface])/\Kp isB B w w':=by
 have CC:Hid (Calls Tryz.prog 147 #[(.pointer (some ⟨b,0,none⟩))] w fun e w'=>e=.returned (.tuple #[])/\w'=w.setCell ⟨b,0,none⟩ (.pointer (some ⟨b,0,none⟩))):=Bo_copyCheck h hp
 have hb1:(w.setCell ⟨b,0,none⟩ (.pointer (some ⟨b,0,none⟩))).heap[b]?=some (.cells #[(.pointer (some ⟨b,0,none⟩)),v] 82 (0,0)):=Joins.block_setCell h _
 have ho1:(w.setCell ⟨b,0,none⟩ (.pointer (some ⟨b,0,none⟩))).ownsRowF B 5 1 v n xs:=hown.kept (row:=some b) ⟨rfl,rfl,rfl,by simp[World.setCell],fun k _ hk=>Below.heap_setCell _ _ _ _ (fun e=>hk (by simp[e]))⟩ (Or.inr (ownF_ne hown h (by decide)))
 have k1:Kp isB B w (w.setCell ⟨b,0,none⟩ (.pointer (some ⟨b,0,none⟩))):=Kp.cell h (by simp[isB]) hB
 have hz:(w.setCell ⟨b,0,none⟩ (.pointer (some ⟨b,0,none⟩))).heap.size=w.heap.size:=by simp[World.setCell]
 have H:Hid _:=h
 clear h
 generalize hw1:w.setCell ⟨b,0,none⟩ (.pointer (some ⟨b,0,none⟩))=w1 at *
 have c0:w1.cell? ⟨b,0,none⟩=some (.pointer (some ⟨b,0,none⟩)):=by rw[Lib.cell_of_heap hb1];rfl
 have c1:w1.cell? ⟨b,1,none⟩=some v:=by rw[Lib.cell_of_heap hb1];rfl
 clear hw1
 go_enter Tryz.func96,Tryz.ntmps96
 go_wp2_with (first
  | (go_at_call 147;refine CC.out.mono ?_;rintro e w' ⟨rfl,rfl⟩)
  | (at_builtin;refine wpList_append_str (B:=B) rfl _ _ rfl rfl ho1 s rfl ?c4 ?c5 ?_))
 case c4=>omega
 case c5=>omega
 intro v' w2 hown' hgrow hob
 have hv':npv v':=hv.of hl hob
 have hb2:w2.heap[b]?=some (.cells #[(.pointer (some ⟨b,0,none⟩)),v] 82 (0,0)):=by
  rw[hgrow.block b (lt_of_some hb1) (fun e=>ownF_ne ho1 hb1 (by decide) e.symm)]
  exact hb1
 have d0:w2.cell? ⟨b,0,none⟩=some (.pointer (some ⟨b,0,none⟩)):=by rw[Lib.cell_of_heap hb2];rfl
 have d1:w2.cell? ⟨b,1,none⟩=some v:=by rw[Lib.cell_of_heap hb2];rfl
 have f1:w2.frozen? ⟨b,1,none⟩=false:=Lib.frozen_of_heap hb2 1
 obtain⟨ao,cap,rfl⟩:=ownF_slice hown'
 go_wp2
 go_ret2
 have k2:=k1.trans (kp_grown (A:=isB) ho1 hgrow (by omega) (fun _ _=>by simp[isB]) hv)
 refine⟨⟨_,Joins.block_setCell hb2 _,?_,hv'⟩,rfl,?_⟩
 ·exact hown'.kept (row:=some b) ⟨rfl,rfl,rfl,by simp[World.setCell],fun k _ hk=>Below.heap_setCell _ _ _ _ (fun e=>hk (by simp[e]))⟩ (Or.inr (ownF_ne hown' hb2 (by decide)))
 ·exact k2.trans (Kp.cell hb2 (by simp[isB]) hB)
set_option maxHeartbeats 2000000 in
theorem Bo_String [Inhabited PrSet] {B:Nat} (s:ByteArray) (h:w.heap[b]?=some (.cells #[p,v] 82 (0,0))) (hown:w.ownsRowF B 5 1 v s.size (Lib.strCells s)) (hBw:B<=w.heap.size) (hv:npv v) :
  Calls Tryz.prog 38 #[(.pointer (some ⟨b,0,none⟩))] w fun e w'=>e=.returned (.string s)/\w'.heap[b]?=some (.cells #[p,v] 82 (0,0))/\w'.ownsRowF B 5 1 v s.size (Lib.strCells s)/\Kp is5 B w w'/\Ce w w':=by
 have hb:=lt_of_some h
 have hUS:∀ W q,(Builtin.unsafeString_ #[148,3] 9 #[.pointer q,.int .i64 0]).run Tryz.prog W=.ok (.string .empty) W:=fun W q=>Lib.run_unsafeString_none W _ _ _ q
 rcases hown.2 with⟨rfl,h0⟩ |⟨g,cap,cur,fz,rfl,hbg,hg,hfz,hnc,hcm,hcs,htake⟩
 ·have hs:s=⟨#[]⟩:=by
   apply ByteArray.ext
   exact Array.eq_empty_of_size_eq_zero h0
  subst hs
  have c1:w.drew.cell? ⟨b,1,none⟩=some (.slice none 0 0):=by
   have:w.drew.heap[b]?=some (.cells #[p,(.slice none 0 0)] 82 (0,0)):=h
   rw[Lib.cell_of_heap this];rfl
  have hSD:(Builtin.unsafeSliceData_ #[80] 148 #[.slice none 0 0]).run Tryz.prog w.drew=.ok (.pointer none) w.drew:=rfl
  have H:Hid _:=h
  have HO:Hid (w.ownsRowF B 5 1 (.slice none 0 0) (⟨#[]⟩:ByteArray).size (Lib.strCells ⟨#[]⟩)):=hown
  clear h hown h0
  go_enter Tryz.func38,Tryz.ntmps38
  go_wp2
  go_region
  all_goals (go_wp2;go_ret;exact⟨rfl,H.out,HO.out,Kp.drew _ _ _,Ce.of_below (Below.refl _ w).drew⟩)
 ·by_cases hc0:cap=0
  ·subst hc0
   have hz:s.size=0:=by omega
   have hs:s=⟨#[]⟩:=by
    apply ByteArray.ext
    exact Array.eq_empty_of_size_eq_zero hz
   subst hs
   have h':w.heap[b]?=some (.cells #[p,(.slice (some ⟨g,0,none⟩) 0 0)] 82 (0,0)):=h
   have c1:w.drew.cell? ⟨b,1,none⟩=some (.slice (some ⟨g,0,none⟩) 0 0):=by
    have:w.drew.heap[b]?=some (.cells #[p,(.slice (some ⟨g,0,none⟩) 0 0)] 82 (0,0)):=h'
    rw[Lib.cell_of_heap this];rfl
   have hSD:(Builtin.unsafeSliceData_ #[80] 148 #[.slice (some ⟨g,0,none⟩) 0 0]).run Tryz.prog w.drew=.ok (.pointer (some ⟨w.drew.heap.size,0,none⟩)) (w.drew.alloc (.view ⟨g,0,none⟩ 5)) :=
    Lib.run_unsafeSliceData_zero w.drew _ _ 5 Tryz.underlying148 ⟨g,0,none⟩ 0 (5,cur.size) (by have hg':w.drew.heap[g]?=some (.cells cur 5 fz):=hg;simp[World.shape?,hg'])
   have c2:(w.drew.alloc (.view ⟨g,0,none⟩ 5)).cell? ⟨b,1,none⟩=some (.slice (some ⟨g,0,none⟩) 0 0):=by
    have:(w.drew.alloc (.view ⟨g,0,none⟩ 5)).heap[b]?=_:=(Lib.alloc_old w.drew _ b hb).trans h'
    rw[Lib.cell_of_heap this];rfl
   have c3:(w.alloc (.view ⟨g,0,none⟩ 5)).drew.cell? ⟨b,1,none⟩=some (.slice (some ⟨g,0,none⟩) 0 0):=c2
   have c0:w.cell? ⟨b,1,none⟩=some (.slice (some ⟨g,0,none⟩) 0 0):=c1
   have bel:Below w.heap.size w (w.drew.alloc (.view ⟨g,0,none⟩ 5)):=(Below.refl w.heap.size w).drew.alloc (Nat.le_refl _) _
   have HK:Hid (Kp is5 B w (w.drew.alloc (.view ⟨g,0,none⟩ 5))/\Ce w (w.drew.alloc (.view ⟨g,0,none⟩ 5))):=(⟨Kp.of_below bel hBw,Ce.of_below bel⟩:Kp is5 B w (w.drew.alloc (.view ⟨g,0,none⟩ 5))/\Ce w (w.drew.alloc (.view ⟨g,0,none⟩ 5)))
   have HO:Hid ((w.drew.alloc (.view ⟨g,0,none⟩ 5)).ownsRowF B 5 1 (.slice (some ⟨g,0,none⟩) 0 0) (⟨#[]⟩:ByteArray).size (Lib.strCells ⟨#[]⟩)):=ownF_below hown bel
   have HB:Hid ((w.drew.alloc (.view ⟨g,0,none⟩ 5)).heap[b]?=some (.cells #[p,(.slice (some ⟨g,0,none⟩) 0 0)] 82 (0,0))):=(bel.block b hb).trans h'
   clear h h' hown hnc hcm hcs htake hfz hz bel
   go_enter Tryz.func38,Tryz.ntmps38
   go_wp2
   go_region
   all_goals (go_wp2;go_ret;exact⟨rfl,HB.out,HO.out,HK.out.1,HK.out.2⟩)
  ·have c1:w.drew.cell? ⟨b,1,none⟩=some (.slice (some ⟨g,0,none⟩) s.size cap):=by
    have:w.drew.heap[b]?=some (.cells #[p,(.slice (some ⟨g,0,none⟩) s.size cap)] 82 (0,0)):=h
    rw[Lib.cell_of_heap this];rfl
   have hSD:(Builtin.unsafeSliceData_ #[80] 148 #[.slice (some ⟨g,0,none⟩) s.size cap]).run Tryz.prog w.drew=.ok (.pointer (some ⟨g,0,none⟩)) w.drew :=
    Lib.run_unsafeSliceData_row _ _ _ _ _ _ hc0
   by_cases hz:s.size=0
   ·have hs:s=⟨#[]⟩:=by
     apply ByteArray.ext
     exact Array.eq_empty_of_size_eq_zero hz
    subst hs
    have c1':w.drew.cell? ⟨b,1,none⟩=some (.slice (some ⟨g,0,none⟩) 0 cap):=c1
    have hSD':(Builtin.unsafeSliceData_ #[80] 148 #[.slice (some ⟨g,0,none⟩) 0 cap]).run Tryz.prog w.drew=.ok (.pointer (some ⟨g,0,none⟩)) w.drew:=hSD
    have H:Hid _:=h
    have HO:Hid (w.ownsRowF B 5 1 (.slice (some ⟨g,0,none⟩) (⟨#[]⟩:ByteArray).size cap) (⟨#[]⟩:ByteArray).size (Lib.strCells ⟨#[]⟩)):=hown
    clear h hown hnc hcm hcs htake hfz hz hc0 c1 hSD
    go_enter Tryz.func38,Tryz.ntmps38
    go_wp2
    go_region
    all_goals (go_wp2;go_ret;exact⟨rfl,H.out,HO.out,Kp.drew _ _ _,Ce.of_below (Below.refl _ w).drew⟩)
   ·have hl:s.data.toList≠[]:=fun e=>hz (by show s.data.size=0;rw[← Array.length_toList,e];rfl)
    have hzl:s.data.toList.length=s.size:=Array.length_toList
    have hUS2:(Builtin.unsafeString_ #[148,3] 9 #[.pointer (some ⟨g,0,none⟩),.int .i64 s.size]).run Tryz.prog w.drew=.ok (.string s) (w.drew.freeze ⟨g,0,none⟩ s.size):=by
     have:=Lib.run_unsafeString_row (P:=Tryz.prog) w.drew 148 3 9 5 Tryz.underlying148 cellsU8 g cur.size (by have hg':w.drew.heap[g]?=some (.cells cur 5 fz):=hg;simp[World.shape?,hg']) s.data.toList hl (by omega) (by unfold maxLen at hcm;omega) (fun j x hx=>by
      have:=hown.cells (g:=g) rfl j (.int .u8 x.toNat) (by rw[Lib.strCells_eq];simp[Lib.byteCells,hx])
      exact this)
     rw[hzl] at this
     exact this
    have hfr:(w.drew.freeze ⟨g,0,none⟩ s.size).heap[b]?=some (.cells #[p,(.slice (some ⟨g,0,none⟩) s.size cap)] 82 (0,0)):=by
     have hgb:g≠b:=fun e=>by subst e;rw[hg] at h;cases h
     unfold World.freeze
     split
     ·exact h
     ·simp only[Array.getElem?_modify]
      rw[if_neg hgb]
      exact h
    have HB:Hid _:=hfr
    have HO:Hid ((w.drew.freeze ⟨g,0,none⟩ s.size).ownsRowF B 5 1 (.slice (some ⟨g,0,none⟩) s.size cap) s.size (Lib.strCells s)):=ownF_freeze (w:=w.drew) hown
    have k1:Kp is5 B w w.drew:=Kp.drew _ _ _
    have k2:Kp is5 B w.drew (w.drew.freeze ⟨g,0,none⟩ s.size):=kp_freeze (w:=w.drew) hg hbg (fun _ _=>rfl) (hv g rfl)
    have HK:Hid (Kp is5 B w (w.drew.freeze ⟨g,0,none⟩ s.size)/\Ce w (w.drew.freeze ⟨g,0,none⟩ s.size)):=(⟨k1.trans k2,(Ce.of_below (Below.refl _ w).drew).trans (Ce.freeze w.drew g s.size)⟩:Kp is5 B w (w.drew.freeze ⟨g,0,none⟩ s.size)/\Ce w (w.drew.freeze ⟨g,0,none⟩ s.size))
    clear hfr k1 k2 h hown hnc hcm hcs htake hfz hz hc0 hUS hl hzl
    go_enter Tryz.func38,Tryz.ntmps38
    go_wp2
    go_region
    all_goals (go_wp2;go_ret;exact⟨rfl,HB.out,HO.out,HK.out.1,HK.out.2⟩)
end
theorem Bf_lies:liesAt Tryz.prog Tryz.prog.depth 85 (10 / Tryz.prog.cellsOf 85) 5 82 1=true:=by kernel_rfl
section
variable {x0 x1 x2 x3 x4 x7 x8 x9:Value}{b:Nat}{p v:Value}{w:World}
set_option maxHeartbeats 1000000 in
theorem Bf_copyCheck (h:w.heap[b]?=some (.cells #[x0,x1,x2,x3,x4,p,v,x7,x8,x9] 85 (0,0))) (hp:p=.pointer none∨p=(.pointer (some ⟨b,5,none⟩))):Calls Tryz.prog 147 #[(.pointer (some ⟨b,5,none⟩))] w fun e w'=>e=.returned (.tuple #[])/\w'=w.setCell ⟨b,5,none⟩ (.pointer (some ⟨b,5,none⟩)):=by
 obtain⟨j,hj,hjs⟩:=Option.map_eq_some_iff.1 infoBld
 have c0:w.cell? ⟨b,5,none⟩=some p:=by rw[Lib.cell_of_heap h];rfl
 have hsh:w.shape? b=some (85,10):=by simp[World.shape?,h]
 have hfz:w.frozen? ⟨b,5,none⟩=false:=Lib.frozen_of_heap h 5
 rcases hp with rfl |rfl
 ·go_enter Tryz.func147,Tryz.ntmps147
  go_wp2
  rw[Lib.run_to_unsafe w ⟨b,5,none⟩ Tryz.underlying79 Tryz.underlying241 hj (by rw[hjs];decide) hsh (by show 5<10;omega)]
  simp only[Result.andThen]
  rw[Oper.upon_value]
  go_wp2
  rw[run_callFunc_extern Tryz.func196 (by kernel_rfl) (by kernel_rfl) (by kernel_rfl) (e:=Extern.AbiNoEscape.same) (by kernel_rfl)]
  rw[Lib.run_noEscape]
  simp only[Result.andThen]
  rw[Oper.upon_value]
  go_wp2
  rw[Lib.run_from_unsafe w ⟨b,5,none⟩ Tryz.underlying241 Tryz.underlying79 hj hsh Bf_lies]
  simp only[Result.andThen]
  rw[Oper.upon_value]
  go_wp2
  go_end0
  exact⟨rfl,rfl⟩
 ·go_enter Tryz.func147,Tryz.ntmps147
  go_wp2
  rw[Lib.run_neq_ptr_same w _ Tryz.underlying79 hj]
  go_wp2
  go_end0
  exact⟨rfl,(setSame h rfl).symm⟩
theorem Bf_Len {n:Nat} (ao:Option Addr) (cap:Nat) (h:w.heap[b]?=some (.cells #[x0,x1,x2,x3,x4,p,(.slice ao n cap),x7,x8,x9] 85 (0,0))):Calls Tryz.prog 34 #[(.pointer (some ⟨b,5,none⟩))] w fun e w'=>e=.returned (.int .i64 (n:Int))/\w'=w:=by
 have c1:w.cell? ⟨b,6,none⟩=some (.slice ao n cap):=by rw[Lib.cell_of_heap h];rfl
 go_enter Tryz.func34,Tryz.ntmps34
 go_wp2
 go_ret
 exact⟨rfl,rfl⟩
set_option maxHeartbeats 2000000 in
theorem Bf_WriteString [Inhabited PrSet] {B:Nat} {xs:List Value} {n:Nat} (h:w.heap[b]?=some (.cells #[x0,x1,x2,x3,x4,p,v,x7,x8,x9] 85 (0,0))) (hp:p=.pointer none∨p=(.pointer (some ⟨b,5,none⟩))) (hown:w.ownsRowF B 5 1 v n xs) (s:ByteArray) (hlen:n+s.size<=140737488355328) (hB:Ow B b) (hBw:B<=w.heap.size) (hv:npv v) (hl:Ltp w) :
  Calls Tryz.prog 96 #[(.pointer (some ⟨b,5,none⟩)),.string s] w fun e w'=>(∃ v',w'.heap[b]?=some (.cells #[x0,x1,x2,x3,x4,(.pointer (some ⟨b,5,none⟩)),v',x7,x8,x9] 85 (0,0))/\w'.ownsRowF B 5 1 v' (n+s.size) (xs++Lib.strCells s)/\npv v')/\e=.returned (.tuple #[.int .i64 s.size,.nilIface])/\Kp isT B w w':=by
 have CC:Hid (Calls Tryz.prog 147 #[(.pointer (some ⟨b,5,none⟩))] w fun e w'=>e=.returned (.tuple #[])/\w'=w.setCell ⟨b,5,none⟩ (.pointer (some ⟨b,5,none⟩))):=Bf_copyCheck h hp
 have hb1:(w.setCell ⟨b,5,none⟩ (.pointer (some ⟨b,5,none⟩))).heap[b]?=some (.cells #[x0,x1,x2,x3,x4,(.pointer (some ⟨b,5,none⟩)),v,x7,x8,x9] 85 (0,0)):=Joins.block_setCell h _
 have ho1:(w.setCell ⟨b,5,none⟩ (.pointer (some ⟨b,5,none⟩))).ownsRowF B 5 1 v n xs:=hown.kept (row:=some b) ⟨rfl,rfl,rfl,by simp[World.setCell],fun k _ hk=>Below.heap_setCell _ _ _ _ (fun e=>hk (by simp[e]))⟩ (Or.inr (ownF_ne hown h (by decide)))
 have k1:Kp isT B w (w.setCell ⟨b,5,none⟩ (.pointer (some ⟨b,5,none⟩))):=Kp.cell h (by simp[isT]) hB
 have hz:(w.setCell ⟨b,5,none⟩ (.pointer (some ⟨b,5,none⟩))).heap.size=w.heap.size:=by simp[World.setCell]
 have H:Hid _:=h
 clear h
 generalize hw1:w.setCell ⟨b,5,none⟩ (.pointer (some ⟨b,5,none⟩))=w1 at *
 have c0:w1.cell? ⟨b,5,none⟩=some (.pointer (some ⟨b,5,none⟩)):=by rw[Lib.cell_of_heap hb1];rfl
 have c1:w1.cell? ⟨b,6,none⟩=some v:=by rw[Lib.cell_of_heap hb1];rfl
 clear hw1
 go_enter Tryz.func96,Tryz.ntmps96
 go_wp2_with (first
  | (go_at_call 147;refine CC.out.mono ?_;rintro e w' ⟨rfl,rfl⟩)
  | (at_builtin;refine wpList_append_str (B:=B) rfl _ _ rfl rfl ho1 s rfl ?c4 ?c5 ?_))
 case c4=>omega
 case c5=>omega
 intro v' w2 hown' hgrow hob
 have hv':npv v':=hv.of hl hob
 have hb2:w2.heap[b]?=some (.cells #[x0,x1,x2,x3,x4,(.pointer (some ⟨b,5,none⟩)),v,x7,x8,x9] 85 (0,0)):=by
  rw[hgrow.block b (lt_of_some hb1) (fun e=>ownF_ne ho1 hb1 (by decide) e.symm)]
  exact hb1
 have d0:w2.cell? ⟨b,5,none⟩=some (.pointer (some ⟨b,5,none⟩)):=by rw[Lib.cell_of_heap hb2];rfl
 have d1:w2.cell? ⟨b,6,none⟩=some v:=by rw[Lib.cell_of_heap hb2];rfl
 have f1:w2.frozen? ⟨b,6,none⟩=false:=Lib.frozen_of_heap hb2 6
 obtain⟨ao,cap,rfl⟩:=ownF_slice hown'
 go_wp2
 go_ret2
 have k2:=k1.trans (kp_grown (A:=isT) ho1 hgrow (by omega) (fun _ _=>by simp[isT]) hv)
 refine⟨⟨_,Joins.block_setCell hb2 _,?_,hv'⟩,rfl,?_⟩
 ·exact hown'.kept (row:=some b) ⟨rfl,rfl,rfl,by simp[World.setCell],fun k _ hk=>Below.heap_setCell _ _ _ _ (fun e=>hk (by simp[e]))⟩ (Or.inr (ownF_ne hown' hb2 (by decide)))
 ·exact k2.trans (Kp.cell hb2 (by simp[isT]) hB)
set_option maxHeartbeats 2000000 in
theorem Bf_String [Inhabited PrSet] {B:Nat} (s:ByteArray) (h:w.heap[b]?=some (.cells #[x0,x1,x2,x3,x4,p,v,x7,x8,x9] 85 (0,0))) (hown:w.ownsRowF B 5 1 v s.size (Lib.strCells s)) (hBw:B<=w.heap.size) (hv:npv v) :
  Calls Tryz.prog 38 #[(.pointer (some ⟨b,5,none⟩))] w fun e w'=>e=.returned (.string s)/\w'.heap[b]?=some (.cells #[x0,x1,x2,x3,x4,p,v,x7,x8,x9] 85 (0,0))/\w'.ownsRowF B 5 1 v s.size (Lib.strCells s)/\Kp is5 B w w'/\Ce w w':=by
 have hb:=lt_of_some h
 have hUS:∀ W q,(Builtin.unsafeString_ #[148,3] 9 #[.pointer q,.int .i64 0]).run Tryz.prog W=.ok (.string .empty) W:=fun W q=>Lib.run_unsafeString_none W _ _ _ q
 rcases hown.2 with⟨rfl,h0⟩ |⟨g,cap,cur,fz,rfl,hbg,hg,hfz,hnc,hcm,hcs,htake⟩
 ·have hs:s=⟨#[]⟩:=by
   apply ByteArray.ext
   exact Array.eq_empty_of_size_eq_zero h0
  subst hs
  have c1:w.drew.cell? ⟨b,6,none⟩=some (.slice none 0 0):=by
   have:w.drew.heap[b]?=some (.cells #[x0,x1,x2,x3,x4,p,(.slice none 0 0),x7,x8,x9] 85 (0,0)):=h
   rw[Lib.cell_of_heap this];rfl
  have hSD:(Builtin.unsafeSliceData_ #[80] 148 #[.slice none 0 0]).run Tryz.prog w.drew=.ok (.pointer none) w.drew:=rfl
  have H:Hid _:=h
  have HO:Hid (w.ownsRowF B 5 1 (.slice none 0 0) (⟨#[]⟩:ByteArray).size (Lib.strCells ⟨#[]⟩)):=hown
  clear h hown h0
  go_enter Tryz.func38,Tryz.ntmps38
  go_wp2
  go_region
  all_goals (go_wp2;go_ret;exact⟨rfl,H.out,HO.out,Kp.drew _ _ _,Ce.of_below (Below.refl _ w).drew⟩)
 ·by_cases hc0:cap=0
  ·subst hc0
   have hz:s.size=0:=by omega
   have hs:s=⟨#[]⟩:=by
    apply ByteArray.ext
    exact Array.eq_empty_of_size_eq_zero hz
   subst hs
   have h':w.heap[b]?=some (.cells #[x0,x1,x2,x3,x4,p,(.slice (some ⟨g,0,none⟩) 0 0),x7,x8,x9] 85 (0,0)):=h
   have c1:w.drew.cell? ⟨b,6,none⟩=some (.slice (some ⟨g,0,none⟩) 0 0):=by
    have:w.drew.heap[b]?=some (.cells #[x0,x1,x2,x3,x4,p,(.slice (some ⟨g,0,none⟩) 0 0),x7,x8,x9] 85 (0,0)):=h'
    rw[Lib.cell_of_heap this];rfl
   have hSD:(Builtin.unsafeSliceData_ #[80] 148 #[.slice (some ⟨g,0,none⟩) 0 0]).run Tryz.prog w.drew=.ok (.pointer (some ⟨w.drew.heap.size,0,none⟩)) (w.drew.alloc (.view ⟨g,0,none⟩ 5)) :=
    Lib.run_unsafeSliceData_zero w.drew _ _ 5 Tryz.underlying148 ⟨g,0,none⟩ 0 (5,cur.size) (by have hg':w.drew.heap[g]?=some (.cells cur 5 fz):=hg;simp[World.shape?,hg'])
   have c2:(w.drew.alloc (.view ⟨g,0,none⟩ 5)).cell? ⟨b,6,none⟩=some (.slice (some ⟨g,0,none⟩) 0 0):=by
    have:(w.drew.alloc (.view ⟨g,0,none⟩ 5)).heap[b]?=_:=(Lib.alloc_old w.drew _ b hb).trans h'
    rw[Lib.cell_of_heap this];rfl
   have c3:(w.alloc (.view ⟨g,0,none⟩ 5)).drew.cell? ⟨b,6,none⟩=some (.slice (some ⟨g,0,none⟩) 0 0):=c2
   have c0:w.cell? ⟨b,6,none⟩=some (.slice (some ⟨g,0,none⟩) 0 0):=c1
   have bel:Below w.heap.size w (w.drew.alloc (.view ⟨g,0,none⟩ 5)):=(Below.refl w.heap.size w).drew.alloc (Nat.le_refl _) _
   have HK:Hid (Kp is5 B w (w.drew.alloc (.view ⟨g,0,none⟩ 5))/\Ce w (w.drew.alloc (.view ⟨g,0,none⟩ 5))):=(⟨Kp.of_below bel hBw,Ce.of_below bel⟩:Kp is5 B w (w.drew.alloc (.view ⟨g,0,none⟩ 5))/\Ce w (w.drew.alloc (.view ⟨g,0,none⟩ 5)))
   have HO:Hid ((w.drew.alloc (.view ⟨g,0,none⟩ 5)).ownsRowF B 5 1 (.slice (some ⟨g,0,none⟩) 0 0) (⟨#[]⟩:ByteArray).size (Lib.strCells ⟨#[]⟩)):=ownF_below hown bel
   have HB:Hid ((w.drew.alloc (.view ⟨g,0,none⟩ 5)).heap[b]?=some (.cells #[x0,x1,x2,x3,x4,p,(.slice (some ⟨g,0,none⟩) 0 0),x7,x8,x9] 85 (0,0))):=(bel.block b hb).trans h'
   clear h h' hown hnc hcm hcs htake hfz hz bel
   go_enter Tryz.func38,Tryz.ntmps38
   go_wp2
   go_region
   all_goals (go_wp2;go_ret;exact⟨rfl,HB.out,HO.out,HK.out.1,HK.out.2⟩)
  ·have c1:w.drew.cell? ⟨b,6,none⟩=some (.slice (some ⟨g,0,none⟩) s.size cap):=by
    have:w.drew.heap[b]?=some (.cells #[x0,x1,x2,x3,x4,p,(.slice (some ⟨g,0,none⟩) s.size cap),x7,x8,x9] 85 (0,0)):=h
    rw[Lib.cell_of_heap this];rfl
   have hSD:(Builtin.unsafeSliceData_ #[80] 148 #[.slice (some ⟨g,0,none⟩) s.size cap]).run Tryz.prog w.drew=.ok (.pointer (some ⟨g,0,none⟩)) w.drew :=
    Lib.run_unsafeSliceData_row _ _ _ _ _ _ hc0
   by_cases hz:s.size=0
   ·have hs:s=⟨#[]⟩:=by
     apply ByteArray.ext
     exact Array.eq_empty_of_size_eq_zero hz
    subst hs
    have c1':w.drew.cell? ⟨b,6,none⟩=some (.slice (some ⟨g,0,none⟩) 0 cap):=c1
    have hSD':(Builtin.unsafeSliceData_ #[80] 148 #[.slice (some ⟨g,0,none⟩) 0 cap]).run Tryz.prog w.drew=.ok (.pointer (some ⟨g,0,none⟩)) w.drew:=hSD
    have H:Hid _:=h
    have HO:Hid (w.ownsRowF B 5 1 (.slice (some ⟨g,0,none⟩) (⟨#[]⟩:ByteArray).size cap) (⟨#[]⟩:ByteArray).size (Lib.strCells ⟨#[]⟩)):=hown
    clear h hown hnc hcm hcs htake hfz hz hc0 c1 hSD
    go_enter Tryz.func38,Tryz.ntmps38
    go_wp2
    go_region
    all_goals (go_wp2;go_ret;exact⟨rfl,H.out,HO.out,Kp.drew _ _ _,Ce.of_below (Below.refl _ w).drew⟩)
   ·have hl:s.data.toList≠[]:=fun e=>hz (by show s.data.size=0;rw[← Array.length_toList,e];rfl)
    have hzl:s.data.toList.length=s.size:=Array.length_toList
    have hUS2:(Builtin.unsafeString_ #[148,3] 9 #[.pointer (some ⟨g,0,none⟩),.int .i64 s.size]).run Tryz.prog w.drew=.ok (.string s) (w.drew.freeze ⟨g,0,none⟩ s.size):=by
     have:=Lib.run_unsafeString_row (P:=Tryz.prog) w.drew 148 3 9 5 Tryz.underlying148 cellsU8 g cur.size (by have hg':w.drew.heap[g]?=some (.cells cur 5 fz):=hg;simp[World.shape?,hg']) s.data.toList hl (by omega) (by unfold maxLen at hcm;omega) (fun j x hx=>by
      have:=hown.cells (g:=g) rfl j (.int .u8 x.toNat) (by rw[Lib.strCells_eq];simp[Lib.byteCells,hx])
      exact this)
     rw[hzl] at this
     exact this
    have hfr:(w.drew.freeze ⟨g,0,none⟩ s.size).heap[b]?=some (.cells #[x0,x1,x2,x3,x4,p,(.slice (some ⟨g,0,none⟩) s.size cap),x7,x8,x9] 85 (0,0)):=by
     have hgb:g≠b:=fun e=>by subst e;rw[hg] at h;cases h
     unfold World.freeze
     split
     ·exact h
     ·simp only[Array.getElem?_modify]
      rw[if_neg hgb]
      exact h
    have HB:Hid _:=hfr
    have HO:Hid ((w.drew.freeze ⟨g,0,none⟩ s.size).ownsRowF B 5 1 (.slice (some ⟨g,0,none⟩) s.size cap) s.size (Lib.strCells s)):=ownF_freeze (w:=w.drew) hown
    have k1:Kp is5 B w w.drew:=Kp.drew _ _ _
    have k2:Kp is5 B w.drew (w.drew.freeze ⟨g,0,none⟩ s.size):=kp_freeze (w:=w.drew) hg hbg (fun _ _=>rfl) (hv g rfl)
    have HK:Hid (Kp is5 B w (w.drew.freeze ⟨g,0,none⟩ s.size)/\Ce w (w.drew.freeze ⟨g,0,none⟩ s.size)):=(⟨k1.trans k2,(Ce.of_below (Below.refl _ w).drew).trans (Ce.freeze w.drew g s.size)⟩:Kp is5 B w (w.drew.freeze ⟨g,0,none⟩ s.size)/\Ce w (w.drew.freeze ⟨g,0,none⟩ s.size))
    clear hfr k1 k2 h hown hnc hcm hcs htake hfz hz hc0 hUS hl hzl
    go_enter Tryz.func38,Tryz.ntmps38
    go_wp2
    go_region
    all_goals (go_wp2;go_ret;exact⟨rfl,HB.out,HO.out,HK.out.1,HK.out.2⟩)
end
open Go.RowKit
structure Sc where
 kd:Int
 tx:Int
 pv:Int
 pg:Int
 ac:Int
 ky:ByteArray
 ol:ByteArray
 nw:ByteArray
 nx:Int
 ep:Int
 nd:Int
def Sc.A (s:Sc) (I T:Value):Array Value:=#[.int .i64 s.kd,.int .i64 s.tx,.int .i64 s.pv,.int .i64 s.pg,.int .i64 s.ac,.string s.ky,.string s.ol,.string s.nw,.int .i64 s.nx,I,T,.int .i64 s.ep,.int .i64 s.nd]
def nilV:Value:=.slice none 0 0
def zS:Sc:=⟨0,0,0,0,0,⟨#[]⟩,⟨#[]⟩,⟨#[]⟩,0,0,0⟩
structure RcAt (w:World) (b:Nat) (s:Sc) (I T:Value):Prop where
 blk:w.heap[b]?=some (.cells (s.A I T) 41)
section
variable {w w':World}{b c:Nat}{s:Sc}{I T:Value}
theorem RcAt.c0 (h:RcAt w b s I T):w.cell? ⟨b,0,none⟩=some (.int .i64 s.kd):=Joins.cell_of_block h.blk 0
theorem RcAt.c1 (h:RcAt w b s I T):w.cell? ⟨b,1,none⟩=some (.int .i64 s.tx):=Joins.cell_of_block h.blk 1
theorem RcAt.c2 (h:RcAt w b s I T):w.cell? ⟨b,2,none⟩=some (.int .i64 s.pv):=Joins.cell_of_block h.blk 2
theorem RcAt.c3 (h:RcAt w b s I T):w.cell? ⟨b,3,none⟩=some (.int .i64 s.pg):=Joins.cell_of_block h.blk 3
theorem RcAt.c4 (h:RcAt w b s I T):w.cell? ⟨b,4,none⟩=some (.int .i64 s.ac):=Joins.cell_of_block h.blk 4
theorem RcAt.c5 (h:RcAt w b s I T):w.cell? ⟨b,5,none⟩=some (.string s.ky):=Joins.cell_of_block h.blk 5
theorem RcAt.c6 (h:RcAt w b s I T):w.cell? ⟨b,6,none⟩=some (.string s.ol):=Joins.cell_of_block h.blk 6
theorem RcAt.c7 (h:RcAt w b s I T):w.cell? ⟨b,7,none⟩=some (.string s.nw):=Joins.cell_of_block h.blk 7
theorem RcAt.c8 (h:RcAt w b s I T):w.cell? ⟨b,8,none⟩=some (.int .i64 s.nx):=Joins.cell_of_block h.blk 8
theorem RcAt.c9 (h:RcAt w b s I T):w.cell? ⟨b,9,none⟩=some I:=Joins.cell_of_block h.blk 9
theorem RcAt.c10 (h:RcAt w b s I T):w.cell? ⟨b,10,none⟩=some T:=Joins.cell_of_block h.blk 10
theorem RcAt.c11 (h:RcAt w b s I T):w.cell? ⟨b,11,none⟩=some (.int .i64 s.ep):=Joins.cell_of_block h.blk 11
theorem RcAt.c12 (h:RcAt w b s I T):w.cell? ⟨b,12,none⟩=some (.int .i64 s.nd):=Joins.cell_of_block h.blk 12
theorem RcAt.f (h:RcAt w b s I T) (i:Nat):w.frozen? ⟨b,i,none⟩=false:=Joins.unfrozen_of_block h.blk i
theorem RcAt.lt (h:RcAt w b s I T):b<w.heap.size:=(Array.getElem?_eq_some_iff.1 h.blk).1
theorem RcAt.below (h:RcAt w b s I T) (hb:Below w.heap.size w w'):RcAt w' b s I T:=⟨(hb.block b h.lt).trans h.blk⟩
theorem RcAt.off (h:RcAt w b s I T) (hb:Pk.Off c w w') (hn:b≠c):RcAt w' b s I T:=⟨(hb.block b h.lt hn).trans h.blk⟩
theorem RcAt.drew (h:RcAt w b s I T):RcAt w.drew b s I T:=⟨h.blk⟩
theorem RcAt.set (h:RcAt w b s I T) {k:Nat} {v:Value} {s':Sc} {I' T':Value} (e:(s.A I T).setIfInBounds k v=s'.A I' T'):RcAt (w.setCell ⟨b,k,none⟩ v) b s' I' T':=by
 refine⟨?_⟩
 rw[← e]
 exact Joins.block_setCell h.blk _
end
theorem rc_size (s:Sc) (I T:Value):(s.A I T).size=13:=rfl
theorem info_rc (s:Sc) (I T:Value):(Tryz.prog.info? 41).map (·.size)=some (s.A I T).size:=by
 have:(Tryz.prog.info? 41).map (·.size)=some 13:=by kernel_rfl
 exact this
theorem zero_rc (w:World):(zeroValue 41).run Tryz.prog w=.ok (.agg (zS.A nilV nilV)) w:=by kernel_rfl
theorem thn {w w1 w2:World} (h:Below w.heap.size w w1) (k:Below w1.heap.size w1 w2):Below w.heap.size w w2:=h.trans (k.mono h.size)
structure NewR (w w':World) (b:Nat) (s:Sc) (I T:Value):Prop where
 rc:RcAt w' b s I T
 below:Below w.heap.size w w'
 eq:b=w.heap.size
structure PutR (w w':World) (b:Nat) (s:Sc) (I T:Value):Prop where
 rc:RcAt w' b s I T
 off:Pk.Off b w w'
theorem PutR.below {w w':World} {b B:Nat} {s:Sc} {I T:Value} (h:PutR w w' b s I T) (hB:B<=b) (hw:B<=w.heap.size):Below B w w':=h.off.below hB hw
section
variable {ops:Array Oper}{rest:List Oper}{o:Oper}{a:Act}{Q:Exit->Act->World->Prop}
theorem wpList_at {w:World} (p:Op) (h:o.op=p) (hw:wpList Tryz.prog ops Q (o ::rest) a w):wpList Tryz.prog ops Q (o ::rest) a w:=hw
theorem wpList_box_rc {s:Sc} {I T:Value} (w:World) (hg:o.guard=none) (x:Operand) (hop:o.op=Op.box 41 x) (hx:a.eval x=.agg (s.A I T))
  (h:∀ w' b,NewR w w' b s I T->wpList Tryz.prog ops Q rest (a.put o.dst (.pointer (some ⟨b,0,none⟩))) w'):wpList Tryz.prog ops Q (o ::rest) a w:=by
 refine wpList_plain hg fun K' hK'=>?_
 unfold Oper.wp
 simp[execOp,hop,hx,Instr.box,Result.andThen,Value.cells]
 exact hK' _ _ (h _ _ ⟨⟨(MapKept.heap_alloc w _).1⟩,(Below.refl _ _).alloc (Nat.le_refl _) _,rfl⟩)
theorem wpList_new_rc (w:World) (hg:o.guard=none) (hop:o.op=Op.alloc 41)
  (h:∀ w' b,NewR w w' b zS nilV nilV->wpList Tryz.prog ops Q rest (a.put o.dst (.pointer (some ⟨b,0,none⟩))) w'):wpList Tryz.prog ops Q (o ::rest) a w:=by
 refine wpList_plain hg fun K' hK'=>?_
 unfold Oper.wp
 simp[execOp,hop,Instr.alloc,zero_rc,Result.andThen,Value.cells]
 exact hK' _ _ (h _ _ ⟨⟨(MapKept.heap_alloc w _).1⟩,(Below.refl _ _).alloc (Nat.le_refl _) _,rfl⟩)
theorem wpList_load_rc {b:Nat} {s:Sc} {I T:Value} (w:World) (hg:o.guard=none) (x:Operand) (hop:o.op=Op.load 41 x) (hx:a.eval x=.pointer (some ⟨b,0,none⟩)) (hs:RcAt w b s I T)
  (h:wpList Tryz.prog ops Q rest (a.put o.dst (.agg (s.A I T))) w):wpList Tryz.prog ops Q (o ::rest) a w :=
 wpList_load_row hg 41 x hop b hx 41 _ (0,0) _ hs.blk Tryz.underlying41 rfl (info_rc s I T) h
theorem setCells_rc {w:World} {b:Nat} {s:Sc} {I T:Value} (h:RcAt w b s I T) (s':Sc) (I' T':Value) (h1:∀ v∈(s'.A I' T').toList,v.oneCell'=true):w.setCells b 0 (s'.A I' T').toList=w.setRow b (s'.A I' T'):=by
 have hth:∀ j,j<13->((w.cell? ⟨b,0+j,none⟩).isSome=true):=fun j hj=>by
  rw[cell_of_row w b _ _ 41 (0,0) h.blk]
  simp[rc_size,hj]
 have e1:=run_storeCells_at Tryz.prog b 0 41 (s'.A I' T').toList 0 (s.A I T) w h.blk (by simp[rc_size]) h1
 have e2:=run_storeCells_cells (P:=Tryz.prog) b 0 (s'.A I' T').toList 0 w (fun j hj=>by have:=hth j (by simpa[rc_size] using hj);simpa using this) (fun j hj=>by have:=h.f (0+0+j);simpa using this) h1
 have e:(List.take (0+0) (s.A I T).toList++(s'.A I' T').toList++List.drop (0+0+(s'.A I' T').toList.length) (s.A I T).toList).toArray=s'.A I' T':=rfl
 rw[e,e2] at e1
 simpa using e1
theorem wpList_put_rc {b:Nat} {s s':Sc} {I T I' T':Value} (w:World) (hg:o.guard=none) (x y:Operand) (hop:o.op=Op.store 41 x y)
  (hx:a.eval x=.pointer (some ⟨b,0,none⟩)) (hy:a.eval y=.agg (s'.A I' T')) (hs:RcAt w b s I T) (hI:I'.oneCell'=true) (hT:T'.oneCell'=true)
  (h:∀ w',PutR w w' b s' I' T'->wpList Tryz.prog ops Q rest (a.put o.dst undef) w'):wpList Tryz.prog ops Q (o ::rest) a w:=by
 have h1:∀ v∈(s'.A I' T').toList,v.oneCell'=true:=by
  intro v hv
  simp[Sc.A] at hv
  rcases hv with rfl |rfl |rfl |rfl |rfl |rfl |rfl |rfl |rfl |rfl |rfl |rfl |rfl
  all_goals first |rfl |assumption
 refine wpList_store_mid hg 41 x y hop b 0 (s'.A I' T') hx hy ?_ (info_rc s' I' T') (Array.all_eq_true_iff_forall_mem.2 (fun v hv=>h1 v (by simpa using hv))) ?_
 ·intro j hj
  refine⟨?_,hs.f _⟩
  rw[cell_of_row w b _ _ 41 (0,0) hs.blk]
  have:j<13:=hj
  simp[rc_size,this]
 ·rw[setCells_rc hs s' I' T' h1]
  refine h _ ⟨⟨setRow_heap w b _ _ 41 _ hs.blk⟩,⟨rfl,rfl,rfl,by simp,fun k _ hk=>setRow_other w b k _ hk⟩⟩
theorem wpList_fput {b k:Nat} {s s':Sc} {I T I' T' v:Value} (w:World) (hg:o.guard=none) (t:TypeId) (x y:Operand) (hop:o.op=Op.store t x y)
  (hx:a.eval x=.pointer (some ⟨b,k,none⟩)) (hy:a.eval y=v) (hs:RcAt w b s I T) (hk:k<13) (h1:v.oneCell'=true) (hi:(Tryz.prog.info? t).map (·.size)=some 1)
  (e:(s.A I T).setIfInBounds k v=s'.A I' T')
  (h:∀ w',PutR w w' b s' I' T'->wpList Tryz.prog ops Q rest (a.put o.dst undef) w'):wpList Tryz.prog ops Q (o ::rest) a w:=by
 have hc:∃ u,w.cell? ⟨b,k,none⟩=some u:=by
  rw[cell_of_row w b _ _ 41 (0,0) hs.blk]
  exact⟨_,Array.getElem?_eq_getElem (by rw[rc_size];exact hk)⟩
 obtain⟨u,hu⟩:=hc
 have hf:=hs.f k
 refine wpList_plain hg fun K' hK'=>?_
 unfold Oper.wp
 have hrun:(Instr.storeAt t (.pointer (some ⟨b,k,none⟩)) v).run Tryz.prog w=.ok () (w.setCell ⟨b,k,none⟩ v):=by
  have hcs:v.cells=#[v]:=by cases v <;> first |rfl |cases h1
  have g1:∀ j,j<[v].length->(w.cell? ⟨b,k+0+j,none⟩).isSome=true:=by
   intro j hj
   obtain rfl:j=0:=by simpa using hj
   simp[hu]
  have g2:∀ j,j<[v].length->w.frozen? ⟨b,k+0+j,none⟩=false:=by
   intro j hj
   obtain rfl:j=0:=by simpa using hj
   simpa using hf
  have:=run_storeCells_cells (P:=Tryz.prog) b k [v] 0 w g1 g2 (fun x hx=>by simp at hx;subst hx;exact h1)
  cases hq:Tryz.prog.info? t with
  | none=>simp[hq] at hi
  | some i =>
   have hs:i.size=1:=by simpa[hq] using hi
   simp only[Nat.add_zero] at this
   simp[Instr.storeAt,Instr.sureAddr,storeVar,sizeOf,typeInfo,hq,hcs,hs,this,World.setCells]
 simp[execOp,hop,hx,hy,hrun,Result.andThen]
 exact hK' _ _ (h _ ⟨hs.set e,(Pk.Off.refl _ _).setCell _ _⟩)
end
theorem results_rc1 {fn:Func} {p:Tmp} (h:fn.results=#[.cell p 41]) (tmps:Array Value) (w:World) {b:Nat} {s:Sc} {I T:Value}
  (hp:tmps.getD p undef=.pointer (some ⟨b,0,none⟩)) (hg:RcAt w b s I T):(results fn tmps).run Tryz.prog w=.ok (.agg (s.A I T)) w:=by
 have hl:=run_loadVar_row (P:=Tryz.prog) w b 41 41 (s.A I T) (0,0) _ hg.blk Tryz.underlying41 rfl (info_rc s I T)
 have hp':tmps[p]?.getD undef=.pointer (some ⟨b,0,none⟩):=by simpa using hp
 simp only[results,h]
 simp[Sem.run_bind,Result.andThen,hp',asAddr,hl]
theorem results_rc2 {fn:Func} {p u:Tmp} (h:fn.results=#[.cell p 41,.tmp u]) (tmps:Array Value) (w:World) {b:Nat} {s:Sc} {I T:Value}
  (hp:tmps.getD p undef=.pointer (some ⟨b,0,none⟩)) (hg:RcAt w b s I T):(results fn tmps).run Tryz.prog w=.ok (.tuple #[.agg (s.A I T),tmps.getD u undef]) w:=by
 have hl:=run_loadVar_row (P:=Tryz.prog) w b 41 41 (s.A I T) (0,0) _ hg.blk Tryz.underlying41 rfl (info_rc s I T)
 have hp':tmps[p]?.getD undef=.pointer (some ⟨b,0,none⟩):=by simpa using hp
 simp only[results,h]
 simp[Sem.run_bind,Result.andThen,hp',asAddr,hl]
theorem results_rc3 {fn:Func} {p u v:Tmp} (h:fn.results=#[.cell p 41,.tmp u,.tmp v]) (tmps:Array Value) (w:World) {b:Nat} {s:Sc} {I T:Value}
  (hp:tmps.getD p undef=.pointer (some ⟨b,0,none⟩)) (hg:RcAt w b s I T):(results fn tmps).run Tryz.prog w=.ok (.tuple #[.agg (s.A I T),tmps.getD u undef,tmps.getD v undef]) w:=by
 have hl:=run_loadVar_row (P:=Tryz.prog) w b 41 41 (s.A I T) (0,0) _ hg.blk Tryz.underlying41 rfl (info_rc s I T)
 have hp':tmps[p]?.getD undef=.pointer (some ⟨b,0,none⟩):=by simpa using hp
 simp only[results,h]
 simp[Sem.run_bind,Result.andThen,hp',asAddr,hl]
abbrev Im:=Int × ByteArray
abbrev Tb:=Int × Int
structure Rm where
 s:Sc
 im:List Im
 tb:List Tb
def actOf (s:Sc):Int:=if s.kd=6 then s.ac else s.kd
def cleanS (s:Sc):Sc :=
 if s.kd=3∨s.kd=4∨s.kd=5∨s.kd=6 then
  ⟨s.kd,s.tx,s.pv,s.pg,if s.kd=6 then s.ac else 0,s.ky,if actOf s=3 then⟨#[]⟩ else s.ol,if actOf s=4 then⟨#[]⟩ else s.nw,if s.kd=6 then s.nx else 0,0,0⟩
 else if s.kd=7∨s.kd=8 then⟨s.kd,s.tx,s.pv,0,0,⟨#[]⟩,⟨#[]⟩,⟨#[]⟩,0,0,0⟩
 else if s.kd=10 then⟨s.kd,0,0,0,0,⟨#[]⟩,⟨#[]⟩,⟨#[]⟩,0,s.ep,s.nd⟩
 else⟨s.kd,0,0,0,0,⟨#[]⟩,⟨#[]⟩,⟨#[]⟩,0,0,0⟩
def cleanM (m:Rm):Rm:=⟨cleanS m.s,if m.s.kd=1∨m.s.kd=2 then m.im else [],if m.s.kd=9 then m.tb else []⟩
theorem cleanS_kd (s:Sc):(cleanS s).kd=s.kd:=by
 unfold cleanS;repeat' split
 all_goals rfl
def stepW (A:ByteArray × Int) (n k:Int):ByteArray × Int:=Pk.wrLay A.1 A.2 (Pk.putV ⟨#[]⟩ n k).1 (Pk.putV ⟨#[]⟩ n k).2
def stepT (A:ByteArray × Int) (t:ByteArray):ByteArray × Int:=Pk.wrLay A.1 A.2 (Pk.textV ⟨#[]⟩ t).1 (Pk.textV ⟨#[]⟩ t).2
theorem stepW_size (A:ByteArray × Int) (n k:Int):(stepW A n k).1.size<=A.1.size+6:=by
 have:=(Pk.putV_size n k).1
 unfold stepW Pk.wrLay
 split
 ·exact Nat.le_add_right _ _
 ·split
  ·exact Nat.zero_le _
  ·simp only[ByteArray.size_append];omega
theorem stepT_size (A:ByteArray × Int) (t:ByteArray):(stepT A t).1.size<=A.1.size+65537:=by
 have:=(Pk.textV_size t).1
 unfold stepT Pk.wrLay
 split
 ·exact Nat.le_add_right _ _
 ·split
  ·exact Nat.zero_le _
  ·simp only[ByteArray.size_append];omega
def Bare (A:ByteArray × Int):Prop:=A.2≠0->A.1=⟨#[]⟩
theorem bare0:Bare (⟨#[]⟩,0):=fun h=>absurd rfl h
theorem Bare.lay {A:ByteArray × Int} (h:Bare A) (s:ByteArray) (x:Int):Bare (Pk.wrLay A.1 A.2 s x):=by
 unfold Pk.wrLay
 by_cases h1:A.2≠0
 ·rw[if_pos h1];exact h
 ·rw[if_neg h1]
  by_cases h2:x≠0
  ·rw[if_pos h2];exact fun _=>rfl
  ·rw[if_neg h2];exact fun e=>absurd rfl e
theorem Bare.stepW {A:ByteArray × Int} (h:Bare A) (n k:Int):Bare (stepW A n k):=h.lay _ _
theorem Bare.stepT {A:ByteArray × Int} (h:Bare A) (t:ByteArray):Bare (stepT A t):=h.lay _ _
def layI (l:List Im) (A:ByteArray × Int):ByteArray × Int:=l.foldl (fun A p=>stepT (stepW A p.1 2) p.2) A
def layP (l:List Int) (A:ByteArray × Int):ByteArray × Int:=l.foldl (fun A p=>stepW A p 6) A
def layB (l:List Tb) (A:ByteArray × Int):ByteArray × Int:=l.foldl (fun A p=>stepW (stepW A p.1 6) p.2 6) A
theorem layI_snoc (l:List Im) (p:Im) (A:ByteArray × Int):layI (l++[p]) A=stepT (stepW (layI l A) p.1 2) p.2:=by simp[layI]
theorem layP_snoc (l:List Int) (p:Int) (A:ByteArray × Int):layP (l++[p]) A=stepW (layP l A) p 6:=by simp[layP]
theorem layB_snoc (l:List Tb) (p:Tb) (A:ByteArray × Int):layB (l++[p]) A=stepW (stepW (layB l A) p.1 6) p.2 6:=by simp[layB]
theorem Bare.layI {A:ByteArray × Int} (h:Bare A) (l:List Im):Bare (layI l A):=by
 induction l generalizing A with
 | nil=>exact h
 | cons p r ih=>exact ih ((h.stepW _ _).stepT _)
theorem Bare.layB {A:ByteArray × Int} (h:Bare A) (l:List Tb):Bare (layB l A):=by
 induction l generalizing A with
 | nil=>exact h
 | cons p r ih=>exact ih ((h.stepW _ _).stepW _ _)
theorem Bare.layP {A:ByteArray × Int} (h:Bare A) (l:List Int):Bare (layP l A):=by
 induction l generalizing A with
 | nil=>exact h
 | cons p r ih=>exact ih (h.stepW _ _)
theorem layI_size (l:List Im) (A:ByteArray × Int):(layI l A).1.size<=A.1.size+65543*l.length:=by
 induction l generalizing A with
 | nil=>exact Nat.le_add_right _ _
 | cons p r ih =>
  have h1:=ih (stepT (stepW A p.1 2) p.2)
  have h2:=stepT_size (stepW A p.1 2) p.2
  have h3:=stepW_size A p.1 2
  rw[List.length_cons]
  show(layI r (stepT (stepW A p.1 2) p.2)).1.size<=_
  omega
theorem layB_size (l:List Tb) (A:ByteArray × Int):(layB l A).1.size<=A.1.size+12*l.length:=by
 induction l generalizing A with
 | nil=>exact Nat.le_add_right _ _
 | cons p r ih =>
  have h1:=ih (stepW (stepW A p.1 6) p.2 6)
  have h2:=stepW_size (stepW A p.1 6) p.2 6
  have h3:=stepW_size A p.1 6
  rw[List.length_cons]
  show(layB r (stepW (stepW A p.1 6) p.2 6)).1.size<=_
  omega
theorem layP_size (l:List Int) (A:ByteArray × Int):(layP l A).1.size<=A.1.size+6*l.length:=by
 induction l generalizing A with
 | nil=>exact Nat.le_add_right _ _
 | cons p r ih =>
  have h1:=ih (stepW A p 6)
  have h3:=stepW_size A p 6
  rw[List.length_cons]
  show(layP r (stepW A p 6)).1.size<=_
  omega
def layV (s:Sc) (A:ByteArray × Int):ByteArray × Int :=
 if actOf s=3 then stepT A s.nw else if actOf s=4 then stepT A s.ol else stepT (stepT A s.ol) s.nw
def layC (s:Sc) (A:ByteArray × Int):ByteArray × Int:=layV s (stepT (stepW A s.pg 2) s.ky)
theorem Bare.layC {A:ByteArray × Int} (h:Bare A) (s:Sc):Bare (layC s A):=by
 have h1:=(h.stepW s.pg 2).stepT s.ky
 unfold Go.Proofs.YtpcnjncgilmehabGreat.layC layV
 split
 ·exact h1.stepT _
 ·split
  ·exact h1.stepT _
  ·exact(h1.stepT _).stepT _
theorem layC_size (s:Sc) (A:ByteArray × Int):(layC s A).1.size<=A.1.size+300000:=by
 have h1:=stepW_size A s.pg 2
 have h2:=stepT_size (stepW A s.pg 2) s.ky
 unfold layC layV
 split
 ·have:=stepT_size (stepT (stepW A s.pg 2) s.ky) s.nw;omega
 ·split
  ·have:=stepT_size (stepT (stepW A s.pg 2) s.ky) s.ol;omega
  ·have:=stepT_size (stepT (stepW A s.pg 2) s.ky) s.ol
   have:=stepT_size (stepT (stepT (stepW A s.pg 2) s.ky) s.ol) s.nw
   omega
def laidF (m:Rm) (A0:ByteArray × Int):ByteArray × Int :=
 let A:=stepW A0 m.s.kd 1
 if m.s.kd=1∨m.s.kd=2 then layI m.im (stepW A m.im.length 1)
 else if m.s.kd=3∨m.s.kd=4∨m.s.kd=5 then layC m.s (layP [m.s.tx,m.s.pv] A)
 else if m.s.kd=6 then layC m.s (stepW (layP [m.s.tx,m.s.pv,m.s.nx] A) m.s.ac 1)
 else if m.s.kd=7∨m.s.kd=8 then layP [m.s.tx,m.s.pv] A
 else if m.s.kd=9 then layB m.tb (stepW A m.tb.length 1)
 else if m.s.kd=10 then stepW (stepW A m.s.ep 4) m.s.nd 1
 else A
def laidM (m:Rm):ByteArray × Int:=laidF m (⟨#[]⟩,0)
def whole (l:List Im):Bool:=l.all (fun p=>decide (p.2.size=224))
def formed (m:Rm):Bool :=
 if m.s.kd=1 then decide (m.im.length=1)&&whole m.im else if m.s.kd=2 then whole m.im else if m.s.kd=6 then decide (m.s.ac=3∨m.s.ac=4∨m.s.ac=5) else true
def refM (m:Rm):Int :=
 if m.s.kd<1∨10<m.s.kd then 1 else if formed m=false then 4 else if 16<m.s.ky.size then 17 else if 32<m.s.ol.size∨32<m.s.nw.size then 18 else 0
def bodyM (m:Rm):ByteArray × Int :=
 if refM m≠0 then(⟨#[]⟩,refM m) else if(laidM m).2≠0 then(⟨#[]⟩,(laidM m).2) else if 4096<(laidM m).1.size then(⟨#[]⟩,3) else((laidM m).1,0)
theorem bodyM_ref {m:Rm} (h:refM m≠0):bodyM m=(⟨#[]⟩,refM m):=by unfold bodyM;rw[if_pos h]
theorem bodyM_err {m:Rm} (h:refM m=0) (h2:(laidM m).2≠0):bodyM m=(⟨#[]⟩,(laidM m).2):=by unfold bodyM;rw[if_neg (by simpa using h),if_pos h2]
theorem bodyM_long {m:Rm} (h:refM m=0) (h2:(laidM m).2=0) (h3:4096<(laidM m).1.size):bodyM m=(⟨#[]⟩,3):=by unfold bodyM;rw[if_neg (by simpa using h),if_neg (by simpa using h2),if_pos h3]
theorem bodyM_good {m:Rm} (h:refM m=0) (h2:(laidM m).2=0) (h3:¬ 4096<(laidM m).1.size):bodyM m=((laidM m).1,0):=by unfold bodyM;rw[if_neg (by simpa using h),if_neg (by simpa using h2),if_neg h3]
theorem bodyM_size (m:Rm):(bodyM m).1.size<=4096:=by
 unfold bodyM
 repeat' split
 ·exact Nat.zero_le _
 ·exact Nat.zero_le _
 ·exact Nat.zero_le _
 ·dsimp only;omega
theorem nil_app (s:ByteArray):(⟨#[]⟩:ByteArray)++s=s:=by apply ByteArray.ext;simp[ByteArray.data_append]
theorem stepW_good {a:ByteArray} {n k:Int} (hk:1<=k) (hk6:k<=6) (h0:0<=n) (h1:n<Pk.limI k.toNat):stepW (a,0) n k=(a++Pk.beS n.toNat k.toNat,0):=by
 unfold stepW
 rw[Pk.putV_fits (by omega) (by omega)]
 simp only[Pk.wrLay]
 rw[if_neg (by simp),if_neg (by simp),nil_app]
theorem stepW_bad {a:ByteArray} {n k:Int} (hk:1<=k) (hk6:k<=6) (h:n<0∨Pk.limI k.toNat<=n):stepW (a,0) n k=(⟨#[]⟩,6):=by
 unfold stepW
 rw[Pk.putV_range (by omega) h]
 simp[Pk.wrLay]
theorem stepW_had {a:ByteArray} {e n k:Int} (h:e≠0):stepW (a,e) n k=(a,e):=by
 unfold stepW Pk.wrLay
 rw[if_pos h]
theorem stepT_good {a t:ByteArray} (h:t.size<=65535):stepT (a,0) t=(a++Pk.beS t.size 2++t,0):=by
 unfold stepT
 rw[Pk.textV_fits (by omega)]
 simp only[Pk.wrLay]
 rw[if_neg (by simp),if_neg (by simp),nil_app,ByteArray.append_assoc]
theorem stepT_had {a t:ByteArray} {e:Int} (h:e≠0):stepT (a,e) t=(a,e):=by
 unfold stepT Pk.wrLay
 rw[if_pos h]
abbrev P2:=Value × Value
structure Cs (w:World) (a:Option Addr) (L:List P2):Prop where
 at_:∀ i (hi:i<L.length),∃ b off,a=some ⟨b,off,none⟩/\b<w.heap.size/\w.cell? ⟨b,off+i*2,none⟩=some L[i].1/\w.cell? ⟨b,off+i*2+1,none⟩=some L[i].2
section
variable {w w':World}{a:Option Addr}{L:List P2}
theorem Cs.nil (w:World) (a:Option Addr):Cs w a []:=⟨fun i hi=>absurd hi (Nat.not_lt_zero _)⟩
theorem Cs.below (h:Cs w a L) (hb:Below w.heap.size w w'):Cs w' a L:=⟨fun i hi=>by
 obtain⟨b,off,h0,h1,h2,h3⟩:=h.at_ i hi
 exact⟨b,off,h0,Nat.lt_of_lt_of_le h1 hb.size,(hb.cell (by exact h1)).trans h2,(hb.cell (by exact h1)).trans h3⟩⟩
theorem Cs.off {c:Nat} (h:Cs w a L) (hb:Pk.Off c w w') (hn:∀ b off,a=some ⟨b,off,none⟩->b≠c):Cs w' a L:=⟨fun i hi=>by
 obtain⟨b,off,h0,h1,h2,h3⟩:=h.at_ i hi
 have e:=hb.block b h1 (hn b off h0)
 exact⟨b,off,h0,Nat.lt_of_lt_of_le h1 hb.size,(World.cell?_of_block e).trans h2,(World.cell?_of_block e).trans h3⟩⟩
end
structure Two (sl el:TypeId) (z:P2):Prop where
 un:Tryz.prog.underlying sl=some (.slice el)
 info:∃ i,Tryz.prog.info? el=some i/\i.zero=some (.agg #[z.1,z.2])/\i.size=2/\i.bytes<=32/\0<i.bytes
 one1:z.1.oneCell'=true
 one2:z.2.oneCell'=true
def prs:List P2->List Value
 | []=>[]
 | c :: r=>c.1 :: c.2 :: prs r
theorem prs_length:∀ xs:List P2,(prs xs).length=xs.length*2
 | []=>rfl
 | c :: r=>by simp only[prs,List.length_cons,prs_length r];omega
theorem prs_append:∀ xs ys:List P2,prs (xs++ys)=prs xs++prs ys
 | [],_=>rfl
 | c :: r,ys=>by simp only[List.cons_append,prs,prs_append r ys]
theorem prs_get:∀ (xs:List P2) (i:Nat) (hi:i<xs.length),(prs xs)[i*2]?=some xs[i].1/\(prs xs)[i*2+1]?=some xs[i].2
 | c :: r,0,_=>⟨rfl,rfl⟩
 | c :: r,i+1,hi=>by
  have:=prs_get r i (by simpa using hi)
  rw[show(i+1)*2=i*2+1+1 by omega]
  simpa[prs] using this
def Ones (xs:List P2):Prop:=∀ p∈xs,p.1.oneCell'=true/\p.2.oneCell'=true
theorem prs_one:∀ xs:List P2,Ones xs->∀ u∈prs xs,u.oneCell'=true
 | [],_,u,hu=>by cases hu
 | c :: r,h,u,hu=>by
  rcases List.mem_cons.1 hu with rfl |hu
  ·exact(h c (List.mem_cons_self ..)).1
  ·rcases List.mem_cons.1 hu with rfl |hu
   ·exact(h c (List.mem_cons_self ..)).2
   ·exact prs_one r (fun p hp=>h p (List.mem_cons_of_mem _ hp)) u hu
def Row (el:TypeId) (w:World) (a:Option Addr) (cap:Nat) (xs:List P2):Prop :=
 (a=none/\cap=0/\xs=[]) ∨
 ∃ g cur,a=some ⟨g,0,none⟩/\w.heap[g]?=some (.cells cur el (0,0))/\xs.length<=cap/\cap<=maxLen/\cap*2<=cur.size/\cur.toList.take (xs.length*2)=prs xs
def own (a:Option Addr):Option Nat:=a.map (·.block)
theorem Row.nil (el:TypeId) (w:World):Row el w none 0 []:=.inl ⟨rfl,rfl,rfl⟩
theorem Row.cs {el:TypeId} {w:World} {a:Option Addr} {cap:Nat} {xs:List P2} (h:Row el w a cap xs):Cs w a xs:=⟨fun i hi=>by
 rcases h with⟨_,_,rfl⟩ |⟨g,cur,rfl,hg,h1,h2,h3,h4⟩
 ·exact absurd hi (Nat.not_lt_zero _)
 ·have hp:=prs_get xs i hi
  rw[← h4,List.getElem?_take,if_pos (by omega),List.getElem?_take,if_pos (by omega)] at hp
  refine⟨g,0,rfl,(Array.getElem?_eq_some_iff.1 hg).1,?_,?_⟩
  ·rw[cell_of_row w g _ cur el (0,0) hg,Nat.zero_add];simpa using hp.1
  ·rw[cell_of_row w g _ cur el (0,0) hg,Nat.zero_add];simpa using hp.2⟩
theorem Row.lt {el:TypeId} {w:World} {a:Option Addr} {cap:Nat} {xs:List P2} (h:Row el w a cap xs):∀ k,own a=some k->k<w.heap.size:=by
 intro k hk
 rcases h with⟨rfl,_,_⟩ |⟨g,cur,rfl,hg,_⟩
 ·cases hk
 ·simp[own] at hk
  subst hk
  exact(Array.getElem?_eq_some_iff.1 hg).1
theorem Row.kept {el:TypeId} {w w':World} {a:Option Addr} {cap:Nat} {xs:List P2} (h:Row el w a cap xs) (hb:∀ k,own a=some k->w'.heap[k]?=w.heap[k]?):Row el w' a cap xs:=by
 rcases h with h0 |⟨g,cur,rfl,hg,h1⟩
 ·exact .inl h0
 ·exact .inr ⟨g,cur,rfl,(hb g rfl).trans hg,h1⟩
theorem Row.below {el:TypeId} {w w':World} {a:Option Addr} {cap:Nat} {xs:List P2} (h:Row el w a cap xs) (hb:Below w.heap.size w w'):Row el w' a cap xs:=h.kept (fun k hk=>hb.block k (h.lt k hk))
theorem cs_prs {w:World} {b off:Nat} {news:List P2} (h:Cs w (some ⟨b,off,none⟩) news):∀ j u,(prs news)[j]?=some u->w.cell? ((⟨b,off,none⟩:Addr).add j)=some u:=by
 intro j u hu
 have hj:j<news.length*2:=by
  have:=(List.getElem?_eq_some_iff.1 hu).1
  rwa [prs_length] at this
 obtain⟨b',off',h0,_,h2,h3⟩:=h.at_ (j / 2) (by omega)
 cases h0
 have hp:=prs_get news (j / 2) (by omega)
 rw[Addr.add_mid]
 rcases Nat.mod_two_eq_zero_or_one j with e |e
 ·have ej:j / 2*2=j:=by omega
  rw[ej] at hp h2
  rw[hp.1] at hu
  cases hu
  exact h2
 ·have ej:j / 2*2+1=j:=by omega
  rw[ej] at hp
  rw[hp.2] at hu
  cases hu
  rw[← h3]
  congr 2
  omega
theorem row_append {sl el:TypeId} {z:P2} (hT:Two sl el z) {w:World} (ty:TypeId) {a:Option Addr} {cap:Nat} {xs:List P2} (h:Row el w a cap xs) (ad:Addr) (m c:Nat) (news:List P2) (hm:news.length=m)
  (hnews:∀ j u,(prs news)[j]?=some u->w.cell? (ad.add j)=some u) (ho1:Ones news) (hz:xs.length+m<=100000) :
  ∃ a' cap' w',(Builtin.append_ #[sl,sl] ty #[.slice a xs.length cap,.slice (some ad) m c]).run Tryz.prog w=.ok (.slice a' (xs.length+m) cap') w'/\Row el w' a' cap' (xs++news) /\
   w.grownBy w' (own a)/\(own a'=own a∨own a'=some w.heap.size):=by
 obtain⟨i,hi,hz0,hz1,hz2,hz3⟩:=hT.info
 have hl:(prs news).length=m*i.size:=by rw[prs_length,hz1,hm]
 have hlen:(xs++news).length=xs.length+m:=by rw[List.length_append,hm]
 have grown:∀ (old:Nat),old<xs.length+m->∀ (row:Option Nat),
   Row el (w.drew.alloc (.cells ((prs xs).toArray++(prs news).toArray++Builtin.zeroCells (Value.agg #[z.1,z.2]).cells (grownCap w (xs.length+m) old el-(xs.length+m))) el)) (some ⟨w.heap.size,0,none⟩) (grownCap w (xs.length+m) old el) (xs++news) /\
   w.grownBy (w.drew.alloc (.cells ((prs xs).toArray++(prs news).toArray++Builtin.zeroCells (Value.agg #[z.1,z.2]).cells (grownCap w (xs.length+m) old el-(xs.length+m))) el)) row:=by
  intro old ho row
  have hge:=grownCap_ge w (xs.length+m) old el
  have hcm:grownCap w (xs.length+m) old el<=maxLen:=grownCap_le_maxLen w (xs.length+m) old el (by unfold maxLen;omega)
  refine⟨.inr ⟨w.heap.size,_,rfl,heap_alloc_new w.drew _,by rw[hlen];exact hge,hcm,?_,?_⟩,⟨rfl,rfl,rfl,by simp,fun k hk _=>heap_alloc_old w.drew _ hk⟩⟩
  ·have e1:(Value.agg #[z.1,z.2]).cells.size=2:=rfl
   simp only[Array.size_append,List.size_toArray,size_zeroCells,prs_length,e1]
   omega
  ·rw[hlen]
   simp only[Array.toList_append]
   rw[← prs_append,List.take_left' (by rw[prs_length,hlen])]
 rcases h with⟨rfl,rfl,rfl⟩ |⟨g,cur,rfl,hg,h1,h2,h3,h4⟩
 ·simp only[List.length_nil,Nat.zero_add,List.nil_append] at hlen grown ⊢
  by_cases hm0:m=0
  ·subst hm0
   have hn0:news=[]:=List.eq_nil_of_length_eq_zero hm
   subst hn0
   refine⟨none,0,w,?_,Row.nil el w,⟨rfl,rfl,rfl,Nat.le_refl _,fun _ _ _=>rfl⟩,.inl rfl⟩
   simp[Builtin.append_,run_underlying hT.un,sizeOf,typeInfo,hi,Builtin.lenOf,Builtin.firstCells,loadCells,loadCellsFrom]
  ·have hr:=run_append_nil (P:=Tryz.prog) w sl ty el i _ hT.un hi hz0 ad m c (prs news) hl hnews (by omega) (by omega) (by have:=Nat.mul_le_mul_left m hz2;omega)
   have hgr:=grown 0 (by omega) (own none)
   have e0:(prs []).toArray=(#[]:Array Value):=rfl
   rw[e0,Array.empty_append] at hgr
   exact⟨_,_,_,hr,hgr.1,hgr.2,.inr rfl⟩
 ·by_cases hroom:xs.length+m<=cap
  ·have hfit:xs.length*i.size+(prs news).length<=cur.size:=by rw[hl,hz1];omega
   have hr:=run_append_room (P:=Tryz.prog) w sl ty el i hT.un hi g xs.length cap cur hg ad m c (prs news) hl hnews (prs_one _ ho1) hroom hfit
   refine⟨_,_,_,hr,.inr ⟨g,_,rfl,setRow_heap w g cur _ el _ hg,by rw[hlen];exact hroom,h2,?_,?_⟩,⟨rfl,rfl,rfl,by simp,fun k _ hk=>setRow_other w g k _ (fun e=>hk (by simp[own,e]))⟩,.inl rfl⟩
   ·simp only[List.size_toArray,List.length_append,List.length_take,List.length_drop,Array.length_toList]
    omega
   ·rw[hz1,h4,← prs_append,List.take_left' (by rw[prs_length])]
  ·have holds:∀ j u,(prs xs)[j]?=some u->w.cell? ((⟨g,0,none⟩:Addr).add j)=some u:=by
    intro j u hu
    have hadd:(⟨g,0,none⟩:Addr).add j=⟨g,j,none⟩:=by unfold Addr.add;split <;> simp_all
    rw[hadd,cell_of_row w g j cur el (0,0) hg]
    rw[← h4,List.getElem?_take] at hu
    split at hu
    ·simpa using hu
    ·cases hu
   have hr:=run_append_grow (P:=Tryz.prog) w sl ty el i _ hT.un hi hz0 ⟨g,0,none⟩ xs.length cap (prs xs) (by rw[prs_length,hz1]) holds ad m c (prs news) hl hnews (by omega) (by omega) (growslice_fits (by omega) (by have:=Nat.mul_le_mul_left (xs.length+m) hz2;omega))
   have hgr:=grown cap (by omega) (own (some ⟨g,0,none⟩))
   exact⟨_,_,_,hr,hgr.1,hgr.2,.inr rfl⟩
theorem row_append_none {sl el:TypeId} {z:P2} (hT:Two sl el z) {w:World} (ty:TypeId) {a:Option Addr} {cap:Nat} {xs:List P2} (h:Row el w a cap xs) :
  (Builtin.append_ #[sl,sl] ty #[.slice a xs.length cap,.slice none 0 0]).run Tryz.prog w=.ok (.slice a xs.length cap) w:=by
 obtain⟨i,hi,hz0,hz1,hz2,hz3⟩:=hT.info
 have hle:xs.length<=cap:=by
  rcases h with⟨rfl,rfl,rfl⟩ |⟨g,cur,rfl,hg,h1,h2,h3,h4⟩
  ·simp
  ·exact h1
 rcases h with⟨rfl,rfl,rfl⟩ |⟨g,cur,rfl,hg,h1,h2,h3,h4⟩
 ·simp[Builtin.append_,run_underlying hT.un,sizeOf,typeInfo,hi,Builtin.lenOf,Builtin.firstCells,loadCells,loadCellsFrom]
 ·simp[Builtin.append_,run_underlying hT.un,sizeOf,typeInfo,hi,Builtin.lenOf,Builtin.firstCells,loadCells,loadCellsFrom,hle,storeCells]
structure Own (el:TypeId) (B:Nat) (w:World) (a:Option Addr) (cap:Nat) (xs:List P2):Prop where
 row:Row el w a cap xs
 fresh:∀ k,own a=some k->B<=k
theorem Own.nil (el:TypeId) (B:Nat) (w:World):Own el B w none 0 []:=⟨Row.nil el w,fun k h=>by cases h⟩
theorem Own.below {el:TypeId} {B:Nat} {w w':World} {a:Option Addr} {cap:Nat} {xs:List P2} (h:Own el B w a cap xs) (hb:Below w.heap.size w w'):Own el B w' a cap xs:=⟨h.row.below hb,h.fresh⟩
theorem own_append {sl el:TypeId} {z:P2} (hT:Two sl el z) {B:Nat} {w:World} (ty:TypeId) {a:Option Addr} {cap:Nat} {xs:List P2} (h:Own el B w a cap xs) (hB:B<=w.heap.size) (src:Option Addr) (m c:Nat) (news:List P2) (hm:news.length=m) (hc:src=none->c=0) (hn:Cs w src news) (ho1:Ones news) (hz:xs.length+m<=100000) :
  ∃ a' cap' w',(Builtin.append_ #[sl,sl] ty #[.slice a xs.length cap,.slice src m c]).run Tryz.prog w=.ok (.slice a' (xs.length+m) cap') w'/\Own el B w' a' cap' (xs++news)/\Below B w w':=by
 have fin:∀ {a':Option Addr} {cap':Nat} {w':World},Row el w' a' cap' (xs++news)->w.grownBy w' (own a)->(own a'=own a∨own a'=some w.heap.size)->Own el B w' a' cap' (xs++news)/\Below B w w':=by
  intro a' cap' w' h1 h2 h3
  refine⟨⟨h1,fun k hk=>?_⟩,⟨h2.os,h2.tape,h2.output,h2.size,fun k hk=>h2.block k (by omega) (fun e=>?_)⟩⟩
  ·rcases h3 with e |e
   ·exact h.fresh k (e ▸ hk)
   ·rw[e] at hk;cases hk;exact hB
  ·have:=h.fresh k e.symm
   omega
 by_cases hnil:news=[]
 ·subst hnil
  simp at hm
  subst hm
  cases src with
  | none =>
   have:=hc rfl
   subst this
   exact⟨a,cap,w,by rw[Nat.add_zero];exact row_append_none hT ty h.row,by rw[List.append_nil];exact h,Below.refl _ _⟩
  | some ad =>
   obtain⟨a',cap',w',hr,h1,h2,h3⟩:=row_append hT ty h.row ad 0 c [] rfl (fun j u hu=>by simp[prs] at hu) (fun p hp=>by cases hp) hz
   exact⟨a',cap',w',hr,fin h1 h2 h3⟩
 ·obtain⟨b,off,e,_⟩:=hn.at_ 0 (List.length_pos_iff.2 hnil)
  subst e
  obtain⟨a',cap',w',hr,h1,h2,h3⟩:=row_append hT ty h.row ⟨b,off,none⟩ m c news hm (cs_prs hn) ho1 hz
  exact⟨a',cap',w',hr,fin h1 h2 h3⟩
theorem wp_append_own {sl el:TypeId} {z:P2} (hT:Two sl el z) {B:Nat} {w:World} {o:Oper} {act:Act} {K:Act->World->Prop} {Q:Exit->Act->World->Prop} (s x:Operand)
  (ho:o.op=.call {callee:=.builtin .append,args:=#[s,x],argTypes:=#[sl,sl]})
  {a:Option Addr} {cap n:Nat} {xs:List P2} (hs:act.eval s=.slice a n cap) (hl:n=xs.length) (hrow:Own el B w a cap xs) (hB:B<=w.heap.size)
  {src:Option Addr} {m c:Nat} {news:List P2} (hx:act.eval x=.slice src m c) (hm:news.length=m) (hc:src=none->c=0) (hn:Cs w src news) (ho1:Ones news) (hz:n+m<=100000)
  (h:∀ a' cap' w',Own el B w' a' cap' (xs++news)->Below B w w'->K (act.put o.dst (.slice a' (n+m) cap')) w'):o.wp Tryz.prog act w K Q:=by
 subst hl
 obtain⟨a',cap',w',hr,h2,h3⟩:=own_append hT o.type hrow hB src m c news hm hc hn ho1 hz
 unfold Oper.wp execOp
 simp only[ho,resolve,invoke,builtin,Sem.run_bind,Sem.run_pure,Result.andThen_ok,List.map_toArray,List.map_cons,List.map_nil,hs,hx,hr]
 exact h a' cap' w' h2 h3
theorem wpList_append_own' {sl el:TypeId} {z:P2} (hT:Two sl el z) {B:Nat} {w:World} {ops:Array Oper} {rest:List Oper} {o:Oper} {act:Act} {Q:Exit->Act->World->Prop} (hgd:o.guard=none) (s x:Operand)
  (ho:o.op=.call {callee:=.builtin .append,args:=#[s,x],argTypes:=#[sl,sl]})
  {a:Option Addr} {cap n:Nat} {xs:List P2} (hs:act.eval s=.slice a n cap) (hl:n=xs.length) (hrow:Own el B w a cap xs) (hB:B<=w.heap.size)
  {src:Option Addr} {m c:Nat} {news:List P2} (hx:act.eval x=.slice src m c) (hm:news.length=m) (hc:src=none->c=0) (hn:Cs w src news) (ho1:Ones news) (hz:n+m<=100000)
  (h:∀ a' cap' w',Own el B w' a' cap' (xs++news)->Below B w w'->wpList Tryz.prog ops Q rest (act.put o.dst (.slice a' (n+m) cap')) w'):wpList Tryz.prog ops Q (o ::rest) act w :=
 wpList_plain hgd fun _ hK=>wp_append_own hT s x ho hs hl hrow hB hx hm hc hn ho1 hz fun a' cap' w' h2 h3=>hK _ _ (h a' cap' w' h2 h3)
theorem two_im:Two 38 45 (.int .i64 0,.string ⟨#[]⟩) :=
 ⟨Tryz.underlying38,by
  obtain⟨i,h1,h2,h3,h4⟩:=info_parts (show(Tryz.prog.info? 45).map (fun i=>(i.zero,i.size,i.bytes))=some (some (.agg #[.int .i64 0,.string ⟨#[]⟩]),2,24) by kernel_rfl)
  exact⟨i,h1,h2,h3,by omega,by omega⟩,rfl,rfl⟩
theorem two_tb:Two 39 252 (.int .i64 0,.int .i64 0) :=
 ⟨Tryz.underlying39,by
  obtain⟨i,h1,h2,h3,h4⟩:=info_parts (show(Tryz.prog.info? 252).map (fun i=>(i.zero,i.size,i.bytes))=some (some (.agg #[.int .i64 0,.int .i64 0]),2,16) by kernel_rfl)
  exact⟨i,h1,h2,h3,by omega,by omega⟩,rfl,rfl⟩
def encI (l:List Im):List P2:=l.map fun p=>(.int .i64 p.1,.string p.2)
def encT (l:List Tb):List P2:=l.map fun p=>(.int .i64 p.1,.int .i64 p.2)
theorem encI_length (l:List Im):(encI l).length=l.length:=by simp[encI]
theorem encT_length (l:List Tb):(encT l).length=l.length:=by simp[encT]
theorem encI_ones (l:List Im):Ones (encI l):=by
 intro p hp
 obtain⟨q,_,rfl⟩:=List.mem_map.1 hp
 exact⟨rfl,rfl⟩
theorem encT_ones (l:List Tb):Ones (encT l):=by
 intro p hp
 obtain⟨q,_,rfl⟩:=List.mem_map.1 hp
 exact⟨rfl,rfl⟩
theorem encI_append (a b:List Im):encI (a++b)=encI a++encI b:=by simp[encI]
theorem encT_append (a b:List Tb):encT (a++b)=encT a++encT b:=by simp[encT]
structure SlI (w:World) (v:Value) (l:List Im):Prop where
 ex:∃ a c,v=.slice a l.length c/\Cs w a (encI l)/\(a=none->c=0)/\l.length<=c/\(l≠[]->∀ ad,a=some ad->ad.spot=none)
structure SlT (w:World) (v:Value) (l:List Tb):Prop where
 ex:∃ a c,v=.slice a l.length c/\Cs w a (encT l)/\(a=none->c=0)/\l.length<=c/\(l≠[]->∀ ad,a=some ad->ad.spot=none)
section
variable {w w':World}{v:Value}{l:List Im}{g:List Tb}
theorem SlI.below (h:SlI w v l) (hb:Below w.heap.size w w'):SlI w' v l:=by
 obtain⟨a,c,h0,h1,h2⟩:=h.ex;exact⟨a,c,h0,h1.below hb,h2⟩
theorem SlT.below (h:SlT w v g) (hb:Below w.heap.size w w'):SlT w' v g:=by
 obtain⟨a,c,h0,h1,h2⟩:=h.ex;exact⟨a,c,h0,h1.below hb,h2⟩
theorem SlI.one (h:SlI w v l):v.oneCell'=true:=by obtain⟨a,c,rfl,_⟩:=h.ex;rfl
theorem SlT.one (h:SlT w v g):v.oneCell'=true:=by obtain⟨a,c,rfl,_⟩:=h.ex;rfl
theorem SlI.nil (w:World):SlI w nilV []:=⟨none,0,rfl,Cs.nil _ _,fun _=>rfl,Nat.le_refl _,fun _ _ h=>by cases h⟩
theorem SlT.nil (w:World):SlT w nilV []:=⟨none,0,rfl,Cs.nil _ _,fun _=>rfl,Nat.le_refl _,fun _ _ h=>by cases h⟩
theorem csI_at {a:Option Addr} (h:Cs w a (encI l)) {i:Nat} (hi:i<l.length):∃ b off,a=some ⟨b,off,none⟩/\b<w.heap.size/\∀ w',Below w.heap.size w w'->w'.cell? ⟨b,off+i*2,none⟩=some (.int .i64 l[i].1)/\w'.cell? ⟨b,off+i*2+1,none⟩=some (.string l[i].2):=by
 obtain⟨b,off,h0,h1,h2,h3⟩:=h.at_ i (by rw[encI_length];exact hi)
 simp only[encI,List.getElem_map] at h2 h3
 exact⟨b,off,h0,h1,fun w' hb=>⟨(hb.cell (by exact h1)).trans h2,(hb.cell (by exact h1)).trans h3⟩⟩
theorem csT_at {a:Option Addr} (h:Cs w a (encT g)) {i:Nat} (hi:i<g.length):∃ b off,a=some ⟨b,off,none⟩/\b<w.heap.size/\∀ w',Below w.heap.size w w'->w'.cell? ⟨b,off+i*2,none⟩=some (.int .i64 g[i].1)/\w'.cell? ⟨b,off+i*2+1,none⟩=some (.int .i64 g[i].2):=by
 obtain⟨b,off,h0,h1,h2,h3⟩:=h.at_ i (by rw[encT_length];exact hi)
 simp only[encT,List.getElem_map] at h2 h3
 exact⟨b,off,h0,h1,fun w' hb=>⟨(hb.cell (by exact h1)).trans h2,(hb.cell (by exact h1)).trans h3⟩⟩
end
structure Fr (w:World) (v:Value) (L:List P2) (B:Nat):Prop where
 ex:∃ a c,v=.slice a L.length c/\Cs w a L/\(a=none->c=0)/\L.length<=c/\(∀ ad,a=some ad->ad.spot=none)/\(∀ b off,a=some ⟨b,off,none⟩->B<=b)
theorem Fr.off {w w':World} {v:Value} {L:List P2} {B b:Nat} (h:Fr w v L B) (o:Pk.Off b w w') (hb:b<B):Fr w' v L B:=by
 obtain⟨a,c,h0,h1,h2,h3,h4,h5⟩:=h.ex
 exact⟨a,c,h0,h1.off o (fun b' off e=>by have:=h5 b' off e;omega),h2,h3,h4,h5⟩
theorem Fr.below {w w':World} {v:Value} {L:List P2} {B:Nat} (h:Fr w v L B) (o:Below w.heap.size w w'):Fr w' v L B:=by
 obtain⟨a,c,h0,h1,h2,h3,h4,h5⟩:=h.ex
 exact⟨a,c,h0,h1.below o,h2,h3,h4,h5⟩
theorem Own.fr {el:TypeId} {B:Nat} {w:World} {a:Option Addr} {cap:Nat} {L:List P2} (h:Own el B w a cap L):Fr w (.slice a L.length cap) L B:=by
 refine⟨a,cap,rfl,h.row.cs,?_,?_,?_,fun b off e=>h.fresh b (by simp[own,e])⟩
 ·rintro rfl
  rcases h.row with⟨_,h1,_⟩ |⟨g,cur,h1,_⟩
  ·exact h1
  ·cases h1
 ·rcases h.row with⟨_,h1,h2⟩ |⟨g,cur,h1,_,h2,_⟩
  ·rw[h2];exact Nat.zero_le _
  ·exact h2
 ·intro ad e
  rcases h.row with⟨h0,_,_⟩ |⟨g,cur,h1,_,h2,_⟩
  ·rw[h0] at e;cases e
  ·rw[h1] at e;cases e;rfl
theorem Own.frI {el:TypeId} {B:Nat} {w:World} {a:Option Addr} {cap:Nat} (l:List Im) (h:Own el B w a cap ([]++encI l)):Fr w (.slice a l.length cap) (encI l) B:=by
 have:=h.fr
 rw[List.nil_append,encI_length] at this
 exact this
theorem Own.frT {el:TypeId} {B:Nat} {w:World} {a:Option Addr} {cap:Nat} (l:List Tb) (h:Own el B w a cap ([]++encT l)):Fr w (.slice a l.length cap) (encT l) B:=by
 have:=h.fr
 rw[List.nil_append,encT_length] at this
 exact this
theorem Fr.slI {w:World} {v:Value} {l:List Im} {B:Nat} (h:Fr w v (encI l) B):SlI w v l:=by
 obtain⟨a,c,h0,h1,h2,h3,h4,h5⟩:=h.ex
 rw[encI_length] at h0 h3
 exact⟨a,c,h0,h1,h2,h3,fun _=>h4⟩
theorem Fr.slT {w:World} {v:Value} {l:List Tb} {B:Nat} (h:Fr w v (encT l) B):SlT w v l:=by
 obtain⟨a,c,h0,h1,h2,h3,h4,h5⟩:=h.ex
 rw[encT_length] at h0 h3
 exact⟨a,c,h0,h1,h2,h3,fun _=>h4⟩
structure RecV (w:World) (v:Value) (m:Rm):Prop where
 ex:∃ I T,v=.agg (m.s.A I T)/\SlI w I m.im/\SlT w T m.tb
theorem RecV.below {w w':World} {v:Value} {m:Rm} (h:RecV w v m) (hb:Below w.heap.size w w'):RecV w' v m:=by
 obtain⟨I,T,h0,h1,h2⟩:=h.ex;exact⟨I,T,h0,h1.below hb,h2.below hb⟩
abbrev Lf:=ByteArray × Int
def nN (q:Lf) (k:Int):Int:=((Pk.rdNum q.1 q.2 k).1:Nat)
def sN (q:Lf) (k:Int):Lf:=(Pk.rdNum q.1 q.2 k).2
def tT (q:Lf) (m:Int):ByteArray:=(Pk.rdText q.1 q.2 m).1
def sT (q:Lf) (m:Int):Lf:=(Pk.rdText q.1 q.2 m).2
def kR (k:Int):Sc:={zS with kd:=k}
def rc1 (s:Sc) (q:Lf):Sc:={s with pg:=nN q 2,ky:=tT (sN q 2) 16}
def rq1 (q:Lf):Lf:=sT (sN q 2) 16
def rcN (s:Sc) (q:Lf):Sc:={rc1 s q with nw:=tT (rq1 q) 32}
def rcO (s:Sc) (q:Lf):Sc:={rc1 s q with ol:=tT (rq1 q) 32}
def rcB (s:Sc) (q:Lf):Sc:={rc1 s q with ol:=tT (rq1 q) 32,nw:=tT (sT (rq1 q) 32) 32}
def rdChg (act:Int) (s:Sc) (q:Lf):Sc × Lf :=
 if act=3 then(rcN s q,sT (rq1 q) 32) else if act=4 then(rcO s q,sT (rq1 q) 32) else(rcB s q,sT (sT (rq1 q) 32) 32)
theorem rc1_set (s:Sc) (q:Lf) (I T:Value):(({s with pg:=nN q 2}:Sc).A I T).setIfInBounds 5 (.string (tT (sN q 2) 16))=(rc1 s q).A I T:=by unfold rc1 Sc.A;rfl
theorem rcN_set (s:Sc) (q:Lf) (I T:Value):((rc1 s q).A I T).setIfInBounds 7 (.string (tT (rq1 q) 32))=(rcN s q).A I T:=by unfold rcN Sc.A;rfl
theorem rcO_set (s:Sc) (q:Lf) (I T:Value):((rc1 s q).A I T).setIfInBounds 6 (.string (tT (rq1 q) 32))=(rcO s q).A I T:=by unfold rcO Sc.A;rfl
theorem rcB_set (s:Sc) (q:Lf) (I T:Value):((rcO s q).A I T).setIfInBounds 7 (.string (tT (sT (rq1 q) 32) 32))=(rcB s q).A I T:=by unfold rcO rcB Sc.A;rfl
def rdImS (q:Lf):Nat->Lf
 | 0=>q
 | j+1=>sT (sN (rdImS q j) 2) 224
def rdImF (q:Lf) (j:Nat):Im:=(nN (rdImS q j) 2,tT (sN (rdImS q j) 2) 224)
def rdImL (q:Lf) (n:Nat):List Im:=(List.range n).map (rdImF q)
def rdTbS (q:Lf):Nat->Lf
 | 0=>q
 | j+1=>sN (sN (rdTbS q j) 6) 6
def rdTbF (q:Lf) (j:Nat):Tb:=(nN (rdTbS q j) 6,nN (sN (rdTbS q j) 6) 6)
def rdTbL (q:Lf) (n:Nat):List Tb:=(List.range n).map (rdTbF q)
theorem rdImL_succ (q:Lf) (n:Nat):rdImL q (n+1)=rdImL q n++[rdImF q n]:=by simp[rdImL,List.range_succ]
theorem rdTbL_succ (q:Lf) (n:Nat):rdTbL q (n+1)=rdTbL q n++[rdTbF q n]:=by simp[rdTbL,List.range_succ]
theorem rdImL_length (q:Lf) (n:Nat):(rdImL q n).length=n:=by simp[rdImL]
theorem rdTbL_length (q:Lf) (n:Nat):(rdTbL q n).length=n:=by simp[rdTbL]
def rdK (k:Int) (q:Lf):Rm × Lf :=
 if k=1∨k=2 then(⟨kR k,rdImL (sN q 1) (nN q 1).toNat,[]⟩,rdImS (sN q 1) (nN q 1).toNat)
 else if k=3∨k=4∨k=5 then(⟨(rdChg k {kR k with tx:=nN q 6,pv:=nN (sN q 6) 6} (sN (sN q 6) 6)).1,[],[]⟩,(rdChg k {kR k with tx:=nN q 6,pv:=nN (sN q 6) 6} (sN (sN q 6) 6)).2)
 else if k=6 then
  (⟨(rdChg (nN (sN (sN (sN q 6) 6) 6) 1) {kR k with tx:=nN q 6,pv:=nN (sN q 6) 6,nx:=nN (sN (sN q 6) 6) 6,ac:=nN (sN (sN (sN q 6) 6) 6) 1} (sN (sN (sN (sN q 6) 6) 6) 1)).1,[],[]⟩,
   (rdChg (nN (sN (sN (sN q 6) 6) 6) 1) {kR k with tx:=nN q 6,pv:=nN (sN q 6) 6,nx:=nN (sN (sN q 6) 6) 6,ac:=nN (sN (sN (sN q 6) 6) 6) 1} (sN (sN (sN (sN q 6) 6) 6) 1)).2)
 else if k=7∨k=8 then(⟨{kR k with tx:=nN q 6,pv:=nN (sN q 6) 6},[],[]⟩,sN (sN q 6) 6)
 else if k=9 then(⟨kR k,[],rdTbL (sN q 1) (nN q 1).toNat⟩,rdTbS (sN q 1) (nN q 1).toNat)
 else if k=10 then(⟨{kR k with ep:=nN q 4,nd:=nN (sN q 4) 1},[],[]⟩,sN (sN q 4) 1)
 else(⟨kR k,[],[]⟩,q)
def rdM (t:ByteArray):Rm × Lf:=rdK (nN (t,0) 1) (sN (t,0) 1)
def zM:Rm:=⟨zS,[],[]⟩
def ofM (t:ByteArray):Rm × Int :=
 if(Pk.rdEnd (rdM t).2.1 (rdM t).2.2).2≠0 then(zM,(Pk.rdEnd (rdM t).2.1 (rdM t).2.2).2)
 else if(bodyM (rdM t).1).2=0/\(bodyM (rdM t).1).1=t then((rdM t).1,0) else(zM,4)
theorem nN_nonneg (q:Lf) (k:Int):0<=nN q k:=by unfold nN;omega
theorem nN_lt (q:Lf) (k:Int):nN q k<281474976710656:=by have:=Pk.rdNum_lt q.1 q.2 k;unfold nN;omega
theorem sN_size (q:Lf) (k:Int):(sN q k).1.size<=q.1.size:=Pk.rdNum_size q.1 q.2 k
theorem rdText_size (l:ByteArray) (e m:Int):(Pk.rdText l e m).2.1.size<=l.size:=by
 unfold Pk.rdText Pk.rdTextSt
 have h1:=Pk.rdNum_size l e 2
 split
 ·exact Nat.le_trans (Pk.rdRaw_size _ _ _) (Nat.le_trans (Pk.rdFail_size _ _ _) h1)
 ·exact Nat.le_trans (Pk.rdRaw_size _ _ _) h1
theorem sT_size (q:Lf) (m:Int):(sT q m).1.size<=q.1.size:=rdText_size q.1 q.2 m
theorem rdImS_size (q:Lf) (j:Nat):(rdImS q j).1.size<=q.1.size:=by
 induction j with
 | zero=>exact Nat.le_refl _
 | succ j ih=>exact Nat.le_trans (sT_size _ _) (Nat.le_trans (sN_size _ _) ih)
theorem beN_one (l:List UInt8) (h:l.length<=1):Pk.beN l<=255:=by
 have h1:=Pk.beN_lt l
 have h2:256 ^ l.length<=256 ^ 1:=Nat.pow_le_pow_right (by omega) h
 omega
theorem nN_one (q:Lf):nN q 1<=255:=by
 unfold nN Pk.rdNum
 have h:(Pk.rdRaw (Pk.rdNumSt q.1 q.2 1).1 (Pk.rdNumSt q.1 q.2 1).2 1).1.size<=1:=Pk.rdRaw_size1 _ _ _ 1 (by omega)
 have:=beN_one (Pk.rdRaw (Pk.rdNumSt q.1 q.2 1).1 (Pk.rdNumSt q.1 q.2 1).2 1).1.data.toList h
 dsimp only
 omega
theorem rdRaw_txt (l:ByteArray) (e n:Int):(Pk.rdRaw l e n).1.size<=l.size:=by
 unfold Pk.rdRaw
 repeat' split
 all_goals simp[ByteArray.size_extract,Pk.size_nil]
 omega
theorem tT_size (q:Lf) (m:Int):(tT q m).size<=q.1.size:=by
 unfold tT Pk.rdText Pk.rdTextSt
 have h1:=Pk.rdNum_size q.1 q.2 2
 split
 ·exact Nat.le_trans (rdRaw_txt _ _ _) (Nat.le_trans (Pk.rdFail_size _ _ _) h1)
 ·exact Nat.le_trans (rdRaw_txt _ _ _) h1
end Go.Proofs.YtpcnjncgilmehabGreat
