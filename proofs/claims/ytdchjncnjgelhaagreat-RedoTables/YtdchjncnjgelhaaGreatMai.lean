import Derived.Test.YtdchjncnjgelhaaGreatMah
import Derived.Shelf.RegionOpenPlain
import Derived.Lib.Walk
import Derived.Lib.Builder
import Derived.Lib.UnsafeStr
import Derived.Lib.SmallJoins
import Derived.Laws.Externs
import Derived.BigRegion
import Derived.Test.YtdchjncnjgelhaaGreatMac
import Derived.Test.YtdchjncnjgelhaaGreatMad
import Derived.Test.YtdchjncnjgelhaaGreatMaf
import Derived.Test.YtdchjncnjgelhaaGreatMag
import Derived.Laws.BytesArg
set_option linter.unusedVariables false
set_option linter.unusedSimpArgs false
set_option maxRecDepth 100000
namespace Go.Proofs.YtdchjncnjgelhaaGreat
open Go.RowKit Go.Maps Go.ChangeMaps
def is5:Obj->Prop
 | .cells _ t _=>t=5
 | _=>False
theorem is5_L [Inhabited PrSet] {B:Nat} {w w':World} (h:Kp is5 B w w'):Kp isL B w w':=h.mono (fun o e=>by
 cases o with
 | cells cs t fz=>exact Or.inr (Or.inl e)
 | _=>exact e)
def isT:Obj->Prop
 | .cells _ t _=>t=5∨t=87
 | _=>False
theorem isT_L [Inhabited PrSet] {B:Nat} {w w':World} (h:Kp isT B w w'):Kp isL B w w':=h.mono (fun o e=>by
 cases o with
 | cells cs t fz=>exact Or.inr e
 | _=>exact e)
def isB:Obj->Prop
 | .cells _ t _=>t=5∨t=85
 | _=>False
theorem infoU8:(Tryz.prog.info? 5).map (fun i=>(i.zero,i.size,i.bytes))=some (some (.int .u8 0),1,1):=by kernel_rfl
theorem cellsU8:Tryz.prog.cellsOf 5=1:=by kernel_rfl
theorem infoBld:(Tryz.prog.info? 85).map (·.size)=some 2:=by kernel_rfl
theorem setSame {w:World} {g i:Nat} {cs:Array Value} {t:TypeId} {fr:Nat × Nat} {v:Value} (h:w.heap[g]?=some (.cells cs t fr)) (hv:cs[i]?=some v):w.setCell ⟨g,i,none⟩ v=w:=by
 rw[setCell_eq_setRow w g i cs t fr v h]
 have:cs.setIfInBounds i v=cs:=by
  apply Array.ext
  ·simp
  ·intro j h1 h2
   rw[Array.getElem_setIfInBounds]
   split
   ·rename_i e
    subst e
    exact(Array.getElem?_eq_some_iff.1 hv).2.symm
   ·rfl
 rw[this,setRow_self w g cs t fr h]
theorem ownF_slice {w:World} {B n:Nat} {v:Value} {xs:List Value} (h:w.ownsRowF B 5 1 v n xs):∃ ao cap,v=.slice ao n cap:=by
 rcases h.2 with⟨hv,h0⟩ |⟨g,cap,cur,fz,hv,_⟩
 ·exact⟨none,0,by rw[hv,h0]⟩
 ·exact⟨_,_,hv⟩
theorem ownF_of {w w':World} {B n:Nat} {v:Value} {xs:List Value} (h:w.ownsRowF B 5 1 v n xs) (hb:∀ (k:Nat) (cur:Array Value) (fz:Nat × Nat),w.heap[k]?=some (Obj.cells cur 5 fz)->w'.heap[k]?=some (Obj.cells cur 5 fz)):w'.ownsRowF B 5 1 v n xs:=by
 refine⟨h.1,?_⟩
 rcases h.2 with hn |⟨g,cap,cur,fz,hv,hbg,hg,rest⟩
 ·exact .inl hn
 ·exact .inr ⟨g,cap,cur,fz,hv,hbg,hb _ _ _ hg,rest⟩
theorem ownF_below {B:Nat} {w w':World} {n:Nat} {v:Value} {xs:List Value} (h:w.ownsRowF B 5 1 v n xs) (hk:Below w.heap.size w w'):w'.ownsRowF B 5 1 v n xs :=
 ownF_of h (fun k cur fz e=>(hk.block k (lt_of_some e)).trans e)
theorem ownF_ne {w:World} {B:Nat} {T:TypeId} {v:Value} {n:Nat} {xs:List Value} {b:Nat} {cs:Array Value} {fr:Nat × Nat} (hown:w.ownsRowF B 5 1 v n xs) (hb:w.heap[b]?=some (.cells cs T fr)) (hT:T≠5):v.ownBlock≠some b:=Lib.ownBlock_neF hown hb hT
theorem kp_grown [Inhabited PrSet] {A:Obj->Prop} {w w':World} {B n:Nat} {v:Value} {xs:List Value} (h:w.ownsRowF B 5 1 v n xs) (hg:w.grownBy w' v.ownBlock) (hB:B<=w.heap.size) (hA:∀ cur fz,A (.cells cur 5 fz)) (hv:npv v):Kp A B w w':=by
 refine⟨(Below.refl B w).grown hg hB (fun k hk=>(h.lt k hk).1),fun k o e hn=>?_,fun k o e hn=>(hg.block k (lt_of_some e) (fun e2=>hv k e2.symm hn)).trans e⟩
 refine(hg.block k (lt_of_some e) (fun e2=>?_)).trans e
 rcases h.2 with⟨rfl,_⟩ |⟨g,cap,cur,fz,rfl,_,hgg,_⟩
 ·simp[Value.ownBlock] at e2
 ·simp only[Value.ownBlock,Option.some.injEq] at e2
  subst e2
  rw[hgg] at e
  cases e
  exact hn (hA _ _)
theorem kp_freeze [Inhabited PrSet] {A:Obj->Prop} {w:World} {B g n:Nat} {cur:Array Value} {fz:Nat × Nat} (hg:w.heap[g]?=some (.cells cur 5 fz)) (hB:B<=g) (hA:∀ cur fz,A (.cells cur 5 fz)) (hng:np g):Kp A B w (w.freeze ⟨g,0,none⟩ n):=by
 refine Kp.one hg (hA _ _) (Lib.below_freeze (Below.refl B w) (p:=⟨g,0,none⟩) hB _) hng (fun k o e hk=>?_)
 unfold World.freeze
 split
 ·exact e
 ·simp only[Array.getElem?_modify]
  rw[if_neg (fun e2=>hk e2.symm)]
  exact e
theorem ownF_freeze {w:World} {B g n cap:Nat} {xs:List Value} (h:w.ownsRowF B 5 1 (.slice (some ⟨g,0,none⟩) n cap) n xs):(w.freeze ⟨g,0,none⟩ n).ownsRowF B 5 1 (.slice (some ⟨g,0,none⟩) n cap) n xs:=by
 unfold World.freeze
 split
 ·exact h
 ·refine⟨h.1,?_⟩
  rcases h.2 with⟨hv,_⟩ |⟨g',cap',cur,fz,hv,hbg,hg,hfz,rest⟩
  ·cases hv
  ·injection hv with ha _ hcap
   injection ha with ha
   injection ha with hgg _ _
   subst hgg
   subst hcap
   obtain⟨lo,hi⟩:=fz
   refine .inr ⟨g,_,cur,(if lo==hi then(0,0+n) else(min lo 0,max hi (0+n))),rfl,hbg,?_,?_,rest⟩
   ·simp[Array.getElem?_modify,hg]
   ·simp only at hfz
    split <;> simp <;> omega
theorem append_str {B n:Nat} {w:World} {v:Value} {xs:List Value} (hown:w.ownsRowF B 5 1 v n xs) (s:ByteArray) (hlen:n+s.size<=140737488355328) (hB:B<=w.heap.size) (ty:TypeId) :
  ∃ v' w',(Builtin.append_ #[83,9] ty #[v,.string s]).run Tryz.prog w=.ok v' w'/\w'.ownsRowF B 5 1 v' (n+s.size) (xs++Lib.strCells s)/\w.grownBy w' v.ownBlock/\(v'.ownBlock=v.ownBlock∨v'.ownBlock=some w.heap.size∨v'.ownBlock=none):=by
 obtain⟨i,hi,hz0,hz1,hz2⟩:=info_parts infoU8
 have h63:n+s.size<=maxLen:=by unfold maxLen;omega
 obtain⟨v',w',hr,h2,h3,h4⟩:=Lib.run_append_own_stringF (P:=Tryz.prog) w B 83 9 ty 5 i Tryz.underlying83 Tryz.underlying9 hi hz0 hz1 hz2 v n xs hown s h63 hlen hB
 refine⟨v',w',hr,h2,h3,?_⟩
 have hxl:xs.length=n:=by simpa using hown.1
 rcases hown.2 with⟨rfl,rfl⟩ |⟨g,cap,cur,fz,rfl,hbg,hg,hfz,hnc,hcm,hcs,htake⟩
 ·by_cases hm:s.size=0
  ·have:=h4.2 ⟨rfl,hm⟩
   subst this
   exact Or.inl rfl
  ·have hr2:=run_append_nil_string (P:=Tryz.prog) w 83 9 ty 5 i (.int .u8 0) Tryz.underlying83 Tryz.underlying9 hi hz0 s (by omega) (by omega) (by rw[hz2];omega)
   rw[hr2] at hr
   injection hr with e1 e2
   subst e1
   exact Or.inr (Or.inl rfl)
 ·by_cases hroom:n+s.size<=cap
  ·have hcs':cur.size=cap:=by simpa using hcs
   have hr2:=Lib.run_append_room_stringF (P:=Tryz.prog) w 83 9 ty 5 i Tryz.underlying83 Tryz.underlying9 hi hz1 g n cap cur fz hg (by simpa using hfz) s hroom (by omega)
   rw[hr2] at hr
   injection hr with e1 e2
   subst e1
   exact Or.inl rfl
  ·have holds:∀ j u,xs[j]?=some u->w.cell? ((⟨g,0,none⟩:Addr).add j)=some u:=hown.cells (g:=g) rfl
   have hr2:=Lib.run_append_grow_string (P:=Tryz.prog) w 83 9 ty 5 i (.int .u8 0) Tryz.underlying83 Tryz.underlying9 hi hz0 ⟨g,0,none⟩ n cap xs (by rw[hz1];simpa using hxl) holds s (by omega) (by omega) (by rw[hz2];exact growslice_fits (by omega) (by omega))
   rw[hr2] at hr
   injection hr with e1 e2
   subst e1
   exact Or.inr (Or.inl rfl)
theorem wpList_append_str {ops:Array Oper} {rest:List Oper} {o:Oper} {a:Act} {Q:Exit->Act->World->Prop} {w:World} {B n:Nat} {v:Value} {xs:List Value} (hgd:o.guard=none) (sl x:Operand)
  (ho:o.op=.call {callee:=.builtin .append,args:=#[sl,x],argTypes:=#[83,9]}) (hs:a.eval sl=v) (hown:w.ownsRowF B 5 1 v n xs) (s:ByteArray) (hx:a.eval x=.string s)
  (hlen:n+s.size<=140737488355328) (hB:B<=w.heap.size)
  (h:∀ v' w',w'.ownsRowF B 5 1 v' (n+s.size) (xs++Lib.strCells s)->w.grownBy w' v.ownBlock->(v'.ownBlock=v.ownBlock∨v'.ownBlock=some w.heap.size∨v'.ownBlock=none)->wpList Tryz.prog ops Q rest (a.put o.dst v') w'):wpList Tryz.prog ops Q (o ::rest) a w:=by
 refine wpList_plain hgd fun K hK=>?_
 obtain⟨v',w',hr,h2,h3,h4⟩:=append_str hown s hlen hB o.type
 unfold Oper.wp execOp
 simp only[ho,resolve,invoke,builtin,Sem.run_bind,Sem.run_pure,Result.andThen_ok,List.map_toArray,List.map_cons,List.map_nil,hs,hx,hr]
 exact hK _ _ (h v' w' h2 h3 h4)
theorem Bo_lies:liesAt Tryz.prog Tryz.prog.depth 85 (2 / Tryz.prog.cellsOf 85) 0 85 1=true:=by kernel_rfl
section
variable {b:Nat}{p v:Value}{w:World}
set_option maxHeartbeats 1000000 in
theorem Bo_copyCheck (h:w.heap[b]?=some (.cells #[p,v] 85 (0,0))) (hp:p=.pointer none∨p=(.pointer (some ⟨b,0,none⟩))):Calls Tryz.prog 94 #[(.pointer (some ⟨b,0,none⟩))] w fun e w'=>e=.returned (.tuple #[])/\w'=w.setCell ⟨b,0,none⟩ (.pointer (some ⟨b,0,none⟩)):=by
 obtain⟨j,hj,hjs⟩:=Option.map_eq_some_iff.1 infoBld
 have c0:w.cell? ⟨b,0,none⟩=some p:=by rw[Lib.cell_of_heap h];rfl
 have hsh:w.shape? b=some (85,2):=by simp[World.shape?,h]
 have hfz:w.frozen? ⟨b,0,none⟩=false:=Lib.frozen_of_heap h 0
 rcases hp with rfl |rfl
 ·go_enter Tryz.func94,Tryz.ntmps94
  go_wp2
  rw[Lib.run_to_unsafe w ⟨b,0,none⟩ Tryz.underlying82 Tryz.underlying209 hj (by rw[hjs];decide) hsh (by show 0<2;omega)]
  simp only[Result.andThen]
  rw[Oper.upon_value]
  go_wp2
  rw[run_callFunc_extern Tryz.func122 (by kernel_rfl) (by kernel_rfl) (by kernel_rfl) (e:=Extern.AbiNoEscape.same) (by kernel_rfl)]
  rw[Lib.run_noEscape]
  simp only[Result.andThen]
  rw[Oper.upon_value]
  go_wp2
  rw[Lib.run_from_unsafe w ⟨b,0,none⟩ Tryz.underlying209 Tryz.underlying82 hj hsh Bo_lies]
  simp only[Result.andThen]
  rw[Oper.upon_value]
  go_wp2
  go_end0
  exact⟨rfl,rfl⟩
 ·go_enter Tryz.func94,Tryz.ntmps94
  go_wp2
  rw[Lib.run_neq_ptr_same w _ Tryz.underlying82 hj]
  go_wp2
  go_end0
  exact⟨rfl,(setSame h rfl).symm⟩
set_option maxHeartbeats 2000000 in
theorem Bo_WriteString [Inhabited PrSet] {B:Nat} {xs:List Value} {n:Nat} (h:w.heap[b]?=some (.cells #[p,v] 85 (0,0))) (hp:p=.pointer none∨p=(.pointer (some ⟨b,0,none⟩))) (hown:w.ownsRowF B 5 1 v n xs) (s:ByteArray) (hlen:n+s.size<=140737488355328) (hB:Ow B b) (hBw:B<=w.heap.size) (hv:npv v) (hl:Ltp w) :
  Calls Tryz.prog 64 #[(.pointer (some ⟨b,0,none⟩)),.string s] w fun e w'=>(∃ v',w'.heap[b]?=some (.cells #[(.pointer (some ⟨b,0,none⟩)),v'] 85 (0,0))/\w'.ownsRowF B 5 1 v' (n+s.size) (xs++Lib.strCells s)/\npv v')/\e=.returned (.tuple #[.int .i64 s.size,.nilIface])/\Kp isB B w w':=by
 have CC:Hid (Calls Tryz.prog 94 #[(.pointer (some ⟨b,0,none⟩))] w fun e w'=>e=.returned (.tuple #[])/\w'=w.setCell ⟨b,0,none⟩ (.pointer (some ⟨b,0,none⟩))):=Bo_copyCheck h hp
 have hb1:(w.setCell ⟨b,0,none⟩ (.pointer (some ⟨b,0,none⟩))).heap[b]?=some (.cells #[(.pointer (some ⟨b,0,none⟩)),v] 85 (0,0)):=Joins.block_setCell h _
 have ho1:(w.setCell ⟨b,0,none⟩ (.pointer (some ⟨b,0,none⟩))).ownsRowF B 5 1 v n xs:=hown.kept (row:=some b) ⟨rfl,rfl,rfl,by simp[World.setCell],fun k _ hk=>Below.heap_setCell _ _ _ _ (fun e=>hk (by simp[e]))⟩ (Or.inr (ownF_ne hown h (by decide)))
 have k1:Kp isB B w (w.setCell ⟨b,0,none⟩ (.pointer (some ⟨b,0,none⟩))):=Kp.cell h (by simp[isB]) hB
 have hz:(w.setCell ⟨b,0,none⟩ (.pointer (some ⟨b,0,none⟩))).heap.size=w.heap.size:=by simp[World.setCell]
 have H:Hid _:=h
 clear h
 generalize hw1:w.setCell ⟨b,0,none⟩ (.pointer (some ⟨b,0,none⟩))=w1 at *
 have c0:w1.cell? ⟨b,0,none⟩=some (.pointer (some ⟨b,0,none⟩)):=by rw[Lib.cell_of_heap hb1];rfl
 have c1:w1.cell? ⟨b,1,none⟩=some v:=by rw[Lib.cell_of_heap hb1];rfl
 clear hw1
 go_enter Tryz.func64,Tryz.ntmps64
 go_wp2_with (first
  | (go_at_call 94;refine CC.out.mono ?_;rintro e w' ⟨rfl,rfl⟩)
  | (at_builtin;refine wpList_append_str (B:=B) rfl _ _ rfl rfl ho1 s rfl ?c4 ?c5 ?_))
 case c4=>omega
 case c5=>omega
 intro v' w2 hown' hgrow hob
 have hv':npv v':=hv.of hl hob
 have hb2:w2.heap[b]?=some (.cells #[(.pointer (some ⟨b,0,none⟩)),v] 85 (0,0)):=by
  rw[hgrow.block b (lt_of_some hb1) (fun e=>ownF_ne ho1 hb1 (by decide) e.symm)]
  exact hb1
 have d0:w2.cell? ⟨b,0,none⟩=some (.pointer (some ⟨b,0,none⟩)):=by rw[Lib.cell_of_heap hb2];rfl
 have d1:w2.cell? ⟨b,1,none⟩=some v:=by rw[Lib.cell_of_heap hb2];rfl
 have f1:w2.frozen? ⟨b,1,none⟩=false:=Lib.frozen_of_heap hb2 1
 obtain⟨ao,cap,rfl⟩:=ownF_slice hown'
 go_wp2
 go_ret2
 have k2:=k1.trans (kp_grown (A:=isB) ho1 hgrow (by omega) (fun _ _=>by simp[isB]) hv)
 refine⟨⟨_,Joins.block_setCell hb2 _,?_,hv'⟩,rfl,?_⟩
 ·exact hown'.kept (row:=some b) ⟨rfl,rfl,rfl,by simp[World.setCell],fun k _ hk=>Below.heap_setCell _ _ _ _ (fun e=>hk (by simp[e]))⟩ (Or.inr (ownF_ne hown' hb2 (by decide)))
 ·exact k2.trans (Kp.cell hb2 (by simp[isB]) hB)
set_option maxHeartbeats 2000000 in
theorem Bo_String [Inhabited PrSet] {B:Nat} (s:ByteArray) (h:w.heap[b]?=some (.cells #[p,v] 85 (0,0))) (hown:w.ownsRowF B 5 1 v s.size (Lib.strCells s)) (hBw:B<=w.heap.size) (hv:npv v) :
  Calls Tryz.prog 66 #[(.pointer (some ⟨b,0,none⟩))] w fun e w'=>e=.returned (.string s)/\w'.heap[b]?=some (.cells #[p,v] 85 (0,0))/\w'.ownsRowF B 5 1 v s.size (Lib.strCells s)/\Kp is5 B w w'/\Ce w w':=by
 have hb:=lt_of_some h
 have hUS:∀ W q,(Builtin.unsafeString_ #[184,3] 9 #[.pointer q,.int .i64 0]).run Tryz.prog W=.ok (.string .empty) W:=fun W q=>Lib.run_unsafeString_none W _ _ _ q
 rcases hown.2 with⟨rfl,h0⟩ |⟨g,cap,cur,fz,rfl,hbg,hg,hfz,hnc,hcm,hcs,htake⟩
 ·have hs:s=⟨#[]⟩:=by
   apply ByteArray.ext
   exact Array.eq_empty_of_size_eq_zero h0
  subst hs
  have c1:w.drew.cell? ⟨b,1,none⟩=some (.slice none 0 0):=by
   have:w.drew.heap[b]?=some (.cells #[p,(.slice none 0 0)] 85 (0,0)):=h
   rw[Lib.cell_of_heap this];rfl
  have hSD:(Builtin.unsafeSliceData_ #[83] 184 #[.slice none 0 0]).run Tryz.prog w.drew=.ok (.pointer none) w.drew:=rfl
  have H:Hid _:=h
  have HO:Hid (w.ownsRowF B 5 1 (.slice none 0 0) (⟨#[]⟩:ByteArray).size (Lib.strCells ⟨#[]⟩)):=hown
  clear h hown h0
  go_enter Tryz.func66,Tryz.ntmps66
  go_wp2
  go_region
  all_goals (go_wp2;go_ret;exact⟨rfl,H.out,HO.out,Kp.drew _ _ _,Ce.of_below (Below.refl _ w).drew⟩)
 ·by_cases hc0:cap=0
  ·subst hc0
   have hz:s.size=0:=by omega
   have hs:s=⟨#[]⟩:=by
    apply ByteArray.ext
    exact Array.eq_empty_of_size_eq_zero hz
   subst hs
   have h':w.heap[b]?=some (.cells #[p,(.slice (some ⟨g,0,none⟩) 0 0)] 85 (0,0)):=h
   have c1:w.drew.cell? ⟨b,1,none⟩=some (.slice (some ⟨g,0,none⟩) 0 0):=by
    have:w.drew.heap[b]?=some (.cells #[p,(.slice (some ⟨g,0,none⟩) 0 0)] 85 (0,0)):=h'
    rw[Lib.cell_of_heap this];rfl
   have hSD:(Builtin.unsafeSliceData_ #[83] 184 #[.slice (some ⟨g,0,none⟩) 0 0]).run Tryz.prog w.drew=.ok (.pointer (some ⟨w.drew.heap.size,0,none⟩)) (w.drew.alloc (.view ⟨g,0,none⟩ 5)) :=
    Lib.run_unsafeSliceData_zero w.drew _ _ 5 Tryz.underlying184 ⟨g,0,none⟩ 0 (5,cur.size) (by have hg':w.drew.heap[g]?=some (.cells cur 5 fz):=hg;simp[World.shape?,hg'])
   have c2:(w.drew.alloc (.view ⟨g,0,none⟩ 5)).cell? ⟨b,1,none⟩=some (.slice (some ⟨g,0,none⟩) 0 0):=by
    have:(w.drew.alloc (.view ⟨g,0,none⟩ 5)).heap[b]?=_:=(Lib.alloc_old w.drew _ b hb).trans h'
    rw[Lib.cell_of_heap this];rfl
   have c3:(w.alloc (.view ⟨g,0,none⟩ 5)).drew.cell? ⟨b,1,none⟩=some (.slice (some ⟨g,0,none⟩) 0 0):=c2
   have c0:w.cell? ⟨b,1,none⟩=some (.slice (some ⟨g,0,none⟩) 0 0):=c1
   have bel:Below w.heap.size w (w.drew.alloc (.view ⟨g,0,none⟩ 5)):=(Below.refl w.heap.size w).drew.alloc (Nat.le_refl _) _
   have HK:Hid (Kp is5 B w (w.drew.alloc (.view ⟨g,0,none⟩ 5))/\Ce w (w.drew.alloc (.view ⟨g,0,none⟩ 5))):=(⟨Kp.of_below bel hBw,Ce.of_below bel⟩:Kp is5 B w (w.drew.alloc (.view ⟨g,0,none⟩ 5))/\Ce w (w.drew.alloc (.view ⟨g,0,none⟩ 5)))
   have HO:Hid ((w.drew.alloc (.view ⟨g,0,none⟩ 5)).ownsRowF B 5 1 (.slice (some ⟨g,0,none⟩) 0 0) (⟨#[]⟩:ByteArray).size (Lib.strCells ⟨#[]⟩)):=ownF_below hown bel
   have HB:Hid ((w.drew.alloc (.view ⟨g,0,none⟩ 5)).heap[b]?=some (.cells #[p,(.slice (some ⟨g,0,none⟩) 0 0)] 85 (0,0))):=(bel.block b hb).trans h'
   clear h h' hown hnc hcm hcs htake hfz hz bel
   go_enter Tryz.func66,Tryz.ntmps66
   go_wp2
   go_region
   all_goals (go_wp2;go_ret;exact⟨rfl,HB.out,HO.out,HK.out.1,HK.out.2⟩)
  ·have c1:w.drew.cell? ⟨b,1,none⟩=some (.slice (some ⟨g,0,none⟩) s.size cap):=by
    have:w.drew.heap[b]?=some (.cells #[p,(.slice (some ⟨g,0,none⟩) s.size cap)] 85 (0,0)):=h
    rw[Lib.cell_of_heap this];rfl
   have hSD:(Builtin.unsafeSliceData_ #[83] 184 #[.slice (some ⟨g,0,none⟩) s.size cap]).run Tryz.prog w.drew=.ok (.pointer (some ⟨g,0,none⟩)) w.drew :=
    Lib.run_unsafeSliceData_row _ _ _ _ _ _ hc0
   by_cases hz:s.size=0
   ·have hs:s=⟨#[]⟩:=by
     apply ByteArray.ext
     exact Array.eq_empty_of_size_eq_zero hz
    subst hs
    have c1':w.drew.cell? ⟨b,1,none⟩=some (.slice (some ⟨g,0,none⟩) 0 cap):=c1
    have hSD':(Builtin.unsafeSliceData_ #[83] 184 #[.slice (some ⟨g,0,none⟩) 0 cap]).run Tryz.prog w.drew=.ok (.pointer (some ⟨g,0,none⟩)) w.drew:=hSD
    have H:Hid _:=h
    have HO:Hid (w.ownsRowF B 5 1 (.slice (some ⟨g,0,none⟩) (⟨#[]⟩:ByteArray).size cap) (⟨#[]⟩:ByteArray).size (Lib.strCells ⟨#[]⟩)):=hown
    clear h hown hnc hcm hcs htake hfz hz hc0 c1 hSD
    go_enter Tryz.func66,Tryz.ntmps66
    go_wp2
    go_region
    all_goals (go_wp2;go_ret;exact⟨rfl,H.out,HO.out,Kp.drew _ _ _,Ce.of_below (Below.refl _ w).drew⟩)
   ·have hl:s.data.toList≠[]:=fun e=>hz (by show s.data.size=0;rw[← Array.length_toList,e];rfl)
    have hzl:s.data.toList.length=s.size:=Array.length_toList
    have hUS2:(Builtin.unsafeString_ #[184,3] 9 #[.pointer (some ⟨g,0,none⟩),.int .i64 s.size]).run Tryz.prog w.drew=.ok (.string s) (w.drew.freeze ⟨g,0,none⟩ s.size):=by
     have:=Lib.run_unsafeString_row (P:=Tryz.prog) w.drew 184 3 9 5 Tryz.underlying184 cellsU8 g cur.size (by have hg':w.drew.heap[g]?=some (.cells cur 5 fz):=hg;simp[World.shape?,hg']) s.data.toList hl (by omega) (by unfold maxLen at hcm;omega) (fun j x hx=>by
      have:=hown.cells (g:=g) rfl j (.int .u8 x.toNat) (by rw[Lib.strCells_eq];simp[Lib.byteCells,hx])
      exact this)
     rw[hzl] at this
     exact this
    have hfr:(w.drew.freeze ⟨g,0,none⟩ s.size).heap[b]?=some (.cells #[p,(.slice (some ⟨g,0,none⟩) s.size cap)] 85 (0,0)):=by
     have hgb:g≠b:=fun e=>by subst e;rw[hg] at h;cases h
     unfold World.freeze
     split
     ·exact h
     ·simp only[Array.getElem?_modify]
      rw[if_neg hgb]
      exact h
    have HB:Hid _:=hfr
    have HO:Hid ((w.drew.freeze ⟨g,0,none⟩ s.size).ownsRowF B 5 1 (.slice (some ⟨g,0,none⟩) s.size cap) s.size (Lib.strCells s)):=ownF_freeze (w:=w.drew) hown
    have k1:Kp is5 B w w.drew:=Kp.drew _ _ _
    have k2:Kp is5 B w.drew (w.drew.freeze ⟨g,0,none⟩ s.size):=kp_freeze (w:=w.drew) hg hbg (fun _ _=>rfl) (hv g rfl)
    have HK:Hid (Kp is5 B w (w.drew.freeze ⟨g,0,none⟩ s.size)/\Ce w (w.drew.freeze ⟨g,0,none⟩ s.size)):=(⟨k1.trans k2,(Ce.of_below (Below.refl _ w).drew).trans (Ce.freeze w.drew g s.size)⟩:Kp is5 B w (w.drew.freeze ⟨g,0,none⟩ s.size)/\Ce w (w.drew.freeze ⟨g,0,none⟩ s.size))
    clear hfr k1 k2 h hown hnc hcm hcs htake hfz hz hc0 hUS hl hzl
    go_enter Tryz.func66,Tryz.ntmps66
    go_wp2
    go_region
    all_goals (go_wp2;go_ret;exact⟨rfl,HB.out,HO.out,HK.out.1,HK.out.2⟩)
end
theorem Bf_lies:liesAt Tryz.prog Tryz.prog.depth 87 (10 / Tryz.prog.cellsOf 87) 5 85 1=true:=by kernel_rfl
section
variable {x0 x1 x2 x3 x4 x7 x8 x9:Value}{b:Nat}{p v:Value}{w:World}
set_option maxHeartbeats 1000000 in
theorem Bf_copyCheck (h:w.heap[b]?=some (.cells #[x0,x1,x2,x3,x4,p,v,x7,x8,x9] 87 (0,0))) (hp:p=.pointer none∨p=(.pointer (some ⟨b,5,none⟩))):Calls Tryz.prog 94 #[(.pointer (some ⟨b,5,none⟩))] w fun e w'=>e=.returned (.tuple #[])/\w'=w.setCell ⟨b,5,none⟩ (.pointer (some ⟨b,5,none⟩)):=by
 obtain⟨j,hj,hjs⟩:=Option.map_eq_some_iff.1 infoBld
 have c0:w.cell? ⟨b,5,none⟩=some p:=by rw[Lib.cell_of_heap h];rfl
 have hsh:w.shape? b=some (87,10):=by simp[World.shape?,h]
 have hfz:w.frozen? ⟨b,5,none⟩=false:=Lib.frozen_of_heap h 5
 rcases hp with rfl |rfl
 ·go_enter Tryz.func94,Tryz.ntmps94
  go_wp2
  rw[Lib.run_to_unsafe w ⟨b,5,none⟩ Tryz.underlying82 Tryz.underlying209 hj (by rw[hjs];decide) hsh (by show 5<10;omega)]
  simp only[Result.andThen]
  rw[Oper.upon_value]
  go_wp2
  rw[run_callFunc_extern Tryz.func122 (by kernel_rfl) (by kernel_rfl) (by kernel_rfl) (e:=Extern.AbiNoEscape.same) (by kernel_rfl)]
  rw[Lib.run_noEscape]
  simp only[Result.andThen]
  rw[Oper.upon_value]
  go_wp2
  rw[Lib.run_from_unsafe w ⟨b,5,none⟩ Tryz.underlying209 Tryz.underlying82 hj hsh Bf_lies]
  simp only[Result.andThen]
  rw[Oper.upon_value]
  go_wp2
  go_end0
  exact⟨rfl,rfl⟩
 ·go_enter Tryz.func94,Tryz.ntmps94
  go_wp2
  rw[Lib.run_neq_ptr_same w _ Tryz.underlying82 hj]
  go_wp2
  go_end0
  exact⟨rfl,(setSame h rfl).symm⟩
theorem Bf_Len {n:Nat} (ao:Option Addr) (cap:Nat) (h:w.heap[b]?=some (.cells #[x0,x1,x2,x3,x4,p,(.slice ao n cap),x7,x8,x9] 87 (0,0))):Calls Tryz.prog 68 #[(.pointer (some ⟨b,5,none⟩))] w fun e w'=>e=.returned (.int .i64 (n:Int))/\w'=w:=by
 have c1:w.cell? ⟨b,6,none⟩=some (.slice ao n cap):=by rw[Lib.cell_of_heap h];rfl
 go_enter Tryz.func68,Tryz.ntmps68
 go_wp2
 go_ret
 exact⟨rfl,rfl⟩
set_option maxHeartbeats 2000000 in
theorem Bf_WriteString [Inhabited PrSet] {B:Nat} {xs:List Value} {n:Nat} (h:w.heap[b]?=some (.cells #[x0,x1,x2,x3,x4,p,v,x7,x8,x9] 87 (0,0))) (hp:p=.pointer none∨p=(.pointer (some ⟨b,5,none⟩))) (hown:w.ownsRowF B 5 1 v n xs) (s:ByteArray) (hlen:n+s.size<=140737488355328) (hB:Ow B b) (hBw:B<=w.heap.size) (hv:npv v) (hl:Ltp w) :
  Calls Tryz.prog 64 #[(.pointer (some ⟨b,5,none⟩)),.string s] w fun e w'=>(∃ v',w'.heap[b]?=some (.cells #[x0,x1,x2,x3,x4,(.pointer (some ⟨b,5,none⟩)),v',x7,x8,x9] 87 (0,0))/\w'.ownsRowF B 5 1 v' (n+s.size) (xs++Lib.strCells s)/\npv v')/\e=.returned (.tuple #[.int .i64 s.size,.nilIface])/\Kp isT B w w':=by
 have CC:Hid (Calls Tryz.prog 94 #[(.pointer (some ⟨b,5,none⟩))] w fun e w'=>e=.returned (.tuple #[])/\w'=w.setCell ⟨b,5,none⟩ (.pointer (some ⟨b,5,none⟩))):=Bf_copyCheck h hp
 have hb1:(w.setCell ⟨b,5,none⟩ (.pointer (some ⟨b,5,none⟩))).heap[b]?=some (.cells #[x0,x1,x2,x3,x4,(.pointer (some ⟨b,5,none⟩)),v,x7,x8,x9] 87 (0,0)):=Joins.block_setCell h _
 have ho1:(w.setCell ⟨b,5,none⟩ (.pointer (some ⟨b,5,none⟩))).ownsRowF B 5 1 v n xs:=hown.kept (row:=some b) ⟨rfl,rfl,rfl,by simp[World.setCell],fun k _ hk=>Below.heap_setCell _ _ _ _ (fun e=>hk (by simp[e]))⟩ (Or.inr (ownF_ne hown h (by decide)))
 have k1:Kp isT B w (w.setCell ⟨b,5,none⟩ (.pointer (some ⟨b,5,none⟩))):=Kp.cell h (by simp[isT]) hB
 have hz:(w.setCell ⟨b,5,none⟩ (.pointer (some ⟨b,5,none⟩))).heap.size=w.heap.size:=by simp[World.setCell]
 have H:Hid _:=h
 clear h
 generalize hw1:w.setCell ⟨b,5,none⟩ (.pointer (some ⟨b,5,none⟩))=w1 at *
 have c0:w1.cell? ⟨b,5,none⟩=some (.pointer (some ⟨b,5,none⟩)):=by rw[Lib.cell_of_heap hb1];rfl
 have c1:w1.cell? ⟨b,6,none⟩=some v:=by rw[Lib.cell_of_heap hb1];rfl
 clear hw1
 go_enter Tryz.func64,Tryz.ntmps64
 go_wp2_with (first
  | (go_at_call 94;refine CC.out.mono ?_;rintro e w' ⟨rfl,rfl⟩)
  | (at_builtin;refine wpList_append_str (B:=B) rfl _ _ rfl rfl ho1 s rfl ?c4 ?c5 ?_))
 case c4=>omega
 case c5=>omega
 intro v' w2 hown' hgrow hob
 have hv':npv v':=hv.of hl hob
 have hb2:w2.heap[b]?=some (.cells #[x0,x1,x2,x3,x4,(.pointer (some ⟨b,5,none⟩)),v,x7,x8,x9] 87 (0,0)):=by
  rw[hgrow.block b (lt_of_some hb1) (fun e=>ownF_ne ho1 hb1 (by decide) e.symm)]
  exact hb1
 have d0:w2.cell? ⟨b,5,none⟩=some (.pointer (some ⟨b,5,none⟩)):=by rw[Lib.cell_of_heap hb2];rfl
 have d1:w2.cell? ⟨b,6,none⟩=some v:=by rw[Lib.cell_of_heap hb2];rfl
 have f1:w2.frozen? ⟨b,6,none⟩=false:=Lib.frozen_of_heap hb2 6
 obtain⟨ao,cap,rfl⟩:=ownF_slice hown'
 go_wp2
 go_ret2
 have k2:=k1.trans (kp_grown (A:=isT) ho1 hgrow (by omega) (fun _ _=>by simp[isT]) hv)
 refine⟨⟨_,Joins.block_setCell hb2 _,?_,hv'⟩,rfl,?_⟩
 ·exact hown'.kept (row:=some b) ⟨rfl,rfl,rfl,by simp[World.setCell],fun k _ hk=>Below.heap_setCell _ _ _ _ (fun e=>hk (by simp[e]))⟩ (Or.inr (ownF_ne hown' hb2 (by decide)))
 ·exact k2.trans (Kp.cell hb2 (by simp[isT]) hB)
set_option maxHeartbeats 2000000 in
theorem Bf_String [Inhabited PrSet] {B:Nat} (s:ByteArray) (h:w.heap[b]?=some (.cells #[x0,x1,x2,x3,x4,p,v,x7,x8,x9] 87 (0,0))) (hown:w.ownsRowF B 5 1 v s.size (Lib.strCells s)) (hBw:B<=w.heap.size) (hv:npv v) :
  Calls Tryz.prog 66 #[(.pointer (some ⟨b,5,none⟩))] w fun e w'=>e=.returned (.string s)/\w'.heap[b]?=some (.cells #[x0,x1,x2,x3,x4,p,v,x7,x8,x9] 87 (0,0))/\w'.ownsRowF B 5 1 v s.size (Lib.strCells s)/\Kp is5 B w w'/\Ce w w':=by
 have hb:=lt_of_some h
 have hUS:∀ W q,(Builtin.unsafeString_ #[184,3] 9 #[.pointer q,.int .i64 0]).run Tryz.prog W=.ok (.string .empty) W:=fun W q=>Lib.run_unsafeString_none W _ _ _ q
 rcases hown.2 with⟨rfl,h0⟩ |⟨g,cap,cur,fz,rfl,hbg,hg,hfz,hnc,hcm,hcs,htake⟩
 ·have hs:s=⟨#[]⟩:=by
   apply ByteArray.ext
   exact Array.eq_empty_of_size_eq_zero h0
  subst hs
  have c1:w.drew.cell? ⟨b,6,none⟩=some (.slice none 0 0):=by
   have:w.drew.heap[b]?=some (.cells #[x0,x1,x2,x3,x4,p,(.slice none 0 0),x7,x8,x9] 87 (0,0)):=h
   rw[Lib.cell_of_heap this];rfl
  have hSD:(Builtin.unsafeSliceData_ #[83] 184 #[.slice none 0 0]).run Tryz.prog w.drew=.ok (.pointer none) w.drew:=rfl
  have H:Hid _:=h
  have HO:Hid (w.ownsRowF B 5 1 (.slice none 0 0) (⟨#[]⟩:ByteArray).size (Lib.strCells ⟨#[]⟩)):=hown
  clear h hown h0
  go_enter Tryz.func66,Tryz.ntmps66
  go_wp2
  go_region
  all_goals (go_wp2;go_ret;exact⟨rfl,H.out,HO.out,Kp.drew _ _ _,Ce.of_below (Below.refl _ w).drew⟩)
 ·by_cases hc0:cap=0
  ·subst hc0
   have hz:s.size=0:=by omega
   have hs:s=⟨#[]⟩:=by
    apply ByteArray.ext
    exact Array.eq_empty_of_size_eq_zero hz
   subst hs
   have h':w.heap[b]?=some (.cells #[x0,x1,x2,x3,x4,p,(.slice (some ⟨g,0,none⟩) 0 0),x7,x8,x9] 87 (0,0)):=h
   have c1:w.drew.cell? ⟨b,6,none⟩=some (.slice (some ⟨g,0,none⟩) 0 0):=by
    have:w.drew.heap[b]?=some (.cells #[x0,x1,x2,x3,x4,p,(.slice (some ⟨g,0,none⟩) 0 0),x7,x8,x9] 87 (0,0)):=h'
    rw[Lib.cell_of_heap this];rfl
   have hSD:(Builtin.unsafeSliceData_ #[83] 184 #[.slice (some ⟨g,0,none⟩) 0 0]).run Tryz.prog w.drew=.ok (.pointer (some ⟨w.drew.heap.size,0,none⟩)) (w.drew.alloc (.view ⟨g,0,none⟩ 5)) :=
    Lib.run_unsafeSliceData_zero w.drew _ _ 5 Tryz.underlying184 ⟨g,0,none⟩ 0 (5,cur.size) (by have hg':w.drew.heap[g]?=some (.cells cur 5 fz):=hg;simp[World.shape?,hg'])
   have c2:(w.drew.alloc (.view ⟨g,0,none⟩ 5)).cell? ⟨b,6,none⟩=some (.slice (some ⟨g,0,none⟩) 0 0):=by
    have:(w.drew.alloc (.view ⟨g,0,none⟩ 5)).heap[b]?=_:=(Lib.alloc_old w.drew _ b hb).trans h'
    rw[Lib.cell_of_heap this];rfl
   have c3:(w.alloc (.view ⟨g,0,none⟩ 5)).drew.cell? ⟨b,6,none⟩=some (.slice (some ⟨g,0,none⟩) 0 0):=c2
   have c0:w.cell? ⟨b,6,none⟩=some (.slice (some ⟨g,0,none⟩) 0 0):=c1
   have bel:Below w.heap.size w (w.drew.alloc (.view ⟨g,0,none⟩ 5)):=(Below.refl w.heap.size w).drew.alloc (Nat.le_refl _) _
   have HK:Hid (Kp is5 B w (w.drew.alloc (.view ⟨g,0,none⟩ 5))/\Ce w (w.drew.alloc (.view ⟨g,0,none⟩ 5))):=(⟨Kp.of_below bel hBw,Ce.of_below bel⟩:Kp is5 B w (w.drew.alloc (.view ⟨g,0,none⟩ 5))/\Ce w (w.drew.alloc (.view ⟨g,0,none⟩ 5)))
   have HO:Hid ((w.drew.alloc (.view ⟨g,0,none⟩ 5)).ownsRowF B 5 1 (.slice (some ⟨g,0,none⟩) 0 0) (⟨#[]⟩:ByteArray).size (Lib.strCells ⟨#[]⟩)):=ownF_below hown bel
   have HB:Hid ((w.drew.alloc (.view ⟨g,0,none⟩ 5)).heap[b]?=some (.cells #[x0,x1,x2,x3,x4,p,(.slice (some ⟨g,0,none⟩) 0 0),x7,x8,x9] 87 (0,0))):=(bel.block b hb).trans h'
   clear h h' hown hnc hcm hcs htake hfz hz bel
   go_enter Tryz.func66,Tryz.ntmps66
   go_wp2
   go_region
   all_goals (go_wp2;go_ret;exact⟨rfl,HB.out,HO.out,HK.out.1,HK.out.2⟩)
  ·have c1:w.drew.cell? ⟨b,6,none⟩=some (.slice (some ⟨g,0,none⟩) s.size cap):=by
    have:w.drew.heap[b]?=some (.cells #[x0,x1,x2,x3,x4,p,(.slice (some ⟨g,0,none⟩) s.size cap),x7,x8,x9] 87 (0,0)):=h
    rw[Lib.cell_of_heap this];rfl
   have hSD:(Builtin.unsafeSliceData_ #[83] 184 #[.slice (some ⟨g,0,none⟩) s.size cap]).run Tryz.prog w.drew=.ok (.pointer (some ⟨g,0,none⟩)) w.drew :=
    Lib.run_unsafeSliceData_row _ _ _ _ _ _ hc0
   by_cases hz:s.size=0
   ·have hs:s=⟨#[]⟩:=by
     apply ByteArray.ext
     exact Array.eq_empty_of_size_eq_zero hz
    subst hs
    have c1':w.drew.cell? ⟨b,6,none⟩=some (.slice (some ⟨g,0,none⟩) 0 cap):=c1
    have hSD':(Builtin.unsafeSliceData_ #[83] 184 #[.slice (some ⟨g,0,none⟩) 0 cap]).run Tryz.prog w.drew=.ok (.pointer (some ⟨g,0,none⟩)) w.drew:=hSD
    have H:Hid _:=h
    have HO:Hid (w.ownsRowF B 5 1 (.slice (some ⟨g,0,none⟩) (⟨#[]⟩:ByteArray).size cap) (⟨#[]⟩:ByteArray).size (Lib.strCells ⟨#[]⟩)):=hown
    clear h hown hnc hcm hcs htake hfz hz hc0 c1 hSD
    go_enter Tryz.func66,Tryz.ntmps66
    go_wp2
    go_region
    all_goals (go_wp2;go_ret;exact⟨rfl,H.out,HO.out,Kp.drew _ _ _,Ce.of_below (Below.refl _ w).drew⟩)
   ·have hl:s.data.toList≠[]:=fun e=>hz (by show s.data.size=0;rw[← Array.length_toList,e];rfl)
    have hzl:s.data.toList.length=s.size:=Array.length_toList
    have hUS2:(Builtin.unsafeString_ #[184,3] 9 #[.pointer (some ⟨g,0,none⟩),.int .i64 s.size]).run Tryz.prog w.drew=.ok (.string s) (w.drew.freeze ⟨g,0,none⟩ s.size):=by
     have:=Lib.run_unsafeString_row (P:=Tryz.prog) w.drew 184 3 9 5 Tryz.underlying184 cellsU8 g cur.size (by have hg':w.drew.heap[g]?=some (.cells cur 5 fz):=hg;simp[World.shape?,hg']) s.data.toList hl (by omega) (by unfold maxLen at hcm;omega) (fun j x hx=>by
      have:=hown.cells (g:=g) rfl j (.int .u8 x.toNat) (by rw[Lib.strCells_eq];simp[Lib.byteCells,hx])
      exact this)
     rw[hzl] at this
     exact this
    have hfr:(w.drew.freeze ⟨g,0,none⟩ s.size).heap[b]?=some (.cells #[x0,x1,x2,x3,x4,p,(.slice (some ⟨g,0,none⟩) s.size cap),x7,x8,x9] 87 (0,0)):=by
     have hgb:g≠b:=fun e=>by subst e;rw[hg] at h;cases h
     unfold World.freeze
     split
     ·exact h
     ·simp only[Array.getElem?_modify]
      rw[if_neg hgb]
      exact h
    have HB:Hid _:=hfr
    have HO:Hid ((w.drew.freeze ⟨g,0,none⟩ s.size).ownsRowF B 5 1 (.slice (some ⟨g,0,none⟩) s.size cap) s.size (Lib.strCells s)):=ownF_freeze (w:=w.drew) hown
    have k1:Kp is5 B w w.drew:=Kp.drew _ _ _
    have k2:Kp is5 B w.drew (w.drew.freeze ⟨g,0,none⟩ s.size):=kp_freeze (w:=w.drew) hg hbg (fun _ _=>rfl) (hv g rfl)
    have HK:Hid (Kp is5 B w (w.drew.freeze ⟨g,0,none⟩ s.size)/\Ce w (w.drew.freeze ⟨g,0,none⟩ s.size)):=(⟨k1.trans k2,(Ce.of_below (Below.refl _ w).drew).trans (Ce.freeze w.drew g s.size)⟩:Kp is5 B w (w.drew.freeze ⟨g,0,none⟩ s.size)/\Ce w (w.drew.freeze ⟨g,0,none⟩ s.size))
    clear hfr k1 k2 h hown hnc hcm hcs htake hfz hz hc0 hUS hl hzl
    go_enter Tryz.func66,Tryz.ntmps66
    go_wp2
    go_region
    all_goals (go_wp2;go_ret;exact⟨rfl,HB.out,HO.out,HK.out.1,HK.out.2⟩)
end
open Go.RowKit
abbrev Lf:=ByteArray × Int
def nN (q:Lf) (k:Int):Int:=((Pk.rdNum q.1 q.2 k).1:Nat)
def sN (q:Lf) (k:Int):Lf:=(Pk.rdNum q.1 q.2 k).2
def tT (q:Lf) (m:Int):ByteArray:=(Pk.rdText q.1 q.2 m).1
def sT (q:Lf) (m:Int):Lf:=(Pk.rdText q.1 q.2 m).2
def kR (k:Int):Sc:={zS with kd:=k}
def rc1 (s:Sc) (q:Lf):Sc:={s with pg:=nN q 2,ky:=tT (sN q 2) 16}
def rq1 (q:Lf):Lf:=sT (sN q 2) 16
def rcN (s:Sc) (q:Lf):Sc:={rc1 s q with nw:=tT (rq1 q) 32}
def rcO (s:Sc) (q:Lf):Sc:={rc1 s q with ol:=tT (rq1 q) 32}
def rcB (s:Sc) (q:Lf):Sc:={rc1 s q with ol:=tT (rq1 q) 32,nw:=tT (sT (rq1 q) 32) 32}
def rdChg (act:Int) (s:Sc) (q:Lf):Sc × Lf :=
 if act=3 then(rcN s q,sT (rq1 q) 32) else if act=4 then(rcO s q,sT (rq1 q) 32) else(rcB s q,sT (sT (rq1 q) 32) 32)
theorem rc1_set (s:Sc) (q:Lf) (I T:Value):(({s with pg:=nN q 2}:Sc).A I T).setIfInBounds 5 (.string (tT (sN q 2) 16))=(rc1 s q).A I T:=by unfold rc1 Sc.A;rfl
theorem rcN_set (s:Sc) (q:Lf) (I T:Value):((rc1 s q).A I T).setIfInBounds 7 (.string (tT (rq1 q) 32))=(rcN s q).A I T:=by unfold rcN Sc.A;rfl
theorem rcO_set (s:Sc) (q:Lf) (I T:Value):((rc1 s q).A I T).setIfInBounds 6 (.string (tT (rq1 q) 32))=(rcO s q).A I T:=by unfold rcO Sc.A;rfl
theorem rcB_set (s:Sc) (q:Lf) (I T:Value):((rcO s q).A I T).setIfInBounds 7 (.string (tT (sT (rq1 q) 32) 32))=(rcB s q).A I T:=by unfold rcO rcB Sc.A;rfl
def rdImS (q:Lf):Nat->Lf
 | 0=>q
 | j+1=>sT (sN (rdImS q j) 2) 224
def rdImF (q:Lf) (j:Nat):Im:=(nN (rdImS q j) 2,tT (sN (rdImS q j) 2) 224)
def rdImL (q:Lf) (n:Nat):List Im:=(List.range n).map (rdImF q)
def rdTbS (q:Lf):Nat->Lf
 | 0=>q
 | j+1=>sN (sN (rdTbS q j) 6) 6
def rdTbF (q:Lf) (j:Nat):Tb:=(nN (rdTbS q j) 6,nN (sN (rdTbS q j) 6) 6)
def rdTbL (q:Lf) (n:Nat):List Tb:=(List.range n).map (rdTbF q)
theorem rdImL_succ (q:Lf) (n:Nat):rdImL q (n+1)=rdImL q n++[rdImF q n]:=by simp[rdImL,List.range_succ]
theorem rdTbL_succ (q:Lf) (n:Nat):rdTbL q (n+1)=rdTbL q n++[rdTbF q n]:=by simp[rdTbL,List.range_succ]
theorem rdImL_length (q:Lf) (n:Nat):(rdImL q n).length=n:=by simp[rdImL]
theorem rdTbL_length (q:Lf) (n:Nat):(rdTbL q n).length=n:=by simp[rdTbL]
def rdK (k:Int) (q:Lf):Rm × Lf :=
 if k=1∨k=2 then(⟨kR k,rdImL (sN q 1) (nN q 1).toNat,[]⟩,rdImS (sN q 1) (nN q 1).toNat)
 else if k=3∨k=4∨k=5 then(⟨(rdChg k {kR k with tx:=nN q 6,pv:=nN (sN q 6) 6} (sN (sN q 6) 6)).1,[],[]⟩,(rdChg k {kR k with tx:=nN q 6,pv:=nN (sN q 6) 6} (sN (sN q 6) 6)).2)
 else if k=6 then
  (⟨(rdChg (nN (sN (sN (sN q 6) 6) 6) 1) {kR k with tx:=nN q 6,pv:=nN (sN q 6) 6,nx:=nN (sN (sN q 6) 6) 6,ac:=nN (sN (sN (sN q 6) 6) 6) 1} (sN (sN (sN (sN q 6) 6) 6) 1)).1,[],[]⟩,
   (rdChg (nN (sN (sN (sN q 6) 6) 6) 1) {kR k with tx:=nN q 6,pv:=nN (sN q 6) 6,nx:=nN (sN (sN q 6) 6) 6,ac:=nN (sN (sN (sN q 6) 6) 6) 1} (sN (sN (sN (sN q 6) 6) 6) 1)).2)
 else if k=7∨k=8 then(⟨{kR k with tx:=nN q 6,pv:=nN (sN q 6) 6},[],[]⟩,sN (sN q 6) 6)
 else if k=9 then(⟨kR k,[],rdTbL (sN q 1) (nN q 1).toNat⟩,rdTbS (sN q 1) (nN q 1).toNat)
 else if k=10 then(⟨{kR k with ep:=nN q 4,nd:=nN (sN q 4) 1},[],[]⟩,sN (sN q 4) 1)
 else(⟨kR k,[],[]⟩,q)
def rdM (t:ByteArray):Rm × Lf:=rdK (nN (t,0) 1) (sN (t,0) 1)
def zM:Rm:=⟨zS,[],[]⟩
def ofM (t:ByteArray):Rm × Int :=
 if(Pk.rdEnd (rdM t).2.1 (rdM t).2.2).2≠0 then(zM,(Pk.rdEnd (rdM t).2.1 (rdM t).2.2).2)
 else if(bodyM (rdM t).1).2=0/\(bodyM (rdM t).1).1=t then((rdM t).1,0) else(zM,4)
theorem nN_nonneg (q:Lf) (k:Int):0<=nN q k:=by unfold nN;omega
theorem nN_lt (q:Lf) (k:Int):nN q k<281474976710656:=by have:=Pk.rdNum_lt q.1 q.2 k;unfold nN;omega
theorem sN_size (q:Lf) (k:Int):(sN q k).1.size<=q.1.size:=Pk.rdNum_size q.1 q.2 k
theorem rdText_size (l:ByteArray) (e m:Int):(Pk.rdText l e m).2.1.size<=l.size:=by
 unfold Pk.rdText Pk.rdTextSt
 have h1:=Pk.rdNum_size l e 2
 split
 ·exact Nat.le_trans (Pk.rdRaw_size _ _ _) (Nat.le_trans (Pk.rdFail_size _ _ _) h1)
 ·exact Nat.le_trans (Pk.rdRaw_size _ _ _) h1
theorem sT_size (q:Lf) (m:Int):(sT q m).1.size<=q.1.size:=rdText_size q.1 q.2 m
theorem rdImS_size (q:Lf) (j:Nat):(rdImS q j).1.size<=q.1.size:=by
 induction j with
 | zero=>exact Nat.le_refl _
 | succ j ih=>exact Nat.le_trans (sT_size _ _) (Nat.le_trans (sN_size _ _) ih)
theorem beN_one (l:List UInt8) (h:l.length<=1):Pk.beN l<=255:=by
 have h1:=Pk.beN_lt l
 have h2:256 ^ l.length<=256 ^ 1:=Nat.pow_le_pow_right (by omega) h
 omega
theorem nN_one (q:Lf):nN q 1<=255:=by
 unfold nN Pk.rdNum
 have h:(Pk.rdRaw (Pk.rdNumSt q.1 q.2 1).1 (Pk.rdNumSt q.1 q.2 1).2 1).1.size<=1:=Pk.rdRaw_size1 _ _ _ 1 (by omega)
 have:=beN_one (Pk.rdRaw (Pk.rdNumSt q.1 q.2 1).1 (Pk.rdNumSt q.1 q.2 1).2 1).1.data.toList h
 dsimp only
 omega
theorem rdRaw_txt (l:ByteArray) (e n:Int):(Pk.rdRaw l e n).1.size<=l.size:=by
 unfold Pk.rdRaw
 repeat' split
 all_goals simp[ByteArray.size_extract,Pk.size_nil]
 omega
theorem tT_size (q:Lf) (m:Int):(tT q m).size<=q.1.size:=by
 unfold tT Pk.rdText Pk.rdTextSt
 have h1:=Pk.rdNum_size q.1 q.2 2
 split
 ·exact Nat.le_trans (rdRaw_txt _ _ _) (Nat.le_trans (Pk.rdFail_size _ _ _) h1)
 ·exact Nat.le_trans (rdRaw_txt _ _ _) h1
structure RdS (w:World) (b:Nat) (q:Lf):Prop where
 rd:Pk.isRd w b q.1 q.2
 sz:q.1.size<=140737488351232
section
variable {w w':World}{b c:Nat}{q:Lf}
theorem RdS.lt (h:RdS w b q):b<w.heap.size:=h.rd.lt
theorem RdS.below (h:RdS w b q) (hb:Below w.heap.size w w'):RdS w' b q:=⟨h.rd.below hb,h.sz⟩
theorem RdS.off (h:RdS w b q) (hb:Pk.Off c w w') (hn:b≠c):RdS w' b q:=⟨h.rd.off hb hn,h.sz⟩
theorem RdS.num (h:RdS w b q) (k:Int):Calls Tryz.prog 63 #[.pointer (some ⟨b,0,none⟩),.int .i64 k] w fun r w'=>r=.returned (.int .i64 (nN q k))/\RdS w' b (sN q k)/\Pk.Off b w w' :=
 (Pk.Num_any b q.1 q.2 k w h.sz h.rd).mono fun e w' ⟨he,h1,o1⟩=>⟨he,⟨h1,Nat.le_trans (sN_size q k) h.sz⟩,o1⟩
theorem RdS.text (h:RdS w b q) (m:Int):Calls Tryz.prog 185 #[.pointer (some ⟨b,0,none⟩),.int .i64 m] w fun r w'=>r=.returned (.string (tT q m))/\RdS w' b (sT q m)/\Pk.Off b w w' :=
 (Pk.RText_any b q.1 q.2 m w h.sz h.rd).mono fun e w' ⟨he,h1,o1⟩=>⟨he,⟨h1,Nat.le_trans (sT_size q m) h.sz⟩,o1⟩
end
structure Blk (w:World) (b:Nat) (C:Array Value) (t:TypeId):Prop where
 blk:w.heap[b]?=some (.cells C t)
structure PutB (w w':World) (b:Nat) (C:Array Value) (t:TypeId):Prop where
 bl:Blk w' b C t
 off:Pk.Off b w w'
section
variable {w w':World}{b c:Nat}{C:Array Value}{t:TypeId}
theorem Blk.lt (h:Blk w b C t):b<w.heap.size:=(Array.getElem?_eq_some_iff.1 h.blk).1
theorem Blk.below (h:Blk w b C t) (hb:Below w.heap.size w w'):Blk w' b C t:=⟨(hb.block b h.lt).trans h.blk⟩
theorem Blk.off (h:Blk w b C t) (hb:Pk.Off c w w') (hn:b≠c):Blk w' b C t:=⟨(hb.block b h.lt hn).trans h.blk⟩
theorem Blk.cell (h:Blk w b C t) (k:Nat):w.cell? ⟨b,k,none⟩=C[k]?:=Joins.cell_of_block h.blk k
theorem wpList_bput {k:Nat} {v:Value} {ops:Array Oper} {rest:List Oper} {o:Oper} {a:Act} {Q:Exit->Act->World->Prop} (w:World) (hg:o.guard=none) (ty:TypeId) (x y:Operand) (hop:o.op=Op.store ty x y)
  (hx:a.eval x=.pointer (some ⟨b,k,none⟩)) (hy:a.eval y=v) (hs:Blk w b C t) (hk:k<C.size) (h1:v.oneCell'=true) (hi:(Tryz.prog.info? ty).map (·.size)=some 1)
  (h:∀ w',PutB w w' b (C.setIfInBounds k v) t->wpList Tryz.prog ops Q rest (a.put o.dst undef) w'):wpList Tryz.prog ops Q (o ::rest) a w:=by
 have hc:∃ u,w.cell? ⟨b,k,none⟩=some u:=by
  rw[hs.cell k]
  exact⟨_,Array.getElem?_eq_getElem hk⟩
 obtain⟨u,hu⟩:=hc
 have hf:w.frozen? ⟨b,k,none⟩=false:=Joins.unfrozen_of_block hs.blk k
 refine wpList_plain hg fun K' hK'=>?_
 unfold Oper.wp
 have hrun:(Instr.storeAt ty (.pointer (some ⟨b,k,none⟩)) v).run Tryz.prog w=.ok () (w.setCell ⟨b,k,none⟩ v):=by
  have hcs:v.cells=#[v]:=by cases v <;> first |rfl |cases h1
  have g1:∀ j,j<[v].length->(w.cell? ⟨b,k+0+j,none⟩).isSome=true:=by
   intro j hj
   obtain rfl:j=0:=by simpa using hj
   simp[hu]
  have g2:∀ j,j<[v].length->w.frozen? ⟨b,k+0+j,none⟩=false:=by
   intro j hj
   obtain rfl:j=0:=by simpa using hj
   simpa using hf
  have:=run_storeCells_cells (P:=Tryz.prog) b k [v] 0 w g1 g2 (fun x hx=>by simp at hx;subst hx;exact h1)
  cases hq:Tryz.prog.info? ty with
  | none=>simp[hq] at hi
  | some i =>
   have hs:i.size=1:=by simpa[hq] using hi
   simp only[Nat.add_zero] at this
   simp[Instr.storeAt,Instr.sureAddr,storeVar,sizeOf,typeInfo,hq,hcs,hs,this,World.setCells]
 simp[execOp,hop,hx,hy,hrun,Result.andThen]
 exact hK' _ _ (h _ ⟨⟨Joins.block_setCell hs.blk _⟩,(Pk.Off.refl _ _).setCell _ _⟩)
end
structure Off2 (b c:Nat) (w w':World):Prop where
 os:w'.os=w.os
 tape:w'.tape=w.tape
 output:w'.output=w.output
 size:w.heap.size<=w'.heap.size
 block:∀ k,k<w.heap.size->k≠b->k≠c->w'.heap[k]?=w.heap[k]?
section
variable {w w1 w2:World}{b c:Nat}
theorem Off2.refl (b c:Nat) (w:World):Off2 b c w w:=⟨rfl,rfl,rfl,Nat.le_refl _,fun _ _ _ _=>rfl⟩
theorem Off2.left (h:Off2 b c w w1) (o:Pk.Off b w1 w2):Off2 b c w w2:=⟨o.os.trans h.os,o.tape.trans h.tape,o.output.trans h.output,Nat.le_trans h.size o.size,fun k hk hb hc=>(o.block k (Nat.lt_of_lt_of_le hk h.size) hb).trans (h.block k hk hb hc)⟩
theorem Off2.right (h:Off2 b c w w1) (o:Pk.Off c w1 w2):Off2 b c w w2:=⟨o.os.trans h.os,o.tape.trans h.tape,o.output.trans h.output,Nat.le_trans h.size o.size,fun k hk hb hc=>(o.block k (Nat.lt_of_lt_of_le hk h.size) hc).trans (h.block k hk hb hc)⟩
theorem Off2.below (h:Off2 b c w w1) (o:Below w1.heap.size w1 w2):Off2 b c w w2:=⟨o.os.trans h.os,o.tape.trans h.tape,o.output.trans h.output,Nat.le_trans h.size o.size,fun k hk hb hc=>(o.block k (Nat.lt_of_lt_of_le hk h.size)).trans (h.block k hk hb hc)⟩
theorem Off2.bel {B:Nat} (h:Off2 b c w w1) (hb:B<=b) (hc:B<=c) (hB:B<=w.heap.size):Below B w w1:=⟨h.os,h.tape,h.output,h.size,fun k hk=>h.block k (by omega) (by omega) (by omega)⟩
end
structure RpS (w wx:World) (b g b0:Nat) (G C:Array Value) (t:TypeId) (q:Lf):Prop where
 rd:RdS wx b q
 gp:Blk wx g G 234
 bl:Blk wx b0 C t
 off:Off2 b b0 w wx
 n1:b≠g
 n2:b≠b0
 n3:g≠b0
section
variable {w wx wq:World}{b g b0:Nat}{G C:Array Value}{t:TypeId}{q:Lf}
theorem RpS.num (h:RpS w wx b g b0 G C t q) (k:Int):Calls Tryz.prog 63 #[.pointer (some ⟨b,0,none⟩),.int .i64 k] wx fun r w'=>r=.returned (.int .i64 (nN q k))/\RpS w w' b g b0 G C t (sN q k) :=
 (h.rd.num k).mono fun e w' ⟨he,h1,o1⟩=>⟨he,⟨h1,h.gp.off o1 (fun e=>h.n1 e.symm),h.bl.off o1 (fun e=>h.n2 e.symm),h.off.left o1,h.n1,h.n2,h.n3⟩⟩
theorem RpS.put {C':Array Value} (h:RpS w wx b g b0 G C t q) (P:PutB wx wq b0 C' t):RpS w wq b g b0 G C' t q :=
 ⟨h.rd.off P.off h.n2,h.gp.off P.off h.n3,P.bl,h.off.right P.off,h.n1,h.n2,h.n3⟩
end
set_option maxHeartbeats 1000000 in
theorem readPlaces_2 {w:World} {b g b0 k0 k1:Nat} {C:Array Value} {t:TypeId} {q:Lf} (H:RpS w w b g b0 #[.pointer (some ⟨b0,k0,none⟩),.pointer (some ⟨b0,k1,none⟩)] C t q) (h0:k0<C.size) (h1:k1<C.size) :
  Calls Tryz.prog 152 #[.pointer (some ⟨b,0,none⟩),.slice (some ⟨g,0,none⟩) 2 2] w fun e w'=>e=.returned (.tuple #[])/\RdS w' b (sN (sN q 6) 6)/\Blk w' b0 ((C.setIfInBounds k0 (.int .i64 (nN q 6))).setIfInBounds k1 (.int .i64 (nN (sN q 6) 6))) t/\Off2 b b0 w w':=by
 have h1':∀ v,k1<(C.setIfInBounds k0 v).size:=fun v=>by simpa using h1
 have z0:=H.gp.cell 0
 have z1:=H.gp.cell 1
 simp only[List.getElem?_toArray,List.getElem?_cons_zero,List.getElem?_cons_succ] at z0 z1
 go_enter Tryz.func152,Tryz.ntmps152
 go_wp2
 refine wp_loop_rounds 3 ?_
 rw[rounds_succ]
 go_wp2_with (first
  | (go_at_call 63;refine(H.num _).mono ?_;clear H;rintro e w1 ⟨rfl,H⟩)
  | (refine wpList_bput _ rfl 3 (.tmp 15) (.tmp 14) rfl rfl rfl H.bl h0 rfl (by kernel_rfl) ?_;intro w2 P2;have H1:=H.put P2;clear H P2;have H:=H1;clear H1;have z1:=H.gp.cell 1;simp only[List.getElem?_toArray,List.getElem?_cons_zero,List.getElem?_cons_succ] at z1))
 rw[rounds_succ]
 go_wp2_with (first
  | (go_at_call 63;refine(H.num _).mono ?_;clear H;rintro e w1 ⟨rfl,H⟩)
  | (refine wpList_bput _ rfl 3 (.tmp 15) (.tmp 14) rfl rfl rfl H.bl (h1' _) rfl (by kernel_rfl) ?_;intro w2 P2;have H1:=H.put P2;clear H P2;have H:=H1;clear H1))
 rw[rounds_succ]
 go_wp2
 go_end0
 exact⟨rfl,H.rd,H.bl,H.off⟩
set_option maxHeartbeats 1000000 in
theorem readPlaces_3 {w:World} {b g b0 k0 k1 k2:Nat} {C:Array Value} {t:TypeId} {q:Lf} (H:RpS w w b g b0 #[.pointer (some ⟨b0,k0,none⟩),.pointer (some ⟨b0,k1,none⟩),.pointer (some ⟨b0,k2,none⟩)] C t q) (h0:k0<C.size) (h1:k1<C.size) (h2:k2<C.size) :
  Calls Tryz.prog 152 #[.pointer (some ⟨b,0,none⟩),.slice (some ⟨g,0,none⟩) 3 3] w fun e w'=>e=.returned (.tuple #[])/\RdS w' b (sN (sN (sN q 6) 6) 6)/\Blk w' b0 (((C.setIfInBounds k0 (.int .i64 (nN q 6))).setIfInBounds k1 (.int .i64 (nN (sN q 6) 6))).setIfInBounds k2 (.int .i64 (nN (sN (sN q 6) 6) 6))) t/\Off2 b b0 w w':=by
 have h1':∀ v,k1<(C.setIfInBounds k0 v).size:=fun v=>by simpa using h1
 have h2':∀ v u,k2<((C.setIfInBounds k0 v).setIfInBounds k1 u).size:=fun v u=>by simpa using h2
 have z0:=H.gp.cell 0
 simp only[List.getElem?_toArray,List.getElem?_cons_zero,List.getElem?_cons_succ] at z0
 go_enter Tryz.func152,Tryz.ntmps152
 go_wp2
 refine wp_loop_rounds 4 ?_
 rw[rounds_succ]
 go_wp2_with (first
  | (go_at_call 63;refine(H.num _).mono ?_;clear H;rintro e w1 ⟨rfl,H⟩)
  | (refine wpList_bput _ rfl 3 (.tmp 15) (.tmp 14) rfl rfl rfl H.bl h0 rfl (by kernel_rfl) ?_;intro w2 P2;have H1:=H.put P2;clear H P2;have H:=H1;clear H1;have z1:=H.gp.cell 1;simp only[List.getElem?_toArray,List.getElem?_cons_zero,List.getElem?_cons_succ] at z1))
 rw[rounds_succ]
 go_wp2_with (first
  | (go_at_call 63;refine(H.num _).mono ?_;clear H;rintro e w1 ⟨rfl,H⟩)
  | (refine wpList_bput _ rfl 3 (.tmp 15) (.tmp 14) rfl rfl rfl H.bl (h1' _) rfl (by kernel_rfl) ?_;intro w2 P2;have H1:=H.put P2;clear H P2;have H:=H1;clear H1;have z2:=H.gp.cell 2;simp only[List.getElem?_toArray,List.getElem?_cons_zero,List.getElem?_cons_succ] at z2))
 rw[rounds_succ]
 go_wp2_with (first
  | (go_at_call 63;refine(H.num _).mono ?_;clear H;rintro e w1 ⟨rfl,H⟩)
  | (refine wpList_bput _ rfl 3 (.tmp 15) (.tmp 14) rfl rfl rfl H.bl (h2' _ _) rfl (by kernel_rfl) ?_;intro w2 P2;have H1:=H.put P2;clear H P2;have H:=H1;clear H1))
 rw[rounds_succ]
 go_wp2
 go_end0
 exact⟨rfl,H.rd,H.bl,H.off⟩
structure RcS (w wx:World) (b b0:Nat) (s:Sc) (I T:Value) (q:Lf):Prop where
 rd:RdS wx b q
 rc:RcAt wx b0 s I T
 off:Off2 b b0 w wx
 ne:b≠b0
section
variable {w wx wq:World}{b b0:Nat}{s s':Sc}{I T I' T':Value}{q:Lf}
theorem RcS.num (h:RcS w wx b b0 s I T q) (k:Int):Calls Tryz.prog 63 #[.pointer (some ⟨b,0,none⟩),.int .i64 k] wx fun r w'=>r=.returned (.int .i64 (nN q k))/\RcS w w' b b0 s I T (sN q k) :=
 (h.rd.num k).mono fun e w' ⟨he,h1,o1⟩=>⟨he,⟨h1,h.rc.off o1 (fun e=>h.ne e.symm),h.off.left o1,h.ne⟩⟩
theorem RcS.text (h:RcS w wx b b0 s I T q) (m:Int):Calls Tryz.prog 185 #[.pointer (some ⟨b,0,none⟩),.int .i64 m] wx fun r w'=>r=.returned (.string (tT q m))/\RcS w w' b b0 s I T (sT q m) :=
 (h.rd.text m).mono fun e w' ⟨he,h1,o1⟩=>⟨he,⟨h1,h.rc.off o1 (fun e=>h.ne e.symm),h.off.left o1,h.ne⟩⟩
theorem RcS.put (h:RcS w wx b b0 s I T q) (P:PutR wx wq b0 s' I' T'):RcS w wq b b0 s' I' T' q:=⟨h.rd.off P.off h.ne,P.rc,h.off.right P.off,h.ne⟩
theorem RcS.below (h:RcS w wx b b0 s I T q) (hb:Below wx.heap.size wx wq):RcS w wq b b0 s I T q:=⟨h.rd.below hb,h.rc.below hb,h.off.below hb,h.ne⟩
structure RvS (w wx:World) (b b0 g:Nat) (s:Sc) (I T:Value) (q:Lf) (P:Array Value):Prop where
 r:RcS w wx b b0 s I T q
 pg:Blk wx g P 251
 n1:g≠b
 n2:g≠b0
theorem RvS.text {g:Nat} {P:Array Value} (h:RvS w wx b b0 g s I T q P) (m:Int):Calls Tryz.prog 185 #[.pointer (some ⟨b,0,none⟩),.int .i64 m] wx fun r w'=>r=.returned (.string (tT q m))/\RvS w w' b b0 g s I T (sT q m) P :=
 (h.r.rd.text m).mono fun e w' ⟨he,h1,o1⟩=>⟨he,⟨⟨h1,h.r.rc.off o1 (fun e=>h.r.ne e.symm),h.r.off.left o1,h.r.ne⟩,h.pg.off o1 h.n1,h.n1,h.n2⟩⟩
theorem RvS.put {g:Nat} {P:Array Value} (h:RvS w wx b b0 g s I T q P) (Q:PutR wx wq b0 s' I' T'):RvS w wq b b0 g s' I' T' q P:=⟨h.r.put Q,h.pg.off Q.off h.n2,h.n1,h.n2⟩
end
section
variable {w:World}{b b0:Nat}{s:Sc}{I T:Value}{q:Lf}
set_option maxHeartbeats 1000000 in
theorem readChange_3 (H:RcS w w b b0 s I T q) (ha:actOf s=3):Calls Tryz.prog 153 #[.pointer (some ⟨b,0,none⟩),.pointer (some ⟨b0,0,none⟩)] w fun e w'=>e=.returned (.tuple #[])/\RcS w w' b b0 (rcN s q) I T (sT (rq1 q) 32):=by
 have CV:Hid (∀ wr q',RcS w wr b b0 (rc1 s q) I T q'->Calls Tryz.prog 165 #[.pointer (some ⟨b0,0,none⟩)] wr fun e w'=>∃ g,e=.returned (.slice (some ⟨g,0,none⟩) 1 1)/\RvS w w' b b0 g (rc1 s q) I T q' #[.pointer (some ⟨b0,7,none⟩)]):=fun wr q' R=>by
  refine(values_3 R.rc ha).mono ?_
  rintro e w' ⟨he,hw'⟩
  refine⟨wr.heap.size,he,?_⟩
  subst hw'
  refine⟨R.below ((Below.refl _ _).alloc (Nat.le_refl _) _),⟨(MapKept.heap_alloc wr _).1⟩,by have:=R.rd.lt;omega,by have:=R.rc.lt;omega⟩
 go_enter Tryz.func153,Tryz.ntmps153
 go_wp2_with (first
  | (go_at_call 63;refine(H.num _).mono ?_;clear H;rintro e w1 ⟨rfl,H⟩)
  | (refine wpList_at (Op.store 3 (.tmp 10) (.tmp 8)) rfl ?_;refine wpList_fput (s':={s with pg:=nN q 2}) (I':=I) (T':=T) _ rfl 3 (.tmp 10) (.tmp 8) rfl rfl rfl H.rc (by omega) rfl (by kernel_rfl) rfl ?_;intro w2 P2;have H1:=H.put P2;clear H P2;have H:=H1;clear H1)
  | (go_at_call 185;refine(H.text _).mono ?_;clear H;rintro e w3 ⟨rfl,H⟩;rw[show sT (sN q 2) 16=rq1 q from rfl] at H)
  | (refine wpList_at (Op.store 9 (.tmp 15) (.tmp 13)) rfl ?_;refine wpList_fput (s':=(rc1 s q)) (I':=I) (T':=T) _ rfl 9 (.tmp 15) (.tmp 13) rfl rfl rfl H.rc (by omega) rfl (by kernel_rfl) ?_ ?_;exact rc1_set s q I T;intro w2 P2;have H1:=H.put P2;clear H P2;have H:=H1;clear H1)
  | (go_at_call 165;refine(CV.out _ _ H).mono ?_;clear H;rintro e w4 ⟨g,rfl,LV⟩;have g0:=LV.pg.cell 0;simp only[List.getElem?_toArray,List.getElem?_cons_zero,List.getElem?_cons_succ] at g0))
 refine wp_loop_rounds 2 ?_
 rw[rounds_succ]
 go_wp2_with (first
  | (go_at_call 185;refine(LV.text _).mono ?_;clear LV;rintro e w4 ⟨rfl,LV⟩)
  | (refine wpList_at (Op.store 9 (.tmp 26) (.tmp 25)) rfl ?_;refine wpList_fput (s':=(rcN s q)) (I':=I) (T':=T) _ rfl 9 (.tmp 26) (.tmp 25) rfl rfl rfl LV.r.rc (by omega) rfl (by kernel_rfl) ?_ ?_;exact rcN_set s q I T;intro w5 P5;have L1:=LV.put P5;clear LV P5;have LV:=L1;clear L1;have g0:=LV.pg.cell 0;simp only[List.getElem?_toArray,List.getElem?_cons_zero,List.getElem?_cons_succ] at g0))
 rw[rounds_succ]
 go_wp2
 go_end0
 exact⟨rfl,LV.r⟩
set_option maxHeartbeats 1000000 in
theorem readChange_4 (H:RcS w w b b0 s I T q) (ha:actOf s=4):Calls Tryz.prog 153 #[.pointer (some ⟨b,0,none⟩),.pointer (some ⟨b0,0,none⟩)] w fun e w'=>e=.returned (.tuple #[])/\RcS w w' b b0 (rcO s q) I T (sT (rq1 q) 32):=by
 have CV:Hid (∀ wr q',RcS w wr b b0 (rc1 s q) I T q'->Calls Tryz.prog 165 #[.pointer (some ⟨b0,0,none⟩)] wr fun e w'=>∃ g,e=.returned (.slice (some ⟨g,0,none⟩) 1 1)/\RvS w w' b b0 g (rc1 s q) I T q' #[.pointer (some ⟨b0,6,none⟩)]):=fun wr q' R=>by
  refine(values_4 R.rc ha).mono ?_
  rintro e w' ⟨he,hw'⟩
  refine⟨wr.heap.size,he,?_⟩
  subst hw'
  refine⟨R.below ((Below.refl _ _).alloc (Nat.le_refl _) _),⟨(MapKept.heap_alloc wr _).1⟩,by have:=R.rd.lt;omega,by have:=R.rc.lt;omega⟩
 go_enter Tryz.func153,Tryz.ntmps153
 go_wp2_with (first
  | (go_at_call 63;refine(H.num _).mono ?_;clear H;rintro e w1 ⟨rfl,H⟩)
  | (refine wpList_at (Op.store 3 (.tmp 10) (.tmp 8)) rfl ?_;refine wpList_fput (s':={s with pg:=nN q 2}) (I':=I) (T':=T) _ rfl 3 (.tmp 10) (.tmp 8) rfl rfl rfl H.rc (by omega) rfl (by kernel_rfl) rfl ?_;intro w2 P2;have H1:=H.put P2;clear H P2;have H:=H1;clear H1)
  | (go_at_call 185;refine(H.text _).mono ?_;clear H;rintro e w3 ⟨rfl,H⟩;rw[show sT (sN q 2) 16=rq1 q from rfl] at H)
  | (refine wpList_at (Op.store 9 (.tmp 15) (.tmp 13)) rfl ?_;refine wpList_fput (s':=(rc1 s q)) (I':=I) (T':=T) _ rfl 9 (.tmp 15) (.tmp 13) rfl rfl rfl H.rc (by omega) rfl (by kernel_rfl) ?_ ?_;exact rc1_set s q I T;intro w2 P2;have H1:=H.put P2;clear H P2;have H:=H1;clear H1)
  | (go_at_call 165;refine(CV.out _ _ H).mono ?_;clear H;rintro e w4 ⟨g,rfl,LV⟩;have g0:=LV.pg.cell 0;simp only[List.getElem?_toArray,List.getElem?_cons_zero,List.getElem?_cons_succ] at g0))
 refine wp_loop_rounds 2 ?_
 rw[rounds_succ]
 go_wp2_with (first
  | (go_at_call 185;refine(LV.text _).mono ?_;clear LV;rintro e w4 ⟨rfl,LV⟩)
  | (refine wpList_at (Op.store 9 (.tmp 26) (.tmp 25)) rfl ?_;refine wpList_fput (s':=(rcO s q)) (I':=I) (T':=T) _ rfl 9 (.tmp 26) (.tmp 25) rfl rfl rfl LV.r.rc (by omega) rfl (by kernel_rfl) ?_ ?_;exact rcO_set s q I T;intro w5 P5;have L1:=LV.put P5;clear LV P5;have LV:=L1;clear L1;have g0:=LV.pg.cell 0;simp only[List.getElem?_toArray,List.getElem?_cons_zero,List.getElem?_cons_succ] at g0))
 rw[rounds_succ]
 go_wp2
 go_end0
 exact⟨rfl,LV.r⟩
set_option maxHeartbeats 1000000 in
theorem readChange_o (H:RcS w w b b0 s I T q) (h3:actOf s≠3) (h4:actOf s≠4):Calls Tryz.prog 153 #[.pointer (some ⟨b,0,none⟩),.pointer (some ⟨b0,0,none⟩)] w fun e w'=>e=.returned (.tuple #[])/\RcS w w' b b0 (rcB s q) I T (sT (sT (rq1 q) 32) 32):=by
 have CV:Hid (∀ wr q',RcS w wr b b0 (rc1 s q) I T q'->Calls Tryz.prog 165 #[.pointer (some ⟨b0,0,none⟩)] wr fun e w'=>∃ g,e=.returned (.slice (some ⟨g,0,none⟩) 2 2)/\RvS w w' b b0 g (rc1 s q) I T q' #[.pointer (some ⟨b0,6,none⟩),.pointer (some ⟨b0,7,none⟩)]):=fun wr q' R=>by
  refine(values_o R.rc h3 h4).mono ?_
  rintro e w' ⟨he,hw'⟩
  refine⟨wr.heap.size,he,?_⟩
  subst hw'
  refine⟨R.below (((Below.refl _ _).drew).alloc (Nat.le_refl _) _),⟨(MapKept.heap_alloc wr.drew _).1⟩,by have:=R.rd.lt;omega,by have:=R.rc.lt;omega⟩
 go_enter Tryz.func153,Tryz.ntmps153
 go_wp2_with (first
  | (go_at_call 63;refine(H.num _).mono ?_;clear H;rintro e w1 ⟨rfl,H⟩)
  | (refine wpList_at (Op.store 3 (.tmp 10) (.tmp 8)) rfl ?_;refine wpList_fput (s':={s with pg:=nN q 2}) (I':=I) (T':=T) _ rfl 3 (.tmp 10) (.tmp 8) rfl rfl rfl H.rc (by omega) rfl (by kernel_rfl) rfl ?_;intro w2 P2;have H1:=H.put P2;clear H P2;have H:=H1;clear H1)
  | (go_at_call 185;refine(H.text _).mono ?_;clear H;rintro e w3 ⟨rfl,H⟩;rw[show sT (sN q 2) 16=rq1 q from rfl] at H)
  | (refine wpList_at (Op.store 9 (.tmp 15) (.tmp 13)) rfl ?_;refine wpList_fput (s':=(rc1 s q)) (I':=I) (T':=T) _ rfl 9 (.tmp 15) (.tmp 13) rfl rfl rfl H.rc (by omega) rfl (by kernel_rfl) ?_ ?_;exact rc1_set s q I T;intro w2 P2;have H1:=H.put P2;clear H P2;have H:=H1;clear H1)
  | (go_at_call 165;refine(CV.out _ _ H).mono ?_;clear H;rintro e w4 ⟨g,rfl,LV⟩;have g0:=LV.pg.cell 0;simp only[List.getElem?_toArray,List.getElem?_cons_zero,List.getElem?_cons_succ] at g0;have g1:=LV.pg.cell 1;simp only[List.getElem?_toArray,List.getElem?_cons_zero,List.getElem?_cons_succ] at g1))
 refine wp_loop_rounds 3 ?_
 rw[rounds_succ]
 go_wp2_with (first
  | (go_at_call 185;refine(LV.text _).mono ?_;clear LV;rintro e w4 ⟨rfl,LV⟩)
  | (refine wpList_at (Op.store 9 (.tmp 26) (.tmp 25)) rfl ?_;refine wpList_fput (s':=(rcO s q)) (I':=I) (T':=T) _ rfl 9 (.tmp 26) (.tmp 25) rfl rfl rfl LV.r.rc (by omega) rfl (by kernel_rfl) ?_ ?_;exact rcO_set s q I T;intro w5 P5;have L1:=LV.put P5;clear LV P5;have LV:=L1;clear L1;have g0:=LV.pg.cell 0;simp only[List.getElem?_toArray,List.getElem?_cons_zero,List.getElem?_cons_succ] at g0;have g1:=LV.pg.cell 1;simp only[List.getElem?_toArray,List.getElem?_cons_zero,List.getElem?_cons_succ] at g1))
 rw[rounds_succ]
 go_wp2_with (first
  | (go_at_call 185;refine(LV.text _).mono ?_;clear LV;rintro e w4 ⟨rfl,LV⟩)
  | (refine wpList_at (Op.store 9 (.tmp 26) (.tmp 25)) rfl ?_;refine wpList_fput (s':=(rcB s q)) (I':=I) (T':=T) _ rfl 9 (.tmp 26) (.tmp 25) rfl rfl rfl LV.r.rc (by omega) rfl (by kernel_rfl) ?_ ?_;exact rcB_set s q I T;intro w5 P5;have L1:=LV.put P5;clear LV P5;have LV:=L1;clear L1;have g0:=LV.pg.cell 0;simp only[List.getElem?_toArray,List.getElem?_cons_zero,List.getElem?_cons_succ] at g0;have g1:=LV.pg.cell 1;simp only[List.getElem?_toArray,List.getElem?_cons_zero,List.getElem?_cons_succ] at g1))
 rw[rounds_succ]
 go_wp2
 go_end0
 exact⟨rfl,LV.r⟩
theorem readChange_any (H:RcS w w b b0 s I T q) (act:Int) (ha:act=actOf s):Calls Tryz.prog 153 #[.pointer (some ⟨b,0,none⟩),.pointer (some ⟨b0,0,none⟩)] w fun e w'=>e=.returned (.tuple #[])/\RcS w w' b b0 (rdChg act s q).1 I T (rdChg act s q).2:=by
 unfold rdChg
 rw[ha]
 by_cases h3:actOf s=3
 ·rw[if_pos h3]
  exact readChange_3 H h3
 ·by_cases h4:actOf s=4
  ·rw[if_neg h3,if_pos h4]
   exact readChange_4 H h4
  ·rw[if_neg h3,if_neg h4]
   exact readChange_o H h3 h4
end
theorem Own.off {el:TypeId} {B b:Nat} {w w':World} {a:Option Addr} {cap:Nat} {xs:List P2} (h:Own el B w a cap xs) (o:Pk.Off b w w') (hb:b<B):Own el B w' a cap xs :=
 ⟨h.row.kept (fun k hk=>o.block k (h.row.lt k hk) (fun e=>by have:=h.fresh k hk;omega)),h.fresh⟩
theorem Pk.Off.bel {b:Nat} {w w1 w2:World} (h:Pk.Off b w w1) (hb:Below w.heap.size w1 w2):Pk.Off b w w2:=⟨hb.os.trans h.os,hb.tape.trans h.tape,hb.output.trans h.output,Nat.le_trans h.size hb.size,fun k hk hkb=>(hb.block k hk).trans (h.block k hk hkb)⟩
theorem RdS.bel {w w':World} {b B:Nat} {q:Lf} (h:RdS w b q) (hb:Below B w w') (hB:b<B):RdS w' b q:=⟨(hb.block b hB).trans h.rd,h.sz⟩
theorem cs_one (w:World) (p:P2) (t:TypeId):Cs (w.alloc (.cells #[p.1,p.2] t)) (some ⟨w.heap.size,0,none⟩) [p]:=⟨fun i hi=>by
 have h0:i=0:=by simpa using hi
 subst h0
 exact⟨w.heap.size,0,rfl,by simp,Joins.cell_of_block (MapKept.heap_alloc w _).1 0,Joins.cell_of_block (MapKept.heap_alloc w _).1 1⟩⟩
set_option maxHeartbeats 1000000 in
theorem readImages_any {w:World} {b:Nat} {q:Lf} (h:RdS w b q):Calls Tryz.prog 151 #[.pointer (some ⟨b,0,none⟩)] w fun e w'=>(∃ v,e=.returned v/\Fr w' v (encI (rdImL (sN q 1) (nN q 1).toNat)) w.heap.size)/\RdS w' b (rdImS (sN q 1) (nN q 1).toNat)/\Pk.Off b w w':=by
 obtain⟨n,hn⟩:∃ n:Nat,nN q 1=n:=⟨(nN q 1).toNat,by have:=nN_nonneg q 1;omega⟩
 have hn2:n<=255:=by have:=nN_one q;omega
 have hbl:=h.lt
 have C0:Hid (Calls Tryz.prog 63 #[.pointer (some ⟨b,0,none⟩),.int .i64 1] w fun r w'=>r=.returned (.int .i64 (n:Int))/\RdS w' b (sN q 1)/\Pk.Off b w w'):=by rw[← hn];exact h.num 1
 have HN:Hid ((nN q 1).toNat=n):=(by rw[hn];rfl:(nN q 1).toNat=n)
 rw[HN.out]
 generalize sN q 1=q1 at *
 clear hn h HN
 go_enter Tryz.func151,Tryz.ntmps151
 go_wp2_with (go_at_call 63;refine C0.out.mono ?_;clear C0;rintro e w1 ⟨rfl,h1,o1⟩)
 go_loopw [3,8] (fun pv ix wr=>∃ (j:Nat) (a:Option Addr) (c:Nat),j<=n/\ix=.int .i64 (j:Int)/\pv=.slice a j c/\Own 266 w.heap.size wr a c (encI (rdImL q1 j))/\RdS wr b (rdImS q1 j)/\Pk.Off b w wr) (fun _ ix _=>n-(intOf ix).toNat)
 case atStart=>exact⟨0,none,0,Nat.zero_le _,rfl,rfl,Own.nil _ _ _,h1,o1⟩
 case round =>
  clear h1 o1
  obtain⟨j,a,c,hj,rfl,rfl,hO,hR,ho⟩:=hrel
  by_cases hlt:j<n
  ·have hi2:(j:Int)<(n:Int):=by omega
   have hln:j=(encI (rdImL q1 j)).length:=by rw[encI_length,rdImL_length]
   have HS:Hid (encI (rdImL q1 (j+1))=encI (rdImL q1 j)++[(.int .i64 (rdImF q1 j).1,.string (rdImF q1 j).2)]):=(by rw[rdImL_succ,encI_append];rfl:encI (rdImL q1 (j+1))=encI (rdImL q1 j)++[(.int .i64 (rdImF q1 j).1,.string (rdImF q1 j).2)])
   have HQ:Hid (rdImS q1 (j+1)=sT (sN (rdImS q1 j) 2) 224):=(rfl:rdImS q1 (j+1)=sT (sN (rdImS q1 j) 2) 224)
   have HF:Hid (rdImF q1 j=(nN (rdImS q1 j) 2,tT (sN (rdImS q1 j) 2) 224)):=(rfl:rdImF q1 j=(nN (rdImS q1 j) 2,tT (sN (rdImS q1 j) 2) 224))
   have HL:Hid (j=(encI (rdImL q1 j)).length):=hln
   clear hln
   generalize encI (rdImL q1 j)=xs at *
   generalize rdImS q1 j=qj at *
   have hzz:=ho.size
   have hBz:w.heap.size<=wr.heap.size:=hzz
   go_wp2_with (first
    | (go_at_call 63;refine(hR.num _).mono ?_;clear hR;rintro e w2 ⟨rfl,hR2,o2⟩;have hO2:=hO.off o2 hbl;have ho2:=ho.trans o2;clear hO ho o2)
    | (go_at_call 185;refine(hR2.text _).mono ?_;clear hR2;rintro e w3 ⟨rfl,hR3,o3⟩;have hO3:=hO2.off o3 hbl;have ho3:=ho2.trans o3;clear hO2 ho2 o3;have BA:Below w3.heap.size w3 (w3.alloc (.cells #[.int .i64 (nN qj 2),.string (tT (sN qj 2) 224)] 266)):=(Below.refl _ _).alloc (Nat.le_refl _) _;have hO4:=hO3.below BA;have hz4:w.heap.size<=(w3.alloc (.cells #[.int .i64 (nN qj 2),.string (tT (sN qj 2) 224)] 266)).heap.size:=Nat.le_trans ho3.size BA.size)
    | (refine wpList_append_own' two_im (B:=w.heap.size) rfl (.tmp 14) (.tmp 18) rfl rfl HL.out hO4 hz4 rfl (m:=1) (news:=[(.int .i64 (nN qj 2),.string (tT (sN qj 2) 224))]) rfl (fun e=>by cases e) (cs_one w3 (.int .i64 (nN qj 2),.string (tT (sN qj 2) 224)) 266) (fun p hp=>by simp at hp;subst hp;exact⟨rfl,rfl⟩) (by omega) ?_;intro a5 c5 w5 hO5 B5))
   go_roundw
   case rel =>
    refine⟨j+1,a5,c5,by omega,by go_num,rfl,?_,?_,?_⟩
    ·rw[HS.out,HF.out];exact hO5
    ·rw[HQ.out];exact(hR3.below BA).bel B5 hbl
    ·exact(ho3.trans (Pk.Off.of_below BA)).bel B5
   case measure=>simp[intOf];omega
  ·have hjn:j=n:=by omega
   subst hjn
   have hi2:¬ (j:Int)<(j:Int):=by omega
   go_wp2
   go_ret
   refine⟨⟨_,rfl,?_⟩,hR,ho⟩
   have:=hO.fr
   rw[encI_length,rdImL_length] at this
   exact this
set_option maxHeartbeats 1000000 in
theorem readTable_any {w:World} {b:Nat} {q:Lf} (h:RdS w b q):Calls Tryz.prog 154 #[.pointer (some ⟨b,0,none⟩)] w fun e w'=>(∃ v,e=.returned v/\Fr w' v (encT (rdTbL (sN q 1) (nN q 1).toNat)) w.heap.size)/\RdS w' b (rdTbS (sN q 1) (nN q 1).toNat)/\Pk.Off b w w':=by
 obtain⟨n,hn⟩:∃ n:Nat,nN q 1=n:=⟨(nN q 1).toNat,by have:=nN_nonneg q 1;omega⟩
 have hn2:n<=255:=by have:=nN_one q;omega
 have hbl:=h.lt
 have C0:Hid (Calls Tryz.prog 63 #[.pointer (some ⟨b,0,none⟩),.int .i64 1] w fun r w'=>r=.returned (.int .i64 (n:Int))/\RdS w' b (sN q 1)/\Pk.Off b w w'):=by rw[← hn];exact h.num 1
 have HN:Hid ((nN q 1).toNat=n):=(by rw[hn];rfl:(nN q 1).toNat=n)
 rw[HN.out]
 generalize sN q 1=q1 at *
 clear hn h HN
 go_enter Tryz.func154,Tryz.ntmps154
 go_wp2_with (go_at_call 63;refine C0.out.mono ?_;clear C0;rintro e w1 ⟨rfl,h1,o1⟩)
 go_loopw [3,7] (fun pv ix wr=>∃ (j:Nat) (a:Option Addr) (c:Nat),j<=n/\ix=.int .i64 (j:Int)/\pv=.slice a j c/\Own 40 w.heap.size wr a c (encT (rdTbL q1 j))/\RdS wr b (rdTbS q1 j)/\Pk.Off b w wr) (fun _ ix _=>n-(intOf ix).toNat)
 case atStart=>exact⟨0,none,0,Nat.zero_le _,rfl,rfl,Own.nil _ _ _,h1,o1⟩
 case round =>
  clear h1 o1
  obtain⟨j,a,c,hj,rfl,rfl,hO,hR,ho⟩:=hrel
  by_cases hlt:j<n
  ·have hi2:(j:Int)<(n:Int):=by omega
   have hln:j=(encT (rdTbL q1 j)).length:=by rw[encT_length,rdTbL_length]
   have HS:Hid (encT (rdTbL q1 (j+1))=encT (rdTbL q1 j)++[(.int .i64 (rdTbF q1 j).1,.int .i64 (rdTbF q1 j).2)]):=(by rw[rdTbL_succ,encT_append];rfl:encT (rdTbL q1 (j+1))=encT (rdTbL q1 j)++[(.int .i64 (rdTbF q1 j).1,.int .i64 (rdTbF q1 j).2)])
   have HQ:Hid (rdTbS q1 (j+1)=sN (sN (rdTbS q1 j) 6) 6):=(rfl:rdTbS q1 (j+1)=sN (sN (rdTbS q1 j) 6) 6)
   have HF:Hid (rdTbF q1 j=(nN (rdTbS q1 j) 6,nN (sN (rdTbS q1 j) 6) 6)):=(rfl:rdTbF q1 j=(nN (rdTbS q1 j) 6,nN (sN (rdTbS q1 j) 6) 6))
   have HL:Hid (j=(encT (rdTbL q1 j)).length):=hln
   clear hln
   generalize encT (rdTbL q1 j)=xs at *
   generalize rdTbS q1 j=qj at *
   have hBz:=ho.size
   have hbr:=hR.lt
   have CP:Hid (∀ w2,w2=(wr.alloc (.cells #[.int .i64 0,.int .i64 0] 40)).alloc (.cells #[.pointer (some ⟨wr.heap.size,0,none⟩),.pointer (some ⟨wr.heap.size,1,none⟩)] 234)->Calls Tryz.prog 152 #[.pointer (some ⟨b,0,none⟩),.slice (some ⟨wr.heap.size+1,0,none⟩) 2 2] w2 fun e w'=>e=.returned (.tuple #[])/\RdS w' b (sN (sN qj 6) 6)/\Blk w' wr.heap.size #[.int .i64 (nN qj 6),.int .i64 (nN (sN qj 6) 6)] 40/\Pk.Off b wr w'):=fun w2 h2=>by
    have b1:Below wr.heap.size wr (wr.alloc (.cells #[.int .i64 0,.int .i64 0] 40)):=(Below.refl _ _).alloc (Nat.le_refl _) _
    have b2:Below (wr.alloc (.cells #[.int .i64 0,.int .i64 0] 40)).heap.size (wr.alloc (.cells #[.int .i64 0,.int .i64 0] 40)) w2:=by subst h2;exact(Below.refl _ _).alloc (Nat.le_refl _) _
    have hz:(wr.alloc (.cells #[.int .i64 0,.int .i64 0] 40)).heap.size=wr.heap.size+1:=by simp
    have bl:Blk w2 wr.heap.size #[.int .i64 0,.int .i64 0] 40:=(Blk.mk (MapKept.heap_alloc wr _).1).below b2
    have gp:Blk w2 (wr.heap.size+1) #[.pointer (some ⟨wr.heap.size,0,none⟩),.pointer (some ⟨wr.heap.size,1,none⟩)] 234:=by
     have:=(MapKept.heap_alloc (wr.alloc (.cells #[.int .i64 0,.int .i64 0] 40)) (.cells #[.pointer (some ⟨wr.heap.size,0,none⟩),.pointer (some ⟨wr.heap.size,1,none⟩)] 234)).1
     rw[hz] at this
     subst h2
     exact⟨this⟩
    refine(readPlaces_2 (k0:=0) (k1:=1) (C:=#[.int .i64 0,.int .i64 0]) ⟨(hR.below b1).below b2,gp,bl,Off2.refl _ _ _,by omega,by omega,by omega⟩ (by simp) (by simp)).mono ?_
    rintro e w3 ⟨he,h3,g3,o3⟩
    have bb:=thn b1 b2
    have z2:=bb.size
    refine⟨he,h3,g3,⟨o3.os.trans bb.os,o3.tape.trans bb.tape,o3.output.trans bb.output,Nat.le_trans z2 o3.size,fun k hk hkb=>(o3.block k (by omega) hkb (by omega)).trans (bb.block k hk)⟩⟩
   go_wp2_with (first
    | (go_at_call 152;refine(CP.out _ rfl).mono ?_;clear CP;rintro e w3 ⟨rfl,hR3,bl3,o3⟩;have hO3:=hO.off o3 hbl;have ho3:=ho.trans o3;clear hO;have BA:Below w3.heap.size w3 (w3.alloc (.cells #[.int .i64 (nN qj 6),.int .i64 (nN (sN qj 6) 6)] 40)):=(Below.refl _ _).alloc (Nat.le_refl _) _;have hO4:=hO3.below BA;have hz4:w.heap.size<=(w3.alloc (.cells #[.int .i64 (nN qj 6),.int .i64 (nN (sN qj 6) 6)] 40)).heap.size:=Nat.le_trans ho3.size BA.size;have m0:=bl3.cell 0;have m1:=bl3.cell 1;simp only[List.getElem?_toArray,List.getElem?_cons_zero,List.getElem?_cons_succ] at m0 m1)
    | (refine wpList_append_own' two_tb (B:=w.heap.size) rfl (.tmp 14) (.tmp 16) rfl rfl HL.out hO4 hz4 rfl (m:=1) (news:=[(.int .i64 (nN qj 6),.int .i64 (nN (sN qj 6) 6))]) rfl (fun e=>by cases e) (cs_one w3 (.int .i64 (nN qj 6),.int .i64 (nN (sN qj 6) 6)) 40) (fun p hp=>by simp at hp;subst hp;exact⟨rfl,rfl⟩) (by omega) ?_;intro a5 c5 w5 hO5 B5))
   go_roundw
   case rel =>
    refine⟨j+1,a5,c5,by omega,by go_num,rfl,?_,?_,?_⟩
    ·rw[HS.out,HF.out];exact hO5
    ·rw[HQ.out];exact(hR3.below BA).bel B5 hbl
    ·exact(ho3.trans (Pk.Off.of_below BA)).bel B5
   case measure=>simp[intOf];omega
  ·have hjn:j=n:=by omega
   subst hjn
   have hi2:¬ (j:Int)<(j:Int):=by omega
   go_wp2
   go_ret
   refine⟨⟨_,rfl,?_⟩,hR,ho⟩
   have:=hO.fr
   rw[encT_length,rdTbL_length] at this
   exact this
end Go.Proofs.YtdchjncnjgelhaaGreat
