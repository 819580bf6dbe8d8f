import Derived.Shelf.SlGeneric
import Derived.Shelf.SlIter.Nil
import Derived.Shelf.SlIterI.Nil
import Derived.Shelf.SortM.Plain
import Derived.Shelf.SortM.SortNone
import Derived.Ground.GgzProg
import Derived.Ground.SlgmProg
import Derived.Test.YtjlhohljkedbbaaGreatProg
import Derived.Test.YtjlhohljkedbbaaGreatMaq
import Derived.Test.YtjlhohljkedbbaaGreatMar
import Derived.WalkSpells
import Derived.BigRegion
set_option linter.unusedVariables false
set_option linter.unusedSimpArgs false
set_option maxRecDepth 100000
namespace Go.Proofs
open Go.Shelf
def Tryz.keysI_ren:Go.Shelf.Ren:=⟨fun |7=>47 |10=>76 |n=>n,fun |23=>87 |26=>3 |3=>3 |28=>112 |0=>0 |27=>111 |33=>131 |4=>4 |n=>n,fun |n=>n⟩
theorem Tryz.keysI:Go.Proofs.SlLaysZI.n7 Tryz.prog Tryz.keysI_ren:={
 mixed:=by kernel_rfl
 f7:=⟨Tryz.f47.name,by decide,Tryz.func47.trans (congrArg some (by kernel_rfl))⟩
 f10:=⟨Tryz.f76.name,by decide,Tryz.func76.trans (congrArg some (by kernel_rfl))⟩
 t0:=Tryz.underlying0
 a0:=Tryz.isAgg0
 z0:=Tryz.sizeOf0
 v0:=Tryz.zeroValue0
 t4:=Tryz.underlying4
 a4:=Tryz.isAgg4
 z4:=Tryz.sizeOf4
 v4:=Tryz.zeroValue4
 t23:=Tryz.underlying87
 a23:=Tryz.isAgg87
 z23:=Tryz.sizeOf87
 v23:=Tryz.zeroValue87
 t26:=Tryz.underlying3
 a26:=Tryz.isAgg3
 z26:=Tryz.sizeOf3
 v26:=Tryz.zeroValue3
 t27:=Tryz.underlying111
 a27:=Tryz.isAgg111
 z27:=Tryz.sizeOf111
 v27:=Tryz.zeroValue111
 t28:=Tryz.underlying112
 a28:=Tryz.isAgg112
 z28:=Tryz.sizeOf112
 v28:=Tryz.zeroValue112
 t33:=Tryz.underlying131
 a33:=Tryz.isAgg131
 z33:=Tryz.sizeOf131
 v33:=Tryz.zeroValue131}
def Tryz.sortedI_ren:Go.Shelf.Ren:=⟨fun |6=>46 |8=>74 |9=>75 |11=>99 |13=>101 |12=>100 |23=>127 |24=>128 |14=>119 |15=>120 |16=>121 |17=>122 |18=>123 |19=>124 |20=>114 |21=>125 |22=>126 |25=>156 |26=>157 |27=>158 |28=>159 |29=>160 |30=>146 |31=>171 |n=>n,fun |26=>3 |28=>112 |24=>45 |0=>0 |3=>3 |37=>150 |48=>189 |50=>70 |4=>4 |40=>183 |39=>182 |45=>156 |5=>5 |9=>9 |51=>219 |55=>209 |57=>236 |58=>64 |33=>131 |n=>n,fun |n=>n⟩
theorem Tryz.sortedI:Go.Proofs.SlLaysZI.n6 Tryz.prog Tryz.sortedI_ren:={
 mixed:=by kernel_rfl
 f6:=⟨Tryz.f46.name,by decide,Tryz.func46.trans (congrArg some (by kernel_rfl))⟩
 f8:=⟨Tryz.f74.name,by decide,Tryz.func74.trans (congrArg some (by kernel_rfl))⟩
 f11:=⟨Tryz.f99.name,by decide,Tryz.func99.trans (congrArg some (by kernel_rfl))⟩
 t0:=Tryz.underlying0
 a0:=Tryz.isAgg0
 z0:=Tryz.sizeOf0
 v0:=Tryz.zeroValue0
 t24:=Tryz.underlying45
 a24:=Tryz.isAgg45
 z24:=Tryz.sizeOf45
 v24:=Tryz.zeroValue45
 t26:=Tryz.underlying3
 a26:=Tryz.isAgg3
 z26:=Tryz.sizeOf3
 v26:=Tryz.zeroValue3
 t28:=Tryz.underlying112
 a28:=Tryz.isAgg112
 z28:=Tryz.sizeOf112
 v28:=Tryz.zeroValue112
 i26:=by kernel_rfl}
def Tryz.sortI_ren:Go.Shelf.Ren:=⟨fun |5=>75 |8=>101 |7=>100 |19=>127 |20=>128 |10=>119 |11=>120 |12=>121 |13=>122 |14=>123 |15=>124 |16=>114 |17=>125 |18=>126 |30=>156 |31=>157 |32=>158 |33=>159 |34=>160 |35=>146 |40=>171 |n=>n,fun |23=>45 |25=>3 |3=>3 |32=>150 |22=>45 |0=>0 |44=>189 |46=>70 |4=>4 |36=>183 |35=>182 |41=>156 |5=>5 |9=>9 |53=>219 |57=>209 |63=>236 |64=>64 |n=>n,fun |n=>n⟩
theorem Tryz.sortI:Go.Proofs.SlLaysM.n5 Tryz.prog Tryz.sortI_ren:={
 mixed:=by kernel_rfl
 f5:=⟨Tryz.f75.name,by decide,Tryz.func75.trans (congrArg some (by kernel_rfl))⟩
 f7:=⟨Tryz.f100.name,by decide,Tryz.func100.trans (congrArg some (by kernel_rfl))⟩
 f8:=Tryz.func101.trans (congrArg some (by kernel_rfl))
 f10:=⟨Tryz.f119.name,by decide,Tryz.func119.trans (congrArg some (by kernel_rfl))⟩
 f11:=⟨Tryz.f120.name,by decide,Tryz.func120.trans (congrArg some (by kernel_rfl))⟩
 f12:=⟨Tryz.f121.name,by decide,Tryz.func121.trans (congrArg some (by kernel_rfl))⟩
 f13:=⟨Tryz.f122.name,by decide,Tryz.func122.trans (congrArg some (by kernel_rfl))⟩
 f14:=⟨Tryz.f123.name,by decide,Tryz.func123.trans (congrArg some (by kernel_rfl))⟩
 f15:=⟨Tryz.f124.name,by decide,Tryz.func124.trans (congrArg some (by kernel_rfl))⟩
 f16:=⟨Tryz.f114.name,by decide,Tryz.func114.trans (congrArg some (by kernel_rfl))⟩
 f17:=⟨Tryz.f125.name,by decide,Tryz.func125.trans (congrArg some (by kernel_rfl))⟩
 f18:=⟨Tryz.f126.name,by decide,Tryz.func126.trans (congrArg some (by kernel_rfl))⟩
 f19:=Tryz.func127.trans (congrArg some (by kernel_rfl))
 f20:=Tryz.func128.trans (congrArg some (by kernel_rfl))
 f30:=⟨Tryz.f156.name,by decide,Tryz.func156.trans (congrArg some (by kernel_rfl))⟩
 f31:=Tryz.func157.trans (congrArg some (by kernel_rfl))
 f32:=Tryz.func158.trans (congrArg some (by kernel_rfl))
 f33:=⟨Tryz.f159.name,by decide,Tryz.func159.trans (congrArg some (by kernel_rfl))⟩
 f34:=⟨Tryz.f160.name,by decide,Tryz.func160.trans (congrArg some (by kernel_rfl))⟩
 f35:=⟨Tryz.f146.name,by decide,Tryz.func146.trans (congrArg some (by kernel_rfl))⟩
 f40:=⟨Tryz.f171.name,by decide,Tryz.func171.trans (congrArg some (by kernel_rfl))⟩
 t0:=Tryz.underlying0
 a0:=Tryz.isAgg0
 z0:=Tryz.sizeOf0
 v0:=Tryz.zeroValue0
 t3:=Tryz.underlying3
 a3:=Tryz.isAgg3
 z3:=Tryz.sizeOf3
 v3:=Tryz.zeroValue3
 t4:=Tryz.underlying4
 a4:=Tryz.isAgg4
 z4:=Tryz.sizeOf4
 v4:=Tryz.zeroValue4
 t5:=Tryz.underlying5
 a5:=Tryz.isAgg5
 z5:=Tryz.sizeOf5
 v5:=Tryz.zeroValue5
 t9:=Tryz.underlying9
 a9:=Tryz.isAgg9
 z9:=Tryz.sizeOf9
 v9:=Tryz.zeroValue9
 t22:=Tryz.underlying45
 a22:=Tryz.isAgg45
 z22:=Tryz.sizeOf45
 v22:=Tryz.zeroValue45
 t23:=Tryz.underlying45
 a23:=Tryz.isAgg45
 z23:=Tryz.sizeOf45
 v23:=Tryz.zeroValue45
 t25:=Tryz.underlying3
 a25:=Tryz.isAgg3
 z25:=Tryz.sizeOf3
 v25:=Tryz.zeroValue3
 t32:=Tryz.underlying150
 a32:=Tryz.isAgg150
 z32:=Tryz.sizeOf150
 v32:=Tryz.zeroValue150
 t35:=Tryz.underlying182
 a35:=Tryz.isAgg182
 z35:=Tryz.sizeOf182
 v35:=Tryz.zeroValue182
 t36:=Tryz.underlying183
 a36:=Tryz.isAgg183
 z36:=Tryz.sizeOf183
 v36:=Tryz.zeroValue183
 t41:=Tryz.underlying156
 a41:=Tryz.isAgg156
 z41:=Tryz.sizeOf156
 v41:=Tryz.zeroValue156
 t44:=Tryz.underlying189
 a44:=Tryz.isAgg189
 z44:=Tryz.sizeOf189
 v44:=Tryz.zeroValue189
 t46:=Tryz.underlying70
 a46:=Tryz.isAgg70
 z46:=Tryz.sizeOf70
 v46:=Tryz.zeroValue70
 t53:=Tryz.underlying219
 a53:=Tryz.isAgg219
 z53:=Tryz.sizeOf219
 v53:=Tryz.zeroValue219
 t57:=Tryz.underlying209
 a57:=Tryz.isAgg209
 z57:=Tryz.sizeOf209
 v57:=Tryz.zeroValue209
 t63:=Tryz.underlying236
 a63:=Tryz.isAgg236
 z63:=Tryz.sizeOf236
 v63:=Tryz.zeroValue236
 t64:=Tryz.underlying64
 a64:=Tryz.isAgg64
 z64:=Tryz.sizeOf64
 v64:=Tryz.zeroValue64}
end Go.Proofs
namespace Go.Proofs.YtjlhohljkedbbaaGreat.Lg
open Go.RowKit Gm Go.Maps Go.Sort Go.Shelf
theorem KI2:Keyed Tryz.prog 3:=int_keyed Tryz.underlying3
theorem uL2:Tryz.prog.underlying 87=some (.map 3 3):=Tryz.underlying87
theorem zLv2 (w:World):(zeroValue 3).run Tryz.prog w=.ok (.int .i64 0) w:=by kernel_rfl
def wfI (t:Int):Prop:=(Lit.int .i64 t).wf=true
theorem keyI2 {t:Int} (h:wfI t):keyOf Tryz.prog 3 (.int .i64 t)=some (.int .i64 t):=keyOf_int_mk Tryz.underlying3 h
theorem wfI_of {t:Int} (h0:0<=t) (h1:t<281474976710656):wfI t:=by
 have h2:IntKind.i64.min=-9223372036854775808:=by decide
 have h3:IntKind.i64.max=9223372036854775807:=by decide
 show(decide (IntKind.i64.min<=t)&&decide (t<=IntKind.i64.max))=true
 rw[h2,h3,Bool.and_eq_true,decide_eq_true_eq,decide_eq_true_eq]
 omega
theorem sortsI2 (m:Nat):AnyZI.SortsIn Tryz.prog Tryz.sortedI_ren Fence.wide m :=
  ⟨fun blk off cap ss W hH hblk hsz=>callsIn_wide.2 (AnyM.slices_Sort_int Tryz.sortI blk off cap ss W hH hblk hsz),
   fun p cap W=>callsIn_wide.2 (AnyM.slices_Sort_int_none Tryz.sortI p cap W)⟩
def iC2 (l:List Int):List (List Value):=l.map fun x=>[.int .i64 x]
def srt (l:List Int):List Int:=l.mergeSort fun x y=>decide (x<=y)
theorem mem_srt {l:List Int} {x:Int}:x∈srt l↔x∈l:=by unfold srt;exact List.mem_mergeSort
theorem srt_len (l:List Int):(srt l).length=l.length:=by unfold srt;exact List.length_mergeSort l
theorem flat2 {α:Type} (f:α->Value) (l:List α):(l.map fun x=>[f x]).flatten=l.map f:=by
 induction l with
 | nil=>rfl
 | cons a l ih=>simp[ih]
structure RwI (w w':World) (e:Ending) (l:List Int):Prop where
 ex:∃ v,e=.returned v/\Gm.Row w' 3 1 v (iC2 l)/\∀ g,v.ownBlock=some g->w.heap.size<=g
 bel:Below w.heap.size w w'
section
variable {w w':World}{b n:Nat}{f:Lit->Option Value}
theorem row_of2 {B:Nat} {t:TypeId} {v:Value} {α:Type} {F:α->Value} {l:List α} {m:Nat} (h:w.ownsRow B t 1 v m (l.map F)) (hm:m=l.length):Gm.Row w t 1 v (l.map fun x=>[F x])/\∀ g,v.ownBlock=some g->B<=g:=by
 subst hm
 refine⟨⟨fun c hc=>?_,?_⟩,fun g e=>?_⟩
 ·obtain⟨x,_,rfl⟩:=List.mem_map.1 hc;rfl
 ·rw[flat2,List.length_map]
  exact ownsRow_base_a h (Nat.zero_le _)
 ·rcases h.2 with⟨e2,_⟩ |⟨g',cap,cur,e2,hB,_⟩
  ·rw[e2] at e;cases e
  ·rw[e2] at e;cases e;exact hB
theorem keysI_perm2 (h:Mp w 3 b n f) {ts:List Int} (hnd:ts.Nodup) (hf:∀ l,(f l).isSome=true↔∃ t∈ts,l=.int .i64 t):∃ D,w.ownsMap Tryz.prog 3 hdR b n D/\Maps.size D=n/\ts.Perm (intKeys D):=by
 obtain⟨D,ho,hn,hv⟩:=h.ex
 refine⟨D,ho,hn,?_⟩
 obtain⟨es,rfl,hp,hk⟩:=ho.entries KI2
 refine perm_intKeys hp (fun p hp2=>?_) hnd (fun x=>?_)
 ·have:Maps.has (.map es) p.1=true:=List.any_eq_true.2 ⟨p,hp2,WideAt.sameKey_self (hk p hp2)⟩
  rw[hv.has,hf] at this
  obtain⟨t,_,e⟩:=this
  exact⟨t,e⟩
 ·rw[hv.has,hf]
  exact⟨fun h=>⟨x,h,rfl⟩,fun⟨t,h,e⟩=>by cases e;exact h⟩
theorem keys_c (mb:Option Nat) (W:World):Calls Tryz.prog 47 #[.map mb] W fun e w'=>e=.returned (.func (.func 76) #[] #[.pointer (some ⟨W.heap.size,0,none⟩)])/\w'=W.alloc (.cells #[.map mb] 87) :=
 (callsIn_wide (n:=5)).1 (AnyZI.keys_in Tryz.keysI Fence.wide 5 trivial rfl mb W)
theorem sorted_c (h:Mp w 3 b n f) {ts:List Int} (hnd:ts.Nodup) (hf:∀ l,(f l).isSome=true↔∃ t∈ts,l=.int .i64 t) (hl:n<=100000) :
  Calls Tryz.prog 46 #[.func (.func 76) #[] #[.pointer (some ⟨w.heap.size,0,none⟩)]] (w.alloc (.cells #[.map (some b)] 87)) fun e w'=>RwI w w' e (srt ts):=by
 obtain⟨D0,hown,hsz,hperm⟩:=keysI_perm2 h hnd hf
 have hbl:=hown.lt
 have hseq:SeqGives Fence.wide 2 Tryz.prog 76 #[.pointer (some ⟨w.heap.size,0,none⟩)] encZ (fun ss=>ss.Perm (intKeys D0)) (Maps.size D0) (w.alloc (.cells #[.map (some b)] 87)) :=
  AnyZI.keys_gives (ρ:=Tryz.keysI_ren) {Tryz.keysI with} Fence.wide _ trivial rfl (by omega) w.heap.size b n D0 _ (by simp) (by simp) (by
   obtain⟨es,clock,hb,Ft,hs,hD⟩:=hown
   exact⟨es,clock,(Below.heap_alloc _ _ b hbl).trans hb,Ft,hs,hD⟩)
 have cS:=AnyZI.sorted_in Tryz.sortedI Fence.wide 5 trivial trivial trivial trivial rfl (by omega) (sortsI2 _) (enters_of Tryz.func75 (by kernel_rfl) rfl) 76 #[.pointer (some ⟨w.heap.size,0,none⟩)] trivial (enters_of Tryz.func76 (by kernel_rfl) rfl) _ _ (by rw[hsz];unfold maxLen;omega) (by rw[hsz];omega) _ hseq
 change CallsIn _ _ Tryz.prog 46 _ _ _ at cS
 refine(callsIn_wide.1 cS).mono ?_
 rintro e w' ⟨v,ss,rfl,hS,hrow,hnil,hb⟩
 have e:ss.mergeSort (fun x y=>decide (x<=y))=srt ts:=mergeSort_of_perm_i (hS.trans hperm.symm)
 rw[e] at hrow
 obtain⟨r1,r2⟩:=row_of2 hrow (by rw[(hS.trans hperm.symm).length_eq];unfold srt;rw[List.length_mergeSort])
 exact⟨⟨v,rfl,r1,fun g e=>Nat.le_trans (by simp) (r2 g e)⟩,((Below.refl _ w).alloc (Nat.le_refl _) _).trans (hb.mono (by simp))⟩
end
def gF (G:List Rq.SpL):Lit->Option Value
 | .int .i64 t=>(G.find? fun s=>s.1==t).map fun s=>.int .i64 s.2
 | _=>none
def gD (G:List Rq.SpL) (t:Int):List Rq.SpL:=G.filter fun s=>s.1 !=t
def gW (G:List Rq.SpL) (t x:Int):List Rq.SpL:=gD G t++[(t,x)]
def gL (G:List Rq.SpL) (t:Int):Int:=((G.find? fun s=>s.1==t).map fun s=>s.2).getD 0
theorem gF_int (G:List Rq.SpL) (t:Int):gF G (.int .i64 t)=(G.find? fun s=>s.1==t).map fun s=>.int .i64 s.2:=rfl
theorem find_filter (G:List Rq.SpL) (t u:Int):(gD G t).find? (fun s=>s.1==u)=if u=t then none else G.find? (fun s=>s.1==u):=by
 unfold gD
 induction G with
 | nil=>simp
 | cons a G ih =>
  by_cases ha:a.1=t
  ·rw[List.filter_cons,if_neg (by simp[ha]),ih]
   by_cases hu:u=t
   ·rw[if_pos hu,if_pos hu]
   ·rw[if_neg hu,if_neg hu,List.find?_cons_of_neg]
    simp only[beq_iff_eq]
    exact fun e=>hu (e.symm.trans ha)
  ·rw[List.filter_cons,if_pos (by simp[ha])]
   by_cases hau:a.1=u
   ·rw[List.find?_cons_of_pos (by simp[hau]),if_neg (fun e=>ha (hau.trans e)),List.find?_cons_of_pos (by simp[hau])]
   ·rw[List.find?_cons_of_neg (by simp[hau]),ih,List.find?_cons_of_neg (by simp[hau])]
theorem isKeyI (t:Int):WideAt.IsKeyLit (.int .i64 t):=by first |exact trivial |exact rfl |simp[WideAt.IsKeyLit]
theorem gF_drop (G:List Rq.SpL) (t:Int) (l:Lit):gF (gD G t) l=updL (gF G) (.int .i64 t) none l:=by
 by_cases hl:l=.int .i64 t
 ·subst hl
  rw[updL_same _ (isKeyI t),gF_int,find_filter,if_pos rfl]
  rfl
 ·rw[updL_other _ _ hl]
  cases l <;> try rfl
  rename_i q u
  cases q <;> try rfl
  rw[gF_int,gF_int,find_filter,if_neg (fun e=>hl (by rw[e]))]
theorem gF_put (G:List Rq.SpL) (t x:Int) (l:Lit):gF (gW G t x) l=updL (gF G) (.int .i64 t) (some (.int .i64 x)) l:=by
 by_cases hl:l=.int .i64 t
 ·subst hl
  rw[updL_same _ (isKeyI t),gF_int]
  unfold gW
  rw[List.find?_append,find_filter,if_pos rfl]
  simp
 ·rw[updL_other _ _ hl]
  cases l <;> try rfl
  rename_i q u
  cases q <;> try rfl
  have hu:u≠t:=fun e=>hl (by rw[e])
  rw[gF_int,gF_int]
  unfold gW
  rw[List.find?_append,find_filter,if_neg hu,List.find?_cons_of_neg (by simp;exact fun e=>hu e.symm)]
  simp
theorem gF_some {G:List Rq.SpL} (l:Lit):(gF G l).isSome=true↔∃ t∈G.map (·.1),l=.int .i64 t:=by
 constructor
 ·intro h
  cases l <;> try (cases h;done)
  rename_i q a
  cases q <;> try (cases h;done)
  rw[gF_int,Option.isSome_map,List.find?_isSome] at h
  obtain⟨d,hd,e⟩:=h
  exact⟨a,List.mem_map.2 ⟨d,hd,by simpa using e⟩,rfl⟩
 ·rintro⟨t,ht,rfl⟩
  obtain⟨d,hd,rfl⟩:=List.mem_map.1 ht
  rw[gF_int,Option.isSome_map,List.find?_isSome]
  exact⟨d,hd,by simp⟩
theorem gD_nd {G:List Rq.SpL} (h:(G.map (·.1)).Nodup) (t:Int):((gD G t).map (·.1)).Nodup:=by
 unfold gD
 exact h.sublist ((List.filter_sublist).map _)
theorem gW_nd {G:List Rq.SpL} (h:(G.map (·.1)).Nodup) (t x:Int):((gW G t x).map (·.1)).Nodup:=by
 unfold gW
 rw[List.map_append,List.nodup_append]
 refine⟨gD_nd h t,by simp,fun a ha b hb=>?_⟩
 obtain⟨s,hs,rfl⟩:=List.mem_map.1 ha
 have hb:b=t:=by simpa using hb
 subst hb
 have:=(List.mem_filter.1 hs).2
 simpa using this
theorem gD_len (G:List Rq.SpL) (t:Int):(gD G t).length<=G.length:=List.length_filter_le _ _
theorem gW_len (G:List Rq.SpL) (t x:Int):(gW G t x).length<=G.length+1:=by
 have:=gD_len G t
 unfold gW
 rw[List.length_append]
 simpa using this
structure Mg (w:World) (b:Nat) (G:List Rq.SpL):Prop where
 ex:∃ n,Mp w 3 b n (gF G)
 nd:(G.map (·.1)).Nodup
 wf:∀ s∈G,wfI s.1
section
variable {w:World}{b n:Nat}{G:List Rq.SpL}
theorem Mg.mp (h:Mg w b G):Mp w 3 b G.length (gF G):=by
 obtain⟨n,hn⟩:=h.ex
 obtain⟨D,h1,h2,h3⟩:=keysI_perm2 hn h.nd gF_some
 have h4:=h3.length_eq
 rw[List.length_map] at h4
 obtain⟨D',k1,k2,k3⟩:=hn.ex
 have h5:(intKeys D).length=n:=by
  obtain⟨es,rfl,hp,hk⟩:=h1.entries KI2
  rw[← h2]
  first |exact intKeys_length _ |simp[intKeys,Maps.size]
 rw[h4,h5]
 exact hn
end
open Go.RowKit Go.Maps Go.ChangeMaps
open Gm (thn bl1 bdr)
def stepG (s:Sc) (x:Int) (G:List Rq.SpL):List Rq.SpL:=if s.kd=3∨s.kd=4∨s.kd=5∨s.kd=6 then gW G s.tx x else if s.kd=7∨s.kd=8 then gD G s.tx else G
def tbM (fs:List ByteArray) (k:Nat) (G:List Rq.SpL):Nat->List Rq.SpL
 | 0=>G
 | i+1=>if i<k then G else stepG (rcd fs i) (pla fs i) (tbM fs k G i)
theorem tbM_at (fs:List ByteArray) (k:Nat) (G:List Rq.SpL):∀ i,i<=k->tbM fs k G i=G
 | 0,_=>rfl
 | i+1,h=>if_pos (by omega)
theorem tbM_succ (fs:List ByteArray) {k i:Nat} (G:List Rq.SpL) (h:k<=i):tbM fs k G (i+1)=stepG (rcd fs i) (pla fs i) (tbM fs k G i):=if_neg (by omega)
theorem stepG_len (s:Sc) (x:Int) (G:List Rq.SpL):(stepG s x G).length<=G.length+1:=by
 unfold stepG
 split
 ·exact gW_len G _ _
 ·split
  ·have:=gD_len G s.tx;omega
  ·omega
theorem stepG_nd {s:Sc} {x:Int} {G:List Rq.SpL} (h:(G.map (·.1)).Nodup):((stepG s x G).map (·.1)).Nodup:=by
 unfold stepG
 split
 ·exact gW_nd h _ _
 ·split
  ·exact gD_nd h _
  ·exact h
theorem tbM_len (fs:List ByteArray) (k:Nat) (G:List Rq.SpL):∀ i,(tbM fs k G i).length<=G.length+i
 | 0=>Nat.le_refl _
 | i+1=>by
  have:=tbM_len fs k G i
  unfold tbM
  split
  ·omega
  ·have:=stepG_len (rcd fs i) (pla fs i) (tbM fs k G i);omega
theorem rdM_tx (t:ByteArray):0<=(rdM t).1.s.tx/\(rdM t).1.s.tx<281474976710656:=by
 unfold rdM rdK rdChg
 dsimp only
 repeat' split
 all_goals first |exact⟨nN_nonneg _ _,nN_lt _ _⟩ |exact⟨show(0:Int)<=0 by decide,show(0:Int)<281474976710656 by decide⟩
theorem zM_tx:wfI zM.s.tx:=wfI_of (show(0:Int)<=0 by decide) (show(0:Int)<281474976710656 by decide)
theorem ofM_tx (t:ByteArray):wfI (ofM t).1.s.tx:=by
 obtain⟨h1,h2⟩:=rdM_tx t
 unfold ofM
 split
 ·exact zM_tx
 ·split
  ·exact wfI_of h1 h2
  ·exact zM_tx
theorem openM_tx (s:ByteArray) (a:Int):wfI (openM s a).1.s.tx:=by
 unfold openM
 generalize frM (s.extract a.toNat s.size)=p
 split
 ·exact zM_tx
 ·split
  ·exact zM_tx
  ·split
   ·exact zM_tx
   ·exact ofM_tx p.1
theorem recF_tx (f:ByteArray):wfI (recF f).s.tx:=openM_tx f 0
structure Mv (b:Nat) (G:List Rq.SpL) (V:Nat->Prop) (w:World):Prop where
 ex:∃ bm,Gm.At w b 87 #[.map (some bm)]/\Mg w bm G/\∀ j,V j↔(j=b∨j=bm)
section
variable {V:Nat->Prop}{w w1 w2 w':World}{b bm:Nat}{G:List Rq.SpL}{s:Sc}{x:Int}{I T:Value}
theorem Mg.keep (h:Mg w bm G) (hb:w'.heap[bm]?=w.heap[bm]?):Mg w' bm G:=by
 obtain⟨n,hn⟩:=h.ex
 exact⟨⟨n,hn.keep hb⟩,h.nd,h.wf⟩
theorem Mv.lt (h:Mv b G V w) {j:Nat} (hj:V j):j<w.heap.size:=by
 obtain⟨bm,h1,h2,h3⟩:=h.ex
 rcases (h3 j).1 hj with rfl |rfl
 ·exact h1.lt
 ·exact h2.mp.lt
theorem Mv.keep (h:Mv b G V w) (hb:∀ j,V j->w'.heap[j]?=w.heap[j]?):Mv b G V w':=by
 obtain⟨bm,h1,h2,h3⟩:=h.ex
 exact⟨bm,h1.keep (hb b ((h3 b).2 (Or.inl rfl))),h2.keep (hb bm ((h3 bm).2 (Or.inr rfl))),h3⟩
theorem mv_turn {G':List Rq.SpL} {n':Nat} {f':Lit->Option Value} (h1:Gm.At w b 87 #[.map (some bm)]) (hb:Below w.heap.size w w1) (hbm:bm<w.heap.size) (hne:bm≠b) (M:Gm.Mp w2 3 bm n' f') (he:∀ l,gF G' l=f' l) (hnd:(G'.map (·.1)).Nodup) (hwf:∀ q∈G',wfI q.1) (T:w1.mapTurned w2 bm) (h3:∀ j,V j↔(j=b∨j=bm)) :
  ∃ V',Mv b G' V' w2/\Gm.Fr V V' w w2 :=
 ⟨V,⟨bm,h1.keep ((Gm.turned_off T b (Ne.symm hne)).trans (hb.block b h1.lt)),⟨⟨_,M.ext he⟩,hnd,hwf⟩,h3⟩,(Gm.Fr.of_below hb V).trans (Gm.turned_fr T ((h3 bm).2 (Or.inr rfl)))⟩
set_option maxHeartbeats 2000000 in
theorem table1 (h:Mv b G V w) (hl:G.length<=1000000) (hs:wfI s.tx) (hI:I.oneCell'=true) (hT:T.oneCell'=true):Calls Tryz.prog 45 #[.agg (s.A I T),.int .i64 x,.pointer (some ⟨b,0,none⟩)] w fun e w'=>e=.returned (.tuple #[])/\∃ V',Mv b (stepG s x G) V' w'/\Gm.Fr V V' w w':=by
 obtain⟨bm,h1,h2,h3⟩:=h.ex
 have H1:Hid (Gm.At w b 87 #[.map (some bm)]):=h1
 have H2:Hid (Mg w bm G):=h2
 have H3:Hid (∀ j,V j↔(j=b∨j=bm)):=h3
 have HW:Hid (wfI s.tx):=hs
 have HN:Hid (bm<w.heap.size/\bm≠b/\G.length<=1000000):=⟨h2.mp.lt,h2.mp.ne h1,hl⟩
 have mixed:Tryz.prog.follows .mixedOrders=true:=by kernel_rfl
 clear h1 h2 h3 hs
 obtain⟨kd,tx,pv,pg,ac,ky,ol,nw,nx,ep,nd⟩:=s
 by_cases hk:kd=3∨kd=4∨kd=5∨kd=6
 ·have HF:Hid (stepG ⟨kd,tx,pv,pg,ac,ky,ol,nw,nx,ep,nd⟩ x G=gW G tx x):=if_pos hk
  rw[HF.out]
  clear h HF hl
  rcases hk with rfl |rfl |rfl |rfl
  all_goals
   go_enter Tryz.func45,Tryz.ntmps45
   go_wp2_with first
    | (refine wpList_box_rc (s:=⟨_,tx,pv,pg,ac,ky,ol,nw,nx,ep,nd⟩) (I:=I) (T:=T) _ rfl _ rfl rfl ?_;intro w1 b1 N1;have c0:=N1.rc.c0;dsimp only at c0;have c1:w1.cell? ⟨b1,1,none⟩=some (.int .i64 tx):=N1.rc.c1;have kb:w1.cell? ⟨b,0,none⟩=some (.map (some bm)):=(H1.out.bel N1.below).c 0)
    | (refine Gm.wpList_store_mp _ rfl _ _ _ rfl KI2 uL2 (by have:=HN.out.2.2;omega) rfl (H2.out.mp.keep (N1.below.block bm HN.out.1)) rfl rfl (keyI2 HW.out) ?_;intro w2 M2 T2)
   go_end0
   exact⟨rfl,mv_turn H1.out N1.below HN.out.1 HN.out.2.1 M2 (gF_put G tx x) (gW_nd H2.out.nd tx x) (fun q hq=>by
    rcases List.mem_append.1 hq with h9 |h9
    ·exact H2.out.wf q ((List.mem_filter.1 h9).1)
    ·have:q=(tx,x):=by simpa using h9
     rw[this];exact HW.out) T2 H3.out⟩
 ·by_cases hk7:kd=7∨kd=8
  ·have HF:Hid (stepG ⟨kd,tx,pv,pg,ac,ky,ol,nw,nx,ep,nd⟩ x G=gD G tx):=by show _=_;unfold stepG;rw[if_neg hk,if_pos hk7]
   rw[HF.out]
   clear h HF hk hl
   rcases hk7 with rfl |rfl
   all_goals
    go_enter Tryz.func45,Tryz.ntmps45
    go_wp2_with first
     | (refine wpList_box_rc (s:=⟨_,tx,pv,pg,ac,ky,ol,nw,nx,ep,nd⟩) (I:=I) (T:=T) _ rfl _ rfl rfl ?_;intro w1 b1 N1;have c0:=N1.rc.c0;dsimp only at c0;have c1:w1.cell? ⟨b1,1,none⟩=some (.int .i64 tx):=N1.rc.c1;have kb:w1.cell? ⟨b,0,none⟩=some (.map (some bm)):=(H1.out.bel N1.below).c 0)
     | (refine Gm.wpList_drop_mp _ rfl _ _ rfl KI2 uL2 rfl (H2.out.mp.keep (N1.below.block bm HN.out.1)) rfl (keyI2 HW.out) ?_;intro w2 M2 T2)
    go_end0
    exact⟨rfl,mv_turn H1.out N1.below HN.out.1 HN.out.2.1 M2 (gF_drop G tx) (gD_nd H2.out.nd tx) (fun q hq=>H2.out.wf q ((List.mem_filter.1 hq).1)) T2 H3.out⟩
  ·have HF:Hid (stepG ⟨kd,tx,pv,pg,ac,ky,ol,nw,nx,ep,nd⟩ x G=G):=by show _=_;unfold stepG;rw[if_neg hk,if_neg hk7]
   rw[HF.out]
   have H:Hid (Mv b G V w):=h
   have e3:(kd==3)=false:=by simp;omega
   have e4:(kd==4)=false:=by simp;omega
   have e5:(kd==5)=false:=by simp;omega
   have e6:(kd==6)=false:=by simp;omega
   have e7:(kd==7)=false:=by simp;omega
   have e8:(kd==8)=false:=by simp;omega
   clear h HF hl
   go_enter Tryz.func45,Tryz.ntmps45
   go_wp2_with (refine wpList_box_rc (s:=⟨kd,tx,pv,pg,ac,ky,ol,nw,nx,ep,nd⟩) (I:=I) (T:=T) _ rfl _ rfl rfl ?_;intro w1 b1 N1;have c0:w1.cell? ⟨b1,0,none⟩=some (.int .i64 kd):=N1.rc.c0)
   go_end0
   exact⟨rfl,V,H.out.keep (fun j hj=>N1.below.block j (H.out.lt hj)),Gm.Fr.of_below N1.below V⟩
end
theorem tlT {fs:List ByteArray} {b k:Nat} {G:List Rq.SpL} (hf:Fit 200 fs) (hG:G.length<=900000):Tl fs 45 #[.pointer (some ⟨b,0,none⟩)] (fun i V w=>Mv b (tbM fs k G i) V w/\k<=i/\i<=fs.length) :=
 Tel.tl1 ⟨enters_of Tryz.func45 (by kernel_rfl) rfl,fun i V w h j hj=>h.1.lt hj,fun i V w w' h hb hs=>⟨h.1.keep hb,h.2⟩,fun i hi V w I0 T0 h hI hT=>by
  have h0:wfI (recF fs[i]).s.tx:=recF_tx _
  refine(table1 (s:=(recF fs[i]).s) (x:=pla fs i) h.1 (by have:=tbM_len fs k G i;have:=fs_len hf;omega) h0 hI hT).mono ?_
  rintro e w' ⟨he,V',g1,g2⟩
  rw[rcd_at hi,← tbM_succ fs G h.2.1] at g1
  exact⟨he,V',⟨g1,by omega,hi⟩,g2⟩⟩
set_option maxRecDepth 80000
def tabL (G:List Rq.SpL):List Rq.SpL:=(srt (G.map (·.1))).map fun t=>(t,gL G t)
theorem tabL_len (G:List Rq.SpL):(tabL G).length=G.length:=by unfold tabL;rw[List.length_map,srt_len,List.length_map]
section
variable {W V:Nat->Prop}{w w1 w2 w5 wr w':World}{l b bm n:Nat}{fs:List ByteArray}{G:List Rq.SpL}{t:Int}{ts:List Int}{v0 v:Value}{i:Nat}
theorem lookM (h:Mg w bm G) (hw:wfI t):(Instr.lookup 87 (.map (some bm)) (.int .i64 t) false).run Tryz.prog w=.ok (.int .i64 (gL G t)) w:=by
 have:=h.mp.look1 KI2 uL2 (zLv2 _) (keyI2 hw)
 rw[this,gF_int]
 unfold gL
 cases G.find? fun s=>s.1==t <;> rfl
theorem gF_nil (l:Lit):gF [] l=none:=by
 cases l <;> try rfl
 rename_i q u
 cases q <;> rfl
structure Tq (w5 wr:World) (v0 v:Value) (G:List Rq.SpL) (ts:List Int) (i:Nat):Prop where
 bel:Below w5.heap.size w5 wr
 r0:Gm.Row wr 3 1 v0 (iC2 ts)
 rw:Gm.Row wr 40 2 v (((ts.take i).map fun t=>(t,gL G t)).map Rq.encS)
 own:∀ g,v.ownBlock=some g->w5.heap.size<=g
theorem int_ac_ne {L M:List (List Value)} (r1:Gm.Row wr 3 1 v0 L) (r2:Gm.Row wr 40 2 v M) {g:Nat} (e:v0.ownBlock=some g):v.ownBlock≠some g:=fun e2=>by
 obtain⟨k1,h1⟩:=r1.blkAt e
 obtain⟨k2,h2⟩:=r2.blkAt e2
 rw[h1] at h2
 simp at h2
structure TaO (W:Nat->Prop) (w:World) (l:Nat) (fs:List ByteArray) (G:List Rq.SpL) (e:Ending) (w':World):Prop where
 ex:∃ a c W',e=.returned (.tuple #[.slice a G.length c,.int .i64 0])/\Lo W' w' l fs/\Gm.Fr W W' w w'/\Gm.Row w' 40 2 (.slice a G.length c) ((tabL G).map Rq.encS)/\∀ g,(Value.slice a G.length c).ownBlock=some g->¬ W' g/\w.heap.size<=g
structure Dm (W:Nat->Prop) (w:World) (l:Nat) (fs:List ByteArray) (b bm:Nat) (G:List Rq.SpL) (w5:World):Prop where
 ex:∃ W',Lo W' w5 l fs/\Gm.Fr W W' w w5
 mg:Mg w5 bm G
 n:G.length<=80000
theorem Dm.out (h:Dm W w l fs b bm G w5) (hT:Tq w5 wr v0 v G (srt (G.map (·.1))) (srt (G.map (·.1))).length) {a:Option Addr} {c:Nat} (hv:v=.slice a G.length c):TaO W w l fs G (.returned (.tuple #[.slice a G.length c,.int .i64 0])) wr:=by
 obtain⟨W',h1,h2⟩:=h.ex
 have hr:=hT.rw
 rw[List.take_length] at hr
 subst hv
 exact⟨a,c,W',rfl,h1.below hT.bel,h2.below hT.bel,hr,fun g e=>⟨fun e2=>(by have:=h1.lt e2;have:=hT.own g e;omega),Nat.le_trans h2.size (hT.own g e)⟩⟩
set_option maxHeartbeats 4000000 in
theorem Table_zero (h:Lo W w l fs) {c:Int} (hc:¬ c > 0):Calls Tryz.prog 18 #[.pointer (some ⟨l,0,none⟩),.int .i64 c] w fun e w'=>TaO W w l fs (tbM fs 0 [] fs.length) e w':=by
 have hz:∀ w,(zeroValue 87).run Tryz.prog w=.ok (.map none) w:=fun w=>by kernel_rfl
 have i1:(Tryz.prog.info? 87).map (·.size)=some 1:=by kernel_rfl
 have hlen:(tbM fs 0 [] fs.length).length<=80000:=by have:=tbM_len fs 0 [] fs.length;have:=fs_len h.fit;simp at *;omega
 have CE:Hid (∀ wx b bm,Below w.heap.size w wx->Gm.At wx b 87 #[.map (some bm)]->Gm.Mp wx 3 bm 0 (fun _=>none)->w.heap.size<=b->w.heap.size<=bm->Calls Tryz.prog 44 #[.pointer (some ⟨l,0,none⟩),.int .i64 1,.func (.func 45) #[] #[.pointer (some ⟨b,0,none⟩)]] wx fun e w'=>e=.returned (.tuple #[])/\∃ bm,w'.cell? ⟨b,0,none⟩=some (.map (some bm))/\Dm W w l fs b bm (tbM fs 0 [] fs.length) w'):=fun wx b bm hB hA hM hb hbm=>by
  have:=each_any (i:=0) (tlT (b:=b) (k:=0) (G:=[]) h.fit (by simp)) (h.below hB) (V:=fun j=>j=b∨j=bm) ⟨⟨bm,hA,⟨⟨0,hM.ext (fun l=>gF_nil l)⟩,List.nodup_nil,fun q hq=>by cases hq⟩,fun j=>Iff.rfl⟩,Nat.le_refl 0,Nat.zero_le _⟩ (fun j hj e=>by have:=h.lt hj;omega) (Nat.zero_le _)
  rw[pla0] at this
  refine this.mono ?_
  rintro e w' ⟨he,ho⟩
  obtain⟨W',V',g1,⟨⟨bm',k1,k2,k3⟩,_⟩,g3,g4,g5⟩:=ho.done hB (fun j hj=>by omega)
  exact⟨he,bm',k1.c 0,⟨W',g1,g5⟩,k2,hlen⟩
 clear h hlen
 generalize tbM fs 0 [] fs.length=G at *
 obtain⟨w1,bm,hmk,hE1,hM1,hB1⟩:∃ (w1:World) (bm:Nat),(Instr.makeMap 87 none).run Tryz.prog w=.ok (.map (some bm)) w1/\Hid (bm=w.heap.size)/\Hid (Gm.Mp w1 3 bm 0 (fun _=>none))/\Hid (Below w.heap.size w w1):=⟨_,_,rfl,rfl,Gm.Mp.made w 3,bl1 _⟩
 go_enter Tryz.func18,Tryz.ntmps18
 go_wp2_with first
  | (refine Gm.wpList_new1 _ hz rfl rfl rfl ?_;intro w2 b N2)
  | (refine Gm.wpList_put1 (u:=.map none) (v:=.map (some bm)) _ rfl _ _ rfl rfl rfl N2.is rfl i1 ?_;intro w3 P3)
  | (go_at_call 44;refine(CE.out _ b bm (thn hB1.out (Rq.Put.belN N2 P3)) P3.is (hM1.out.bel (Rq.Put.belN N2 P3)) (by rw[N2.eq];exact hB1.out.size) (by rw[hE1.out];exact Nat.le_refl _)).mono ?_;rintro e w5 ⟨rfl,bm',kb,D⟩;have HD:Hid (Dm W w l fs b bm' G w5):=D;clear D)
  | (go_at_call 47;refine(keys_c _ _).mono ?_;rintro e w6 ⟨rfl,rfl⟩)
  | (go_at_call 46;refine(sorted_c HD.out.mg.mp HD.out.mg.nd gF_some (Nat.le_trans HD.out.n (by decide))).mono ?_;rintro e w7 ⟨⟨v0,rfl,r0,o0⟩,q2⟩;obtain⟨a0,c0,ev,hc0⟩:=r0.sl;subst ev)
 have hlen:(iC2 (srt (G.map (·.1)))).length=G.length:=by simp[iC2,srt_len]
 rw[hlen]
 have HR0:Hid (Gm.Row w7 3 1 (.slice a0 G.length c0) (iC2 (srt (G.map (·.1))))):=(by rw[hlen] at r0;exact r0)
 have HT:Hid (∀ t∈srt (G.map (·.1)),wfI t):=fun t ht=>by
  obtain⟨s,hs,rfl⟩:=List.mem_map.1 (mem_srt.1 ht)
  exact HD.out.mg.wf s hs
 have HO:Hid (∀ wr v a c,Tq w5 wr (.slice a0 G.length c0) v G (srt (G.map (·.1))) (srt (G.map (·.1))).length->v=.slice a G.length c->TaO W w l fs G (.returned (.tuple #[.slice a G.length c,.int .i64 0])) wr):=fun wr v a c q1 q2=>HD.out.out q1 q2
 have HN:Hid ((srt (G.map (·.1))).length=G.length/\G.length<=80000):=⟨by rw[srt_len,List.length_map],HD.out.n⟩
 have HMg:Hid (Mg w5 bm' G):=HD.out.mg
 clear r0 o0 hc0 hlen CE HD
 generalize srt (G.map (·.1))=ts at *
 obtain⟨m,hm⟩:∃ m,G.length=m:=⟨_,rfl⟩
 rw[hm] at HR0 HO HN ⊢
 clear hm
 have hm8:m<=80000:=HN.out.2
 go_loopw [13,55] (fun s13 s55 wr=>∃ (i:Nat) (a:Option Addr) (c:Nat),s55=.int .i64 (i:Int)/\s13=.slice a i c/\i<=m/\Tq w5 wr (.slice a0 m c0) (.slice a i c) G ts i) (fun s13 s55 _=>m-(intOf s55).toNat)
 case atStart=>exact⟨0,none,0,rfl,rfl,Nat.zero_le _,q2,HR0.out,Gm.Row.nil _ _ _,fun g e=>by cases e⟩
 case round =>
  clear HR0 q2
  obtain⟨i,a,c,rfl,rfl,hi,hM⟩:=hrel
  rename World=>wo
  have HM:Hid (Tq w5 wo (.slice a0 m c0) (.slice a i c) G ts i):=hM
  clear hM
  by_cases hlt:i<m
  ·have hltI:(i:Int)<(m:Int):=by omega
   have hit:i<ts.length:=by have:=HN.out.1;omega
   obtain⟨g0,ea,hg0,hat⟩:=HM.out.r0.at_ (i:=i) (by simp only[iC2,List.length_map];exact hit)
   have k0:wo.cell? ⟨g0,i,none⟩=some (.int .i64 ts[i]):=(by
    have:=(hat wo rfl).1 0 (.int .i64 ts[i]) (by simp[iC2])
    simpa using this)
   clear hat
   subst ea
   have kb2:wo.cell? ⟨b,0,none⟩=some (.map (some bm')):=(World.cell?_of_block (HM.out.bel.block b (by
    rcases Nat.lt_or_ge b w5.heap.size with h1 |h1
    ·exact h1
    ·simp[World.cell?,Array.getElem?_eq_none h1] at kb))).trans kb
   have hlk:=lookM (HMg.out.keep (HM.out.bel.block bm' HMg.out.mp.lt)) (HT.out _ (List.getElem_mem hit))
   have HE:Hid ((((ts.take (i+1)).map fun t=>(t,gL G t)).map Rq.encS)=(((ts.take i).map fun t=>(t,gL G t)).map Rq.encS)++[Rq.encS (ts[i],gL G ts[i])]):=(by
    show _=_
    rw[List.take_succ_eq_append_getElem hit,List.map_append,List.map_append]
    rfl)
   have HL2:Hid ((((ts.take i).map fun t=>(t,gL G t)).map Rq.encS).length=i):=(by show _=_;rw[List.length_map,List.length_map,List.length_take];exact Nat.min_eq_left (Nat.le_of_lt hit))
   generalize ts[i]=t at *
   generalize gL G t=la at *
   go_wp2_with first
    | (refine Gm.wpList_push elAc (A:=#[.int .i64 t,.int .i64 la]) rfl _ _ rfl rfl (HM.out.rw.bel (bl1 _)) rfl (Gm.At.new _ _ _) rfl (Rq.oneI _ _) (by rw[HL2.out];omega) ?_;intro a2 c2 w8 A8;rw[HL2.out] at A8 ⊢)
   have B8:Below w5.heap.size w5 w8:=(HM.out.bel.trans ((bl1 (w:=wo) (.cells #[.int .i64 t,.int .i64 la] 40)).mono HM.out.bel.size)).trans (A8.bel (fun g e=>HM.out.own g e) (by simp;exact Nat.le_succ_of_le HM.out.bel.size))
   have R8:Gm.Row w8 3 1 (.slice (some ⟨g0,0,none⟩) m c0) (iC2 ts):=(HM.out.r0.bel (bl1 (.cells #[.int .i64 t,.int .i64 la] 40))).keep fun g e=>A8.grow.block g (by have:=HM.out.r0.lt e;simp;omega) (fun e2=>int_ac_ne HM.out.r0 HM.out.rw e e2.symm)
   go_roundw
   case rel=>exact⟨i+1,a2,c2,by first |rfl |go_num,rfl,by omega,B8,R8,by rw[HE.out];exact A8.row,fun g e=>A8.own.elim (fun h=>HM.out.own g (h.symm.trans e)) (fun h=>by rw[h] at e;cases e;simp;exact Nat.le_succ_of_le HM.out.bel.size)⟩
   case measure=>simp[intOf];omega
  ·obtain rfl:i=m:=by omega
   have hltI:¬ (i:Int)<(i:Int):=by omega
   go_wp2
   go_ret2
   exact HO.out _ _ _ _ (by rw[HN.out.1];exact HM.out) rfl
end
end Go.Proofs.YtjlhohljkedbbaaGreat.Lg
