import Derived.Test.YtdchjncnjgelhaaGreatMag
import Derived.Shelf.Strings.Builder1
import Derived.Shelf.Small.Bits
import Derived.Shelf.Small.Strs
import Derived.Shelf.Strings.BuilderF
import Derived.Shelf.Strings.BuilderK
import Derived.Shelf.Strconv.Itoa0
import Derived.Shelf.Sort.Plain
import Derived.Ground.Names2Prog
import Derived.Shelf.Slices.Clone
import Derived.Shelf.Slices.SearchI
import Derived.Shelf.Slices.In.SortNone
import Derived.Shelf.Slices.Empties
import Derived.Test.YtdchjncnjgelhaaGreatProg
import Derived.Sort.OwnSortedInts
import Derived.Sort.KeysCollected
import Derived.Deep.RegionHeldLaw
import Derived.Deep.WholeRow
import Derived.WalkSmall
import Derived.Lib.FrozenHead
set_option linter.unusedVariables false
set_option linter.unusedSimpArgs false
set_option maxRecDepth 100000
namespace Go.Proofs.YtdchjncnjgelhaaGreat
open Go.RowKit Go.Maps Go.ChangeMaps
variable {w w':World}
theorem madeSec (n:Nat) (i j:Nat) (hi:i<n) (hj:j<64):(madeCells (secL zs64).toArray (n*64))[i*64+j]?=(secL zs64)[j]?:=by
 have hz:(secL zs64).length=64:=by rw[secL_length,zs64_size]
 have hl:i*64+j<n*64:=by omega
 have hm:(i*64+j) % 64=j:=by omega
 simp[madeCells,hl,hz,hm]
 rw[List.getElem?_eq_getElem (by omega)]
 simp[getElem!_def,List.getElem?_eq_getElem (show j<(secL zs64).length by omega)]
theorem run_make64 (n:Nat) (hn:n<=8192) (w:World):(Instr.makeSlice 75 (.int .i64 (n:Int)) (.int .i64 (n:Int))).run Tryz.prog w=.ok (.slice (some ⟨w.heap.size,0,none⟩) n n) (w.alloc (.cells (madeCells (secL zs64).toArray (n*64)) 177)):=by
 obtain⟨i,hi,hz⟩:=Option.map_eq_some_iff.1 (show(Tryz.prog.info? 177).map (fun i=>(i.zero,i.size,i.bytes))=some (some (secV zs64),64,64) by kernel_rfl)
 simp only[Prod.mk.injEq] at hz
 obtain⟨h1,h2,h3⟩:=hz
 have:=run_make (P:=Tryz.prog) w 75 177 i (secV zs64) Tryz.underlying75 hi h1 .i64 .i64 n n (by omega) (Int.le_refl _) (by rw[h3];omega) (by omega)
 rw[h2] at this
 simpa[secV,Value.cells] using this
def newDk (n:Nat):Dk:=⟨n,fun _=>zs64,fun _=>none,true,false,0,0,0,0⟩
theorem newDk_ok {n:Nat} (h1:1<=n) (h2:n<=8192):(newDk n).Ok:=⟨h1,h2,fun i c h=>(by cases h),by simp[newDk],by simp[newDk],by simp[newDk],by simp[newDk],by simp[newDk],by simp[newDk],by simp[newDk],by simp[newDk]⟩
theorem New_any (n:Nat) (h1:1<=n) (h2:n<=8192) (w:World):Calls Tryz.prog 7 #[.int .i64 (n:Int)] w fun e w'=>e=.returned (.tuple #[.pointer (some ⟨w.heap.size+2,0,none⟩),.int .i64 0])/\DkIs w' (w.heap.size+2) w.heap.size (w.heap.size+1) 0 (newDk n)/\Below w.heap.size w w':=by
 have hmm:=@run_makeMap Tryz.prog
 have hmk:=run_make64 n h2
 obtain⟨M,hM⟩:∃ M,M=madeCells (secL zs64).toArray (n*64):=⟨_,rfl⟩
 rw[← hM] at hmk
 have HM:Hid _:=hM
 clear hM
 have i1:¬ (n:Int)<1:=by omega
 have i2:¬ (8192:Int)<(n:Int):=by omega
 go_enter Tryz.func7,Tryz.ntmps7
 go_wp2
 go_ret2
 have bel:Below w.heap.size w (((w.alloc (.cells M 177)).alloc (.map #[] 0)).alloc (.cells ((newDk n).cells w.heap.size (w.heap.size+1)) 81)) :=
  (((Below.refl _ _).alloc (Nat.le_refl _) _).alloc (by simp) _).alloc (by simp;omega) _
 refine⟨rfl,(?_:DkIs (((w.alloc (.cells M 177)).alloc (.map #[] 0)).alloc (.cells ((newDk n).cells w.heap.size (w.heap.size+1)) 81)) _ _ _ _ _),bel⟩
 have z1:(w.alloc (.cells M 177)).heap.size=w.heap.size+1:=by simp
 have z2:((w.alloc (.cells M 177)).alloc (.map #[] 0)).heap.size=w.heap.size+2:=by simp
 have b1:(((w.alloc (.cells M 177)).alloc (.map #[] 0)).alloc (.cells ((newDk n).cells w.heap.size (w.heap.size+1)) 81)).heap[w.heap.size]?=some (.cells M 177):=by
  rw[Below.heap_alloc _ _ _ (by omega),Below.heap_alloc _ _ _ (by omega)];exact(MapKept.heap_alloc w _).1
 refine⟨?_,?_,?_,?_⟩
 ·rw[← z2];exact(MapKept.heap_alloc _ _).1
 ·refine⟨by simp;omega,fun i hi j v hv=>?_,fun i hi j hj=>⟨?_,by simp[World.frozen?,b1]⟩,fun i hi=>zs64_size,_,_,b1⟩
  ·have hj:j<64:=by have:=(List.getElem?_eq_some_iff.1 hv).1;rw[secL_length] at this;exact this
   rw[Joins.cell_of_block b1,HM.out,madeSec n i j hi hj];exact hv
  ·rw[Joins.cell_of_block b1,HM.out,madeSec n i j hi hj,List.getElem?_eq_getElem (by rw[secL_length,zs64_size];exact hj)];rfl
 ·have:=MapIs.made (w.alloc (.cells M 177))
  rw[z1] at this
  exact this.of_block (Below.heap_alloc _ _ _ (by omega))
 ·omega
end Go.Proofs.YtdchjncnjgelhaaGreat
namespace Go.Proofs
open Go.Shelf
open Go.RowKit in
def Tryz.lays189_ren:Go.Shelf.Ren:=⟨fun |189=>81 |125=>114 |257=>113 |128=>146 |129=>147 |294=>138 |295=>139 |296=>140 |297=>141 |298=>142 |299=>143 |216=>133 |300=>144 |301=>145 |328=>178 |329=>179 |330=>180 |331=>181 |332=>182 |215=>168 |343=>195 |n=>n,fun |28=>45 |3=>3 |46=>182 |0=>0 |51=>229 |53=>77 |4=>4 |183=>223 |182=>222 |131=>171 |5=>5 |9=>9 |218=>260 |222=>234 |228=>277 |229=>124 |n=>n,fun |n=>n⟩
theorem Tryz.lays189:Go.Proofs.Lays.n189 Tryz.prog Tryz.lays189_ren:={
 mixed:=by kernel_rfl
 f125:=Tryz.func114.trans (congrArg some (by kernel_rfl))
 f128:=Tryz.func146.trans (congrArg some (by kernel_rfl))
 f129:=Tryz.func147.trans (congrArg some (by kernel_rfl))
 f189:=Tryz.func81.trans (congrArg some (by kernel_rfl))
 f215:=Tryz.func168.trans (congrArg some (by kernel_rfl))
 f216:=Tryz.func133.trans (congrArg some (by kernel_rfl))
 f257:=Tryz.func113.trans (congrArg some (by kernel_rfl))
 f294:=Tryz.func138.trans (congrArg some (by kernel_rfl))
 f295:=Tryz.func139.trans (congrArg some (by kernel_rfl))
 f296:=Tryz.func140.trans (congrArg some (by kernel_rfl))
 f297:=Tryz.func141.trans (congrArg some (by kernel_rfl))
 f298:=Tryz.func142.trans (congrArg some (by kernel_rfl))
 f299:=Tryz.func143.trans (congrArg some (by kernel_rfl))
 f300:=Tryz.func144.trans (congrArg some (by kernel_rfl))
 f301:=Tryz.func145.trans (congrArg some (by kernel_rfl))
 f328:=Tryz.func178.trans (congrArg some (by kernel_rfl))
 f329:=Tryz.func179.trans (congrArg some (by kernel_rfl))
 f330:=Tryz.func180.trans (congrArg some (by kernel_rfl))
 f331:=Tryz.func181.trans (congrArg some (by kernel_rfl))
 f332:=Tryz.func182.trans (congrArg some (by kernel_rfl))
 f343:=Tryz.func195.trans (congrArg some (by kernel_rfl))
 t0:=Tryz.underlying0
 a0:=Tryz.isAgg0
 z0:=Tryz.sizeOf0
 v0:=Tryz.zeroValue0
 t3:=Tryz.underlying3
 a3:=Tryz.isAgg3
 z3:=Tryz.sizeOf3
 v3:=Tryz.zeroValue3
 t4:=Tryz.underlying4
 a4:=Tryz.isAgg4
 z4:=Tryz.sizeOf4
 v4:=Tryz.zeroValue4
 t5:=Tryz.underlying5
 a5:=Tryz.isAgg5
 z5:=Tryz.sizeOf5
 v5:=Tryz.zeroValue5
 t9:=Tryz.underlying9
 a9:=Tryz.isAgg9
 z9:=Tryz.sizeOf9
 v9:=Tryz.zeroValue9
 t28:=Tryz.underlying45
 a28:=Tryz.isAgg45
 z28:=Tryz.sizeOf45
 v28:=Tryz.zeroValue45
 t46:=Tryz.underlying182
 a46:=Tryz.isAgg182
 z46:=Tryz.sizeOf182
 v46:=Tryz.zeroValue182
 t51:=Tryz.underlying229
 a51:=Tryz.isAgg229
 z51:=Tryz.sizeOf229
 v51:=Tryz.zeroValue229
 t53:=Tryz.underlying77
 a53:=Tryz.isAgg77
 z53:=Tryz.sizeOf77
 v53:=Tryz.zeroValue77
 t131:=Tryz.underlying171
 a131:=Tryz.isAgg171
 z131:=Tryz.sizeOf171
 v131:=Tryz.zeroValue171
 t182:=Tryz.underlying222
 a182:=Tryz.isAgg222
 z182:=Tryz.sizeOf222
 v182:=Tryz.zeroValue222
 t183:=Tryz.underlying223
 a183:=Tryz.isAgg223
 z183:=Tryz.sizeOf223
 v183:=Tryz.zeroValue223
 t218:=Tryz.underlying260
 a218:=Tryz.isAgg260
 z218:=Tryz.sizeOf260
 v218:=Tryz.zeroValue260
 t222:=Tryz.underlying234
 a222:=Tryz.isAgg234
 z222:=Tryz.sizeOf234
 v222:=Tryz.zeroValue234
 t228:=Tryz.underlying277
 a228:=Tryz.isAgg277
 z228:=Tryz.sizeOf277
 v228:=Tryz.zeroValue277
 t229:=Tryz.underlying124
 a229:=Tryz.isAgg124
 z229:=Tryz.sizeOf124
 v229:=Tryz.zeroValue124}
open Go.Sort Go.RowKit in
theorem Tryz.slices_Sort_int (blk off cap:Nat) (zs:List Int) (w:World) (hH:Holds (Value.int .i64) w blk off zs.toArray) (hblk:blk<w.heap.size) (hsz:zs.length<4611686018427387904) :
  Calls Tryz.prog 81 #[.slice (some ⟨blk,off,none⟩) zs.length cap] w fun e w' =>
   e=.returned (.tuple #[])/\∃ n os,w'=grow (putRow (Value.int .i64) (Sort.ahead w n) blk off (zs.mergeSort fun x y=>decide (x<=y)).toArray) os:=Any.slices_Sort_int Tryz.lays189 blk off cap zs w hH hblk hsz
open Go.Sort Go.RowKit in
def Tryz.laysNm215_ren:Go.Shelf.Ren:=⟨fun |15=>44 |n=>n,fun |22=>45 |3=>3 |4=>4 |n=>n,fun |n=>n⟩
theorem Tryz.laysNm215:Go.Proofs.Lays2.n15 Tryz.prog Tryz.laysNm215_ren:={
 mixed:=by kernel_rfl
 f15:=Tryz.func44.trans (congrArg some (by kernel_rfl))
 t3:=Tryz.underlying3
 a3:=Tryz.isAgg3
 z3:=Tryz.sizeOf3
 v3:=Tryz.zeroValue3
 t4:=Tryz.underlying4
 a4:=Tryz.isAgg4
 z4:=Tryz.sizeOf4
 v4:=Tryz.zeroValue4
 t22:=Tryz.underlying45
 a22:=Tryz.isAgg45
 z22:=Tryz.sizeOf45
 v22:=Tryz.zeroValue45
 i3:=by kernel_rfl}
open Go.RowKit Go.Lib in
theorem Tryz.slices_Clone_int (b off n c:Nat) (zs:List Int) (w:World) (hz:n<=zs.length) (hbig:n*8<=140737488355328) (hc:∀ j,j<zs.length->w.cell? ⟨b,off+j,none⟩=some (.int .i64 (zs.getD j 0))) :
  Calls Tryz.prog 44 #[.slice (some ⟨b,off,none⟩) n c] w fun e w'=>∃ v',e=.returned v'/\w'.ownsRow w.heap.size 3 1 v' n ((zs.take n).map (Value.int .i64))/\v'≠.slice none 0 0/\Below w.heap.size w w':=Any.slices_Clone_int Tryz.laysNm215 b off n c zs w hz hbig hc
open Go.RowKit Go.Lib in
theorem Tryz.slices_Clone_int_nil (n c:Nat) (w:World) :
  Calls Tryz.prog 44 #[.slice none n c] w fun e w'=>e=.returned (.slice none 0 0)/\w'=w:=Any.slices_Clone_int_nil Tryz.laysNm215 n c w
open Go.RowKit Go.Lib in
def Tryz.laysNm225_ren:Go.Shelf.Ren:=⟨fun |25=>106 |31=>133 |32=>134 |37=>168 |n=>n,fun |22=>45 |3=>3 |4=>4 |40=>182 |0=>0 |n=>n,fun |n=>n⟩
theorem Tryz.laysNm225:Go.Proofs.Lays2.n25 Tryz.prog Tryz.laysNm225_ren:={
 mixed:=by kernel_rfl
 f25:=Tryz.func106.trans (congrArg some (by kernel_rfl))
 f31:=Tryz.func133.trans (congrArg some (by kernel_rfl))
 f32:=Tryz.func134.trans (congrArg some (by kernel_rfl))
 f37:=Tryz.func168.trans (congrArg some (by kernel_rfl))
 t0:=Tryz.underlying0
 a0:=Tryz.isAgg0
 z0:=Tryz.sizeOf0
 v0:=Tryz.zeroValue0
 t3:=Tryz.underlying3
 a3:=Tryz.isAgg3
 z3:=Tryz.sizeOf3
 v3:=Tryz.zeroValue3
 t4:=Tryz.underlying4
 a4:=Tryz.isAgg4
 z4:=Tryz.sizeOf4
 v4:=Tryz.zeroValue4
 t22:=Tryz.underlying45
 a22:=Tryz.isAgg45
 z22:=Tryz.sizeOf45
 v22:=Tryz.zeroValue45
 t40:=Tryz.underlying182
 a40:=Tryz.isAgg182
 z40:=Tryz.sizeOf182
 v40:=Tryz.zeroValue182}
open Go.RowKit Go.Lib in
theorem Tryz.slices_BinarySearch_int (b off n c:Nat) (zs:List Int) (x:Int) (w:World) (hz:n<=zs.length) (hbig:n<4611686018427387904) (hc:∀ j,j<zs.length->w.cell? ⟨b,off+j,none⟩=some (.int .i64 (zs.getD j 0))) (hs:(zs.take n).Pairwise (·<=·)) :
  Calls Tryz.prog 106 #[.slice (some ⟨b,off,none⟩) n c,.int .i64 x] w fun e w'=>e=.returned (.tuple #[.int .i64 ((zs.take n).countP (·<x):Nat),.bool ((zs.take n).contains x)])/\∃ q,w'=w.drewN q:=Any.slices_BinarySearch_int Tryz.laysNm225 b off n c zs x w hz hbig hc hs
open Go.RowKit Go.Lib in
theorem Tryz.slices_BinarySearch_int_empty (a:Option Addr) (c:Nat) (x:Int) (w:World) :
  Calls Tryz.prog 106 #[.slice a 0 c,.int .i64 x] w fun e w'=>e=.returned (.tuple #[.int .i64 0,.bool false])/\w'=w:=Any.slices_BinarySearch_int_empty Tryz.laysNm225 a c x w
end Go.Proofs
namespace Go.Proofs.YtdchjncnjgelhaaGreat
open Go.RowKit Go.Maps Go.ChangeMaps Go.Sort
variable {w w':World}{db lb mb m:Nat}{S:Dk}
def Dk.waitL (S:Dk):List Nat:=(List.range S.n).filter (fun i=>(S.wait i).isSome)
theorem waitL_mem {S:Dk} (hS:S.Ok) (i:Nat):i∈S.waitL↔(S.wait i).isSome=true:=by
 simp only[Dk.waitL,List.mem_filter,List.mem_range]
 refine⟨fun h=>h.2,fun h=>⟨?_,h⟩⟩
 obtain⟨c,hc⟩:=Option.isSome_iff_exists.1 h
 exact(hS.wait i c hc).1
theorem waitL_sorted (S:Dk):S.waitL.Pairwise (·<·):=List.pairwise_lt_range.filter _
theorem waitL_length (S:Dk):S.waitL.length<=S.n:=by
 have:=List.length_filter_le (fun i=>(S.wait i).isSome) (List.range S.n)
 simpa[Dk.waitL] using this
theorem sort_eq (ss L:List Nat) (hp:ss.Perm L) (hL:L.Pairwise (·<·)):(ss.map (fun x:Nat=>(x:Int))).mergeSort (fun x y=>decide (x<=y))=L.map (fun x:Nat=>(x:Int)):=by
 have tr:∀ a b c:Int,decide (a<=b)=true->decide (b<=c)=true->decide (a<=c)=true:=fun a b c h1 h2=>by simp only[decide_eq_true_eq] at *;omega
 have to:∀ a b:Int,(decide (a<=b)||decide (b<=a))=true:=fun a b=>by simp only[Bool.or_eq_true,decide_eq_true_eq];omega
 refine List.Perm.eq_of_pairwise (le:=fun a b:Int=>decide (a<=b)=true) (fun a b _ _ h1 h2=>?_) (List.pairwise_mergeSort tr to _) ?_ ((List.mergeSort_perm _ _).trans (hp.map _))
 ·simp only[decide_eq_true_eq] at h1 h2;omega
 ·refine List.pairwise_map.2 (hL.imp fun h=>?_)
  simp only[decide_eq_true_eq];omega
def Coll (S:Dk) (left:Lit->Bool) (ss:List Nat):Prop:=ss.Nodup/\∀ i:Nat,i∈ss↔((S.wait i).isSome=true/\left (.int .i64 (i:Int))=false)
theorem Coll.start {D:DataW Unit} (hv:MapV D S.wait):Coll S (Maps.has D) []:=⟨List.nodup_nil,fun i=>by rw[hv.has];cases (S.wait i).isSome <;> simp⟩
theorem Coll.step {left:Lit->Bool} {ss:List Nat} (h:Coll S left ss) {i:Nat} (hi:(S.wait i).isSome=true) (hl:left (.int .i64 (i:Int))=true):Coll S (fun z=>left z&&!z.sameKey (.int .i64 (i:Int))) (ss++[i]):=by
 have hnew:i ∉ ss:=fun hx=>by have:=((h.2 i).1 hx).2;rw[hl] at this;cases this
 refine⟨List.nodup_append.2 ⟨h.1,by simp,fun a ha b hb=>by simp at hb;subst hb;exact fun e=>hnew (e ▸ ha)⟩,fun j=>?_⟩
 by_cases hj:j=i
 ·subst hj;simp[hi,Lit.sameKey]
 ·have:¬ ((j:Int)=(i:Int)):=by omega
  simp[h.2 j,hj,Lit.sameKey,this]
theorem Coll.perm {left:Lit->Bool} {ss:List Nat} (h:Coll S left ss) (hS:S.Ok) (hl:∀ kl,left kl=false):ss.Perm S.waitL:=by
 refine(List.perm_ext_iff_of_nodup h.1 ((waitL_sorted S).imp (fun h=>by omega))).2 fun i=>?_
 rw[h.2 i,hl,waitL_mem hS];simp
set_option maxHeartbeats 2000000 in
theorem Waiting_any (w:World) (h:DkIs w db lb mb m S) (hS:S.Ok) (hm:m<=10000000000000):Calls Tryz.prog 186 #[.pointer (some ⟨db,0,none⟩)] w fun e w' =>
  ∃ (a:Option Addr) (g cap:Nat),e=.returned (.slice a S.waitL.length cap)/\(a=none/\S.waitL=[]∨a=some ⟨g,0,none⟩)/\w.heap.size<=g/\(∀ k (hk:k<S.waitL.length),w'.cell? ⟨g,k,none⟩=some (.int .i64 ((S.waitL[k]:Nat):Int)))/\Below w.heap.size w w':=by
 obtain⟨i0,hi,hz0,hz1,hz2⟩:=info_parts (show(Tryz.prog.info? 3).map (fun i=>(i.zero,i.size,i.bytes))=some (some (.int .i64 0),1,8) by kernel_rfl)
 have hc1:=h.c1
 have H:Hid _:=h
 obtain⟨D,hown,hv⟩:=h.map
 have hbl:=hown.lt
 have hn2:=hS.n2
 have hn1:=hS.n1
 clear h
 go_enter Tryz.func186,Tryz.ntmps186
 go_wp2_with (first
  | (go_at_call 60;refine(isMade_any _ H.out hn1).mono ?_;rintro e w' ⟨rfl,rfl⟩)
  | (at_range;refine wpList_range_own _ rfl _ 76 rfl 3 177 law3 Tryz.underlying76 _ mb m _ rfl hown ?_;intro w0 hrg0 hg0 hs0))
 go_frame
 go_loopw [3] (fun v wr=>∃ (left:Lit->Bool) (cnt:Nat) (ss:List Nat),wr.ranges Tryz.prog 3 secR mb w'.heap.size m D left cnt/\ss.length+cnt<=m/\Hid (Coll S left ss) /\
   wr.ownsRow w'.heap.size 3 1 v ss.length (ss.map (fun x:Nat=>Value.int .i64 (x:Int)))/\Below w'.heap.size w' wr)
  (fun _ wr=>wr.rangeLeft mb w'.heap.size)
 case atStart =>
  exact⟨_,_,[],hrg0,by simpa using hown.size_le,Coll.start hv,⟨rfl,.inl ⟨rfl,rfl⟩⟩,(Below.refl _ _).grown hg0 (Nat.le_refl _) (fun j hj=>by cases hj)⟩
 case round =>
  obtain⟨left,cnt,ss,hrg,hcm,hC,hrow,hnx⟩:=hrel
  have hss:ss.length<=10000000000000:=by omega
  go_wp2_with (first
   | (at_next;refine wpList_next_ranges _ rfl _ rfl 3 law3 secR (Value.int .i64) Value.agg (fun key kl hk=>by obtain⟨x,hx,_⟩:=Maps.keyOf_int_inv Tryz.underlying3 hk;exact⟨x,hx⟩) (fun v y hv=>secR_agg hv) mb w'.heap.size m _ _ _ rfl hrg ?_ ?_))
  ·intro hc0 hl0
   have hp:=hC.out.perm hS hl0
   have hlen:=hp.length_eq
   rcases hrow.2 with⟨rfl,hz⟩ |⟨g,cap,cur,rfl,hbase,hb,h1,h2,h3,h4⟩
   ·have hnil:S.waitL=[]:=List.eq_nil_of_length_eq_zero (by omega)
    go_wp2_with (go_at_call 81;refine(Any.slices_Sort_int_none Tryz.lays189 none 0 _).mono ?_;rintro e w1 ⟨rfl,hw1⟩)
    go_ret
    subst hw1
    exact⟨none,w'.heap.size,0,by rw[hnil];rfl,Or.inl ⟨rfl,hnil⟩,Nat.le_refl _,fun k hk=>by rw[hnil] at hk;simp at hk,hnx⟩
   ·have hlc:((ss.map (fun x:Nat=>(x:Int)))).length=ss.length:=by simp
    have hmm:(ss.map (fun x:Nat=>(x:Int))).map (Value.int .i64)=ss.map (fun x:Nat=>Value.int .i64 (x:Int)):=by simp
    have hH:Holds (Value.int .i64) wr g 0 (ss.map (fun x:Nat=>(x:Int))).toArray:=holds_of_blockI hb (by rw[hlc,hmm];simpa using h4)
    have hgl:g<wr.heap.size:=(Array.getElem?_eq_some_iff.1 hb).1
    have hc:=Tryz.slices_Sort_int g 0 cap (ss.map (fun x:Nat=>(x:Int))) wr hH hgl (by rw[hlc];omega)
    rw[hlc,sort_eq ss S.waitL hp (waitL_sorted S)] at hc
    have HC:Hid (Calls Tryz.prog 81 #[.slice (some ⟨g,0,none⟩) ss.length cap] wr fun e w'=>e=.returned (.tuple #[])/\∃ n os,w'=grow (putRow (Value.int .i64) (Sort.ahead wr n) g 0 (S.waitL.map (fun x:Nat=>(x:Int))).toArray) os):=hc
    have HL:Hid _:=hlen
    clear hc hlen hlc hmm
    go_wp2_with (go_at_call 81;refine HC.out.mono ?_;rintro e w1 ⟨rfl,nn,os,rfl⟩)
    go_ret
    have hlen:=HL.out
    have hlc:((ss.map (fun x:Nat=>(x:Int)))).length=ss.length:=by simp
    refine⟨_,g,cap,by rw[← hlen];rfl,Or.inr rfl,hbase,fun k hk=>?_,hnx.grown (grownBy_sortedI _) hnx.size (fun j hj=>by cases hj;exact hbase)⟩
    have hr:=ownsRow_sortedI (n:=nn) (os:=os) (ts:=S.waitL.map (fun x:Nat=>(x:Int))) (ss:=ss.map (fun x:Nat=>(x:Int))) (by simp[hlen]) hbase hb (by rw[hlc];exact h1) h2 h3
    have:=hr.cellAt k (by simp[hlen];exact hk)
    rw[this]
    simp[hk]
  ·intro x c kl yd yp w2 cnt2 hkey hlk hv2 hat hrg2 hlt hg2 hs2 hen
   obtain⟨x',ex,rfl,_⟩:=Maps.keyOf_int_inv Tryz.underlying3 hkey
   cases ex
   obtain⟨i,hix⟩:=hv.keys _ (has_true_of_atKey hat)
   have hxi:x=(i:Int):=by simpa using hix
   subst hxi
   have hwi:(S.wait i).isSome=true:=by rw[← hv.has];exact has_true_of_atKey hat
   have hrow2:=hrow.kept hg2 (Or.inr (row_ne_iter hrow hrg).symm)
   clear hs2
   go_wp2_with (first
    | (at_builtin;refine wpList_append_own _ rfl _ _ 45 rfl w'.heap.size 3 i0 (.int .i64 0) 1 8 Tryz.underlying45 hi hz0 hz1 hz2 rfl (by decide) _ _ _ rfl (hrow2.alloc _) ⟨w2.heap.size,0,none⟩ 1 1 [.int .i64 (i:Int)] rfl rfl (cell_one_new _ _ _) (by simp[Value.oneCell']) (by unfold maxLen at *;omega) (by omega) (by have:=hnx.size;have:=hg2.size;simp;omega) ?_;intro v' w3 hown' hg3 hnil3;go_frame))
   have hrg3:=(hrg2.alloc _).kept hg3 (row_ne_low hrow2 hbl) (row_ne_iter hrow2 hrg2)
   go_roundw
   case rel =>
    refine⟨_,cnt2,ss++[i],hrg3,by simp;omega,hC.out.step hwi hlk,by simpa using hown',?_⟩
    exact((hnx.grown hg2 hnx.size (fun j hj=>by cases hj;exact Nat.le_refl _)).alloc (by have:=hnx.size;have:=hg2.size;omega) _).grown hg3 (by have:=hnx.size;have:=hg2.size;simp;omega) (fun j hj=>(hrow2.lt j hj).1)
   case measure=>rw[hrg3.left_eq,hrg.left_eq];exact hlt
open Go.RowKit Go.Maps Go.ChangeMaps
variable {w w':World}{db lb mb m:Nat}{S:Dk}
theorem wpList_alloc64 {ops:Array Oper} {rest:List Oper} {o:Oper} {a:Act} {Q:Exit->Act->World->Prop} (w:World) (hg:o.guard=none) (hop:o.op=Op.alloc 177)
  (h:wpList Tryz.prog ops Q rest (a.put o.dst (.pointer (some ⟨w.heap.size,0,none⟩))) (w.alloc (.cells (secL zs64).toArray 177))):wpList Tryz.prog ops Q (o ::rest) a w:=by
 refine wpList_plain hg fun K' hK'=>?_
 unfold Oper.wp
 simp[execOp,hop,Instr.alloc,zero64,Result.andThen,secV,Value.cells]
 exact hK' _ _ h
theorem wpList_store_new64 {ops:Array Oper} {rest:List Oper} {o:Oper} {a:Act} {Q:Exit->Act->World->Prop} (w:World) (C:Array Value) (hg:o.guard=none) (x y:Operand) (hop:o.op=Op.store 177 x y)
  (hx:a.eval x=.pointer (some ⟨w.heap.size,0,none⟩)) (c:ByteArray) (hy:a.eval y=secV c) (hc:c.size=64) (hC:C.size=64)
  (h:wpList Tryz.prog ops Q rest (a.put o.dst undef) (w.alloc (.cells (secL c).toArray 177))):wpList Tryz.prog ops Q (o ::rest) a (w.alloc (.cells C 177)):=by
 refine wpList_plain hg fun K' hK'=>?_
 have hs:(secL c).toArray.size=64:=by simp[secL_length,hc]
 have hrun:=run_storeAt_new (P:=Tryz.prog) w 177 C (secL c).toArray (by rw[hs];exact info64) (by rw[hC,hs]) (all_oneCell_toArray (secL_one c))
 unfold Oper.wp
 simp[execOp,hop,hx,hy,secV,hrun,Result.andThen]
 exact hK' _ _ h
theorem wpList_load64 {ops:Array Oper} {rest:List Oper} {o:Oper} {a:Act} {Q:Exit->Act->World->Prop} (w:World) (hg:o.guard=none) (x:Operand) (hop:o.op=Op.load 177 x)
  (b of:Nat) (hx:a.eval x=.pointer (some ⟨b,of,none⟩)) (c:ByteArray) (hc:c.size=64) (hr:w.rangeAt b of (secL c))
  (h:wpList Tryz.prog ops Q rest (a.put o.dst (secV c)) w):wpList Tryz.prog ops Q (o ::rest) a w :=
 wpList_load_mid hg 177 x hop b of hx (secL c) _ hr row64 rfl (by rw[secL_length,hc];exact info64) h
def Dk.now (S:Dk) (i:Nat):ByteArray:=(S.wait i).getD (S.sure i)
theorem zsz:(secL zs64).toArray.size=64:=by simp[secL_length,zs64_size]
theorem conv64 {w:World} {b:Nat} {c:ByteArray} (hc:c.size=64) (h:w.rangeAt b 0 (secL c)):(convert 83 9 (.slice (some ⟨b,0,none⟩) 64 64)).run Tryz.prog w=.ok (.string c) w:=by
 have:=Lib.run_convert_whole (P:=Tryz.prog) w 83 5 9 Tryz.underlying83 Tryz.underlying5 Tryz.underlying9 b 0 c (fun i hi=>by
  have:=h i _ (secL_get c i hi)
  simpa using this) 64
 rw[hc] at this
 exact this
theorem rangeAt_new (w:World) (c:ByteArray):(w.alloc (.cells (secL c).toArray 177)).rangeAt w.heap.size 0 (secL c):=fun j v hv=>by
 rw[Joins.cell_of_block (MapKept.heap_alloc w _).1];simpa using hv
set_option maxHeartbeats 1000000 in
theorem Read_any (w:World) (h:DkIs w db lb mb m S) (hS:S.Ok) (i:Nat) (hi:i<S.n) (hu:S.up=true):Calls Tryz.prog 61 #[.pointer (some ⟨db,0,none⟩),.int .i64 (i:Int)] w fun e w'=>e=.returned (.tuple #[.string (S.now i),.int .i64 0])/\Below w.heap.size w w':=by
 have hc0:=h.c0
 have hc1:=h.c1
 have C:Hid (∀ w,DkIs w db lb mb m S->Calls Tryz.prog 91 #[.pointer (some ⟨db,0,none⟩),.int .i64 (i:Int)] w fun e w'=>e=.returned (.int .i64 0)/\w'=w):=fun w h=>by
  have:=refusalAt_any w h hS.n1 (i:Int)
  have e:refAt S.up S.n i=0:=by simp[refAt,hu];omega
  rwa [e] at this
 have hlk:=h.map.look (show i<8192 by have:=hS.n2;omega)
 have hrow:=h.row.at_ i hi
 have hsz:=h.row.size i hi
 have hws:=hS.wait i
 have H:Hid _:=h
 clear h
 obtain⟨s,hs⟩:∃ s,s=S.sure i:=⟨_,rfl⟩
 have hnow:S.now i=(S.wait i).getD s:=by rw[hs];rfl
 rw[hnow]
 rw[← hs] at hrow hsz
 clear hs hnow
 have hlt:=H.out.row.lt
 have hn2:=hS.n2
 cases hw:S.wait i with
 | some c =>
  rw[hw] at hlk
  have hcz:=(hws c hw).2
  clear hws hrow
  simp only[Option.getD_some,Option.isSome_some] at hlk ⊢
  have hcv:=conv64 hcz (rangeAt_new w c)
  go_enter Tryz.func61,Tryz.ntmps61
  go_wp2_with (first |(go_at_call 91;refine(C.out _ H.out).mono ?_;rintro e w' ⟨rfl,rfl⟩) |(refine wpList_alloc64 _ rfl rfl ?_) |(refine wpList_store_new64 _ _ rfl _ _ rfl rfl c rfl hcz zsz ?_))
  go_ret2
  exact⟨rfl,(Below.refl _ _).alloc (Nat.le_refl _) _⟩
 | none =>
  rw[hw] at hlk
  clear hws
  simp only[Option.getD_none,Option.isSome_none] at hlk ⊢
  have hcv:=conv64 hsz (rangeAt_new w s)
  have hrow':=fun o=>World.rangeAt_alloc hrow o
  have hiI:(i:Int)<(S.n:Int):=by omega
  have hdl:=H.out.lt
  have hc0':∀ o,(w.alloc o).cell? ⟨db,0,none⟩=some (.slice (some ⟨lb,0,none⟩) S.n S.n):=fun o=>by rw[World.cell?_alloc_lt _ _ _ hdl];exact hc0
  go_enter Tryz.func61,Tryz.ntmps61
  go_wp2_with (first |(go_at_call 91;refine(C.out _ H.out).mono ?_;rintro e w' ⟨rfl,rfl⟩) |(refine wpList_alloc64 _ rfl rfl ?_) |(refine wpList_store_new64 _ _ rfl _ _ rfl rfl zs64 rfl zs64_size zsz ?_) |(refine wpList_store_new64 _ _ rfl _ _ rfl rfl s rfl hsz zsz ?_) |(refine wpList_load64 _ rfl _ rfl lb (i*64) rfl s hsz (hrow' _) ?_))
  go_ret2
  exact⟨rfl,(Below.refl _ _).alloc (Nat.le_refl _) _⟩
variable {w w':World}{db lb mb m:Nat}{S:Dk}
def bitK (keep:Int) (k:Nat):Bool:=decide (keep / 2 ^ (k % 64) % 2=1)
def rank (f:Nat->Option ByteArray) (i:Nat):Nat:=((List.range i).filter (fun j=>(f j).isSome)).length
def lossF (sure:Nat->ByteArray) (wait:Nat->Option ByteArray) (keep:Int) (i:Nat):ByteArray :=
 match wait i with
 | none=>sure i
 | some c=>if bitK keep (rank wait i) then c else sure i
def lossK (S:Dk) (keep:Int) (k:Nat) (i:Nat):ByteArray:=if i∈S.waitL.take k then lossF S.sure S.wait keep i else S.sure i
theorem rank_at (f:Nat->Option ByteArray):∀ (n k i:Nat),((List.range n).filter (fun j=>(f j).isSome))[k]?=some i->i<n/\(f i).isSome=true/\rank f i=k
 | 0,k,i,h=>by simp at h
 | n+1,k,i,h=>by
  rw[List.range_succ,List.filter_append] at h
  by_cases hk:k<((List.range n).filter (fun j=>(f j).isSome)).length
  ·rw[List.getElem?_append_left hk] at h
   obtain⟨h1,h2,h3⟩:=rank_at f n k i h
   exact⟨by omega,h2,h3⟩
  ·rw[List.getElem?_append_right (by omega)] at h
   by_cases hn:(f n).isSome=true
   ·have e:[n].filter (fun j=>(f j).isSome)=[n]:=by simp[hn]
    rw[e] at h
    have hk0:k-((List.range n).filter (fun j=>(f j).isSome)).length=0:=by
     rcases Nat.eq_zero_or_pos (k-((List.range n).filter (fun j=>(f j).isSome)).length) with h0 |h0
     ·exact h0
     ·rw[List.getElem?_eq_none (by simp;omega)] at h;cases h
    rw[hk0] at h
    simp at h
    subst h
    exact⟨by omega,hn,by unfold rank;omega⟩
   ·have e:[n].filter (fun j=>(f j).isSome)=[]:=by simp[hn]
    rw[e] at h
    simp at h
theorem lossK_zero (S:Dk) (keep:Int):lossK S keep 0=S.sure:=by funext i;simp[lossK]
theorem lossK_all {S:Dk} (hS:S.Ok) (keep:Int):lossK S keep S.waitL.length=lossF S.sure S.wait keep:=by
 funext i
 simp only[lossK,List.take_length]
 split
 ·rfl
 ·rename_i h
  have:S.wait i=none:=by
   cases hw:S.wait i with
   | none=>rfl
   | some c=>exact absurd ((waitL_mem hS i).2 (by rw[hw];rfl)) h
  simp[lossF,this]
theorem lossK_step {S:Dk} (keep:Int) {k:Nat} (hk:k<S.waitL.length) {c:ByteArray} (hc:S.wait S.waitL[k]=some c) :
  lossK S keep (k+1)=if bitK keep k then upd (lossK S keep k) S.waitL[k] c else lossK S keep k:=by
 obtain⟨h1,h2,h3⟩:=rank_at S.wait S.n k S.waitL[k] (by rw[show(List.range S.n).filter (fun j=>(S.wait j).isSome)=S.waitL from rfl,List.getElem?_eq_getElem hk])
 have hnew:S.waitL[k] ∉ S.waitL.take k:=fun hm=>by
  obtain⟨j,hj,he⟩:=List.mem_take_iff_getElem.1 hm
  have:=List.pairwise_iff_getElem.1 (waitL_sorted S) j k (by omega) hk (by omega)
  rw[he] at this;omega
 have hl:lossF S.sure S.wait keep S.waitL[k]=if bitK keep k then c else S.sure S.waitL[k]:=by
  rw[lossF,hc,h3]
 funext i
 have ht:S.waitL.take (k+1)=S.waitL.take k++[S.waitL[k]]:=List.take_succ_eq_append_getElem hk
 by_cases hi:i=S.waitL[k]
 ·subst hi
  have hin:S.waitL[k]∈S.waitL.take (k+1):=by rw[ht];exact List.mem_append_right _ List.mem_cons_self
  cases hb:bitK keep k
  ·have e1:lossK S keep (k+1) S.waitL[k]=lossF S.sure S.wait keep S.waitL[k]:=if_pos hin
   have e2:lossK S keep k S.waitL[k]=S.sure S.waitL[k]:=if_neg hnew
   rw[e1,hl,hb]
   simp only[Bool.false_eq_true,if_false]
   exact e2.symm
  ·have e1:lossK S keep (k+1) S.waitL[k]=lossF S.sure S.wait keep S.waitL[k]:=if_pos hin
   rw[e1,hl,hb]
   simp only[if_true,upd_same]
 ·have e1:i∈S.waitL.take (k+1)↔i∈S.waitL.take k:=by rw[ht,List.mem_append,List.mem_singleton];exact⟨fun h=>h.resolve_right hi,Or.inl⟩
  cases hb:bitK keep k
  ·simp only[Bool.false_eq_true,if_false]
   unfold lossK
   simp only[e1]
  ·simp only[if_true,upd_other _ _ hi]
   unfold lossK
   simp only[e1]
def offDk (S:Dk) (keep:Int):Dk:={S with sure:=lossF S.sure S.wait keep,wait:=fun _=>none,up:=false,set:=false,left:=0,keep:=0,downs:=S.downs+1}
set_option maxHeartbeats 2000000 in
theorem powerGoes_any (w:World) (h:DkIs w db lb mb m S) (hS:S.Ok) (hm:m<=10000000000000) (keep:Int) (k0:0<=keep) (k1:keep<=18446744073709551615):Calls Tryz.prog 156 #[.pointer (some ⟨db,0,none⟩),.int .u64 keep] w fun e w' =>
  e=.returned (.tuple #[])/\DkIs w' db lb mb 0 (offDk S keep)/\Off (disk3 db lb mb) w w':=by
 have hdb:=h.lt
 have hlb:=h.row.lt
 have hmb:=h.map.lt
 have H:Hid _:=h
 have C:Hid (∀ w,DkIs w db lb mb m S->_):=fun w h=>Waiting_any w h hS hm
 have hL:=waitL_length S
 have hn2:=hS.n2
 clear h
 go_enter Tryz.func156,Tryz.ntmps156
 go_wp2_with (go_at_call 186;refine(C.out _ H.out).mono ?_;rintro e w1 ⟨a,g,cap,rfl,hag,hg,hcell,hbel⟩)
 go_loopw [9] (fun kv wr=>∃ k:Nat,kv=.int .i64 (k:Int)/\k<=S.waitL.length/\DkIs wr db lb mb m {S with sure:=lossK S keep k}/\Off (disk3 db lb mb) w1 wr) (fun kv _=>S.waitL.length-(intOf kv).toNat)
 case atStart =>
  exact⟨0,rfl,Nat.zero_le _,by rw[lossK_zero];exact H.out.below hbel,Off.refl _ _⟩
 case round =>
  obtain⟨k,rfl,hk,hD,hoff⟩:=hrel
  by_cases hkl:k<S.waitL.length
  ·have ha:a=some ⟨g,0,none⟩:=by
    rcases hag with⟨_,hnil⟩ |h
    ·rw[hnil] at hkl;simp at hkl
    ·exact h
   subst ha
   have hcl:=hcell k hkl
   have hg1:g<w1.heap.size:=World.block_lt_of_cell? _ _ hcl
   have hck:wr.cell? ⟨g,k,none⟩=some (.int .i64 ((S.waitL[k]:Nat):Int)):=by
    rw[hoff.cell hg1 (d3_not hdb hlb hmb hg)];exact hcl
   obtain⟨i,hi⟩:∃ i,i=S.waitL[k]:=⟨_,rfl⟩
   rw[← hi] at hck
   have hkI:(k:Int)<(S.waitL.length:Int):=by omega
   have hwi:(S.wait i).isSome=true:=by rw[hi];exact(waitL_mem hS _).1 (List.getElem_mem hkl)
   obtain⟨c,hc⟩:=Option.isSome_iff_exists.1 hwi
   have hin:=hS.wait i c hc
   have hstep:lossK S keep (k+1)=if bitK keep k then upd (lossK S keep k) i c else lossK S keep k:=by rw[hi];exact lossK_step keep hkl (by rw[← hi];exact hc)
   have HS:Hid _:=hstep
   clear hcell hcl hi hwi hstep
   have hbits:(bits BinOp.and IntKind.u64 (keep / 2 ^ (k % 64)) 1==1)=bitK keep k:=by
    have h0:0<=keep / 2 ^ (k % 64):=Int.ediv_nonneg k0 (Int.pow_nonneg (by decide))
    have h1:keep / 2 ^ (k % 64)<=18446744073709551615:=by
     have:=Int.ediv_le_self (2 ^ (k % 64)) k0
     omega
    rw[and_one_u64 _ h0 h1]
    rfl
   cases hb:bitK keep k
   ·rw[hb] at hbits
    rw[hb] at HS
    go_wp2
    refine⟨⟨k+1,by simp,hkl,?_,hoff⟩,by simp[intOf];omega⟩
    rw[HS.out]
    exact hD
   ·rw[hb] at hbits
    rw[hb] at HS
    have d0:=hD.c0
    have d1:=hD.c1
    have hi2:i<8192:=by omega
    have hiI:(i:Int)<(S.n:Int):=by omega
    obtain⟨cs,hcs⟩:∃ cs,cs=secL c:=⟨_,rfl⟩
    have hcl:cs.length=64:=by rw[hcs,secL_length,hin.2]
    have hone:∀ v∈cs,v.oneCell'=true:=by rw[hcs];exact secL_one c
    have hinf:(Tryz.prog.info? 177).map (·.size)=some cs.toArray.size:=by simp only[List.size_toArray,hcl];exact info64
    have hth:wr.drew.there lb (i*64) cs.toArray.size:=by simp only[List.size_toArray,hcl];rw[World.there_drew];exact hD.row.there i hin.1
    have hlk:(Instr.lookup 76 (.map (some mb)) (.int .i64 (i:Int)) false).run Tryz.prog wr.drew=.ok (.agg cs.toArray) wr.drew:=by
     rw[hcs];exact hD.drew.map.look1 hi2 hc
    have hkk:∀ vs:List Value,(wr.drew.setCells lb (i*64) vs).cell? ⟨db,0,none⟩=some (.slice (some ⟨lb,0,none⟩) S.n S.n)/\(wr.drew.setCells lb (i*64) vs).cell? ⟨db,1,none⟩=some (.map (some mb)):=fun vs =>
     ⟨(World.cell?_of_block (w:=wr) ((setCells_facts lb vs (i*64) wr.drew).2.2.2.2 db hD.ne)).trans d0,(World.cell?_of_block (w:=wr) ((setCells_facts lb vs (i*64) wr.drew).2.2.2.2 db hD.ne)).trans d1⟩
    have HC:Hid _:=hcs
    have HL:Hid _:=hcl
    have HK:Hid _:=hkk
    clear hkk
    clear hcs hcl
    go_wp2
    go_region_held_law (fun w'=>w'.cell? ⟨db,0,none⟩=some (.slice (some ⟨lb,0,none⟩) S.n S.n)/\w'.cell? ⟨db,1,none⟩=some (.map (some mb))) (first |exact⟨d0,d1⟩ |exact HK.out _) (fail)
    go_wp2
    refine⟨⟨k+1,by simp,hkl,?_,hoff.drew.setCells (d3b _ _ _) _ _⟩,by simp[intOf];omega⟩
    rw[HS.out,HC.out]
    exact hD.drew.rowput hS.n1 hin.1 hin.2
  ·have hke:k=S.waitL.length:=by omega
   subst hke
   rw[lossK_all hS] at hD
   obtain⟨w2,hrun,hm2,ht⟩:=hD.map.clear
   have hD2:=hD.turned hS.n1 ht hm2
   have c1:=hD.c1
   have d3:=hD2.c3
   have d4:=hD2.c4
   have d5:=hD2.c5
   have d2:=hD2.c2
   have d7:=hD2.c7
   have df:=hD2.f
   have a0:=hS.d0
   have a1:=hS.d1
   have HD:Hid _:=hD2
   have HT:Hid _:=ht
   clear hD hD2 hcell ht hm2
   have hkI:¬ ((S.waitL.length:Int)<(S.waitL.length:Int)):=by omega
   go_wp2
   go_end0
   have ho:Off (disk3 db lb mb) w w2:=((Off.of_below hbel).trans hoff).turned HT.out (fun _=>d3c _ _ _)
   refine⟨rfl,?_,((((ho.setCell (d3a _ _ _) _ _).setCell (d3a _ _ _) _ _).setCell (d3a _ _ _) _ _).setCell (d3a _ _ _) _ _).setCell (d3a _ _ _) _ _⟩
   exact((((HD.out.setC 3 _ {S with sure:=lossF S.sure S.wait keep,wait:=fun _=>none,set:=false} rfl rfl rfl rfl).setC 4 _ {S with sure:=lossF S.sure S.wait keep,wait:=fun _=>none,set:=false,left:=0} rfl rfl rfl rfl).setC 5 _ {S with sure:=lossF S.sure S.wait keep,wait:=fun _=>none,set:=false,left:=0,keep:=0} rfl rfl rfl rfl).setC 2 _ {S with sure:=lossF S.sure S.wait keep,wait:=fun _=>none,set:=false,left:=0,keep:=0,up:=false} rfl rfl rfl rfl).setC 7 _ (offDk S keep) rfl rfl rfl rfl
theorem offDk_ok {S:Dk} (hS:S.Ok) (keep:Int) (hd:S.downs<10000000000000):(offDk S keep).Ok :=
 ⟨hS.n1,hS.n2,fun i c h=>(by cases h),by simp[offDk],by simp[offDk],by simp[offDk],by simp[offDk],hS.a0,hS.a1,by have:=hS.d0;simp only[offDk];omega,by simp only[offDk];omega⟩
def actE (S:Dk):Int:=if S.set/\S.left=0 then 9 else 0
def actDk (S:Dk):Dk:=if S.set/\S.left=0 then offDk S S.keep else if S.set then {S with left:=S.left-1,acts:=S.acts+1} else {S with acts:=S.acts+1}
theorem act_any (w:World) (h:DkIs w db lb mb m S) (hS:S.Ok) (hm:m<=10000000000000):Calls Tryz.prog 127 #[.pointer (some ⟨db,0,none⟩)] w fun e w' =>
  e=.returned (.int .i64 (actE S))/\DkIs w' db lb mb m (actDk S)/\Off (disk3 db lb mb) w w':=by
 have hc3:=h.c3
 have hc4:=h.c4
 have hc5:=h.c5
 have hc6:=h.c6
 have hf:=h.f
 have a0:=hS.a0
 have a1:=hS.a1
 have l0:=hS.l0
 have l1:=hS.l1
 have C:Hid (∀ w,DkIs w db lb mb m S->Calls Tryz.prog 156 #[.pointer (some ⟨db,0,none⟩),.int .u64 S.keep] w fun e w' =>
  e=.returned (.tuple #[])/\DkIs w' db lb mb 0 (offDk S S.keep)/\Off (disk3 db lb mb) w w'):=fun w h=>powerGoes_any w h hS hm S.keep hS.k0 hS.k1
 have H:Hid _:=h
 clear h
 cases hs:S.set
 ·rw[hs] at hc3
  go_enter Tryz.func127,Tryz.ntmps127
  go_wp2
  go_ret
  have e1:actE S=0:=by simp[actE,hs]
  have e2:actDk S={S with acts:=S.acts+1}:=by simp[actDk,hs]
  rw[e1,e2]
  exact⟨rfl,H.out.setC 6 _ _ rfl rfl rfl rfl,(Off.refl _ _).setCell (d3a _ _ _) _ _⟩
 ·rw[hs] at hc3
  by_cases hl:S.left=0
  ·have e1:actE S=9:=by simp[actE,hs,hl]
   have e2:actDk S=offDk S S.keep:=by simp[actDk,hs,hl]
   rw[e1,e2]
   rw[hl] at hc4
   go_enter Tryz.func127,Tryz.ntmps127
   go_wp2_with (go_at_call 156;refine(C.out _ H.out).mono ?_;rintro e w1 ⟨rfl,hD,ho⟩)
   go_ret
   exact⟨rfl,hD.mono (Nat.zero_le _),ho⟩
  ·have e1:actE S=0:=by simp[actE,hs,hl]
   have e2:actDk S={S with left:=S.left-1,acts:=S.acts+1}:=by simp[actDk,hs,hl]
   rw[e1,e2]
   have hl':(S.left==0)=false:=by simpa using hl
   go_enter Tryz.func127,Tryz.ntmps127
   go_wp2
   go_ret
   exact⟨rfl,(H.out.setC 4 (.int .i64 (S.left-1)) {S with left:=S.left-1} rfl rfl rfl rfl).setC 6 _ _ rfl rfl rfl rfl,((Off.refl _ _).setCell (d3a _ _ _) _ _).setCell (d3a _ _ _) _ _⟩
theorem actDk_ok {S:Dk} (hS:S.Ok) (hd:S.downs<10000000000000) (ha:S.acts<10000000000000):(actDk S).Ok:=by
 unfold actDk
 split
 ·exact offDk_ok hS _ hd
 ·split
  ·rename_i h1 h2
   have:S.left≠0:=fun e=>h1 ⟨h2,e⟩
   have:=hS.l0
   have:=hS.l1
   have:=hS.a0
   exact⟨hS.n1,hS.n2,hS.wait,by simp only[];omega,by simp only[];omega,hS.k0,hS.k1,by simp only[];omega,by simp only[];omega,hS.d0,hS.d1⟩
  ·have:=hS.a0
   exact⟨hS.n1,hS.n2,hS.wait,hS.l0,hS.l1,hS.k0,hS.k1,by simp only[];omega,by simp only[];omega,hS.d0,hS.d1⟩
variable {w w':World}{db lb mb m:Nat}{S:Dk}
def pad (s:ByteArray):ByteArray:=⟨s.data++Array.replicate (64-s.size) 0⟩
theorem pad_size {s:ByteArray} (h:s.size<=64):(pad s).size=64:=by
 show(s.data++Array.replicate (64-s.size) 0).size=64
 rw[Array.size_append,Array.size_replicate]
 have:s.data.size=s.size:=rfl
 omega
theorem zsL:secL zs64=List.replicate 64 (Value.int .u8 0):=by
 simp only[secL,zs64,Array.toList_replicate,Lib.byteCells,List.map_replicate]
 rfl
theorem pad_cells {s:ByteArray} (h:s.size<=64):(secL zs64).take 0++Lib.byteCells s.data.toList++(secL zs64).drop (0+s.size)=secL (pad s):=by
 rw[zsL,List.drop_replicate]
 simp only[secL,pad,Array.toList_append,Array.toList_replicate,Lib.byteCells,List.map_append,List.map_replicate,List.take_zero,List.nil_append,Nat.zero_add]
 rfl
theorem run_copy64 (w:World) (s:ByteArray) (h:s.size<=64) (ty:TypeId):(Builtin.copy_ #[83,9] ty #[.slice (some ⟨w.heap.size,0,none⟩) 64 64,.string s]).run Tryz.prog (w.alloc (.cells (secL zs64).toArray 177))=.ok (.int .i64 s.size) (w.alloc (.cells (secL (pad s)).toArray 177)):=by
 have:=Lib.run_copy_row_string (P:=Tryz.prog) (w.alloc (.cells (secL zs64).toArray 177)) 83 9 ty 5 w.heap.size 0 64 64 s (secL zs64).toArray 177 Tryz.underlying83 (by kernel_rfl) (MapKept.heap_alloc w _).1 h (by rw[zsz];omega)
 rw[this,World.setRow_alloc_new]
 simp only[List.toList_toArray]
 rw[pad_cells h]
 rfl
def writeE (S:Dk) (i:Int) (s:ByteArray):Int:=if refAt S.up S.n i≠0 then refAt S.up S.n i else if 64<s.size then 3 else actE S
def writeDk (S:Dk) (i:Int) (s:ByteArray):Dk:=if refAt S.up S.n i≠0 then S else if 64<s.size then S else if actE S≠0 then actDk S else {actDk S with wait:=upd S.wait i.toNat (some (pad s))}
theorem actDk_n (S:Dk):(actDk S).n=S.n:=by unfold actDk offDk;split <;> (try split) <;> rfl
theorem actDk_go {S:Dk} (h:actE S=0):(actDk S).wait=S.wait/\(actDk S).sure=S.sure/\(actDk S).up=S.up:=by
 have h1:¬ (S.set=true/\S.left=0):=fun e=>by simp[actE,e] at h
 simp only[actDk,h1,if_false]
 split <;> exact⟨rfl,rfl,rfl⟩
theorem actE_is (S:Dk):actE S=0∨actE S=9:=by unfold actE;split;exact Or.inr rfl;exact Or.inl rfl
theorem writeDk_ok {S:Dk} (hS:S.Ok) (hd:S.downs<10000000000000) (ha:S.acts<10000000000000) (i:Int) (s:ByteArray):(writeDk S i s).Ok:=by
 unfold writeDk
 split
 ·exact hS
 ·rename_i hr
  split
  ·exact hS
  ·rename_i hz
   split
   ·exact actDk_ok hS hd ha
   ·rename_i he
    have h:=actDk_ok hS hd ha
    obtain⟨h1,h2,h3⟩:=actDk_go (S:=S) (by omega)
    refine⟨h.n1,h.n2,fun j c hj=>?_,h.l0,h.l1,h.k0,h.k1,h.a0,h.a1,h.d0,h.d1⟩
    by_cases e:j=i.toNat
    ·subst e
     simp only[upd_same,Option.some.injEq] at hj
     subst hj
     refine⟨?_,pad_size (by omega)⟩
     have hr':refAt S.up S.n i=0:=by omega
     simp only[refAt] at hr'
     split at hr'
     ·split at hr'
      ·cases hr'
      ·simp only[actDk_n];omega
     ·cases hr'
    ·simp only[upd_other _ _ e] at hj
     simp only[actDk_n]
     exact hS.wait j c hj
set_option maxHeartbeats 2000000 in
theorem Write_any (w:World) (h:DkIs w db lb mb m S) (hS:S.Ok) (hm:m<10000000000000) (i:Int) (s:ByteArray) (hs:s.size<=9223372036854775807):Calls Tryz.prog 125 #[.pointer (some ⟨db,0,none⟩),.int .i64 i,.string s] w fun e w' =>
  e=.returned (.int .i64 (writeE S i s))/\DkIs w' db lb mb (m+1) (writeDk S i s)/\Off (disk3 db lb mb) w w':=by
 have C:Hid (∀ w,DkIs w db lb mb m S->Calls Tryz.prog 91 #[.pointer (some ⟨db,0,none⟩),.int .i64 i] w fun e w'=>e=.returned (.int .i64 (refAt S.up S.n i))/\w'=w):=fun w h=>refusalAt_any w h hS.n1 i
 have CA:Hid (∀ w,DkIs w db lb mb m S->Calls Tryz.prog 127 #[.pointer (some ⟨db,0,none⟩)] w fun e w' =>
  e=.returned (.int .i64 (actE S))/\DkIs w' db lb mb m (actDk S)/\Off (disk3 db lb mb) w w'):=fun w h=>act_any w h hS (by omega)
 have H:Hid _:=h
 have hn1:=hS.n1
 have hn2:=hS.n2
 have hdb:=h.lt
 have hlb:=h.row.lt
 have hmb:=h.map.lt
 clear h
 by_cases hr:refAt S.up S.n i=0
 ·rw[hr] at C
  by_cases hz:64<s.size
  ·have hzI:(64:Int)<(s.size:Int):=by omega
   have e1:writeE S i s=3:=by simp[writeE,hr,hz]
   have e2:writeDk S i s=S:=by simp[writeDk,hr,hz]
   rw[e1,e2]
   go_enter Tryz.func125,Tryz.ntmps125
   go_wp2_with (go_at_call 91;refine(C.out _ H.out).mono ?_;rintro e w' ⟨rfl,rfl⟩)
   go_ret
   exact⟨rfl,H.out.mono (Nat.le_succ _),Off.refl _ _⟩
  ·have hzI:¬ (64:Int)<(s.size:Int):=by omega
   rcases actE_is S with ha |ha
   ·rw[ha] at CA
    have e1:writeE S i s=0:=by simp[writeE,hr,hz,ha]
    have e2:writeDk S i s={actDk S with wait:=upd S.wait i.toNat (some (pad s))}:=by simp[writeDk,hr,hz,ha]
    rw[e1,e2]
    have hcp:=fun w=>run_copy64 w s (by omega)
    obtain⟨j,hj,hjn⟩:∃ j:Nat,i=(j:Int)/\j<S.n:=by
     refine⟨i.toNat,?_,?_⟩ <;>
     ·simp only[refAt] at hr
      split at hr
      ·split at hr
       ·cases hr
       ·omega
      ·cases hr
    subst hj
    have hgo:=actDk_go ha
    have HG:Hid _:=hgo
    obtain⟨cs,hcs⟩:∃ cs,cs=secL (pad s):=⟨_,rfl⟩
    rw[← hcs] at hcp
    have HC:Hid _:=hcs
    have hcl:cs.length=64:=by rw[hcs,secL_length,pad_size (by omega)]
    have hinf:(Tryz.prog.info? 177).map (·.size)=some cs.length:=by rw[hcl];exact info64
    have HL:Hid _:=hcl
    clear hgo hcs hcl
    go_enter Tryz.func125,Tryz.ntmps125
    go_wp2_with (first |(go_at_call 91;refine(C.out _ H.out).mono ?_;rintro e w' ⟨rfl,rfl⟩) |(go_at_call 127;refine(CA.out _ H.out).mono ?_;rintro e w1 ⟨rfl,hD,ho⟩) |(refine wpList_alloc64 _ rfl rfl ?_))
    have d1:(w1.alloc (.cells cs.toArray 177)).drew.cell? ⟨db,1,none⟩=some (.map (some mb)):=(World.cell?_alloc_lt _ _ _ hD.lt).trans hD.c1
    have hbo:(w1.alloc (.cells cs.toArray 177)).heap[w1.heap.size]?=some (.cells cs.toArray 177):=(MapKept.heap_alloc w1 _).1
    have hra:(w1.alloc (.cells cs.toArray 177)).drew.rangeAt w1.heap.size 0 cs:=fun j v hv=>by
     rw[Joins.cell_of_block (w:=(w1.alloc (.cells cs.toArray 177)).drew) hbo];simpa using hv
    have hDa:DkIs (w1.alloc (.cells cs.toArray 177)).drew db lb mb m (actDk S):=(hD.below ((Below.refl _ _).alloc (Nat.le_refl _) _)).drew
    have hst:=hDa.map.store (i:=j) (by omega) hm (pad s)
    have e3:secV (pad s)=.agg cs.toArray:=by rw[secV,HC.out]
    rw[e3] at hst
    obtain⟨w3,hrun,hm3,ht⟩:=hst
    have hk3:w3.cell? ⟨db,1,none⟩=some (.map (some mb))/\w3.rangeAt w1.heap.size 0 cs:=by
     refine⟨(World.cell?_of_block (w:=(w1.alloc (.cells cs.toArray 177)).drew) (ht.grown.block db hDa.lt (fun e=>hDa.mdb (by cases e;rfl)))).trans d1,fun j v hv=>?_⟩
     have hne:w1.heap.size≠mb:=fun e=>by have:=hD.map.lt;omega
     rw[World.cell?_of_block (w:=(w1.alloc (.cells cs.toArray 177)).drew) (w':=w3) (ht.grown.block w1.heap.size (by simp) (fun e=>hne (by cases e;rfl)))]
     exact hra j v hv
    have HK:Hid _:=hk3
    have HD:Hid _:=hDa
    have HM:Hid _:=hm3
    have HT:Hid _:=ht
    have hrow:=row64
    clear hk3 hDa hm3 ht hbo
    go_region_held_law (fun w'=>w'.cell? ⟨db,1,none⟩=some (.map (some mb))/\w'.rangeAt w1.heap.size 0 cs) (first |exact⟨d1,hra⟩ |exact HK.out) (fail)
    go_wp2
    go_ret
    have hf:=HD.out.turned (by rw[actDk_n];exact hn1) HT.out HM.out
    rw[HG.out.1] at hf
    refine⟨rfl,by simpa using hf,?_⟩
    exact((ho.alloc _).drew).turned HT.out (fun _=>d3c _ _ _)
   ·rw[ha] at CA
    have e1:writeE S i s=9:=by simp[writeE,hr,hz,ha]
    have e2:writeDk S i s=actDk S:=by simp[writeDk,hr,hz,ha]
    rw[e1,e2]
    go_enter Tryz.func125,Tryz.ntmps125
    go_wp2_with (first |(go_at_call 91;refine(C.out _ H.out).mono ?_;rintro e w' ⟨rfl,rfl⟩) |(go_at_call 127;refine(CA.out _ H.out).mono ?_;rintro e w1 ⟨rfl,hD,ho⟩))
    go_ret
    exact⟨rfl,hD.mono (Nat.le_succ _),ho⟩
 ·have e1:writeE S i s=refAt S.up S.n i:=by simp[writeE,hr]
  have e2:writeDk S i s=S:=by simp[writeDk,hr]
  rw[e1,e2]
  obtain⟨x,hx⟩:∃ x,x=refAt S.up S.n i:=⟨_,rfl⟩
  rw[← hx] at C hr ⊢
  have hr':(x==0)=false:=by simpa using hr
  clear hx e1 e2
  go_enter Tryz.func125,Tryz.ntmps125
  go_wp2_with (go_at_call 91;refine(C.out _ H.out).mono ?_;rintro e w' ⟨rfl,rfl⟩)
  go_ret
  exact⟨rfl,H.out.mono (Nat.le_succ _),Off.refl _ _⟩
variable {w w':World}{db lb mb m:Nat}{S:Dk}
theorem wpList_store_newL {ops:Array Oper} {rest:List Oper} {o:Oper} {a:Act} {Q:Exit->Act->World->Prop} (w:World) (C:Array Value) (hg:o.guard=none) (x y:Operand) (hop:o.op=Op.store 177 x y)
  (hx:a.eval x=.pointer (some ⟨w.heap.size,0,none⟩)) (cs:List Value) (hy:a.eval y=.agg cs.toArray) (hc:cs.length=64) (h1:∀ v∈cs,v.oneCell'=true) (hC:C.size=64)
  (h:wpList Tryz.prog ops Q rest (a.put o.dst undef) (w.alloc (.cells cs.toArray 177))):wpList Tryz.prog ops Q (o ::rest) a (w.alloc (.cells C 177)):=by
 refine wpList_plain hg fun K' hK'=>?_
 have hs:cs.toArray.size=64:=by simp[hc]
 have hrun:=run_storeAt_new (P:=Tryz.prog) w 177 C cs.toArray (by rw[hs];exact info64) (by rw[hC,hs]) (all_oneCell_toArray h1)
 unfold Oper.wp
 simp[execOp,hop,hx,hy,hrun,Result.andThen]
 exact hK' _ _ h
theorem grownBy_setCells (w:World) (b o:Nat) (vs:List Value):w.grownBy (w.setCells b o vs) (some b):=by
 obtain⟨h1,h2,h3,h4,h5⟩:=setCells_facts b vs o w
 exact⟨h1,h2,h3,by rw[h4];exact Nat.le_refl _,fun k _ hk=>h5 k (fun e=>hk (by rw[e]))⟩
theorem grownBy_drew (w:World):w.grownBy w.drew none:=⟨rfl,rfl,rfl,Nat.le_refl _,fun _ _ _=>rfl⟩
theorem SecRow.congr {w:World} {lb n:Nat} {f g:Nat->ByteArray} (h:SecRow w lb n f) (hg:∀ i,i<n->f i=g i):SecRow w lb n g :=
 ⟨h.lt,fun i hi=>by rw[← hg i hi];exact h.at_ i hi,h.there,fun i hi=>by rw[← hg i hi];exact h.size i hi,h.ty⟩
theorem DkIs.congr (h:DkIs w db lb mb m S) {f:Nat->ByteArray} (hg:∀ i,i<S.n->S.sure i=f i):DkIs w db lb mb m {S with sure:=f}:=⟨h.blk,h.row.congr hg,h.map,h.ne⟩
def SyncV (S:Dk) (left:Lit->Bool) (f:Nat->ByteArray):Prop:=∀ i:Nat,f i=if left (.int .i64 (i:Int))=true then S.sure i else S.now i
theorem SyncV.start {D:DataW Unit} (hv:MapV D S.wait):SyncV S (Maps.has D) S.sure:=fun i=>by
 rw[hv.has]
 cases hw:S.wait i <;> simp[Dk.now,hw]
theorem SyncV.step {left:Lit->Bool} {f:Nat->ByteArray} (h:SyncV S left f) {i:Nat} {c:ByteArray} (hc:S.wait i=some c):SyncV S (fun z=>left z&&!z.sameKey (.int .i64 (i:Int))) (upd f i c):=fun j=>by
 by_cases e:j=i
 ·subst e;simp[upd_same,Dk.now,hc,Lit.sameKey]
 ·have:¬ ((j:Int)=(i:Int)):=by omega
  rw[upd_other _ _ e,h j];simp[Lit.sameKey,this]
def syncE (S:Dk):Int:=if S.up then actE S else 9
def syncDk (S:Dk):Dk:=if S.up then(if actE S=0 then {actDk S with sure:=S.now,wait:=fun _=>none} else actDk S) else S
theorem syncDk_ok {S:Dk} (hS:S.Ok) (hd:S.downs<10000000000000) (ha:S.acts<10000000000000):(syncDk S).Ok:=by
 have h:=actDk_ok hS hd ha
 unfold syncDk
 split
 ·split
  ·exact⟨h.n1,h.n2,fun i c h=>(by cases h),h.l0,h.l1,h.k0,h.k1,h.a0,h.a1,h.d0,h.d1⟩
  ·exact h
 ·exact hS
set_option maxHeartbeats 2000000 in
theorem Sync_any (w:World) (h:DkIs w db lb mb m S) (hS:S.Ok) (hm:m<=10000000000000):Calls Tryz.prog 100 #[.pointer (some ⟨db,0,none⟩)] w fun e w' =>
  e=.returned (.int .i64 (syncE S))/\DkIs w' db lb mb m (syncDk S)/\Off (disk3 db lb mb) w w':=by
 have C:Hid (∀ w,DkIs w db lb mb m S->Calls Tryz.prog 121 #[.pointer (some ⟨db,0,none⟩)] w fun e w'=>e=.returned (.int .i64 (refI S.up))/\w'=w):=fun w h=>refusal_any w h hS.n1
 have CA:Hid (∀ w,DkIs w db lb mb m S->Calls Tryz.prog 127 #[.pointer (some ⟨db,0,none⟩)] w fun e w' =>
  e=.returned (.int .i64 (actE S))/\DkIs w' db lb mb m (actDk S)/\Off (disk3 db lb mb) w w'):=fun w h=>act_any w h hS hm
 have H:Hid _:=h
 have hn1:=hS.n1
 have hn2:=hS.n2
 clear h
 cases hu:S.up
 ·have e0:refI false=9:=rfl
  rw[hu,e0] at C
  have e1:syncE S=9:=by simp[syncE,hu]
  have e2:syncDk S=S:=by simp[syncDk,hu]
  rw[e1,e2]
  go_enter Tryz.func100,Tryz.ntmps100
  go_wp2_with (go_at_call 121;refine(C.out _ H.out).mono ?_;rintro e w' ⟨rfl,rfl⟩)
  go_ret
  exact⟨rfl,H.out,Off.refl _ _⟩
 have e0:refI true=0:=rfl
 rw[hu,e0] at C
 rcases actE_is S with ha |ha
 ·have e1:syncE S=0:=by simp[syncE,hu,ha]
  have e2:syncDk S={actDk S with sure:=S.now,wait:=fun _=>none}:=by simp[syncDk,hu,ha]
  rw[e1,e2]
  rw[ha] at CA
  obtain⟨g1,g2,g3⟩:=actDk_go ha
  have g4:=actDk_n S
  obtain⟨S1,hS1⟩:∃ S1,S1=actDk S:=⟨_,rfl⟩
  rw[← hS1] at CA g1 g2 g3 g4 ⊢
  have HS:Hid _:=g1
  have HS2:Hid _:=g2
  have HS4:Hid _:=g4
  clear g1 g2 g3 g4 hS1 e1 e2
  go_enter Tryz.func100,Tryz.ntmps100
  go_wp2_with (first |(go_at_call 121;refine(C.out _ H.out).mono ?_;rintro e w' ⟨rfl,rfl⟩) |(go_at_call 127;refine(CA.out _ H.out).mono ?_;rintro e w1 ⟨rfl,hD,ho⟩;have hc1:=hD.c1;have hDm:MapIs w1 mb m S.wait:=(by rw[← HS.out];exact hD.map);obtain⟨D,hown,hv⟩:=hDm) |(at_range;refine wpList_range_own _ rfl _ 76 rfl 3 177 law3 Tryz.underlying76 _ mb m _ rfl hown ?_;intro w0 hrg0 hg0 hs0))
  go_frame
  go_loopw [5] (fun _ wr=>∃ (left:Lit->Bool) (cnt:Nat) (f:Nat->ByteArray),wr.ranges Tryz.prog 3 secR mb w1.heap.size m D left cnt/\Hid (SyncV S left f)/\DkIs wr db lb mb m {S1 with sure:=f}/\Off (disk3 db lb mb) w1 wr)
   (fun _ wr=>wr.rangeLeft mb w1.heap.size)
  case atStart =>
   refine⟨_,_,S.sure,hrg0,SyncV.start hv,?_,(Off.refl _ _).grown hg0 (fun k e=>by cases e)⟩
   have e:{S1 with sure:=S.sure}=S1:=by rw[← HS2.out]
   rw[e]
   exact hD.off (B:=fun _=>False) ((Off.refl _ _).grown hg0 (fun k e=>by cases e)) (fun h=>h) (fun h=>h) (fun h=>h)
  case round =>
   obtain⟨left,cnt,f,hrg,hY,hDr,hoff⟩:=hrel
   go_wp2_with (first
    | (at_next;refine wpList_next_ranges _ rfl _ rfl 3 law3 secR (Value.int .i64) (fun cs:List Value=>Value.agg cs.toArray) (fun key kl hk=>by obtain⟨x,hx,_⟩:=Maps.keyOf_int_inv Tryz.underlying3 hk;exact⟨x,hx⟩) (fun v y hv=>by obtain⟨cs,rfl⟩:=secR_agg hv;exact⟨cs.toList,by simp⟩) mb w1.heap.size m _ _ _ rfl hrg ?_ ?_))
   ·intro hc0 hl0
    obtain⟨w2,hrun,hm2,ht⟩:=hDr.map.clear
    have hD2:=hDr.turned (by simp only[HS4.out];exact hn1) ht hm2
    have d1:=hDr.c1
    have HD:Hid _:=hD2
    have HT:Hid _:=ht
    have HF:Hid (∀ i,f i=S.now i):=fun i=>by have:=hY.out i;rw[hl0] at this;simpa using this
    clear hD2 ht hm2
    go_wp2
    go_ret
    exact⟨rfl,(HD.out.mono (Nat.zero_le _)).congr (f:=S.now) (fun i _=>HF.out i),(ho.trans hoff).turned HT.out (fun _=>d3c _ _ _)⟩
   ·intro x cs kl yd yp w2 cnt2 hkey hlk hv2 hat hrg2 hlt hg2 hs2 hen
    obtain⟨x',ex,rfl,_⟩:=Maps.keyOf_int_inv Tryz.underlying3 hkey
    cases ex
    obtain⟨i,hix⟩:=hv.keys _ (has_true_of_atKey hat)
    have hxi:x=(i:Int):=by simpa using hix
    subst hxi
    have hwi:(S.wait i).isSome=true:=by rw[← hv.has];exact has_true_of_atKey hat
    obtain⟨c,hc⟩:=Option.isSome_iff_exists.1 hwi
    have hin:=hS.wait i c hc
    have hcs:cs=secL c:=by
     have h1:=hv.at_ i c hc (.lit (.bool false))
     rw[hat] at h1
     rw[h1] at hv2
     have:=secR_inv hv2
     simpa[secV] using this
    have hcl:cs.length=64:=by rw[hcs,secL_length,hin.2]
    have hone:∀ v∈cs,v.oneCell'=true:=by rw[hcs];exact secL_one c
    have hD2:DkIs w2 db lb mb m {S1 with sure:=f}:=hDr.off (B:=fun k=>k=w1.heap.size) ((Off.refl _ _).grown hg2 (fun k e _=>by cases e;rfl)) (fun e=>by have:=hD.lt;omega) (fun e=>by have:=hD.row.lt;omega) (fun e=>by have:=hD.map.lt;omega)
    have hDl:=hD.lt
    have hDb:=hD.row.lt
    have hDm:=hD.map.lt
    have h12:=hoff.size
    have hmne:mb≠lb:=hDr.mlb (by simp only[HS4.out];exact hn1)
    have hoff2:Off (disk3 db lb mb) w1 w2:=hoff.grown hg2 (fun k e hk=>by cases e;omega)
    have HC:Hid _:=hcs
    have HL:Hid _:=hcl
    have HS3:Hid _:=hs2
    clear hs2 hcs hwi hv2 hat hix hkey
    go_wp2_with (first |(refine wpList_alloc64 _ rfl rfl ?_) |(refine wpList_store_newL _ _ rfl _ _ rfl rfl cs rfl HL.out hone zsz ?_))
    have hDa:DkIs (w2.alloc (.cells cs.toArray 177)).drew db lb mb m {S1 with sure:=f}:=(hD2.below ((Below.refl _ _).alloc (Nat.le_refl _) _)).drew
    have d0:=hDa.c0
    have hbo:(w2.alloc (.cells cs.toArray 177)).drew.heap[w2.heap.size]?=some (.cells cs.toArray 177):=(MapKept.heap_alloc w2 _).1
    have hra:(w2.alloc (.cells cs.toArray 177)).drew.rangeAt w2.heap.size 0 cs:=fun j v hv=>by
     rw[Joins.cell_of_block hbo];simpa using hv
    have hlbx:lb<w2.heap.size:=hD2.row.lt
    have hth:(w2.alloc (.cells cs.toArray 177)).drew.there lb (i*64) cs.toArray.size:=by simp only[List.size_toArray,hcl];exact hDa.row.there i (by simp only[HS4.out];exact hin.1)
    have hinf:(Tryz.prog.info? 177).map (·.size)=some cs.toArray.size:=by simp only[List.size_toArray,hcl];exact info64
    have hinf2:(Tryz.prog.info? 177).map (·.size)=some cs.length:=by rw[hcl];exact info64
    have hrow:=row64
    have hn64:S1.n=S.n:=HS4.out
    rw[show({S1 with sure:=f}:Dk).n=S.n from hn64] at d0
    have hiI:(i:Int)<(S.n:Int):=by have:=hin.1;omega
    have hi64:i<S.n:=hin.1
    have HK:Hid (((w2.alloc (.cells cs.toArray 177)).drew.setCells lb (i*64) cs).cell? ⟨db,0,none⟩=some (.slice (some ⟨lb,0,none⟩) S.n S.n)/\((w2.alloc (.cells cs.toArray 177)).drew.setCells lb (i*64) cs).rangeAt w2.heap.size 0 cs):=by
     show _/\_
     have h5:=(setCells_facts lb cs (i*64) (w2.alloc (.cells cs.toArray 177)).drew).2.2.2.2
     exact⟨(World.cell?_of_block (h5 db hD.ne)).trans d0,World.rangeAt_setCells_apart hra _ _ _ (Or.inl (by omega))⟩
    have HD:Hid _:=hDa
    have HRG:Hid (w2.ranges Tryz.prog 3 secR mb w1.heap.size m D (fun z=>left z&&!z.sameKey (.int .i64 (i:Int))) cnt2):=hrg2
    clear hDa hcl hbo hn64 hrg2
    go_region_held_law (fun w'=>w'.cell? ⟨db,0,none⟩=some (.slice (some ⟨lb,0,none⟩) S.n S.n)/\w'.rangeAt w2.heap.size 0 cs) (first |exact⟨d0,hra⟩ |exact HK.out) (fail)
    have hne1:w1.heap.size≠lb:=by omega
    have hrg3:=((HRG.out.alloc (.cells cs.toArray 177)).kept (grownBy_drew _) (by simp) (by simp)).kept (grownBy_setCells _ lb (i*64) cs) (fun e=>hmne (by cases e;rfl)) (fun e=>hne1 (by cases e;rfl))
    go_wp2
    refine⟨⟨_,cnt2,upd f i c,hrg3,hY.out.step hc,?_,((hoff2.alloc _).drew).setCells (d3b _ _ _) _ _⟩,by rw[hrg3.left_eq,hrg.left_eq];exact hlt⟩
    have:=HD.out.rowput (by simp only[HS4.out];exact hn1) (i:=i) (by simp only[HS4.out];exact hin.1) hin.2
    rw[← HC.out] at this
    exact this
 ·have e1:syncE S=9:=by simp[syncE,hu,ha]
  have e2:syncDk S=actDk S:=by simp[syncDk,hu,ha]
  rw[e1,e2]
  rw[ha] at CA
  go_enter Tryz.func100,Tryz.ntmps100
  go_wp2_with (first |(go_at_call 121;refine(C.out _ H.out).mono ?_;rintro e w' ⟨rfl,rfl⟩) |(go_at_call 127;refine(CA.out _ H.out).mono ?_;rintro e w1 ⟨rfl,hD,ho⟩))
  go_ret
  exact⟨rfl,hD,ho⟩
variable {w w':World}{db lb mb m:Nat}{S:Dk}
def wrDk (S:Dk) (i:Nat) (s:ByteArray):Dk:={S with acts:=S.acts+1,wait:=upd S.wait i (some (pad s))}
structure G (k:Int) (u:Bool) (S:Dk):Prop where
 ok:S.Ok
 up:S.up=u
 set:S.set=false
 acts:S.acts<=k
 downs:S.downs<=k
def tA:ByteArray:=⟨#[97]⟩
def upOff (S:Dk) (x:Int):Dk:={offDk S x with up:=true}
theorem n3:(upOff (wrDk (newDk 2) 0 tA) 0).now 0=pad ⟨#[]⟩:=by
 simp[Dk.now,upOff,offDk,lossF,wrDk,upd_same,bitK,newDk,pad];rfl
section
variable {S:Dk}
structure Dq (k:Nat) (S:Dk):Prop where
 ok:S.Ok
 acts:S.acts<=(k:Int)
 downs:S.downs<=(k:Int)
theorem Dq.mono {k k':Nat} (h:Dq k S) (hk:k<=k'):Dq k' S:=⟨h.ok,by have:=h.acts;omega,by have:=h.downs;omega⟩
theorem actDk_counts (S:Dk):(actDk S).acts<=S.acts+1/\(actDk S).downs<=S.downs+1:=by
 unfold actDk offDk;split
 ·exact⟨by dsimp only;omega,Int.le_refl _⟩
 ·split
  ·exact⟨Int.le_refl _,by dsimp only;omega⟩
  ·exact⟨Int.le_refl _,by dsimp only;omega⟩
theorem writeDk_counts (S:Dk) (i:Int) (s:ByteArray):(writeDk S i s).acts<=S.acts+1/\(writeDk S i s).downs<=S.downs+1:=by
 have:=actDk_counts S
 unfold writeDk
 split
 ·exact⟨by omega,by omega⟩
 ·split
  ·exact⟨by omega,by omega⟩
  ·split
   ·exact this
   ·exact this
theorem Dq.write {k:Nat} (h:Dq k S) (hk:k<=1000000000000) (i:Int) (s:ByteArray):Dq (k+1) (writeDk S i s):=by
 have h1:=writeDk_counts S i s
 have:=h.acts
 have:=h.downs
 exact⟨writeDk_ok h.ok (by omega) (by omega) i s,by omega,by omega⟩
theorem syncDk_counts (S:Dk):(syncDk S).acts<=S.acts+1/\(syncDk S).downs<=S.downs+1:=by
 have:=actDk_counts S
 unfold syncDk
 split
 ·split
  ·exact this
  ·exact this
 ·exact⟨by omega,by omega⟩
theorem Dq.sync {k:Nat} (h:Dq k S) (hk:k<=1000000000000):Dq (k+1) (syncDk S):=by
 have h1:=syncDk_counts S
 have:=h.acts
 have:=h.downs
 exact⟨syncDk_ok h.ok (by omega) (by omega),by omega,by omega⟩
theorem Dq.new {n:Nat} (h1:1<=n) (h2:n<=8192):Dq 0 (newDk n):=⟨newDk_ok h1 h2,Int.le_refl _,Int.le_refl _⟩
theorem writeDk_n (S:Dk) (i:Int) (s:ByteArray):(writeDk S i s).n=S.n:=by
 unfold writeDk
 split
 ·rfl
 ·split
  ·rfl
  ·split
   ·exact actDk_n S
   ·exact actDk_n S
theorem syncDk_n (S:Dk):(syncDk S).n=S.n:=by
 unfold syncDk
 split
 ·split
  ·exact actDk_n S
  ·exact actDk_n S
 ·rfl
end
section
variable {S:Dk}{R:Nat->ByteArray->Prop}
structure AllR (R:Nat->ByteArray->Prop) (S:Dk):Prop where
 sure:∀ i,R i (S.sure i)
 wait:∀ i c,S.wait i=some c->R i c
theorem AllR.now (h:AllR R S) (i:Nat):R i (S.now i):=by
 unfold Dk.now
 cases hw:S.wait i with
 | none=>exact h.sure i
 | some c=>exact h.wait i c hw
theorem AllR.off (h:AllR R S) (x:Int):AllR R (offDk S x):=by
 refine⟨fun i=>?_,fun i c hc=>by cases hc⟩
 show R i (lossF S.sure S.wait x i)
 unfold lossF
 cases hw:S.wait i with
 | none=>exact h.sure i
 | some c =>
  dsimp only
  split
  ·exact h.wait i c hw
  ·exact h.sure i
theorem AllR.act (h:AllR R S):AllR R (actDk S):=by
 unfold actDk
 split
 ·exact h.off _
 ·split
  ·exact⟨h.sure,h.wait⟩
  ·exact⟨h.sure,h.wait⟩
theorem AllR.write (h:AllR R S) (i:Nat) (s:ByteArray) (hR:R i (pad s)):AllR R (writeDk S (i:Int) s):=by
 unfold writeDk
 split
 ·exact h
 ·split
  ·exact h
  ·split
   ·exact h.act
   ·rename_i h1 h2 h3
    refine⟨h.act.sure,fun j c hc=>?_⟩
    have hc':upd S.wait (i:Int).toNat (some (pad s)) j=some c:=hc
    rw[Int.toNat_natCast] at hc'
    by_cases e:j=i
    ·subst e
     rw[upd_same] at hc'
     cases hc'
     exact hR
    ·rw[upd_other _ _ e] at hc'
     exact h.wait j c hc'
theorem AllR.sync (h:AllR R S):AllR R (syncDk S):=by
 unfold syncDk
 split
 ·split
  ·exact⟨fun i=>h.now i,fun i c hc=>by cases hc⟩
  ·exact h.act
 ·exact h
end
structure PrSet where
 p:Nat->Option Obj
section
variable [Inhabited PrSet]
def isP (k:Nat):Prop:=(default:PrSet).p k≠none
def np (k:Nat):Prop:=¬ isP k
def Ltp (w:World):Prop:=∀ k o,(default:PrSet).p k=some o->w.heap[k]?=some o
structure Ow (B k:Nat):Prop where
 ge:B<=k
 np:np k
def npv (v:Value):Prop:=∀ g,v.ownBlock=some g->np g
theorem Ltp.new {w:World} (h:Ltp w) {k:Nat} (hk:w.heap.size<=k):np k:=fun e=>by
 cases e2:(default:PrSet).p k with
 | none=>exact e e2
 | some o=>have:=(Array.getElem?_eq_some_iff.1 (h k o e2)).1;omega
theorem Ltp.below {w w':World} (h:Ltp w) (hb:Below w.heap.size w w'):Ltp w':=fun k o e=>(hb.block k (Array.getElem?_eq_some_iff.1 (h k o e)).1).trans (h k o e)
theorem isP_of {k:Nat} {o:Obj} (e:(default:PrSet).p k=some o):isP k:=fun e2=>by rw[e] at e2;cases e2
theorem Ltp.ow {w:World} (h:Ltp w) {k B:Nat} (hB:B<=w.heap.size) (hk:w.heap.size<=k):Ow B k:=⟨Nat.le_trans hB hk,h.new hk⟩
theorem npv.nil:npv (.slice none 0 0):=fun g e=>by cases e
theorem npv.of {w:World} {v v':Value} (h:npv v) (hl:Ltp w) (ho:v'.ownBlock=v.ownBlock∨v'.ownBlock=some w.heap.size∨v'.ownBlock=none):npv v':=fun g e=>by
 rcases ho with e2 |e2 |e2
 ·exact h g (e2 ▸ e)
 ·rw[e2] at e;cases e;exact hl.new (Nat.le_refl _)
 ·rw[e2] at e;cases e
end
def isD:Obj->Prop
 | .cells _ t _=>t=81∨t=177
 | .map _ _=>True
 | _=>False
def isL:Obj->Prop
 | .cells _ t _=>t=3∨t=5∨t=87
 | _=>False
def isA (o:Obj):Prop:=isD o∨isL o
structure Kp [Inhabited PrSet] (A:Obj->Prop) (B:Nat) (w w':World):Prop where
 bel:Below B w w'
 block:∀ (k:Nat) (o:Obj),w.heap[k]?=some o->¬ A o->w'.heap[k]?=some o
 prot:∀ (k:Nat) (o:Obj),w.heap[k]?=some o->isP k->w'.heap[k]?=some o
section
variable [Inhabited PrSet]{A A':Obj->Prop}{B:Nat}{w w' w1 w2:World}
theorem Kp.refl (A:Obj->Prop) (B:Nat) (w:World):Kp A B w w:=⟨Below.refl _ _,fun _ _ h _=>h,fun _ _ h _=>h⟩
theorem Kp.trans (h:Kp A B w w1) (k:Kp A B w1 w2):Kp A B w w2:=⟨h.bel.trans k.bel,fun j o h1 h2=>k.block j o (h.block j o h1 h2) h2,fun j o h1 h2=>k.prot j o (h.prot j o h1 h2) h2⟩
theorem Kp.mono (h:Kp A B w w1) (hA:∀ o,A o->A' o):Kp A' B w w1:=⟨h.bel,fun j o h1 h2=>h.block j o h1 (fun e=>h2 (hA o e)),h.prot⟩
theorem Kp.drew (A:Obj->Prop) (B:Nat) (w:World):Kp A B w w.drew:=⟨(Below.refl B w).drew,fun k o e _=>e,fun k o e _=>e⟩
theorem Kp.one {b:Nat} {ob:Obj} (hb:w.heap[b]?=some ob) (hA:A ob) (hbl:Below B w w') (hn:np b) (ho:∀ k o,w.heap[k]?=some o->k≠b->w'.heap[k]?=some o):Kp A B w w':=⟨hbl,fun k o e h=>by
  by_cases hk:k=b
  ·subst hk;rw[hb] at e;cases e;exact absurd hA h
  ·exact ho k o e hk,fun k o e h=>ho k o e (fun e2=>by subst e2;exact hn h)⟩
theorem Kp.cell {b i:Nat} {cs:Array Value} {t:TypeId} {fr:Nat × Nat} {u:Value} (hb:w.heap[b]?=some (.cells cs t fr)) (hA:A (.cells cs t fr)) (hB:Ow B b):Kp A B w (w.setCell ⟨b,i,none⟩ u) :=
 Kp.one hb hA ((Below.refl B w).setCell (p:=⟨b,i,none⟩) hB.ge _) hB.np (fun k o e hk=>by rw[Below.heap_setCell _ _ _ _ hk];exact e)
theorem Kp.d (h:Kp isD B w w1):Kp isA B w w1:=h.mono (fun _=>Or.inl)
theorem Kp.l (h:Kp isL B w w1):Kp isA B w w1:=h.mono (fun _=>Or.inr)
theorem Kp.of_below (h:Below w.heap.size w w') (hB:B<=w.heap.size):Kp A B w w':=⟨h.mono hB,fun j o h1 _=>(h.block j (Array.getElem?_eq_some_iff.1 h1).1).trans h1,fun j o h1 _=>(h.block j (Array.getElem?_eq_some_iff.1 h1).1).trans h1⟩
theorem Kp.below (h:Kp A B w w1) (k:Below w1.heap.size w1 w2) (hB:B<=w.heap.size):Kp A B w w2:=h.trans (Kp.of_below k (Nat.le_trans hB h.bel.size))
theorem Ltp.kp (h:Ltp w) (hk:Kp A B w w'):Ltp w':=fun k o e=>hk.prot k o (h k o e) (isP_of e)
theorem Kp.size (h:Kp A B w w1):w.heap.size<=w1.heap.size:=h.bel.size
end
section
variable {w w' w1 w2:World}
structure Ce (w w':World):Prop where
 size:w.heap.size<=w'.heap.size
 cell:∀ p:Addr,p.block<w.heap.size->w'.cell? p=w.cell? p
theorem Ce.of_below (h:Below w.heap.size w w'):Ce w w':=⟨h.size,fun p hp=>World.cell?_of_block (h.block _ hp)⟩
theorem Ce.trans (h:Ce w w1) (k:Ce w1 w2):Ce w w2:=⟨Nat.le_trans h.size k.size,fun p hp=>(k.cell p (Nat.lt_of_lt_of_le hp h.size)).trans (h.cell p hp)⟩
theorem Ce.freeze (w:World) (g n:Nat):Ce w (w.freeze ⟨g,0,none⟩ n):=by
 unfold World.freeze
 split
 ·exact⟨Nat.le_refl _,fun _ _=>rfl⟩
 ·refine⟨by simp,fun p hp=>?_⟩
  obtain⟨b,o,sp⟩:=p
  unfold World.cell?
  by_cases hb:g=b
  ·subst hb
   simp only[Array.getElem?_modify,if_pos]
   cases hh:w.heap[g]? with
   | none=>rfl
   | some ob =>
    cases ob <;> rfl
  ·simp only[Array.getElem?_modify,if_neg hb]
theorem lt_of_some {w:World} {k:Nat} {o:Obj} (h:w.heap[k]?=some o):k<w.heap.size:=(Array.getElem?_eq_some_iff.1 h).1
end
section
variable {w:World}{mb m:Nat}
theorem MapIs.is {f:Nat->Option ByteArray} (h:MapIs w mb m f):∃ es c,w.heap[mb]?=some (.map es c):=by
 obtain⟨D,h,_⟩:=h
 obtain⟨es,c,e,_⟩:=h
 exact⟨es,c,e⟩
end
section
variable [Inhabited PrSet]{B:Nat}{w w':World}{db lb mb m k:Nat}{S:Dk}
theorem DkIs.kp (h:DkIs w db lb mb m S) (ho:Off (disk3 db lb mb) w w') (h1:Ow B db) (h2:Ow B lb) (h3:Ow B mb) (hB:B<=w.heap.size):Kp isD B w w':=by
 refine⟨ho.below (fun j hj=>by rcases hj with rfl |rfl |rfl <;> first |exact h1.ge |exact h2.ge |exact h3.ge) hB,fun j o e hn=>?_,fun j o e hn=>(ho.block j (lt_of_some e) (by rintro(rfl |rfl |rfl) <;> first |exact h1.np hn |exact h2.np hn |exact h3.np hn)).trans e⟩
 refine(ho.block j (lt_of_some e) ?_).trans e
 rintro(rfl |rfl |rfl)
 ·rw[h.blk] at e;cases e;exact hn (Or.inl rfl)
 ·obtain⟨cur,fz,e2⟩:=h.row.ty
  rw[e2] at e;cases e;exact hn (Or.inr rfl)
 ·obtain⟨es,c,e2⟩:=h.map.is
  rw[e2] at e;cases e;exact hn trivial
theorem DkIs.kept (h:DkIs w db lb mb m S) (ho:Kp isL B w w'):DkIs w' db lb mb m S:=by
 have e1:w'.heap[lb]?=w.heap[lb]?:=by
  obtain⟨cur,fz,e2⟩:=h.row.ty
  rw[e2];exact ho.block _ _ e2 (by simp[isL])
 have e3:w'.heap[mb]?=w.heap[mb]?:=by
  obtain⟨es,c,e2⟩:=h.map.is
  rw[e2];exact ho.block _ _ e2 (by simp[isL])
 exact⟨ho.block _ _ h.blk (by simp[isL]),h.row.of_block e1 ho.size,h.map.of_block e3,h.ne⟩
structure Ds [Inhabited PrSet] (B:Nat) (w:World) (db k:Nat) (S:Dk):Prop where
 dsk:∃ lb mb m,DkIs w db lb mb m S/\m<=k/\Ow B lb/\Ow B mb
 q:Dq k S
 hd:Ow B db
 lt:B<=w.heap.size
 lp:Ltp w
theorem Ds.below (h:Ds B w db k S) (hb:Below w.heap.size w w'):Ds B w' db k S:=by
 obtain⟨lb,mb,m,h1,h2,h3,h4⟩:=h.dsk
 exact⟨⟨lb,mb,m,h1.below hb,h2,h3,h4⟩,h.q,h.hd,Nat.le_trans h.lt hb.size,h.lp.below hb⟩
theorem Ds.kept (h:Ds B w db k S) {B':Nat} (hb:Kp isL B' w w'):Ds B w' db k S:=by
 obtain⟨lb,mb,m,h1,h2,h3,h4⟩:=h.dsk
 exact⟨⟨lb,mb,m,h1.kept hb,h2,h3,h4⟩,h.q,h.hd,Nat.le_trans h.lt hb.size,h.lp.kp hb⟩
theorem Ds.mono {k':Nat} (h:Ds B w db k S) (hk:k<=k'):Ds B w db k' S:=by
 obtain⟨lb,mb,m,h1,h2,h3,h4⟩:=h.dsk
 exact⟨⟨lb,mb,m,h1,by omega,h3,h4⟩,h.q.mono hk,h.hd,h.lt,h.lp⟩
theorem Ds.turn {m' k':Nat} {S':Dk} (h:Ds B w db k S) (h1:DkIs w db lb mb m S) (h3:Ow B lb) (h4:Ow B mb) (ho:Off (disk3 db lb mb) w w') (hd:DkIs w' db lb mb m' S') (hm:m'<=k') (hq:Dq k' S'):Ds B w' db k' S'/\Kp isD B w w' :=
 ⟨⟨⟨lb,mb,m',hd,hm,h3,h4⟩,hq,h.hd,Nat.le_trans h.lt ho.size,h.lp.kp (h1.kp ho h.hd h3 h4 h.lt)⟩,h1.kp ho h.hd h3 h4 h.lt⟩
theorem Ds.write (h:Ds B w db k S) (hk:k<=1000000000000) (i:Int) (s:ByteArray) (hs:s.size<=9223372036854775807):Calls Tryz.prog 125 #[.pointer (some ⟨db,0,none⟩),.int .i64 i,.string s] w fun e w' =>
  e=.returned (.int .i64 (writeE S i s))/\Ds B w' db (k+1) (writeDk S i s)/\Kp isD B w w':=by
 obtain⟨lb,mb,m,h1,h2,h3,h4⟩:=h.dsk
 refine(Write_any w h1 h.q.ok (by omega) i s hs).mono ?_
 rintro e w' ⟨rfl,d,o⟩
 exact⟨rfl,h.turn h1 h3 h4 o d (by omega) (h.q.write hk i s)⟩
theorem Ds.sync (h:Ds B w db k S) (hk:k<=1000000000000):Calls Tryz.prog 100 #[.pointer (some ⟨db,0,none⟩)] w fun e w' =>
  e=.returned (.int .i64 (syncE S))/\Ds B w' db (k+1) (syncDk S)/\Kp isD B w w':=by
 obtain⟨lb,mb,m,h1,h2,h3,h4⟩:=h.dsk
 refine(Sync_any w h1 h.q.ok (by omega)).mono ?_
 rintro e w' ⟨rfl,d,o⟩
 exact⟨rfl,h.turn h1 h3 h4 o d (by omega) (h.q.sync hk)⟩
theorem Ds.read (h:Ds B w db k S) (hu:S.up=true) (i:Nat) (hi:i<S.n):Calls Tryz.prog 61 #[.pointer (some ⟨db,0,none⟩),.int .i64 (i:Int)] w fun e w' =>
  e=.returned (.tuple #[.string (S.now i),.int .i64 0])/\Below w.heap.size w w':=by
 obtain⟨lb,mb,m,h1,h2,h3,h4⟩:=h.dsk
 exact Read_any w h1 h.q.ok i hi hu
theorem Ds.size (h:Ds B w db k S):Calls Tryz.prog 29 #[.pointer (some ⟨db,0,none⟩)] w fun e w'=>e=.returned (.int .i64 S.n)/\w'=w:=by
 obtain⟨lb,mb,m,h1,h2,h3,h4⟩:=h.dsk
 exact Size_any w h1 h.q.ok.n1
theorem Ds.new (n:Nat) (h1:1<=n) (h2:n<=8192) (w:World) (hp:Ltp w):Calls Tryz.prog 7 #[.int .i64 (n:Int)] w fun e w'=>e=.returned (.tuple #[.pointer (some ⟨w.heap.size+2,0,none⟩),.int .i64 0])/\Ds w.heap.size w' (w.heap.size+2) 0 (newDk n)/\Below w.heap.size w w':=by
 refine(New_any n h1 h2 w).mono ?_
 rintro e w' ⟨rfl,d,b⟩
 exact⟨rfl,⟨⟨_,_,_,d,Nat.le_refl _,hp.ow (Nat.le_refl _) (Nat.le_refl _),hp.ow (Nat.le_refl _) (by omega)⟩,Dq.new h1 h2,hp.ow (Nat.le_refl _) (by omega),b.size,hp.below b⟩,b⟩
end
end Go.Proofs.YtdchjncnjgelhaaGreat
