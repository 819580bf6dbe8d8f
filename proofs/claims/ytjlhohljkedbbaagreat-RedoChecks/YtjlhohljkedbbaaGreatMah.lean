import Derived.Test.YtjlhohljkedbbaaGreatMag
import Derived.Lib.FrozenHead
set_option linter.unusedVariables false
set_option linter.unusedSimpArgs false
set_option maxRecDepth 100000
namespace Go.Proofs.YtjlhohljkedbbaaGreat
open Go.RowKit Go.Maps Go.ChangeMaps Go.Sort
variable {w w':World}{db lb mb m:Nat}{S:Dk}
def pad (s:ByteArray):ByteArray:=⟨s.data++Array.replicate (64-s.size) 0⟩
theorem pad_size {s:ByteArray} (h:s.size<=64):(pad s).size=64:=by
 show(s.data++Array.replicate (64-s.size) 0).size=64
 rw[Array.size_append,Array.size_replicate]
 have:s.data.size=s.size:=rfl
 omega
theorem zsL:secL zs64=List.replicate 64 (Value.int .u8 0):=by
 simp only[secL,zs64,Array.toList_replicate,Lib.byteCells,List.map_replicate]
 rfl
theorem pad_cells {s:ByteArray} (h:s.size<=64):(secL zs64).take 0++Lib.byteCells s.data.toList++(secL zs64).drop (0+s.size)=secL (pad s):=by
 rw[zsL,List.drop_replicate]
 simp only[secL,pad,Array.toList_append,Array.toList_replicate,Lib.byteCells,List.map_append,List.map_replicate,List.take_zero,List.nil_append,Nat.zero_add]
 rfl
theorem run_copy64 (w:World) (s:ByteArray) (h:s.size<=64) (ty:TypeId):(Builtin.copy_ #[76,9] ty #[.slice (some ⟨w.heap.size,0,none⟩) 64 64,.string s]).run Tryz.prog (w.alloc (.cells (secL zs64).toArray 145))=.ok (.int .i64 s.size) (w.alloc (.cells (secL (pad s)).toArray 145)):=by
 have:=Lib.run_copy_row_string (P:=Tryz.prog) (w.alloc (.cells (secL zs64).toArray 145)) 76 9 ty 5 w.heap.size 0 64 64 s (secL zs64).toArray 145 Tryz.underlying76 (by kernel_rfl) (MapKept.heap_alloc w _).1 h (by rw[zsz];omega)
 rw[this,World.setRow_alloc_new]
 simp only[List.toList_toArray]
 rw[pad_cells h]
 rfl
def writeE (S:Dk) (i:Int) (s:ByteArray):Int:=if refAt S.up S.n i≠0 then refAt S.up S.n i else if 64<s.size then 3 else actE S
def writeDk (S:Dk) (i:Int) (s:ByteArray):Dk:=if refAt S.up S.n i≠0 then S else if 64<s.size then S else if actE S≠0 then actDk S else {actDk S with wait:=upd S.wait i.toNat (some (pad s))}
theorem actDk_n (S:Dk):(actDk S).n=S.n:=by unfold actDk offDk;split <;> (try split) <;> rfl
theorem actDk_go {S:Dk} (h:actE S=0):(actDk S).wait=S.wait/\(actDk S).sure=S.sure/\(actDk S).up=S.up:=by
 have h1:¬ (S.set=true/\S.left=0):=fun e=>by simp[actE,e] at h
 simp only[actDk,h1,if_false]
 split <;> exact⟨rfl,rfl,rfl⟩
theorem actE_is (S:Dk):actE S=0∨actE S=9:=by unfold actE;split;exact Or.inr rfl;exact Or.inl rfl
theorem writeDk_ok {S:Dk} (hS:S.Ok) (hd:S.downs<10000000000000) (ha:S.acts<10000000000000) (i:Int) (s:ByteArray):(writeDk S i s).Ok:=by
 unfold writeDk
 split
 ·exact hS
 ·rename_i hr
  split
  ·exact hS
  ·rename_i hz
   split
   ·exact actDk_ok hS hd ha
   ·rename_i he
    have h:=actDk_ok hS hd ha
    obtain⟨h1,h2,h3⟩:=actDk_go (S:=S) (by omega)
    refine⟨h.n1,h.n2,fun j c hj=>?_,h.l0,h.l1,h.k0,h.k1,h.a0,h.a1,h.d0,h.d1⟩
    by_cases e:j=i.toNat
    ·subst e
     simp only[upd_same,Option.some.injEq] at hj
     subst hj
     refine⟨?_,pad_size (by omega)⟩
     have hr':refAt S.up S.n i=0:=by omega
     simp only[refAt] at hr'
     split at hr'
     ·split at hr'
      ·cases hr'
      ·simp only[actDk_n];omega
     ·cases hr'
    ·simp only[upd_other _ _ e] at hj
     simp only[actDk_n]
     exact hS.wait j c hj
set_option maxHeartbeats 2000000 in
theorem Write_any (w:World) (h:DkIs w db lb mb m S) (hS:S.Ok) (hm:m<10000000000000) (i:Int) (s:ByteArray) (hs:s.size<=9223372036854775807):Calls Tryz.prog 111 #[.pointer (some ⟨db,0,none⟩),.int .i64 i,.string s] w fun e w' =>
  e=.returned (.int .i64 (writeE S i s))/\DkIs w' db lb mb (m+1) (writeDk S i s)/\Off (disk3 db lb mb) w w':=by
 have C:Hid (∀ w,DkIs w db lb mb m S->Calls Tryz.prog 83 #[.pointer (some ⟨db,0,none⟩),.int .i64 i] w fun e w'=>e=.returned (.int .i64 (refAt S.up S.n i))/\w'=w):=fun w h=>refusalAt_any w h hS.n1 i
 have CA:Hid (∀ w,DkIs w db lb mb m S->Calls Tryz.prog 113 #[.pointer (some ⟨db,0,none⟩)] w fun e w' =>
  e=.returned (.int .i64 (actE S))/\DkIs w' db lb mb m (actDk S)/\Off (disk3 db lb mb) w w'):=fun w h=>act_any w h hS (by omega)
 have H:Hid _:=h
 have hn1:=hS.n1
 have hn2:=hS.n2
 have hdb:=h.lt
 have hlb:=h.row.lt
 have hmb:=h.map.lt
 clear h
 by_cases hr:refAt S.up S.n i=0
 ·rw[hr] at C
  by_cases hz:64<s.size
  ·have hzI:(64:Int)<(s.size:Int):=by omega
   have e1:writeE S i s=3:=by simp[writeE,hr,hz]
   have e2:writeDk S i s=S:=by simp[writeDk,hr,hz]
   rw[e1,e2]
   go_enter Tryz.func111,Tryz.ntmps111
   go_wp2_with (go_at_call 83;refine(C.out _ H.out).mono ?_;rintro e w' ⟨rfl,rfl⟩)
   go_ret
   exact⟨rfl,H.out.mono (Nat.le_succ _),Off.refl _ _⟩
  ·have hzI:¬ (64:Int)<(s.size:Int):=by omega
   rcases actE_is S with ha |ha
   ·rw[ha] at CA
    have e1:writeE S i s=0:=by simp[writeE,hr,hz,ha]
    have e2:writeDk S i s={actDk S with wait:=upd S.wait i.toNat (some (pad s))}:=by simp[writeDk,hr,hz,ha]
    rw[e1,e2]
    have hcp:=fun w=>run_copy64 w s (by omega)
    obtain⟨j,hj,hjn⟩:∃ j:Nat,i=(j:Int)/\j<S.n:=by
     refine⟨i.toNat,?_,?_⟩ <;>
     ·simp only[refAt] at hr
      split at hr
      ·split at hr
       ·cases hr
       ·omega
      ·cases hr
    subst hj
    have hgo:=actDk_go ha
    have HG:Hid _:=hgo
    obtain⟨cs,hcs⟩:∃ cs,cs=secL (pad s):=⟨_,rfl⟩
    rw[← hcs] at hcp
    have HC:Hid _:=hcs
    have hcl:cs.length=64:=by rw[hcs,secL_length,pad_size (by omega)]
    have hinf:(Tryz.prog.info? 145).map (·.size)=some cs.length:=by rw[hcl];exact info64
    have HL:Hid _:=hcl
    clear hgo hcs hcl
    go_enter Tryz.func111,Tryz.ntmps111
    go_wp2_with (first |(go_at_call 83;refine(C.out _ H.out).mono ?_;rintro e w' ⟨rfl,rfl⟩) |(go_at_call 113;refine(CA.out _ H.out).mono ?_;rintro e w1 ⟨rfl,hD,ho⟩) |(refine wpList_alloc64 _ rfl rfl ?_))
    have d1:(w1.alloc (.cells cs.toArray 145)).drew.cell? ⟨db,1,none⟩=some (.map (some mb)):=(World.cell?_alloc_lt _ _ _ hD.lt).trans hD.c1
    have hbo:(w1.alloc (.cells cs.toArray 145)).heap[w1.heap.size]?=some (.cells cs.toArray 145):=(MapKept.heap_alloc w1 _).1
    have hra:(w1.alloc (.cells cs.toArray 145)).drew.rangeAt w1.heap.size 0 cs:=fun j v hv=>by
     rw[Joins.cell_of_block (w:=(w1.alloc (.cells cs.toArray 145)).drew) hbo];simpa using hv
    have hDa:DkIs (w1.alloc (.cells cs.toArray 145)).drew db lb mb m (actDk S):=(hD.below ((Below.refl _ _).alloc (Nat.le_refl _) _)).drew
    have hst:=hDa.map.store (i:=j) (by omega) hm (pad s)
    have e3:secV (pad s)=.agg cs.toArray:=by rw[secV,HC.out]
    rw[e3] at hst
    obtain⟨w3,hrun,hm3,ht⟩:=hst
    have hk3:w3.cell? ⟨db,1,none⟩=some (.map (some mb))/\w3.rangeAt w1.heap.size 0 cs:=by
     refine⟨(World.cell?_of_block (w:=(w1.alloc (.cells cs.toArray 145)).drew) (ht.grown.block db hDa.lt (fun e=>hDa.mdb (by cases e;rfl)))).trans d1,fun j v hv=>?_⟩
     have hne:w1.heap.size≠mb:=fun e=>by have:=hD.map.lt;omega
     rw[World.cell?_of_block (w:=(w1.alloc (.cells cs.toArray 145)).drew) (w':=w3) (ht.grown.block w1.heap.size (by simp) (fun e=>hne (by cases e;rfl)))]
     exact hra j v hv
    have HK:Hid _:=hk3
    have HD:Hid _:=hDa
    have HM:Hid _:=hm3
    have HT:Hid _:=ht
    have hrow:=row64
    clear hk3 hDa hm3 ht hbo
    go_region_held_law (fun w'=>w'.cell? ⟨db,1,none⟩=some (.map (some mb))/\w'.rangeAt w1.heap.size 0 cs) (first |exact⟨d1,hra⟩ |exact HK.out) (fail)
    go_wp2
    go_ret
    have hf:=HD.out.turned (by rw[actDk_n];exact hn1) HT.out HM.out
    rw[HG.out.1] at hf
    refine⟨rfl,by simpa using hf,?_⟩
    exact((ho.alloc _).drew).turned HT.out (fun _=>d3c _ _ _)
   ·rw[ha] at CA
    have e1:writeE S i s=9:=by simp[writeE,hr,hz,ha]
    have e2:writeDk S i s=actDk S:=by simp[writeDk,hr,hz,ha]
    rw[e1,e2]
    go_enter Tryz.func111,Tryz.ntmps111
    go_wp2_with (first |(go_at_call 83;refine(C.out _ H.out).mono ?_;rintro e w' ⟨rfl,rfl⟩) |(go_at_call 113;refine(CA.out _ H.out).mono ?_;rintro e w1 ⟨rfl,hD,ho⟩))
    go_ret
    exact⟨rfl,hD.mono (Nat.le_succ _),ho⟩
 ·have e1:writeE S i s=refAt S.up S.n i:=by simp[writeE,hr]
  have e2:writeDk S i s=S:=by simp[writeDk,hr]
  rw[e1,e2]
  obtain⟨x,hx⟩:∃ x,x=refAt S.up S.n i:=⟨_,rfl⟩
  rw[← hx] at C hr ⊢
  have hr':(x==0)=false:=by simpa using hr
  clear hx e1 e2
  go_enter Tryz.func111,Tryz.ntmps111
  go_wp2_with (go_at_call 83;refine(C.out _ H.out).mono ?_;rintro e w' ⟨rfl,rfl⟩)
  go_ret
  exact⟨rfl,H.out.mono (Nat.le_succ _),Off.refl _ _⟩
variable {w w':World}{db lb mb m:Nat}{S:Dk}
theorem wpList_store_newL {ops:Array Oper} {rest:List Oper} {o:Oper} {a:Act} {Q:Exit->Act->World->Prop} (w:World) (C:Array Value) (hg:o.guard=none) (x y:Operand) (hop:o.op=Op.store 145 x y)
  (hx:a.eval x=.pointer (some ⟨w.heap.size,0,none⟩)) (cs:List Value) (hy:a.eval y=.agg cs.toArray) (hc:cs.length=64) (h1:∀ v∈cs,v.oneCell'=true) (hC:C.size=64)
  (h:wpList Tryz.prog ops Q rest (a.put o.dst undef) (w.alloc (.cells cs.toArray 145))):wpList Tryz.prog ops Q (o ::rest) a (w.alloc (.cells C 145)):=by
 refine wpList_plain hg fun K' hK'=>?_
 have hs:cs.toArray.size=64:=by simp[hc]
 have hrun:=run_storeAt_new (P:=Tryz.prog) w 145 C cs.toArray (by rw[hs];exact info64) (by rw[hC,hs]) (all_oneCell_toArray h1)
 unfold Oper.wp
 simp[execOp,hop,hx,hy,hrun,Result.andThen]
 exact hK' _ _ h
theorem grownBy_setCells (w:World) (b o:Nat) (vs:List Value):w.grownBy (w.setCells b o vs) (some b):=by
 obtain⟨h1,h2,h3,h4,h5⟩:=setCells_facts b vs o w
 exact⟨h1,h2,h3,by rw[h4];exact Nat.le_refl _,fun k _ hk=>h5 k (fun e=>hk (by rw[e]))⟩
theorem grownBy_drew (w:World):w.grownBy w.drew none:=⟨rfl,rfl,rfl,Nat.le_refl _,fun _ _ _=>rfl⟩
theorem SecRow.congr {w:World} {lb n:Nat} {f g:Nat->ByteArray} (h:SecRow w lb n f) (hg:∀ i,i<n->f i=g i):SecRow w lb n g :=
 ⟨h.lt,fun i hi=>by rw[← hg i hi];exact h.at_ i hi,h.there,fun i hi=>by rw[← hg i hi];exact h.size i hi,h.ty⟩
theorem DkIs.congr (h:DkIs w db lb mb m S) {f:Nat->ByteArray} (hg:∀ i,i<S.n->S.sure i=f i):DkIs w db lb mb m {S with sure:=f}:=⟨h.blk,h.row.congr hg,h.map,h.ne⟩
def SyncV (S:Dk) (left:Lit->Bool) (f:Nat->ByteArray):Prop:=∀ i:Nat,f i=if left (.int .i64 (i:Int))=true then S.sure i else S.now i
theorem SyncV.start {D:DataW Unit} (hv:MapV D S.wait):SyncV S (Maps.has D) S.sure:=fun i=>by
 rw[hv.has]
 cases hw:S.wait i <;> simp[Dk.now,hw]
theorem SyncV.step {left:Lit->Bool} {f:Nat->ByteArray} (h:SyncV S left f) {i:Nat} {c:ByteArray} (hc:S.wait i=some c):SyncV S (fun z=>left z&&!z.sameKey (.int .i64 (i:Int))) (upd f i c):=fun j=>by
 by_cases e:j=i
 ·subst e;simp[upd_same,Dk.now,hc,Lit.sameKey]
 ·have:¬ ((j:Int)=(i:Int)):=by omega
  rw[upd_other _ _ e,h j];simp[Lit.sameKey,this]
def syncE (S:Dk):Int:=if S.up then actE S else 9
def syncDk (S:Dk):Dk:=if S.up then(if actE S=0 then {actDk S with sure:=S.now,wait:=fun _=>none} else actDk S) else S
theorem syncDk_ok {S:Dk} (hS:S.Ok) (hd:S.downs<10000000000000) (ha:S.acts<10000000000000):(syncDk S).Ok:=by
 have h:=actDk_ok hS hd ha
 unfold syncDk
 split
 ·split
  ·exact⟨h.n1,h.n2,fun i c h=>(by cases h),h.l0,h.l1,h.k0,h.k1,h.a0,h.a1,h.d0,h.d1⟩
  ·exact h
 ·exact hS
set_option maxHeartbeats 2000000 in
theorem Sync_any (w:World) (h:DkIs w db lb mb m S) (hS:S.Ok) (hm:m<=10000000000000):Calls Tryz.prog 92 #[.pointer (some ⟨db,0,none⟩)] w fun e w' =>
  e=.returned (.int .i64 (syncE S))/\DkIs w' db lb mb m (syncDk S)/\Off (disk3 db lb mb) w w':=by
 have C:Hid (∀ w,DkIs w db lb mb m S->Calls Tryz.prog 107 #[.pointer (some ⟨db,0,none⟩)] w fun e w'=>e=.returned (.int .i64 (refI S.up))/\w'=w):=fun w h=>refusal_any w h hS.n1
 have CA:Hid (∀ w,DkIs w db lb mb m S->Calls Tryz.prog 113 #[.pointer (some ⟨db,0,none⟩)] w fun e w' =>
  e=.returned (.int .i64 (actE S))/\DkIs w' db lb mb m (actDk S)/\Off (disk3 db lb mb) w w'):=fun w h=>act_any w h hS hm
 have H:Hid _:=h
 have hn1:=hS.n1
 have hn2:=hS.n2
 clear h
 cases hu:S.up
 ·have e0:refI false=9:=rfl
  rw[hu,e0] at C
  have e1:syncE S=9:=by simp[syncE,hu]
  have e2:syncDk S=S:=by simp[syncDk,hu]
  rw[e1,e2]
  go_enter Tryz.func92,Tryz.ntmps92
  go_wp2_with (go_at_call 107;refine(C.out _ H.out).mono ?_;rintro e w' ⟨rfl,rfl⟩)
  go_ret
  exact⟨rfl,H.out,Off.refl _ _⟩
 have e0:refI true=0:=rfl
 rw[hu,e0] at C
 rcases actE_is S with ha |ha
 ·have e1:syncE S=0:=by simp[syncE,hu,ha]
  have e2:syncDk S={actDk S with sure:=S.now,wait:=fun _=>none}:=by simp[syncDk,hu,ha]
  rw[e1,e2]
  rw[ha] at CA
  obtain⟨g1,g2,g3⟩:=actDk_go ha
  have g4:=actDk_n S
  obtain⟨S1,hS1⟩:∃ S1,S1=actDk S:=⟨_,rfl⟩
  rw[← hS1] at CA g1 g2 g3 g4 ⊢
  have HS:Hid _:=g1
  have HS2:Hid _:=g2
  have HS4:Hid _:=g4
  clear g1 g2 g3 g4 hS1 e1 e2
  go_enter Tryz.func92,Tryz.ntmps92
  go_wp2_with (first |(go_at_call 107;refine(C.out _ H.out).mono ?_;rintro e w' ⟨rfl,rfl⟩) |(go_at_call 113;refine(CA.out _ H.out).mono ?_;rintro e w1 ⟨rfl,hD,ho⟩;have hc1:=hD.c1;have hDm:MapIs w1 mb m S.wait:=(by rw[← HS.out];exact hD.map);obtain⟨D,hown,hv⟩:=hDm) |(at_range;refine wpList_range_own _ rfl _ 69 rfl 3 145 law3 Tryz.underlying69 _ mb m _ rfl hown ?_;intro w0 hrg0 hg0 hs0))
  go_frame
  go_loopw [5] (fun _ wr=>∃ (left:Lit->Bool) (cnt:Nat) (f:Nat->ByteArray),wr.ranges Tryz.prog 3 secR mb w1.heap.size m D left cnt/\Hid (SyncV S left f)/\DkIs wr db lb mb m {S1 with sure:=f}/\Off (disk3 db lb mb) w1 wr)
   (fun _ wr=>wr.rangeLeft mb w1.heap.size)
  case atStart =>
   refine⟨_,_,S.sure,hrg0,SyncV.start hv,?_,(Off.refl _ _).grown hg0 (fun k e=>by cases e)⟩
   have e:{S1 with sure:=S.sure}=S1:=by rw[← HS2.out]
   rw[e]
   exact hD.off (B:=fun _=>False) ((Off.refl _ _).grown hg0 (fun k e=>by cases e)) (fun h=>h) (fun h=>h) (fun h=>h)
  case round =>
   obtain⟨left,cnt,f,hrg,hY,hDr,hoff⟩:=hrel
   go_wp2_with (first
    | (at_next;refine wpList_next_ranges _ rfl _ rfl 3 law3 secR (Value.int .i64) (fun cs:List Value=>Value.agg cs.toArray) (fun key kl hk=>by obtain⟨x,hx,_⟩:=Maps.keyOf_int_inv Tryz.underlying3 hk;exact⟨x,hx⟩) (fun v y hv=>by obtain⟨cs,rfl⟩:=secR_agg hv;exact⟨cs.toList,by simp⟩) mb w1.heap.size m _ _ _ rfl hrg ?_ ?_))
   ·intro hc0 hl0
    obtain⟨w2,hrun,hm2,ht⟩:=hDr.map.clear
    have hD2:=hDr.turned (by simp only[HS4.out];exact hn1) ht hm2
    have d1:=hDr.c1
    have HD:Hid _:=hD2
    have HT:Hid _:=ht
    have HF:Hid (∀ i,f i=S.now i):=fun i=>by have:=hY.out i;rw[hl0] at this;simpa using this
    clear hD2 ht hm2
    go_wp2
    go_ret
    exact⟨rfl,(HD.out.mono (Nat.zero_le _)).congr (f:=S.now) (fun i _=>HF.out i),(ho.trans hoff).turned HT.out (fun _=>d3c _ _ _)⟩
   ·intro x cs kl yd yp w2 cnt2 hkey hlk hv2 hat hrg2 hlt hg2 hs2 hen
    obtain⟨x',ex,rfl,_⟩:=Maps.keyOf_int_inv Tryz.underlying3 hkey
    cases ex
    obtain⟨i,hix⟩:=hv.keys _ (has_true_of_atKey hat)
    have hxi:x=(i:Int):=by simpa using hix
    subst hxi
    have hwi:(S.wait i).isSome=true:=by rw[← hv.has];exact has_true_of_atKey hat
    obtain⟨c,hc⟩:=Option.isSome_iff_exists.1 hwi
    have hin:=hS.wait i c hc
    have hcs:cs=secL c:=by
     have h1:=hv.at_ i c hc (.lit (.bool false))
     rw[hat] at h1
     rw[h1] at hv2
     have:=secR_inv hv2
     simpa[secV] using this
    have hcl:cs.length=64:=by rw[hcs,secL_length,hin.2]
    have hone:∀ v∈cs,v.oneCell'=true:=by rw[hcs];exact secL_one c
    have hD2:DkIs w2 db lb mb m {S1 with sure:=f}:=hDr.off (B:=fun k=>k=w1.heap.size) ((Off.refl _ _).grown hg2 (fun k e _=>by cases e;rfl)) (fun e=>by have:=hD.lt;omega) (fun e=>by have:=hD.row.lt;omega) (fun e=>by have:=hD.map.lt;omega)
    have hDl:=hD.lt
    have hDb:=hD.row.lt
    have hDm:=hD.map.lt
    have h12:=hoff.size
    have hmne:mb≠lb:=hDr.mlb (by simp only[HS4.out];exact hn1)
    have hoff2:Off (disk3 db lb mb) w1 w2:=hoff.grown hg2 (fun k e hk=>by cases e;omega)
    have HC:Hid _:=hcs
    have HL:Hid _:=hcl
    have HS3:Hid _:=hs2
    clear hs2 hcs hwi hv2 hat hix hkey
    go_wp2_with (first |(refine wpList_alloc64 _ rfl rfl ?_) |(refine wpList_store_newL _ _ rfl _ _ rfl rfl cs rfl HL.out hone zsz ?_))
    have hDa:DkIs (w2.alloc (.cells cs.toArray 145)).drew db lb mb m {S1 with sure:=f}:=(hD2.below ((Below.refl _ _).alloc (Nat.le_refl _) _)).drew
    have d0:=hDa.c0
    have hbo:(w2.alloc (.cells cs.toArray 145)).drew.heap[w2.heap.size]?=some (.cells cs.toArray 145):=(MapKept.heap_alloc w2 _).1
    have hra:(w2.alloc (.cells cs.toArray 145)).drew.rangeAt w2.heap.size 0 cs:=fun j v hv=>by
     rw[Joins.cell_of_block hbo];simpa using hv
    have hlbx:lb<w2.heap.size:=hD2.row.lt
    have hth:(w2.alloc (.cells cs.toArray 145)).drew.there lb (i*64) cs.toArray.size:=by simp only[List.size_toArray,hcl];exact hDa.row.there i (by simp only[HS4.out];exact hin.1)
    have hinf:(Tryz.prog.info? 145).map (·.size)=some cs.toArray.size:=by simp only[List.size_toArray,hcl];exact info64
    have hinf2:(Tryz.prog.info? 145).map (·.size)=some cs.length:=by rw[hcl];exact info64
    have hrow:=row64
    have hn64:S1.n=S.n:=HS4.out
    rw[show({S1 with sure:=f}:Dk).n=S.n from hn64] at d0
    have hiI:(i:Int)<(S.n:Int):=by have:=hin.1;omega
    have hi64:i<S.n:=hin.1
    have HK:Hid (((w2.alloc (.cells cs.toArray 145)).drew.setCells lb (i*64) cs).cell? ⟨db,0,none⟩=some (.slice (some ⟨lb,0,none⟩) S.n S.n)/\((w2.alloc (.cells cs.toArray 145)).drew.setCells lb (i*64) cs).rangeAt w2.heap.size 0 cs):=by
     show _/\_
     have h5:=(setCells_facts lb cs (i*64) (w2.alloc (.cells cs.toArray 145)).drew).2.2.2.2
     exact⟨(World.cell?_of_block (h5 db hD.ne)).trans d0,World.rangeAt_setCells_apart hra _ _ _ (Or.inl (by omega))⟩
    have HD:Hid _:=hDa
    have HRG:Hid (w2.ranges Tryz.prog 3 secR mb w1.heap.size m D (fun z=>left z&&!z.sameKey (.int .i64 (i:Int))) cnt2):=hrg2
    clear hDa hcl hbo hn64 hrg2
    go_region_held_law (fun w'=>w'.cell? ⟨db,0,none⟩=some (.slice (some ⟨lb,0,none⟩) S.n S.n)/\w'.rangeAt w2.heap.size 0 cs) (first |exact⟨d0,hra⟩ |exact HK.out) (fail)
    have hne1:w1.heap.size≠lb:=by omega
    have hrg3:=((HRG.out.alloc (.cells cs.toArray 145)).kept (grownBy_drew _) (by simp) (by simp)).kept (grownBy_setCells _ lb (i*64) cs) (fun e=>hmne (by cases e;rfl)) (fun e=>hne1 (by cases e;rfl))
    go_wp2
    refine⟨⟨_,cnt2,upd f i c,hrg3,hY.out.step hc,?_,((hoff2.alloc _).drew).setCells (d3b _ _ _) _ _⟩,by rw[hrg3.left_eq,hrg.left_eq];exact hlt⟩
    have:=HD.out.rowput (by simp only[HS4.out];exact hn1) (i:=i) (by simp only[HS4.out];exact hin.1) hin.2
    rw[← HC.out] at this
    exact this
 ·have e1:syncE S=9:=by simp[syncE,hu,ha]
  have e2:syncDk S=actDk S:=by simp[syncDk,hu,ha]
  rw[e1,e2]
  rw[ha] at CA
  go_enter Tryz.func92,Tryz.ntmps92
  go_wp2_with (first |(go_at_call 107;refine(C.out _ H.out).mono ?_;rintro e w' ⟨rfl,rfl⟩) |(go_at_call 113;refine(CA.out _ H.out).mono ?_;rintro e w1 ⟨rfl,hD,ho⟩))
  go_ret
  exact⟨rfl,hD,ho⟩
variable {w w':World}{db lb mb m:Nat}{S:Dk}
def wrDk (S:Dk) (i:Nat) (s:ByteArray):Dk:={S with acts:=S.acts+1,wait:=upd S.wait i (some (pad s))}
structure G (k:Int) (u:Bool) (S:Dk):Prop where
 ok:S.Ok
 up:S.up=u
 set:S.set=false
 acts:S.acts<=k
 downs:S.downs<=k
def tA:ByteArray:=⟨#[97]⟩
def upOff (S:Dk) (x:Int):Dk:={offDk S x with up:=true}
theorem n3:(upOff (wrDk (newDk 2) 0 tA) 0).now 0=pad ⟨#[]⟩:=by
 simp[Dk.now,upOff,offDk,lossF,wrDk,upd_same,bitK,newDk,pad];rfl
open Go.RowKit Go.Maps Go.ChangeMaps
section
variable {S:Dk}
structure Dq (k:Nat) (S:Dk):Prop where
 ok:S.Ok
 acts:S.acts<=(k:Int)
 downs:S.downs<=(k:Int)
theorem Dq.mono {k k':Nat} (h:Dq k S) (hk:k<=k'):Dq k' S:=⟨h.ok,by have:=h.acts;omega,by have:=h.downs;omega⟩
theorem actDk_counts (S:Dk):(actDk S).acts<=S.acts+1/\(actDk S).downs<=S.downs+1:=by
 unfold actDk offDk;split
 ·exact⟨by dsimp only;omega,Int.le_refl _⟩
 ·split
  ·exact⟨Int.le_refl _,by dsimp only;omega⟩
  ·exact⟨Int.le_refl _,by dsimp only;omega⟩
theorem writeDk_counts (S:Dk) (i:Int) (s:ByteArray):(writeDk S i s).acts<=S.acts+1/\(writeDk S i s).downs<=S.downs+1:=by
 have:=actDk_counts S
 unfold writeDk
 split
 ·exact⟨by omega,by omega⟩
 ·split
  ·exact⟨by omega,by omega⟩
  ·split
   ·exact this
   ·exact this
theorem Dq.write {k:Nat} (h:Dq k S) (hk:k<=1000000000000) (i:Int) (s:ByteArray):Dq (k+1) (writeDk S i s):=by
 have h1:=writeDk_counts S i s
 have:=h.acts
 have:=h.downs
 exact⟨writeDk_ok h.ok (by omega) (by omega) i s,by omega,by omega⟩
theorem syncDk_counts (S:Dk):(syncDk S).acts<=S.acts+1/\(syncDk S).downs<=S.downs+1:=by
 have:=actDk_counts S
 unfold syncDk
 split
 ·split
  ·exact this
  ·exact this
 ·exact⟨by omega,by omega⟩
theorem Dq.sync {k:Nat} (h:Dq k S) (hk:k<=1000000000000):Dq (k+1) (syncDk S):=by
 have h1:=syncDk_counts S
 have:=h.acts
 have:=h.downs
 exact⟨syncDk_ok h.ok (by omega) (by omega),by omega,by omega⟩
theorem Dq.new {n:Nat} (h1:1<=n) (h2:n<=8192):Dq 0 (newDk n):=⟨newDk_ok h1 h2,Int.le_refl _,Int.le_refl _⟩
theorem writeDk_n (S:Dk) (i:Int) (s:ByteArray):(writeDk S i s).n=S.n:=by
 unfold writeDk
 split
 ·rfl
 ·split
  ·rfl
  ·split
   ·exact actDk_n S
   ·exact actDk_n S
theorem syncDk_n (S:Dk):(syncDk S).n=S.n:=by
 unfold syncDk
 split
 ·split
  ·exact actDk_n S
  ·exact actDk_n S
 ·rfl
end
section
variable {S:Dk}{R:Nat->ByteArray->Prop}
structure AllR (R:Nat->ByteArray->Prop) (S:Dk):Prop where
 sure:∀ i,R i (S.sure i)
 wait:∀ i c,S.wait i=some c->R i c
theorem AllR.now (h:AllR R S) (i:Nat):R i (S.now i):=by
 unfold Dk.now
 cases hw:S.wait i with
 | none=>exact h.sure i
 | some c=>exact h.wait i c hw
theorem AllR.off (h:AllR R S) (x:Int):AllR R (offDk S x):=by
 refine⟨fun i=>?_,fun i c hc=>by cases hc⟩
 show R i (lossF S.sure S.wait x i)
 unfold lossF
 cases hw:S.wait i with
 | none=>exact h.sure i
 | some c =>
  dsimp only
  split
  ·exact h.wait i c hw
  ·exact h.sure i
theorem AllR.act (h:AllR R S):AllR R (actDk S):=by
 unfold actDk
 split
 ·exact h.off _
 ·split
  ·exact⟨h.sure,h.wait⟩
  ·exact⟨h.sure,h.wait⟩
theorem AllR.write (h:AllR R S) (i:Nat) (s:ByteArray) (hR:R i (pad s)):AllR R (writeDk S (i:Int) s):=by
 unfold writeDk
 split
 ·exact h
 ·split
  ·exact h
  ·split
   ·exact h.act
   ·rename_i h1 h2 h3
    refine⟨h.act.sure,fun j c hc=>?_⟩
    have hc':upd S.wait (i:Int).toNat (some (pad s)) j=some c:=hc
    rw[Int.toNat_natCast] at hc'
    by_cases e:j=i
    ·subst e
     rw[upd_same] at hc'
     cases hc'
     exact hR
    ·rw[upd_other _ _ e] at hc'
     exact h.wait j c hc'
theorem AllR.sync (h:AllR R S):AllR R (syncDk S):=by
 unfold syncDk
 split
 ·split
  ·exact⟨fun i=>h.now i,fun i c hc=>by cases hc⟩
  ·exact h.act
 ·exact h
end
structure PrSet where
 p:Nat->Option Obj
section
variable [Inhabited PrSet]
def isP (k:Nat):Prop:=(default:PrSet).p k≠none
def np (k:Nat):Prop:=¬ isP k
def Ltp (w:World):Prop:=∀ k o,(default:PrSet).p k=some o->w.heap[k]?=some o
structure Ow (B k:Nat):Prop where
 ge:B<=k
 np:np k
def npv (v:Value):Prop:=∀ g,v.ownBlock=some g->np g
theorem Ltp.new {w:World} (h:Ltp w) {k:Nat} (hk:w.heap.size<=k):np k:=fun e=>by
 cases e2:(default:PrSet).p k with
 | none=>exact e e2
 | some o=>have:=(Array.getElem?_eq_some_iff.1 (h k o e2)).1;omega
theorem Ltp.below {w w':World} (h:Ltp w) (hb:Below w.heap.size w w'):Ltp w':=fun k o e=>(hb.block k (Array.getElem?_eq_some_iff.1 (h k o e)).1).trans (h k o e)
theorem isP_of {k:Nat} {o:Obj} (e:(default:PrSet).p k=some o):isP k:=fun e2=>by rw[e] at e2;cases e2
theorem Ltp.ow {w:World} (h:Ltp w) {k B:Nat} (hB:B<=w.heap.size) (hk:w.heap.size<=k):Ow B k:=⟨Nat.le_trans hB hk,h.new hk⟩
theorem npv.nil:npv (.slice none 0 0):=fun g e=>by cases e
theorem npv.of {w:World} {v v':Value} (h:npv v) (hl:Ltp w) (ho:v'.ownBlock=v.ownBlock∨v'.ownBlock=some w.heap.size∨v'.ownBlock=none):npv v':=fun g e=>by
 rcases ho with e2 |e2 |e2
 ·exact h g (e2 ▸ e)
 ·rw[e2] at e;cases e;exact hl.new (Nat.le_refl _)
 ·rw[e2] at e;cases e
end
def isD:Obj->Prop
 | .cells _ t _=>t=74∨t=145
 | .map _ _=>True
 | _=>False
def isL:Obj->Prop
 | .cells _ t _=>t=3∨t=5∨t=80
 | _=>False
def isA (o:Obj):Prop:=isD o∨isL o
structure Kp [Inhabited PrSet] (A:Obj->Prop) (B:Nat) (w w':World):Prop where
 bel:Below B w w'
 block:∀ (k:Nat) (o:Obj),w.heap[k]?=some o->¬ A o->w'.heap[k]?=some o
 prot:∀ (k:Nat) (o:Obj),w.heap[k]?=some o->isP k->w'.heap[k]?=some o
section
variable [Inhabited PrSet]{A A':Obj->Prop}{B:Nat}{w w' w1 w2:World}
theorem Kp.refl (A:Obj->Prop) (B:Nat) (w:World):Kp A B w w:=⟨Below.refl _ _,fun _ _ h _=>h,fun _ _ h _=>h⟩
theorem Kp.trans (h:Kp A B w w1) (k:Kp A B w1 w2):Kp A B w w2:=⟨h.bel.trans k.bel,fun j o h1 h2=>k.block j o (h.block j o h1 h2) h2,fun j o h1 h2=>k.prot j o (h.prot j o h1 h2) h2⟩
theorem Kp.mono (h:Kp A B w w1) (hA:∀ o,A o->A' o):Kp A' B w w1:=⟨h.bel,fun j o h1 h2=>h.block j o h1 (fun e=>h2 (hA o e)),h.prot⟩
theorem Kp.drew (A:Obj->Prop) (B:Nat) (w:World):Kp A B w w.drew:=⟨(Below.refl B w).drew,fun k o e _=>e,fun k o e _=>e⟩
theorem Kp.one {b:Nat} {ob:Obj} (hb:w.heap[b]?=some ob) (hA:A ob) (hbl:Below B w w') (hn:np b) (ho:∀ k o,w.heap[k]?=some o->k≠b->w'.heap[k]?=some o):Kp A B w w':=⟨hbl,fun k o e h=>by
  by_cases hk:k=b
  ·subst hk;rw[hb] at e;cases e;exact absurd hA h
  ·exact ho k o e hk,fun k o e h=>ho k o e (fun e2=>by subst e2;exact hn h)⟩
theorem Kp.cell {b i:Nat} {cs:Array Value} {t:TypeId} {fr:Nat × Nat} {u:Value} (hb:w.heap[b]?=some (.cells cs t fr)) (hA:A (.cells cs t fr)) (hB:Ow B b):Kp A B w (w.setCell ⟨b,i,none⟩ u) :=
 Kp.one hb hA ((Below.refl B w).setCell (p:=⟨b,i,none⟩) hB.ge _) hB.np (fun k o e hk=>by rw[Below.heap_setCell _ _ _ _ hk];exact e)
theorem Kp.d (h:Kp isD B w w1):Kp isA B w w1:=h.mono (fun _=>Or.inl)
theorem Kp.l (h:Kp isL B w w1):Kp isA B w w1:=h.mono (fun _=>Or.inr)
theorem Kp.of_below (h:Below w.heap.size w w') (hB:B<=w.heap.size):Kp A B w w':=⟨h.mono hB,fun j o h1 _=>(h.block j (Array.getElem?_eq_some_iff.1 h1).1).trans h1,fun j o h1 _=>(h.block j (Array.getElem?_eq_some_iff.1 h1).1).trans h1⟩
theorem Kp.below (h:Kp A B w w1) (k:Below w1.heap.size w1 w2) (hB:B<=w.heap.size):Kp A B w w2:=h.trans (Kp.of_below k (Nat.le_trans hB h.bel.size))
theorem Ltp.kp (h:Ltp w) (hk:Kp A B w w'):Ltp w':=fun k o e=>hk.prot k o (h k o e) (isP_of e)
theorem Kp.size (h:Kp A B w w1):w.heap.size<=w1.heap.size:=h.bel.size
end
section
variable {w w' w1 w2:World}
structure Ce (w w':World):Prop where
 size:w.heap.size<=w'.heap.size
 cell:∀ p:Addr,p.block<w.heap.size->w'.cell? p=w.cell? p
theorem Ce.of_below (h:Below w.heap.size w w'):Ce w w':=⟨h.size,fun p hp=>World.cell?_of_block (h.block _ hp)⟩
theorem Ce.trans (h:Ce w w1) (k:Ce w1 w2):Ce w w2:=⟨Nat.le_trans h.size k.size,fun p hp=>(k.cell p (Nat.lt_of_lt_of_le hp h.size)).trans (h.cell p hp)⟩
theorem Ce.freeze (w:World) (g n:Nat):Ce w (w.freeze ⟨g,0,none⟩ n):=by
 unfold World.freeze
 split
 ·exact⟨Nat.le_refl _,fun _ _=>rfl⟩
 ·refine⟨by simp,fun p hp=>?_⟩
  obtain⟨b,o,sp⟩:=p
  unfold World.cell?
  by_cases hb:g=b
  ·subst hb
   simp only[Array.getElem?_modify,if_pos]
   cases hh:w.heap[g]? with
   | none=>rfl
   | some ob =>
    cases ob <;> rfl
  ·simp only[Array.getElem?_modify,if_neg hb]
theorem lt_of_some {w:World} {k:Nat} {o:Obj} (h:w.heap[k]?=some o):k<w.heap.size:=(Array.getElem?_eq_some_iff.1 h).1
end
section
variable {w:World}{mb m:Nat}
theorem MapIs.is {f:Nat->Option ByteArray} (h:MapIs w mb m f):∃ es c,w.heap[mb]?=some (.map es c):=by
 obtain⟨D,h,_⟩:=h
 obtain⟨es,c,e,_⟩:=h
 exact⟨es,c,e⟩
end
section
variable [Inhabited PrSet]{B:Nat}{w w':World}{db lb mb m k:Nat}{S:Dk}
theorem DkIs.kp (h:DkIs w db lb mb m S) (ho:Off (disk3 db lb mb) w w') (h1:Ow B db) (h2:Ow B lb) (h3:Ow B mb) (hB:B<=w.heap.size):Kp isD B w w':=by
 refine⟨ho.below (fun j hj=>by rcases hj with rfl |rfl |rfl <;> first |exact h1.ge |exact h2.ge |exact h3.ge) hB,fun j o e hn=>?_,fun j o e hn=>(ho.block j (lt_of_some e) (by rintro(rfl |rfl |rfl) <;> first |exact h1.np hn |exact h2.np hn |exact h3.np hn)).trans e⟩
 refine(ho.block j (lt_of_some e) ?_).trans e
 rintro(rfl |rfl |rfl)
 ·rw[h.blk] at e;cases e;exact hn (Or.inl rfl)
 ·obtain⟨cur,fz,e2⟩:=h.row.ty
  rw[e2] at e;cases e;exact hn (Or.inr rfl)
 ·obtain⟨es,c,e2⟩:=h.map.is
  rw[e2] at e;cases e;exact hn trivial
theorem DkIs.kept (h:DkIs w db lb mb m S) (ho:Kp isL B w w'):DkIs w' db lb mb m S:=by
 have e1:w'.heap[lb]?=w.heap[lb]?:=by
  obtain⟨cur,fz,e2⟩:=h.row.ty
  rw[e2];exact ho.block _ _ e2 (by simp[isL])
 have e3:w'.heap[mb]?=w.heap[mb]?:=by
  obtain⟨es,c,e2⟩:=h.map.is
  rw[e2];exact ho.block _ _ e2 (by simp[isL])
 exact⟨ho.block _ _ h.blk (by simp[isL]),h.row.of_block e1 ho.size,h.map.of_block e3,h.ne⟩
structure Ds [Inhabited PrSet] (B:Nat) (w:World) (db k:Nat) (S:Dk):Prop where
 dsk:∃ lb mb m,DkIs w db lb mb m S/\m<=k/\Ow B lb/\Ow B mb
 q:Dq k S
 hd:Ow B db
 lt:B<=w.heap.size
 lp:Ltp w
theorem Ds.below (h:Ds B w db k S) (hb:Below w.heap.size w w'):Ds B w' db k S:=by
 obtain⟨lb,mb,m,h1,h2,h3,h4⟩:=h.dsk
 exact⟨⟨lb,mb,m,h1.below hb,h2,h3,h4⟩,h.q,h.hd,Nat.le_trans h.lt hb.size,h.lp.below hb⟩
theorem Ds.kept (h:Ds B w db k S) {B':Nat} (hb:Kp isL B' w w'):Ds B w' db k S:=by
 obtain⟨lb,mb,m,h1,h2,h3,h4⟩:=h.dsk
 exact⟨⟨lb,mb,m,h1.kept hb,h2,h3,h4⟩,h.q,h.hd,Nat.le_trans h.lt hb.size,h.lp.kp hb⟩
theorem Ds.mono {k':Nat} (h:Ds B w db k S) (hk:k<=k'):Ds B w db k' S:=by
 obtain⟨lb,mb,m,h1,h2,h3,h4⟩:=h.dsk
 exact⟨⟨lb,mb,m,h1,by omega,h3,h4⟩,h.q.mono hk,h.hd,h.lt,h.lp⟩
theorem Ds.turn {m' k':Nat} {S':Dk} (h:Ds B w db k S) (h1:DkIs w db lb mb m S) (h3:Ow B lb) (h4:Ow B mb) (ho:Off (disk3 db lb mb) w w') (hd:DkIs w' db lb mb m' S') (hm:m'<=k') (hq:Dq k' S'):Ds B w' db k' S'/\Kp isD B w w' :=
 ⟨⟨⟨lb,mb,m',hd,hm,h3,h4⟩,hq,h.hd,Nat.le_trans h.lt ho.size,h.lp.kp (h1.kp ho h.hd h3 h4 h.lt)⟩,h1.kp ho h.hd h3 h4 h.lt⟩
theorem Ds.write (h:Ds B w db k S) (hk:k<=1000000000000) (i:Int) (s:ByteArray) (hs:s.size<=9223372036854775807):Calls Tryz.prog 111 #[.pointer (some ⟨db,0,none⟩),.int .i64 i,.string s] w fun e w' =>
  e=.returned (.int .i64 (writeE S i s))/\Ds B w' db (k+1) (writeDk S i s)/\Kp isD B w w':=by
 obtain⟨lb,mb,m,h1,h2,h3,h4⟩:=h.dsk
 refine(Write_any w h1 h.q.ok (by omega) i s hs).mono ?_
 rintro e w' ⟨rfl,d,o⟩
 exact⟨rfl,h.turn h1 h3 h4 o d (by omega) (h.q.write hk i s)⟩
theorem Ds.sync (h:Ds B w db k S) (hk:k<=1000000000000):Calls Tryz.prog 92 #[.pointer (some ⟨db,0,none⟩)] w fun e w' =>
  e=.returned (.int .i64 (syncE S))/\Ds B w' db (k+1) (syncDk S)/\Kp isD B w w':=by
 obtain⟨lb,mb,m,h1,h2,h3,h4⟩:=h.dsk
 refine(Sync_any w h1 h.q.ok (by omega)).mono ?_
 rintro e w' ⟨rfl,d,o⟩
 exact⟨rfl,h.turn h1 h3 h4 o d (by omega) (h.q.sync hk)⟩
theorem Ds.read (h:Ds B w db k S) (hu:S.up=true) (i:Nat) (hi:i<S.n):Calls Tryz.prog 57 #[.pointer (some ⟨db,0,none⟩),.int .i64 (i:Int)] w fun e w' =>
  e=.returned (.tuple #[.string (S.now i),.int .i64 0])/\Below w.heap.size w w':=by
 obtain⟨lb,mb,m,h1,h2,h3,h4⟩:=h.dsk
 exact Read_any w h1 h.q.ok i hi hu
theorem Ds.size (h:Ds B w db k S):Calls Tryz.prog 28 #[.pointer (some ⟨db,0,none⟩)] w fun e w'=>e=.returned (.int .i64 S.n)/\w'=w:=by
 obtain⟨lb,mb,m,h1,h2,h3,h4⟩:=h.dsk
 exact Size_any w h1 h.q.ok.n1
theorem Ds.new (n:Nat) (h1:1<=n) (h2:n<=8192) (w:World) (hp:Ltp w):Calls Tryz.prog 7 #[.int .i64 (n:Int)] w fun e w'=>e=.returned (.tuple #[.pointer (some ⟨w.heap.size+2,0,none⟩),.int .i64 0])/\Ds w.heap.size w' (w.heap.size+2) 0 (newDk n)/\Below w.heap.size w w':=by
 refine(New_any n h1 h2 w).mono ?_
 rintro e w' ⟨rfl,d,b⟩
 exact⟨rfl,⟨⟨_,_,_,d,Nat.le_refl _,hp.ow (Nat.le_refl _) (Nat.le_refl _),hp.ow (Nat.le_refl _) (by omega)⟩,Dq.new h1 h2,hp.ow (Nat.le_refl _) (by omega),b.size,hp.below b⟩,b⟩
end
end Go.Proofs.YtjlhohljkedbbaaGreat
