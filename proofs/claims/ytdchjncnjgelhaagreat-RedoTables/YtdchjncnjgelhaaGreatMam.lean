import Derived.Test.YtdchjncnjgelhaaGreatMai
import Derived.Test.YtdchjncnjgelhaaGreatMal
import Derived.Deep.RegionHeld3
set_option linter.unusedVariables false
set_option linter.unusedSimpArgs false
set_option maxRecDepth 100000
namespace Go.Proofs.YtdchjncnjgelhaaGreat
open Go.RowKit Go.Maps Go.ChangeMaps
structure Lr where
 db:Nat
 base:Int
 secs:Int
 run:Int
 T:ByteArray
 ps:List Int
 dur:Int
 dead:Bool
def Lr.A (R:Lr) (l:Nat) (p v pv:Value):Array Value :=
 #[.pointer (some ⟨l,0,none⟩),.pointer (some ⟨R.db,0,none⟩),.int .i64 R.base,.int .i64 R.secs,.int .i64 R.run,p,v,pv,.int .i64 R.dur,.bool R.dead]
structure LrIs [Inhabited PrSet] (B:Nat) (w:World) (l:Nat) (R:Lr):Prop where
 ex:∃ p v pv,w.heap[l]?=some (.cells (R.A l p v pv) 87 (0,0))/\(p=.pointer none∨p=.pointer (some ⟨l,5,none⟩))/\w.ownsRowF B 5 1 v R.T.size (Lib.strCells R.T)/\OwnI B w pv R.ps/\npv v/\npv pv
 ge:Ow B l
 le:B<=w.heap.size
 lp:Ltp w
section
variable {B:Nat}{w w':World}
theorem OwnI.of_block {v:Value} {ps:List Int} (h:OwnI B w v ps) (hb:∀ (k:Nat) (cur:Array Value) (fz:Nat × Nat),w.heap[k]?=some (Obj.cells cur 3 fz)->w'.heap[k]?=some (Obj.cells cur 3 fz)):OwnI B w' v ps:=by
 obtain⟨h1,h2⟩:=h.row
 refine⟨h1,?_⟩
 rcases h2 with h2 |⟨g,cap,cur,e,hB,hg,h3⟩
 ·exact Or.inl h2
 ·exact Or.inr ⟨g,cap,cur,e,hB,hb _ _ _ hg,h3⟩
end
section
variable [Inhabited PrSet]{B l:Nat}{w w':World}{R:Lr}
theorem LrIs.c0 (h:LrIs B w l R):w.cell? ⟨l,0,none⟩=some (.pointer (some ⟨l,0,none⟩)):=by obtain⟨p,v,pv,hb,_⟩:=h.ex;rw[Lib.cell_of_heap hb];rfl
theorem LrIs.c1 (h:LrIs B w l R):w.cell? ⟨l,1,none⟩=some (.pointer (some ⟨R.db,0,none⟩)):=by obtain⟨p,v,pv,hb,_⟩:=h.ex;rw[Lib.cell_of_heap hb];rfl
theorem LrIs.c2 (h:LrIs B w l R):w.cell? ⟨l,2,none⟩=some (.int .i64 R.base):=by obtain⟨p,v,pv,hb,_⟩:=h.ex;rw[Lib.cell_of_heap hb];rfl
theorem LrIs.c3 (h:LrIs B w l R):w.cell? ⟨l,3,none⟩=some (.int .i64 R.secs):=by obtain⟨p,v,pv,hb,_⟩:=h.ex;rw[Lib.cell_of_heap hb];rfl
theorem LrIs.c4 (h:LrIs B w l R):w.cell? ⟨l,4,none⟩=some (.int .i64 R.run):=by obtain⟨p,v,pv,hb,_⟩:=h.ex;rw[Lib.cell_of_heap hb];rfl
theorem LrIs.c8 (h:LrIs B w l R):w.cell? ⟨l,8,none⟩=some (.int .i64 R.dur):=by obtain⟨p,v,pv,hb,_⟩:=h.ex;rw[Lib.cell_of_heap hb];rfl
theorem LrIs.c9 (h:LrIs B w l R):w.cell? ⟨l,9,none⟩=some (.bool R.dead):=by obtain⟨p,v,pv,hb,_⟩:=h.ex;rw[Lib.cell_of_heap hb];rfl
theorem LrIs.c7 (h:LrIs B w l R):∃ a c,w.cell? ⟨l,7,none⟩=some (.slice a R.ps.length c)/\OwnI B w (.slice a R.ps.length c) R.ps:=by
 obtain⟨p,v,pv,hb,_,_,ho,_⟩:=h.ex
 obtain⟨a,c,rfl⟩:=ho.ex
 exact⟨a,c,by rw[Lib.cell_of_heap hb];rfl,ho⟩
theorem LrIs.f (h:LrIs B w l R) (i:Nat):w.frozen? ⟨l,i,none⟩=false:=by obtain⟨p,v,pv,hb,_⟩:=h.ex;exact Lib.frozen_of_heap hb i
theorem LrIs.below (h:LrIs B w l R) (hb:Below w.heap.size w w'):LrIs B w' l R:=by
 obtain⟨p,v,pv,h1,h2,h3,h4,n3,n4⟩:=h.ex
 exact⟨⟨p,v,pv,(hb.block l (lt_of_some h1)).trans h1,h2,ownF_below h3 hb,h4.below hb,n3,n4⟩,h.ge,Nat.le_trans h.le hb.size,h.lp.below hb⟩
theorem LrIs.drewN (h:LrIs B w l R) (n:Nat):LrIs B (w.drewN n) l R:=h.below (Sm.below_dr (Below.refl _ _) n)
theorem LrIs.keptD (h:LrIs B w l R) {B':Nat} (hb:Kp isD B' w w'):LrIs B w' l R:=by
 obtain⟨p,v,pv,h1,h2,h3,h4,n3,n4⟩:=h.ex
 exact⟨⟨p,v,pv,hb.block l _ h1 (by simp[isD]),h2,ownF_of h3 (fun k cur fz e=>hb.block k _ e (by simp[isD])),h4.of_block (fun k cur fz e=>hb.block k _ e (by simp[isD])),n3,n4⟩,h.ge,Nat.le_trans h.le hb.size,h.lp.kp hb⟩
theorem LrIs.set (h:LrIs B w l R) {k:Nat} {u:Value} {R':Lr} (hT:R'.T=R.T) (hp:R'.ps=R.ps) (hA:∀ p v pv,(R.A l p v pv).setIfInBounds k u=R'.A l p v pv):LrIs B (w.setCell ⟨l,k,none⟩ u) l R'/\Kp isL B w (w.setCell ⟨l,k,none⟩ u):=by
 obtain⟨p,v,pv,h1,h2,h3,h4,n3,n4⟩:=h.ex
 have hk:Kp isL B w (w.setCell ⟨l,k,none⟩ u):=Kp.cell h1 (Or.inr (Or.inr rfl)) h.ge
 have hO:∀ (t:TypeId),t≠87->∀ (j:Nat) (cur:Array Value) (fz:Nat × Nat),w.heap[j]?=some (Obj.cells cur t fz)->(w.setCell ⟨l,k,none⟩ u).heap[j]?=some (Obj.cells cur t fz):=fun t ht j cur fz e=>by
  have hj:j≠l:=fun ej=>by subst ej;rw[h1] at e;cases e;exact ht rfl
  rw[Below.heap_setCell _ _ _ _ hj];exact e
 refine⟨⟨⟨p,v,pv,?_,h2,?_,?_,n3,n4⟩,h.ge,Nat.le_trans h.le hk.size,h.lp.kp hk⟩,hk⟩
 ·rw[← hA];exact Joins.block_setCell h1 _
 ·rw[hT];exact ownF_of h3 (hO 5 (by decide))
 ·rw[hp];exact h4.of_block (hO 3 (by decide))
end
section
theorem ptr_info:∃ j,Tryz.prog.info? 87=some j:=by
 have:(Tryz.prog.info? 87).map (·.size)=some 10:=by kernel_rfl
 obtain⟨j,hj,_⟩:=Option.map_eq_some_iff.1 this
 exact⟨j,hj⟩
end
section
variable [Inhabited PrSet]{B l:Nat}{w w':World}{R:Lr}
theorem isOpen_any (h:LrIs B w l R):Calls Tryz.prog 43 #[.pointer (some ⟨l,0,none⟩)] w fun e w'=>e=.returned (.bool true)/\w'=w:=by
 obtain⟨j,hj⟩:=ptr_info
 have c0:=h.c0
 have he:∀ W,(binOp .eql 27 (.pointer (some ⟨l,0,none⟩)) (.pointer (some ⟨l,0,none⟩))).run Tryz.prog W=.ok (.bool true) W:=fun W=>by
  have hq:∀ d:Nat,(Op.equalIn (d+1) 27 (.pointer (some ⟨l,0,none⟩)) (.pointer (some ⟨l,0,none⟩))).run Tryz.prog W=.ok true W:=fun d=>by
   simp[Op.equalIn,run_underlying Tryz.underlying27,sizeOf,typeInfo,hj,run_sameAddr_same]
  simp only[binOp]
  simp[Op.equal,Op.maxDepth,hq 9999]
 clear h
 go_enter Tryz.func43,Tryz.ntmps43
 go_wp2
 go_ret
 exact⟨rfl,rfl⟩
theorem Len_log (h:LrIs B w l R):Calls Tryz.prog 68 #[.pointer (some ⟨l,5,none⟩)] w fun e w'=>e=.returned (.int .i64 (R.T.size:Int))/\w'=w:=by
 obtain⟨p,v,pv,h1,h2,h3,h4,n3,n4⟩:=h.ex
 obtain⟨ao,cap,rfl⟩:=ownF_slice h3
 exact Bf_Len ao cap h1
theorem String_log2 (h:LrIs B w l R):Calls Tryz.prog 66 #[.pointer (some ⟨l,5,none⟩)] w fun e w'=>e=.returned (.string R.T)/\LrIs B w' l R/\Kp isL B w w'/\Ce w w':=by
 obtain⟨p,v,pv,h1,h2,h3,h4,n3,n4⟩:=h.ex
 refine(Bf_String R.T h1 h3 h.le n3).mono ?_
 rintro e w' ⟨rfl,b1,o1,k1,c1⟩
 have k2:Kp isL B w w':=is5_L k1
 exact⟨rfl,⟨⟨p,v,pv,b1,h2,o1,h4.of_block (fun k cur fz e=>k1.block k _ e (by simp[is5])),n3,n4⟩,h.ge,Nat.le_trans h.le k1.size,h.lp.kp k1⟩,k2,c1⟩
theorem String_log (h:LrIs B w l R):Calls Tryz.prog 66 #[.pointer (some ⟨l,5,none⟩)] w fun e w'=>e=.returned (.string R.T)/\LrIs B w' l R/\Kp isL B w w':=by
 refine(String_log2 h).mono ?_
 rintro e w' ⟨he,h1,k1,_⟩
 exact⟨he,h1,k1⟩
theorem End_any (h:LrIs B w l R) (hz:R.T.size<=1000000):Calls Tryz.prog 33 #[.pointer (some ⟨l,0,none⟩)] w fun e w'=>e=.returned (.int .i64 ((R.T.size:Int)+1))/\w'=w:=by
 have CI:Hid (Calls Tryz.prog 43 #[.pointer (some ⟨l,0,none⟩)] w fun e w'=>e=.returned (.bool true)/\w'=w):=isOpen_any h
 have CL:Hid (Calls Tryz.prog 68 #[.pointer (some ⟨l,5,none⟩)] w fun e w'=>e=.returned (.int .i64 (R.T.size:Int))/\w'=w):=Len_log h
 clear h
 have hz':(R.T.size:Int)<=1000000:=by omega
 have hz0:(0:Int)<=R.T.size:=by omega
 generalize (R.T.size:Int)=n at *
 clear hz
 go_enter Tryz.func33,Tryz.ntmps33
 go_wp2_with (first
  | (go_at_call 43;refine CI.out.mono ?_;rintro e w' ⟨rfl,rfl⟩)
  | (go_at_call 68;refine CL.out.mono ?_;rintro e w' ⟨rfl,rfl⟩))
 go_ret
 exact⟨rfl,rfl⟩
set_option maxHeartbeats 1000000 in
theorem Left_any (h:LrIs B w l R) (hz:R.T.size<=1000000) (s0:0<=R.secs) (s1:R.secs<=10000):Calls Tryz.prog 105 #[.pointer (some ⟨l,0,none⟩)] w fun e w'=>e=.returned (.int .i64 (R.secs*58-(R.T.size:Int)))/\Below w.heap.size w w':=by
 have CI:Hid (Calls Tryz.prog 43 #[.pointer (some ⟨l,0,none⟩)] w fun e w'=>e=.returned (.bool true)/\w'=w):=isOpen_any h
 have CL:Hid (∀ wx,LrIs B wx l R->Calls Tryz.prog 68 #[.pointer (some ⟨l,5,none⟩)] wx fun e w'=>e=.returned (.int .i64 (R.T.size:Int))/\w'=wx):=fun wx h=>Len_log h
 have c3:=h.c3
 have H:Hid (LrIs B w l R):=h
 clear h
 have hz':(R.T.size:Int)<=1000000:=by omega
 have hz0:(0:Int)<=R.T.size:=by omega
 generalize (R.T.size:Int)=n at *
 clear hz
 generalize R.secs=sc at *
 have hw1:IntKind.i64.wrap (sc*58)=sc*58:=by rw[IntKind.wrap_i64];omega
 have hw2:IntKind.i64.wrap (sc*58-n)=sc*58-n:=by rw[IntKind.wrap_i64];omega
 go_enter Tryz.func105,Tryz.ntmps105
 go_wp2_with (go_at_call 43;refine CI.out.mono ?_;rintro e w' ⟨rfl,rfl⟩)
 go_quiet ((go_at_call 68;exact Calls.quiet_of_same (CL.out _ (H.out.drewN _))))
 go_wp2
 go_ret
 exact⟨rfl,Sm.below_dr (Below.refl _ _) nq⟩
end
open Go.RowKit
abbrev Sec:=Nat × ByteArray
def part (t:ByteArray) (i:Nat):ByteArray:=t.extract (58*i) (58*i+58)
def secT (t:ByteArray) (r i:Nat):Sec:=(r,part t i)
theorem part_size (t:ByteArray) (i:Nat):(part t i).size=min 58 (t.size-58*i):=by unfold part;rw[ByteArray.size_extract];omega
theorem part_le (t:ByteArray) (i:Nat):(part t i).size<=58:=by rw[part_size];omega
theorem part_pre {t x:ByteArray} {i:Nat} (h:58*i+58<=t.size):part (t++x) i=part t i:=by
 apply ByteArray.ext
 unfold part
 rw[ByteArray.data_extract,ByteArray.data_extract,ByteArray.data_append,Array.extract_append]
 have:t.size=t.data.size:=rfl
 rw[show 58*i-t.data.size=0 by omega,show 58*i+58-t.data.size=0 by omega]
 simp
def stK (Q:Nat->Sec) (run:Nat):Nat->Nat->Nat->ByteArray
 | 0,_,_=>⟨#[]⟩
 | n+1,i,least=>if(Q i).1<least∨run<(Q i).1 then⟨#[]⟩ else if(Q i).2.size<58 then(Q i).2 else(Q i).2++stK Q run n (i+1) (Q i).1
def stand (Q:Nat->Sec) (run secs:Nat):ByteArray:=stK Q run secs 0 1
def rest (t:ByteArray) (i:Nat):ByteArray:=t.extract (58*i) t.size
theorem ext_whole (t:ByteArray):t.extract 0 t.size=t:=by
 apply ByteArray.ext
 rw[ByteArray.data_extract]
 have:t.size=t.data.size:=rfl
 rw[this]
 simp
theorem ext_join (t:ByteArray) {a b c:Nat} (h1:a<=b) (h2:b<=c):t.extract a b++t.extract b c=t.extract a c:=by
 apply ByteArray.ext
 rw[ByteArray.data_append,ByteArray.data_extract,ByteArray.data_extract,ByteArray.data_extract,Array.extract_append_extract,Nat.min_eq_left h1,Nat.max_eq_right h2]
theorem rest_last {t:ByteArray} {i:Nat} (h:t.size<58*i+58):rest t i=part t i:=by
 unfold rest part
 apply ByteArray.ext
 rw[ByteArray.data_extract,ByteArray.data_extract]
 have:t.size=t.data.size:=rfl
 rw[this] at h ⊢
 apply Array.ext'
 simp only[Array.toList_extract,List.extract]
 rw[List.take_of_length_le (by simp),List.take_of_length_le (by simp;omega)]
section
variable {Q:Nat->Sec}{B T x:ByteArray}{r run n secs:Nat}
structure Std (Q:Nat->Sec) (secs r:Nat) (B:ByteArray):Prop where
 fit:B.size<=58*secs
 pos:1<=r
 all:∀ i,i<secs->(Q i).1<=r
 full:∀ i,58*i+58<=B.size->(Q i).2=part B i/\1<=(Q i).1
 mono:∀ i,58*(i+1)+58<=B.size->(Q i).1<=(Q (i+1)).1
 here:∀ k,58*k<=B.size->B.size<58*k+58->k<secs->Q k=(r,part B k)∨(B.size=58*k/\1<=k/\(Q (k-1)).1=r/\(Q k).1<r)
 beyond:∀ i,B.size<58*i->i<secs->(Q i).1<r
def putQ (Q:Nat->Sec) (T:ByteArray) (r a b:Nat) (i:Nat):Sec:=if a<=i/\i<b then(r,part T i) else Q i
theorem putQ_in {T:ByteArray} {a b i:Nat} (h1:a<=i) (h2:i<b):putQ Q T r a b i=(r,part T i):=by unfold putQ;rw[if_pos ⟨h1,h2⟩]
theorem putQ_out {T:ByteArray} {a b i:Nat} (h:i<a∨b<=i):putQ Q T r a b i=Q i:=by unfold putQ;rw[if_neg (by omega)]
theorem part_app {a b:ByteArray} (h:a.size=58) (j:Nat):part (a++b) (j+1)=part b j:=by
 apply ByteArray.ext
 unfold part
 have:a.data.size=58:=h
 rw[ByteArray.data_extract,ByteArray.data_extract,ByteArray.data_append,Array.extract_append,this,show 58*(j+1)-58=58*j by omega,show 58*(j+1)+58-58=58*j+58 by omega]
 have e:a.data.extract (58*(j+1)) (58*(j+1)+58)=#[]:=by
  apply Array.eq_empty_of_size_eq_zero
  rw[Array.size_extract];omega
 rw[e]
 simp
theorem part_zero {a b:ByteArray} (h:a.size=58):part (a++b) 0=a:=by
 have:=ext_left a b
 rw[h] at this
 exact this
theorem stK_inv (Q:Nat->Sec) (run:Nat):∀ (n k least:Nat),1<=least->(∀ i,k<=i->i<k+n->(Q i).2.size<=58)->∀ i,k<=i->58*(i-k)+58<=(stK Q run n k least).size ->
  i<k+n/\(Q i).2=part (stK Q run n k least) (i-k)/\1<=(Q i).1/\(Q i).1<=run/\(k<i->(Q (i-1)).1<=(Q i).1)/\(i=k->least<=(Q i).1):=by
 intro n
 induction n with
 | zero=>intro k l hl hz i hi hs;rw[stK,nilz] at hs;omega
 | succ n ih =>
  intro k l hl hz i hi hs
  rw[stK] at hs ⊢
  by_cases h1:(Q k).1<l∨run<(Q k).1
  ·rw[if_pos h1,nilz] at hs;omega
  ·rw[if_neg h1] at hs ⊢
   by_cases h2:(Q k).2.size<58
   ·rw[if_pos h2] at hs
    omega
   ·rw[if_neg h2] at hs ⊢
    have h58:(Q k).2.size=58:=by have:=hz k (Nat.le_refl _) (by omega);omega
    by_cases hk:i=k
    ·subst hk
     rw[Nat.sub_self,part_zero h58]
     exact⟨by omega,rfl,by omega,by omega,fun h=>by omega,fun _=>by omega⟩
    ·rw[bsz,h58] at hs
     obtain⟨a1,a2,a3,a4,a5,a6⟩:=ih (k+1) (Q k).1 (by omega) (fun j h3 h4=>hz j (by omega) (by omega)) i (by omega) (by omega)
     obtain⟨j,hj⟩:∃ j,i-k=j+1:=⟨i-k-1,by omega⟩
     rw[hj,part_app h58,a2,show i-(k+1)=j by omega]
     refine⟨by omega,rfl,a3,a4,fun h=>?_,fun h=>by omega⟩
     by_cases e:i=k+1
     ·subst e;exact a6 rfl
     ·exact a5 (by omega)
theorem std_new (ha:∀ i,i<secs->(Q i).1<r) (hz:∀ i,i<secs->(Q i).2.size<=58) (hT:stand Q r secs=T++x) (hfit:T.size<=58*secs) (hr:1<=r):Std (putQ Q T r (T.size / 58) (min (T.size / 58+1) secs)) secs r T:=by
 have key:∀ i,58*i+58<=T.size->(Q i).2=part T i/\1<=(Q i).1/\(0<i->(Q (i-1)).1<=(Q i).1):=fun i hi=>by
  have hs:58*(i-0)+58<=(stK Q r secs 0 1).size:=by
   have:(stK Q r secs 0 1).size=T.size+x.size:=by rw[← bsz,← hT];rfl
   omega
  obtain⟨_,a2,a3,_,a5,_⟩:=stK_inv Q r secs 0 1 (Nat.le_refl _) (fun j _ h=>hz j (by omega)) i (Nat.zero_le _) hs
  have e:stK Q r secs 0 1=T++x:=hT
  rw[e,Nat.sub_zero,part_pre hi] at a2
  exact⟨a2,a3,a5⟩
 refine⟨hfit,hr,?_,?_,?_,?_,?_⟩
 ·intro i hi
  unfold putQ
  split
  ·exact Nat.le_refl _
  ·exact Nat.le_of_lt (ha i hi)
 ·intro i hi
  rw[putQ_out (Or.inl (by omega))]
  exact⟨(key i hi).1,(key i hi).2.1⟩
 ·intro i hi
  rw[putQ_out (Or.inl (by omega)),putQ_out (Or.inl (by omega))]
  exact(key (i+1) hi).2.2 (by omega)
 ·intro k h1 h2 hk
  left
  rw[putQ_in (by omega) (by omega)]
 ·intro i h1 hi
  rw[putQ_out (Or.inr (by omega))]
  exact ha i hi
end
theorem sectorOf_any (p:Int) (h:1<=p) (h2:p<=1000000) (w:World):Calls Tryz.prog 69 #[.int .i64 p] w fun e w'=>e=.returned (.int .i64 ((p-1) / 58))/\w'=w:=by
 have hq:Int.tdiv (p-1) 58=(p-1) / 58:=Int.tdiv_eq_ediv_of_nonneg (by omega)
 go_enter Tryz.func69,Tryz.ntmps69
 go_wp2
 go_ret
 exact⟨rfl,rfl⟩
def secB (q:Sec):ByteArray:=Pk.beS q.1 4++Pk.beS q.2.size 2++q.2
theorem secB_size (q:Sec):(secB q).size=6+q.2.size:=by unfold secB;rw[bsz,bsz,Pk.beS_size,Pk.beS_size]
theorem put_run (r:Nat) (hr:r<4294967296) (w:World):Calls Tryz.prog 103 #[.string ⟨#[]⟩,.int .i64 (r:Int),.int .i64 4] w fun e w'=>e=.returned (.tuple #[.string (Pk.beS r 4),.int .i64 0])/\Below w.heap.size w w':=by
 have:=Pk.Put_any ⟨#[]⟩ (r:Int) 4 w (by simp[ByteArray.size])
 have e:Pk.putV ⟨#[]⟩ (r:Int) 4=(Pk.beS r 4,0):=by
  rw[Pk.putV_fits (by omega) (by have:Pk.limI (4:Int).toNat=4294967296:=rfl;omega),nil_app];rfl
 rw[e] at this
 exact this
theorem put_many (s:ByteArray) (hs:s.size<=1000) (n:Nat) (hn:n<65536) (w:World):Calls Tryz.prog 103 #[.string s,.int .i64 (n:Int),.int .i64 2] w fun e w'=>e=.returned (.tuple #[.string (s++Pk.beS n 2),.int .i64 0])/\Below w.heap.size w w':=by
 have:=Pk.Put_any s (n:Int) 2 w (by omega)
 have e:Pk.putV s (n:Int) 2=(s++Pk.beS n 2,0):=by
  rw[Pk.putV_fits (by omega) (by have:Pk.limI (2:Int).toNat=65536:=rfl;omega)];rfl
 rw[e] at this
 exact this
theorem slc_min (t:ByteArray) (i:Nat) (h:58*i<=t.size):∀ W,(Instr.slice 9 (.string t) (some (.int .i64 ((i:Int)*58))) (some (.int .i64 (min ((i:Int)*58+58) (t.size:Int)))) none).run Tryz.prog W=.ok (.string (part t i)) W:=by
 intro W
 have hm:(min ((i:Int)*58+58) (t.size:Int))=((min (58*i+58) t.size:Nat):Int):=by omega
 rw[hm,show(i:Int)*58=((58*i:Nat):Int) by omega]
 have:=run_slice_string (P:=Tryz.prog) W 9 t .i64 .i64 ((58*i:Nat):Int) ((min (58*i+58) t.size:Nat):Int) Tryz.underlying9 (by omega) (by omega) (by omega)
 rw[Int.toNat_natCast,Int.toNat_natCast] at this
 rw[this]
 have e:t.extract (58*i) (min (58*i+58) t.size)=part t i:=by
  unfold part
  rcases Nat.le_total (58*i+58) t.size with h1 |h1
  ·rw[Nat.min_eq_left h1]
  ·rw[Nat.min_eq_right h1]
   rcases Nat.lt_or_ge t.size (58*i+58) with h2 |h2
   ·exact rest_last h2
   ·rw[show t.size=58*i+58 by omega]
 rw[e]
set_option maxHeartbeats 1000000 in
theorem sector_any (t:ByteArray) (r i:Nat) (hr:r<4294967296) (h:58*i<=t.size) (ht:t.size<=1000000) (w:World):Calls Tryz.prog 126 #[.string t,.int .i64 (r:Int),.int .i64 (i:Int)] w fun e w'=>e=.returned (.string (secB (secT t r i)))/\Below w.heap.size w w':=by
 have hp:=part_le t i
 have C1:Hid (∀ wx,Calls Tryz.prog 103 #[.string ⟨#[]⟩,.int .i64 (r:Int),.int .i64 4] wx fun e w'=>e=.returned (.tuple #[.string (Pk.beS r 4),.int .i64 0])/\Below wx.heap.size wx w'):=fun wx=>put_run r hr wx
 have C2:Hid (∀ wx,Calls Tryz.prog 103 #[.string (Pk.beS r 4),.int .i64 ((part t i).size:Int),.int .i64 2] wx fun e w'=>e=.returned (.tuple #[.string (Pk.beS r 4++Pk.beS (part t i).size 2),.int .i64 0])/\Below wx.heap.size wx w'):=fun wx=>put_many _ (by rw[Pk.beS_size];omega) _ (by omega) wx
 have hs:=slc_min t i h
 have hz1:(Pk.beS r 4++Pk.beS (part t i).size 2).size=6:=by rw[bsz,Pk.beS_size,Pk.beS_size]
 have hz2:(part t i).size<=58:=hp
 have hf:secB (secT t r i)=Pk.beS r 4++Pk.beS (part t i).size 2++part t i:=rfl
 rw[hf]
 have hw1:IntKind.i64.wrap ((i:Int)*58)=(i:Int)*58:=by rw[IntKind.wrap_i64];omega
 have hw2:IntKind.i64.wrap ((i:Int)*58+58)=(i:Int)*58+58:=by rw[IntKind.wrap_i64];omega
 have hi0:(0:Int)<=(i:Int):=by omega
 have hi1:(i:Int)<=20000:=by omega
 generalize part t i=P at *
 generalize Pk.beS P.size 2=M at *
 generalize Pk.beS r 4=U at *
 generalize (i:Int)=j at *
 clear hr h hp hf
 go_enter Tryz.func126,Tryz.ntmps126
 go_wp2_with (first
  | (have:=b1;go_at_call 103;refine(C2.out _).mono ?_;rintro e w2 ⟨rfl,b2⟩)
  | (go_at_call 103;refine(C1.out _).mono ?_;rintro e w1 ⟨rfl,b1⟩))
 go_ret
 exact⟨rfl,thn b1 b2⟩
structure Lx [Inhabited PrSet] (B:Nat) (w:World) (l k:Nat) (S:Dk) (R:Lr):Prop where
 d:Ds B w R.db k S
 g:LrIs B w l R
section
variable [Inhabited PrSet]{B l k:Nat}{w w':World}{S S':Dk}{R R':Lr}
theorem Lx.below (h:Lx B w l k S R) (hb:Below w.heap.size w w'):Lx B w' l k S R:=⟨h.d.below hb,h.g.below hb⟩
theorem Lx.drew (h:Lx B w l k S R):Lx B w.drew l k S R:=h.below ((Below.refl _ _).drew)
theorem Lx.drewN (h:Lx B w l k S R) (n:Nat):Lx B (w.drewN n) l k S R:=h.below (Sm.below_dr (Below.refl _ _) n)
theorem Lx.mono {k':Nat} (h:Lx B w l k S R) (hk:k<=k'):Lx B w l k' S R:=⟨h.d.mono hk,h.g⟩
theorem Lx.le (h:Lx B w l k S R):B<=w.heap.size:=h.d.lt
theorem Lx.write (h:Lx B w l k S R) (hk:k<=1000000000000) (i:Int) (s:ByteArray) (hs:s.size<=9223372036854775807):Calls Tryz.prog 125 #[.pointer (some ⟨R.db,0,none⟩),.int .i64 i,.string s] w fun e w' =>
  e=.returned (.int .i64 (writeE S i s))/\Lx B w' l (k+1) (writeDk S i s) R/\Kp isD B w w':=by
 refine(h.d.write hk i s hs).mono ?_
 rintro e w' ⟨rfl,d,o⟩
 exact⟨rfl,⟨d,h.g.keptD o⟩,o⟩
theorem Lx.sync (h:Lx B w l k S R) (hk:k<=1000000000000):Calls Tryz.prog 100 #[.pointer (some ⟨R.db,0,none⟩)] w fun e w' =>
  e=.returned (.int .i64 (syncE S))/\Lx B w' l (k+1) (syncDk S) R/\Kp isD B w w':=by
 refine(h.d.sync hk).mono ?_
 rintro e w' ⟨rfl,d,o⟩
 exact⟨rfl,⟨d,h.g.keptD o⟩,o⟩
theorem Lx.set (h:Lx B w l k S R) {j:Nat} {u:Value} {R':Lr} (hd:R'.db=R.db) (hT:R'.T=R.T) (hp:R'.ps=R.ps) (hA:∀ p v pv,(R.A l p v pv).setIfInBounds j u=R'.A l p v pv):Lx B (w.setCell ⟨l,j,none⟩ u) l k S R'/\Kp isL B w (w.setCell ⟨l,j,none⟩ u):=by
 obtain⟨g,o⟩:=h.g.set hT hp hA
 exact⟨⟨by rw[hd];exact h.d.kept o,g⟩,o⟩
structure Wrt (S S':Dk) (N:Nat->Option ByteArray) (e:Int):Prop where
 n:S'.n=S.n
 ok:e=0->S'.up=true/\∀ i,S'.now i=(N i).getD (S.now i)
 bad:e≠0->e=9/\S'.up=false/\∀ i,S'.wait i=none
 all:∀ R:Nat->ByteArray->Prop,AllR R S->(∀ i c,N i=some c->R i c)->AllR R S'
 calm:S.set=false->e=0/\S'.set=false
end
section
variable {S:Dk}
theorem act_calm (h:S.set=false):actE S=0/\(actDk S).set=false:=by
 unfold actE actDk
 rw[h]
 simp[h]
end
section
variable {S:Dk}
theorem act_bad (h:actE S≠0):actE S=9/\(actDk S).up=false/\∀ i,(actDk S).wait i=none:=by
 unfold actE at h ⊢
 unfold actDk
 split
 ·exact⟨rfl,rfl,fun _=>rfl⟩
 ·rename_i hc
  rw[if_neg hc] at h
  exact absurd rfl h
end
section
variable {S:Dk}{R:Lr}
theorem Wrt.refl (S:Dk) (hu:S.up=true):Wrt S S (fun _=>none) 0:=⟨rfl,fun _=>⟨hu,fun i=>rfl⟩,fun h=>absurd rfl h,fun R h _=>h,fun h=>⟨rfl,h⟩⟩
end
section
variable {S:Dk}
theorem writeE_up (hu:S.up=true) {i:Nat} (hi:i<S.n) {s:ByteArray} (hs:s.size<=64):writeE S (i:Int) s=actE S/\writeDk S (i:Int) s=if actE S≠0 then actDk S else {actDk S with wait:=upd S.wait i (some (pad s))}:=by
 have hr:refAt S.up S.n (i:Int)=0:=by unfold refAt;rw[hu,if_pos rfl,if_neg (by omega)]
 unfold writeE writeDk
 rw[hr,if_neg (by simp),if_neg (by omega),if_neg (by simp),if_neg (by omega),Int.toNat_natCast]
 exact⟨rfl,rfl⟩
end
section
variable {S:Dk}{R:Lr}
theorem Wrt.step {S1:Dk} {N N':Nat->Option ByteArray} (h:Wrt S S1 N 0) {i:Nat} (hi:i<S.n) {s:ByteArray} (hs:s.size<=64) (hNi:N i=none) (hN:∀ j,N' j=if j=i then some (pad s) else N j):Wrt S (writeDk S1 (i:Int) s) N' (writeE S1 (i:Int) s):=by
 obtain⟨hu,hnow⟩:=h.ok rfl
 obtain⟨e1,e2⟩:=writeE_up (S:=S1) hu (i:=i) (by rw[h.n];exact hi) hs
 have hall:∀ R:Nat->ByteArray->Prop,AllR R S->(∀ i c,N' i=some c->R i c)->AllR R (writeDk S1 (i:Int) s):=fun R hR hc=>by
  refine(h.all R hR (fun j c hj=>?_)).write i s (hc i _ (by rw[hN,if_pos rfl]))
  by_cases e:j=i
  ·subst e
   rw[hNi] at hj;cases hj
  ·exact hc j c (by rw[hN,if_neg e];exact hj)
 refine⟨?_,?_,?_,hall,?_⟩
 ·rw[writeDk_n];exact h.n
 ·rw[e1,e2]
  intro h0
  rw[if_neg (by simpa using h0)]
  obtain⟨g1,g2,g3⟩:=actDk_go h0
  refine⟨by rw[← hu,← g3],fun j=>?_⟩
  show((upd S1.wait i (some (pad s))) j).getD ((actDk S1).sure j)=_
  rw[g2,hN]
  by_cases e:j=i
  ·subst e
   rw[upd_same,if_pos rfl];rfl
  ·rw[upd_other _ _ e,if_neg e]
   exact hnow j
 ·rw[e1,e2]
  intro h0
  rw[if_pos h0]
  exact act_bad h0
 ·intro hc
  obtain⟨_,hc2⟩:=h.calm hc
  obtain⟨a1,a2⟩:=act_calm hc2
  rw[e1,e2,a1,if_neg (by simp)]
  exact⟨rfl,a2⟩
end
section
variable [Inhabited PrSet]
def nw (base:Nat) (t:ByteArray) (r a b i:Nat):Option ByteArray:=if base+a<=i/\i<base+b then some (pad (secB (secT t r (i-base)))) else none
end
section
theorem nw_nil (base:Nat) (t:ByteArray) (r a:Nat):nw base t r a a=fun _=>none:=by
 funext i
 unfold nw
 rw[if_neg (by omega)]
end
section
theorem nw_succ (base:Nat) (t:ByteArray) (r a j:Nat) (i:Nat):nw base t r a (a+j+1) i=if i=base+a+j then some (pad (secB (secT t r (a+j)))) else nw base t r a (a+j) i:=by
 unfold nw
 by_cases e:i=base+a+j
 ·subst e
  rw[if_pos (by omega),if_pos rfl,show base+a+j-base=a+j by omega]
 ·rw[if_neg e]
  by_cases h:base+a<=i/\i<base+(a+j)
  ·rw[if_pos h,if_pos (by omega)]
  ·rw[if_neg h,if_neg (by omega)]
end
section
variable {S S':Dk}
theorem Wrt.more {base r a b c:Nat} {t:ByteArray} {x:Int} (h:Wrt S S' (nw base t r a b) x) (hx:x≠0) (hbc:b<=c):Wrt S S' (nw base t r a c) x :=
 ⟨h.n,fun e=>absurd e hx,h.bad,fun Q hQ hc=>h.all Q hQ (fun i c' hi=>hc i c' (by
  unfold nw at hi ⊢
  split at hi
  ·rename_i hb
   rw[if_pos (by omega)];exact hi
  ·cases hi)),fun hs=>absurd (h.calm hs).1 hx⟩
end
section
variable [Inhabited PrSet]{B l k:Nat}{w w':World}{S S':Dk}{R:Lr}
set_option maxHeartbeats 2000000 in
theorem write_any (h:Lx B w l k S R) (hk:k<=500000000000) {bs:Nat} (hbs:R.base=(bs:Int)) (t:ByteArray) (ht:t.size<=1000000) (r a b:Nat) (hr:r<4294967296) (hab:a<=b) (hb:b<=10000) (hfit:bs+b<=S.n) (hin:∀ i,a<=i->i<b->58*i<=t.size) (hu:S.up=true) :
  Calls Tryz.prog 99 #[.pointer (some ⟨l,0,none⟩),.string t,.int .i64 (r:Int),.int .i64 (a:Int),.int .i64 (b:Int)] w fun e w' =>
   ∃ S' x,e=.returned (.int .i64 x)/\Lx B w' l (k+(b-a)) S' R/\Kp isD B w w'/\Wrt S S' (nw bs t r a b) x:=by
 have hn2:=h.d.q.ok.n2
 have W0:Hid (Wrt S S (nw bs t r a a) 0):=by rw[nw_nil];exact Wrt.refl S hu
 have H0:Hid (Lx B w l k S R):=h
 have WS:Hid (∀ S1 j,a+j<b->Wrt S S1 (nw bs t r a (a+j)) 0->Wrt S (writeDk S1 ((bs+a+j:Nat):Int) (secB (secT t r (a+j)))) (nw bs t r a (a+j+1)) (writeE S1 ((bs+a+j:Nat):Int) (secB (secT t r (a+j))))):=fun S1 j hj hw =>
  hw.step (i:=bs+a+j) (by omega) (by rw[secB_size];have:=part_le t (a+j);simp only[secT];omega) (by unfold nw;rw[if_neg (by omega)]) (nw_succ bs t r a j)
 have CS:Hid (∀ wx (j:Nat),a+j<b->Calls Tryz.prog 126 #[.string t,.int .i64 (r:Int),.int .i64 ((a:Int)+(j:Int))] wx fun e w'=>e=.returned (.string (secB (secT t r (a+j))))/\Below wx.heap.size wx w'):=fun wx j hj=>by
  have:=sector_any t r (a+j) hr (hin _ (by omega) hj) ht wx
  rw[show((a+j:Nat):Int)=(a:Int)+(j:Int) by omega] at this
  exact this
 have hsz:Hid (∀ j,(secB (secT t r (a+j))).size<=9223372036854775807):=fun j=>by rw[secB_size];have:=part_le t (a+j);simp only[secT];omega
 have CW:Hid (∀ wx (j:Nat) S1,a+j<b->Lx B wx l (k+j) S1 R->Wrt S S1 (nw bs t r a (a+j)) 0->Calls Tryz.prog 125 #[.pointer (some ⟨R.db,0,none⟩),.int .i64 ((bs:Int)+(a:Int)+(j:Int)),.string (secB (secT t r (a+j)))] wx fun e w' =>
   ∃ x S2,e=.returned (.int .i64 x)/\Lx B w' l (k+j+1) S2 R/\Kp isD B wx w'/\Wrt S S2 (nw bs t r a (a+j+1)) x):=fun wx j S1 hj hd hw=>by
  have:=hd.write (by omega) ((bs+a+j:Nat):Int) (secB (secT t r (a+j))) (hsz.out j)
  rw[show((bs+a+j:Nat):Int)=(bs:Int)+(a:Int)+(j:Int) by omega] at this
  refine this.mono ?_
  rintro e w' ⟨he,hl,hk'⟩
  have hs:=WS.out S1 j hj hw
  rw[show((bs+a+j:Nat):Int)=(bs:Int)+(a:Int)+(j:Int) by omega] at hs
  exact⟨_,_,he,hl,hk',hs⟩
 clear h hin
 have hw0:IntKind.i64.wrap ((b:Int)-(a:Int))=(b:Int)-(a:Int):=by rw[IntKind.wrap_i64];omega
 go_enter Tryz.func99,Tryz.ntmps99
 go_wp2
 go_loopw [16] (fun ix wr=>∃ (j:Nat) (S1:Dk),a+j<=b/\ix=.int .i64 (j:Int)/\Wrt S S1 (nw bs t r a (a+j)) 0/\Lx B wr l (k+j) S1 R/\Kp isD B w wr) (fun ix _=>b-(intOf ix).toNat)
 case atStart=>exact⟨0,S,by omega,rfl,W0.out,H0.out,Kp.refl _ _ _⟩
 case round =>
  obtain⟨j,S1,hj,rfl,HW,hd0,hK⟩:=hrel
  by_cases hlt:a+j<b
  ·have hd:=hd0.drew
   have c1:=hd.g.c1
   have c2:=hd.g.c2
   rw[hbs] at c2
   have HK:Hid (Kp isD B w wr.drew):=hK.below ((Below.refl _ _).drew) (H0.out.le)
   have HW':Hid _:=HW
   clear hd0 hK HW
   have hi2:(j:Int)<(b:Int)-(a:Int):=by omega
   have hw1:IntKind.i64.wrap ((bs:Int)+(a:Int))=(bs:Int)+(a:Int):=by rw[IntKind.wrap_i64];omega
   have hw2:IntKind.i64.wrap ((bs:Int)+(a:Int)+(j:Int))=(bs:Int)+(a:Int)+(j:Int):=by rw[IntKind.wrap_i64];omega
   have hw3:IntKind.i64.wrap ((a:Int)+(j:Int))=(a:Int)+(j:Int):=by rw[IntKind.wrap_i64];omega
   go_wp2
   go_region_held3 (fun W=>W.cell? ⟨l,1,none⟩=some (.pointer (some ⟨R.db,0,none⟩))/\W.cell? ⟨l,2,none⟩=some (.int .i64 (bs:Int))) (first |exact⟨keep1,keep2⟩ |exact⟨c1,c2⟩ |go_keep) (first
    | (go_at_call 126;refine(CS.out _ j ?_).mono ?_;exact hlt;rintro e wA ⟨rfl,bA⟩;have hn:=hd.below bA;have HKn:Hid (Kp isD B w wA):=HK.out.below bA H0.out.le;clear hd HK;have hd:=hn;have HK:=HKn;clear hn HKn;have keep1:=hd.g.c1;have keep2:=hd.g.c2;rw[hbs] at keep2)
    | (go_at_call 125;refine(CW.out _ j S1 ?_ ?_ ?_).mono ?_;exact hlt;exact hd;exact HW'.out;rintro e wB ⟨x,S2,rfl,hn,oB,HWn⟩;have HKn:Hid (Kp isD B w wB):=HK.out.trans oB;clear hd HK;have hd:=hn;have HK:=HKn;clear hn HKn;have keep1:=hd.g.c1;have keep2:=hd.g.c2;rw[hbs] at keep2))
   by_cases he:x=0
   ·subst he
    go_wp2
    go_roundw
    case rel=>exact⟨j+1,S2,by omega,by go_num,HWn,hd,HK.out⟩
    case measure=>simp[intOf];omega
   ·have heb:(x !=0)=true:=by simpa using he
    go_wp2
    go_ret
    exact⟨S2,x,rfl,hd.mono (by omega),HK.out,HWn.more he (by omega)⟩
  ·have hi2:¬ (j:Int)<(b:Int)-(a:Int):=by omega
   obtain rfl:b=a+j:=by omega
   clear hlt
   go_wp2
   go_ret
   exact⟨S1,0,rfl,hd0.mono (by omega),hK,HW⟩
end
structure Laid (S S':Dk) (N:Nat->Option ByteArray) (e:Int):Prop where
 n:S'.n=S.n
 ok:e=0->S'.up=true/\(∀ i,S'.wait i=none)/\∀ i,S'.sure i=(N i).getD (S.now i)
 bad:e≠0->e=9/\S'.up=false/\∀ i,S'.wait i=none
 all:∀ R:Nat->ByteArray->Prop,AllR R S->(∀ i c,N i=some c->R i c)->AllR R S'
 calm:S.set=false->e=0/\S'.set=false
section
variable {S S':Dk}
theorem Wrt.laid {N:Nat->Option ByteArray} {x:Int} (h:Wrt S S' N x) (hx:x≠0):Laid S S' N x:=⟨h.n,fun e=>absurd e hx,h.bad,h.all,h.calm⟩
end
section
variable {S S':Dk}
theorem Wrt.sync {N:Nat->Option ByteArray} (h:Wrt S S' N 0):Laid S (syncDk S') N (syncE S'):=by
 obtain⟨hu,hnow⟩:=h.ok rfl
 have e1:syncE S'=actE S':=by unfold syncE;rw[hu];rfl
 have e2:syncDk S'=if actE S'=0 then {actDk S' with sure:=S'.now,wait:=fun _=>none} else actDk S':=by unfold syncDk;rw[hu];rfl
 refine⟨by rw[syncDk_n];exact h.n,?_,?_,fun Q hQ hc=>(h.all Q hQ hc).sync,?_⟩
 ·rw[e1,e2]
  intro h0
  rw[if_pos h0]
  obtain⟨g1,g2,g3⟩:=actDk_go h0
  exact⟨by rw[← hu,← g3],fun _=>rfl,hnow⟩
 ·rw[e1,e2]
  intro h0
  rw[if_neg h0]
  exact act_bad h0
 ·intro hc
  obtain⟨_,hc2⟩:=h.calm hc
  obtain⟨a1,a2⟩:=act_calm hc2
  rw[e1,e2,a1,if_pos rfl]
  exact⟨rfl,a2⟩
end
section
variable [Inhabited PrSet]{B l k:Nat}{w w':World}{S S':Dk}{R:Lr}
theorem lay_none (h:Lx B w l k S R) (t:ByteArray) (r a b:Int) (hab:b<=a):Calls Tryz.prog 70 #[.pointer (some ⟨l,0,none⟩),.string t,.int .i64 r,.int .i64 a,.int .i64 b] w fun e w'=>e=.returned (.int .i64 0)/\w'=w:=by
 clear h
 go_enter Tryz.func70,Tryz.ntmps70
 go_wp2
 go_ret
 exact⟨rfl,rfl⟩
set_option maxHeartbeats 1000000 in
theorem lay_any (h:Lx B w l k S R) (hk:k<=400000000000) {bs:Nat} (hbs:R.base=(bs:Int)) (t:ByteArray) (ht:t.size<=1000000) (r a b:Nat) (hr:r<4294967296) (hab:a<b) (hb:b<=10000) (hfit:bs+b<=S.n) (hin:∀ i,a<=i->i<b->58*i<=t.size) (hu:S.up=true) :
  Calls Tryz.prog 70 #[.pointer (some ⟨l,0,none⟩),.string t,.int .i64 (r:Int),.int .i64 (a:Int),.int .i64 (b:Int)] w fun e w' =>
   ∃ S' x,e=.returned (.int .i64 x)/\Lx B w' l (k+(b-a)+1) S' {R with dead:=x !=0}/\Kp isA B w w'/\Laid S S' (nw bs t r a b) x:=by
 have hn2:=h.d.q.ok.n2
 have CW:Hid (Calls Tryz.prog 99 #[.pointer (some ⟨l,0,none⟩),.string t,.int .i64 (r:Int),.int .i64 (a:Int),.int .i64 (b:Int)] w fun e w' =>
   ∃ S' x,e=.returned (.int .i64 x)/\Lx B w' l (k+(b-a)) S' R/\Kp isD B w w'/\Wrt S S' (nw bs t r a b) x):=write_any h (by omega) hbs t ht r a b hr (by omega) hb hfit hin hu
 have CY:Hid (∀ wx S1 (x:Int),(x==0)=true->Lx B wx l (k+(b-a)) S1 R->Wrt S S1 (nw bs t r a b) x->Calls Tryz.prog 100 #[.pointer (some ⟨R.db,0,none⟩)] wx fun e w' =>
   ∃ S2 x,e=.returned (.int .i64 x)/\Lx B w' l (k+(b-a)+1) S2 R/\Kp isD B wx w'/\Laid S S2 (nw bs t r a b) x):=fun wx S1 x h0 h1 h2=>by
  obtain rfl:x=0:=by simpa using h0
  refine(h1.sync (by omega)).mono ?_
  rintro e w' ⟨he,hl,hk'⟩
  exact⟨_,_,he,hl,hk',h2.sync⟩
 have hab':¬ (b:Int)<=(a:Int):=by omega
 have hA:∀ (x:Int) p v pv,(R.A l p v pv).setIfInBounds 9 (.bool (x !=0))=({R with dead:=x !=0}:Lr).A l p v pv:=fun x p v pv=>rfl
 have HS:Hid (∀ wx k' S1 (x:Int),Lx B wx l k' S1 R->Lx B (wx.setCell ⟨l,9,none⟩ (.bool (x !=0))) l k' S1 {R with dead:=x !=0}/\Kp isL B wx (wx.setCell ⟨l,9,none⟩ (.bool (x !=0)))):=fun wx k' S1 x hx=>hx.set rfl rfl rfl (hA x)
 clear h hin hA
 go_enter Tryz.func70,Tryz.ntmps70
 go_wp2_with (first
  | (go_at_call 99;refine CW.out.mono ?_;rintro e w1 ⟨S1,x,rfl,h1,k1,W1⟩;have c9:=h1.g.c9;have f9:=h1.g.f 9;have c1:=h1.g.c1;have H1:Hid (Lx B w1 l (k+(b-a)) S1 R):=h1;have HW1:Hid (Wrt S S1 (nw bs t r a b) x):=W1;clear h1 W1)
  | (go_at_call 100;refine(CY.out _ S1 x ?_ H1.out HW1.out).mono ?_;assumption;rintro e w2 ⟨S2,y,rfl,h2,k2,L2⟩;have d9:=h2.g.c9;have g9:=h2.g.f 9))
 ·go_ret
  obtain⟨q1,q2⟩:=HS.out _ _ _ y h2
  exact⟨S2,y,rfl,q1,(k1.d.trans k2.d).trans q2.l,L2⟩
 ·have hx:x≠0:=by simpa using ‹(x==0)=false›
  go_ret
  obtain⟨q1,q2⟩:=HS.out _ _ _ x H1.out
  exact⟨S1,x,rfl,q1.mono (by omega),k1.d.trans q2.l,HW1.out.laid hx⟩
end
section
theorem slc_to (t:ByteArray) (en:Int) (e:Nat) (he:en=(e:Int)+1) (h:e<=t.size):∀ W,(Instr.slice 9 (.string t) none (some (.int .i64 (en-1))) none).run Tryz.prog W=.ok (.string (t.extract 0 e)) W:=by
 intro W
 rw[show en-1=(e:Int) by omega,run_slice_string_to_if W 9 t .i64 (e:Int) Tryz.underlying9]
 rw[if_pos (by omega),Int.toNat_natCast]
end
section
variable [Inhabited PrSet]{B l k:Nat}{w w':World}{S S':Dk}{R R':Lr}
def Stl (S S':Dk) (N:Nat->Option ByteArray) (x:Int) (R R':Lr) (a b:Nat):Prop:=(b<=a/\x=0/\S'=S/\R'=R)∨(a<b/\R'={R with dead:=x !=0}/\Laid S S' N x)
set_option maxHeartbeats 1000000 in
theorem settle_any (h:Lx B w l k S R) (hk:k<=400000000000) {bs sc d:Nat} (hbs:R.base=(bs:Int)) (hsc:R.secs=(sc:Int)) (hd:R.dur=(d:Int)+1) (hT:R.T.size<=500000) (hd2:d<=500000) (hsc2:sc<=10000) (en:Int) (e:Nat) (he:en=(e:Int)+1) (heT:e<=R.T.size) (r:Nat) (hr:r<4294967296) (hfit:bs+sc<=S.n) (hu:S.up=true) :
  Calls Tryz.prog 34 #[.pointer (some ⟨l,0,none⟩),.int .i64 en,.int .i64 (r:Int)] w fun v w' =>
   ∃ S' x R',v=.returned (.int .i64 x)/\Lx B w' l (k+sc+1) S' R'/\Kp isA B w w'/\Stl S S' (nw bs (R.T.extract 0 e) r (min d e / 58) (min (e / 58+1) sc)) x R R' (min d e / 58) (min (e / 58+1) sc):=by
 have c8:=h.g.c8
 have c3:=h.g.c3
 have hsl:=slc_to R.T en e he heT
 have C1:Hid (∀ wx,Calls Tryz.prog 69 #[.int .i64 (min R.dur en)] wx fun v w'=>v=.returned (.int .i64 ((min d e / 58:Nat):Int))/\w'=wx):=fun wx=>by
  have:=sectorOf_any (min R.dur en) (by omega) (by omega) wx
  rw[show(min R.dur en-1) / 58=((min d e / 58:Nat):Int) by omega] at this
  exact this
 have C2:Hid (∀ wx,Calls Tryz.prog 69 #[.int .i64 en] wx fun v w'=>v=.returned (.int .i64 ((e / 58:Nat):Int))/\w'=wx):=fun wx=>by
  have:=sectorOf_any en (by omega) (by omega) wx
  rw[show(en-1) / 58=((e / 58:Nat):Int) by omega] at this
  exact this
 have CS:Hid (∀ wx,LrIs B wx l R->Calls Tryz.prog 66 #[.pointer (some ⟨l,5,none⟩)] wx fun v w'=>v=.returned (.string R.T)/\LrIs B w' l R/\Kp isL B wx w'):=fun wx h=>String_log h
 have CL:Hid (∀ wx,Lx B wx l k S R->Calls Tryz.prog 70 #[.pointer (some ⟨l,0,none⟩),.string (R.T.extract 0 e),.int .i64 (r:Int),.int .i64 ((min d e / 58:Nat):Int),.int .i64 (min (((e / 58:Nat):Int)+1) R.secs)] wx fun v w' =>
   ∃ S' x R',v=.returned (.int .i64 x)/\Lx B w' l (k+sc+1) S' R'/\Kp isA B wx w'/\Stl S S' (nw bs (R.T.extract 0 e) r (min d e / 58) (min (e / 58+1) sc)) x R R' (min d e / 58) (min (e / 58+1) sc)):=fun wx h=>by
  rw[show min (((e / 58:Nat):Int)+1) R.secs=((min (e / 58+1) sc:Nat):Int) by omega]
  have hz:(R.T.extract 0 e).size=e:=by rw[ByteArray.size_extract];omega
  rcases Nat.lt_or_ge (min d e / 58) (min (e / 58+1) sc) with hab |hab
  ·refine(lay_any h hk hbs (R.T.extract 0 e) (by omega) r _ _ hr hab (by omega) (by omega) (fun i h1 h2=>by omega) hu).mono ?_
   rintro v w' ⟨S',x,hv,hl,hk',hL⟩
   exact⟨S',x,_,hv,hl.mono (by omega),hk',Or.inr ⟨hab,rfl,hL⟩⟩
  ·refine(lay_none h (R.T.extract 0 e) (r:Int) _ _ (by omega)).mono ?_
   rintro v w' ⟨hv,rfl⟩
   exact⟨S,0,R,hv,h.mono (by omega),Kp.refl _ _ _,Or.inl ⟨hab,rfl,rfl,rfl⟩⟩
 have H:Hid (Lx B w l k S R):=h
 have hq0:(0:Int)<=((e / 58:Nat):Int):=by omega
 have hq1:((e / 58:Nat):Int)<=10000:=by omega
 have he0:(1:Int)<=en:=by omega
 have he1:en<=1000000:=by omega
 clear h he heT hd hT hfit hsc hbs hk hu
 generalize ((e / 58:Nat):Int)=q at *
 generalize ((min d e / 58:Nat):Int)=a0 at *
 generalize R.T.extract 0 e=t at *
 have hw1:IntKind.i64.wrap (q+1)=q+1:=by rw[IntKind.wrap_i64];omega
 go_enter Tryz.func34,Tryz.ntmps34
 go_wp2_with (go_at_call 69;refine(C1.out _).mono ?_;rintro v w' ⟨rfl,rfl⟩)
 have hd:=H.out.drew
 have d3:=hd.g.c3
 go_region_held3 (fun W=>W.cell? ⟨l,3,none⟩=some (.int .i64 R.secs)) (first |exact d3 |go_keep) ((go_at_call 69;refine(C2.out _).mono ?_;rintro v w' ⟨rfl,rfl⟩))
 go_wp2_with (first
  | (go_at_call 66;refine(CS.out _ hd.g).mono ?_;rintro v w1 ⟨rfl,g1,k1⟩;have h1:Lx B w1 l k S R:=⟨hd.d.kept k1,g1⟩)
  | (go_at_call 70;refine(CL.out _ h1).mono ?_;rintro v w2 ⟨S',x,R',rfl,h2,k2,Z2⟩))
 go_ret
 exact⟨S',x,R',rfl,h2,((Kp.of_below ((Below.refl _ _).drew) H.out.le).trans k1.l).trans k2,Z2⟩
end
theorem append_int {B:Nat} {w:World} {v:Value} {ps:List Int} (h:OwnI B w v ps) {g:Nat} {p:Int} (hg:w.cell? ⟨g,0,none⟩=some (.int .i64 p)) (hB:B<=w.heap.size) (hl:ps.length<=100000) (ty:TypeId) :
  ∃ v' w',(Builtin.append_ #[45,45] ty #[v,.slice (some ⟨g,0,none⟩) 1 1]).run Tryz.prog w=.ok v' w'/\OwnI B w' v' (ps++[p])/\w.grownBy w' v.ownBlock/\(v'.ownBlock=v.ownBlock∨v'.ownBlock=some w.heap.size):=by
 obtain⟨i,hi,hz0,hz1,hz2⟩:=info_int
 have hnews:∀ j u,[Value.int .i64 p][j]?=some u->w.cell? ((⟨g,0,none⟩:Addr).add j)=some u:=by
  intro j u hu
  have:j=0:=by
   have:=(List.getElem?_eq_some_iff.1 hu).1
   simpa using this
  subst this
  simp at hu
  subst hu
  have hadd:(⟨g,0,none⟩:Addr).add 0=⟨g,0,none⟩:=by unfold Addr.add;split <;> simp_all
  rw[hadd]
  exact hg
 have h1:∀ u∈[Value.int .i64 p],u.oneCell'=true:=by
  intro u hu
  simp at hu
  subst hu
  rfl
 obtain⟨v',w',hr,ho,hgr,_⟩:=run_append_own (P:=Tryz.prog) w B 45 ty 3 i (.int .i64 0) 1 8 Tryz.underlying45 hi hz0 hz1 hz2 rfl (by omega) v ps.length (iv ps) h.row ⟨g,0,none⟩ 1 1 [.int .i64 p] rfl hnews h1 (by unfold maxLen;omega) (by omega) hB
 refine⟨v',w',hr,⟨?_⟩,hgr,?_⟩
 ·have e1:(ps++[p]).length=ps.length+1:=by simp
  have e2:iv (ps++[p])=iv ps++[.int .i64 p]:=by simp[iv]
  rw[e1,e2]
  exact ho
 ·have hl1:[Value.int .i64 p].length=1*i.size:=by rw[hz1];rfl
  rcases h.row.2 with⟨rfl,hn⟩ |⟨b,cap,cur,rfl,hbg,hgg,hnc,hcm,hcs,htake⟩
  ·have hr2:=run_append_nil (P:=Tryz.prog) w 45 ty 3 i (.int .i64 0) Tryz.underlying45 hi hz0 ⟨g,0,none⟩ 1 1 [.int .i64 p] hl1 hnews (by omega) (by omega) (by rw[hz2];omega)
   rw[hr2] at hr
   injection hr with e1 e2
   subst e1
   exact Or.inr rfl
  ·by_cases hroom:ps.length+1<=cap
   ·have hr2:=run_append_room (P:=Tryz.prog) w 45 ty 3 i Tryz.underlying45 hi b ps.length cap cur hgg ⟨g,0,none⟩ 1 1 [.int .i64 p] hl1 hnews h1 hroom (by rw[hz1,hcs];simp;omega)
    rw[hr2] at hr
    injection hr with e1 e2
    subst e1
    exact Or.inl rfl
   ·have holds:∀ j u,(iv ps)[j]?=some u->w.cell? ((⟨b,0,none⟩:Addr).add j)=some u:=by
     intro j u hu
     have hadd:(⟨b,0,none⟩:Addr).add j=⟨b,j,none⟩:=by unfold Addr.add;split <;> simp_all
     rw[hadd,cell_of_row w b j cur 3 (0,0) hgg]
     rw[← htake,List.getElem?_take] at hu
     split at hu
     ·simpa using hu
     ·cases hu
    have hr2:=run_append_grow (P:=Tryz.prog) w 45 ty 3 i (.int .i64 0) Tryz.underlying45 hi hz0 ⟨b,0,none⟩ ps.length cap (iv ps) (by rw[hz1,h.row.1]) holds ⟨g,0,none⟩ 1 1 [.int .i64 p] hl1 hnews (by omega) (by omega) (by rw[hz2];exact growslice_fits (by omega) (by omega))
    rw[hr2] at hr
    injection hr with e1 e2
    subst e1
    exact Or.inr rfl
theorem wpList_append_int2 {B:Nat} {w:World} {ops:Array Oper} {rest:List Oper} {o:Oper} {act:Act} {Q:Exit->Act->World->Prop} (hgd:o.guard=none) (s x:Operand)
  (ho:o.op=.call {callee:=.builtin .append,args:=#[s,x],argTypes:=#[45,45]}) {v:Value} {ps:List Int} (hs:act.eval s=v) (h:OwnI B w v ps)
  {g:Nat} {p:Int} (hx:act.eval x=.slice (some ⟨g,0,none⟩) 1 1) (hg:w.cell? ⟨g,0,none⟩=some (.int .i64 p)) (hB:B<=w.heap.size) (hl:ps.length<=100000)
  (K:∀ v' w',OwnI B w' v' (ps++[p])->w.grownBy w' v.ownBlock->(v'.ownBlock=v.ownBlock∨v'.ownBlock=some w.heap.size)->wpList Tryz.prog ops Q rest (act.put o.dst v') w'):wpList Tryz.prog ops Q (o ::rest) act w:=by
 refine wpList_plain hgd fun K' hK=>?_
 obtain⟨v',w',hr,h2,h3,h4⟩:=append_int h hg hB hl o.type
 unfold Oper.wp execOp
 simp only[ho,resolve,invoke,builtin,Sem.run_bind,Sem.run_pure,Result.andThen_ok,List.map_toArray,List.map_cons,List.map_nil,hs,hx,hr]
 exact hK _ _ (K v' w' h2 h3 h4)
structure LrE [Inhabited PrSet] (B:Nat) (w:World) (l:Nat) (R:Lr) (pv:Value):Prop where
 ex:∃ p v,w.heap[l]?=some (.cells (R.A l p v pv) 87 (0,0))/\(p=.pointer none∨p=.pointer (some ⟨l,5,none⟩))/\w.ownsRowF B 5 1 v R.T.size (Lib.strCells R.T)/\npv v
 pl:OwnI B w pv R.ps
 ge:Ow B l
 le:B<=w.heap.size
 lp:Ltp w
 pn:npv pv
section
variable [Inhabited PrSet]{B l k:Nat}{w w':World}{R:Lr}{pv:Value}
theorem LrE.is (h:LrE B w l R pv):LrIs B w l R:=by
 obtain⟨p,v,h1,h2,h3,n3⟩:=h.ex
 exact⟨⟨p,v,pv,h1,h2,h3,h.pl,n3,h.pn⟩,h.ge,h.le,h.lp⟩
theorem LrIs.e (h:LrIs B w l R):∃ pv,LrE B w l R pv:=by
 obtain⟨p,v,pv,h1,h2,h3,h4,n3,n4⟩:=h.ex
 exact⟨pv,⟨⟨p,v,h1,h2,h3,n3⟩,h4,h.ge,h.le,h.lp,n4⟩⟩
theorem LrE.below (h:LrE B w l R pv) (hb:Below w.heap.size w w'):LrE B w' l R pv:=by
 obtain⟨p,v,h1,h2,h3,n3⟩:=h.ex
 exact⟨⟨p,v,(hb.block l (lt_of_some h1)).trans h1,h2,ownF_below h3 hb,n3⟩,h.pl.below hb,h.ge,Nat.le_trans h.le hb.size,h.lp.below hb,h.pn⟩
theorem LrE.cell (h:LrE B w l R pv):w.cell? ⟨l,7,none⟩=some pv:=by
 obtain⟨p,v,h1,h2,h3,n3⟩:=h.ex
 rw[Lib.cell_of_heap h1];rfl
theorem LrE.grown (h:LrE B w l R pv) {w2:World} (hg:w.grownBy w2 pv.ownBlock):w2.cell? ⟨l,7,none⟩=some pv/\w2.frozen? ⟨l,7,none⟩=false:=by
 obtain⟨p,v,h1,h2,h3,n3⟩:=h.ex
 have hl:some l≠pv.ownBlock:=fun e=>by
  rcases h.pl.row.2 with⟨rfl,_⟩ |⟨b,cap,cur,rfl,hbg,hgg,_⟩
  ·simp[Value.ownBlock] at e
  ·simp[Value.ownBlock] at e
   subst e
   rw[h1] at hgg;cases hgg
 have b2:w2.heap[l]?=some (.cells (R.A l p v pv) 87 (0,0)):=(hg.block l (lt_of_some h1) hl).trans h1
 exact⟨by rw[Lib.cell_of_heap b2];rfl,Lib.frozen_of_heap b2 7⟩
theorem LrE.put (h:LrE B w l R pv) {w2:World} {v':Value} {ps':List Int} (ho:OwnI B w2 v' ps') (hg:w.grownBy w2 pv.ownBlock) (hob:v'.ownBlock=pv.ownBlock∨v'.ownBlock=some w.heap.size):LrE B (w2.setCell ⟨l,7,none⟩ v') l {R with ps:=ps'} v'/\Kp isL B w (w2.setCell ⟨l,7,none⟩ v')/\∀ (j:Nat) (o:Obj),w.heap[j]?=some o->some j≠pv.ownBlock->j≠l->(w2.setCell ⟨l,7,none⟩ v').heap[j]?=some o:=by
 obtain⟨p,v,h1,h2,h3,n3⟩:=h.ex
 have hrow:∀ g,pv.ownBlock=some g->B<=g/\∃ cur,w.heap[g]?=some (.cells cur 3 (0,0)):=by
  intro g e
  rcases h.pl.row.2 with⟨rfl,_⟩ |⟨b,cap,cur,rfl,hbg,hgg,_⟩
  ·simp[Value.ownBlock] at e
  ·simp[Value.ownBlock] at e
   subst e
   exact⟨hbg,cur,hgg⟩
 have hl:some l≠pv.ownBlock:=fun e=>by
  obtain⟨_,cur,e2⟩:=hrow l e.symm
  rw[h1] at e2;cases e2
 have b2:w2.heap[l]?=some (.cells (R.A l p v pv) 87 (0,0)):=(hg.block l (lt_of_some h1) hl).trans h1
 have hkeep:∀ (j:Nat) (o:Obj),w.heap[j]?=some o->some j≠pv.ownBlock->j≠l->(w2.setCell ⟨l,7,none⟩ v').heap[j]?=some o:=fun j o e n1 n2=>by
  rw[Below.heap_setCell _ _ _ _ n2]
  exact(hg.block j (lt_of_some e) n1).trans e
 have hz:(w2.setCell ⟨l,7,none⟩ v').heap.size=w2.heap.size:=by simp[World.setCell]
 have hpr:∀ (j:Nat) (o:Obj),w.heap[j]?=some o->isP j->(w2.setCell ⟨l,7,none⟩ v').heap[j]?=some o:=fun j o e hn=>hkeep j o e (fun e2=>h.pn j e2.symm hn) (fun e2=>by subst e2;exact h.ge.np hn)
 have hnv:npv v':=h.pn.of h.lp (hob.elim Or.inl (fun e=>Or.inr (Or.inl e)))
 refine⟨⟨⟨p,v,Joins.block_setCell b2 _,h2,?_,n3⟩,?_,h.ge,by have:=hg.size;have:=h.le;omega,fun j o e=>hpr j o (h.lp j o e) (isP_of e),hnv⟩,⟨?_,?_,hpr⟩,hkeep⟩
 ·refine ownF_of h3 (fun j cur fz e=>hkeep j _ e (fun e2=>?_) (fun e2=>?_))
  ·obtain⟨_,cur',e3⟩:=hrow j e2.symm
   rw[e] at e3;cases e3
  ·subst e2;rw[h1] at e;cases e
 ·refine ho.of_block (fun j cur fz e=>?_)
  have hj:j≠l:=fun e2=>by subst e2;rw[b2] at e;cases e
  rw[Below.heap_setCell _ _ _ _ hj];exact e
 ·exact((Below.refl B w).grown hg h.le (fun g e=>(hrow g e).1)).setCell (p:=⟨l,7,none⟩) h.ge.ge _
 ·intro j o e hn
  by_cases hj:j=l
  ·subst hj;rw[h1] at e;cases e;exact absurd (Or.inr (Or.inr rfl)) hn
  ·refine hkeep j o e (fun e2=>?_) hj
   obtain⟨_,cur,e3⟩:=hrow j e2.symm
   rw[e] at e3;cases e3;exact hn (Or.inl rfl)
theorem WriteString_log (h:LrIs B w l R) (s:ByteArray) (hs:R.T.size+s.size<=1000000):Calls Tryz.prog 64 #[.pointer (some ⟨l,5,none⟩),.string s] w fun e w'=>e=.returned (.tuple #[.int .i64 s.size,.nilIface])/\LrIs B w' l {R with T:=R.T++s}/\Kp isL B w w':=by
 obtain⟨p,v,pv,h1,h2,h3,h4,n3,n4⟩:=h.ex
 refine(Bf_WriteString h1 h2 h3 s (by omega) h.ge h.le n3 h.lp).mono ?_
 rintro e w' ⟨⟨v',b1,o1,nv⟩,rfl,k1⟩
 refine⟨rfl,⟨⟨_,v',pv,b1,Or.inr rfl,?_,h4.of_block (fun k cur fz e=>k1.block k _ e (by simp[isT])),nv,n4⟩,h.ge,Nat.le_trans h.le k1.size,h.lp.kp k1⟩,isT_L k1⟩
 have e1:(R.T++s).size=R.T.size+s.size:=bsz _ _
 have e2:Lib.strCells (R.T++s)=Lib.strCells R.T++Lib.strCells s:=by
  rw[Lib.strCells_eq,Lib.strCells_eq,Lib.strCells_eq,← Lib.byteCells_append,ByteArray.data_append,Array.toList_append]
 show w'.ownsRowF B 5 1 v' (R.T++s).size (Lib.strCells (R.T++s))
 rw[e1,e2]
 exact o1
def moved (e:Int) (st:List Int):List Int:=st.map (fun x=>e+x)
set_option maxHeartbeats 2000000 in
theorem gather_some (h:LrE B w l R pv) (s:ByteArray) (hs:R.T.size+s.size<=1000000) (gs c:Nat) (cs:Array Value) (st:List Int) (hgs:w.heap[gs]?=some (.cells cs 3 (0,0))) (hst:∀ i,(hi:i<st.length)->cs[i]?=some (.int .i64 st[i])) (hne:pv.ownBlock≠some gs) (hb:∀ x∈st,0<=x/\x<=1000000) (hlen:R.ps.length+st.length<=100000) :
  Calls Tryz.prog 32 #[.pointer (some ⟨l,0,none⟩),.string s,.slice (some ⟨gs,0,none⟩) st.length c] w fun e w'=>e=.returned (.tuple #[])/\LrIs B w' l {R with T:=R.T++s,ps:=R.ps++moved ((R.T.size:Int)+1) st}/\Kp isL B w w':=by
 have CE:Hid (Calls Tryz.prog 33 #[.pointer (some ⟨l,0,none⟩)] w fun e w'=>e=.returned (.int .i64 ((R.T.size:Int)+1))/\w'=w):=End_any h.is (by omega)
 have CW:Hid (∀ wx ps,LrIs B wx l {R with ps:=ps}->Calls Tryz.prog 64 #[.pointer (some ⟨l,5,none⟩),.string s] wx fun e w'=>e=.returned (.tuple #[.int .i64 s.size,.nilIface])/\LrIs B w' l {R with T:=R.T++s,ps:=ps}/\Kp isL B wx w'):=fun wx ps h=>WriteString_log h s hs
 have hE0:(0:Int)<=(R.T.size:Int)+1:=by omega
 have hE1:(R.T.size:Int)+1<=1000001:=by omega
 have H:Hid (LrE B w l R pv):=h
 have HG:Hid (w.heap[gs]?=some (.cells cs 3 (0,0))):=hgs
 have HB:Hid (∀ x∈st,0<=x/\x<=1000000):=hb
 have HS:Hid (∀ i,(hi:i<st.length)->cs[i]?=some (.int .i64 st[i])):=hst
 have HL:Hid (R.ps.length+st.length<=100000):=hlen
 clear h hgs hb hst hlen hs
 generalize (R.T.size:Int)+1=E at *
 go_enter Tryz.func32,Tryz.ntmps32
 go_wp2_with (go_at_call 33;refine CE.out.mono ?_;rintro e w0 ⟨rfl,rfl⟩)
 go_loopw [13] (fun ix wr=>∃ (j:Nat) (pj:Value),j<=st.length/\ix=.int .i64 (j:Int)/\LrE B wr l {R with ps:=R.ps++moved E (st.take j)} pj/\wr.heap[gs]?=some (.cells cs 3 (0,0))/\pj.ownBlock≠some gs/\Kp isL B w0 wr) (fun ix _=>st.length-(intOf ix).toNat)
 case atStart=>exact⟨0,pv,Nat.zero_le _,rfl,by simpa[moved] using H.out,HG.out,hne,Kp.refl _ _ _⟩
 case round =>
  obtain⟨j,pj,hj,rfl,hE,hg,hn,hK⟩:=hrel
  by_cases hlt:j<st.length
  ·obtain⟨a',c',rfl⟩:=hE.pl.ex
   have c7:=hE.cell
   have cg:wr.cell? ⟨gs,j,none⟩=some (.int .i64 st[j]):=by rw[Lib.cell_of_heap hg];exact HS.out j hlt
   have hx:=HB.out st[j] (List.getElem_mem _)
   have hm:Hid (moved E (st.take (j+1))=moved E (st.take j)++[E+st[j]]):=(by unfold moved;rw[List.take_succ_eq_append_getElem hlt,List.map_append];rfl:moved E (st.take (j+1))=moved E (st.take j)++[E+st[j]])
   have hlen:(R.ps++moved E (st.take j)).length<=100000:=by have:=HL.out;simp[moved];omega
   have bA:Below wr.heap.size wr (wr.alloc (.cells #[.int .i64 (E+st[j])] 3)):=(Below.refl _ _).alloc (Nat.le_refl _) _
   have EA:Hid (LrE B (wr.alloc (.cells #[.int .i64 (E+st[j])] 3)) l {R with ps:=R.ps++moved E (st.take j)} (.slice a' (R.ps++moved E (st.take j)).length c')):=hE.below bA
   have OA:Hid (OwnI B (wr.alloc (.cells #[.int .i64 (E+st[j])] 3)) (.slice a' (R.ps++moved E (st.take j)).length c') (R.ps++moved E (st.take j))):=hE.pl.below bA
   have cA:(wr.alloc (.cells #[.int .i64 (E+st[j])] 3)).cell? ⟨wr.heap.size,0,none⟩=some (.int .i64 (E+st[j])):=by simp
   have gA:Hid ((wr.alloc (.cells #[.int .i64 (E+st[j])] 3)).heap[gs]?=some (.cells cs 3 (0,0))):=(bA.block gs (lt_of_some hg)).trans hg
   have KA:Hid (Kp isL B w0 (wr.alloc (.cells #[.int .i64 (E+st[j])] 3))):=hK.below bA H.out.le
   have hgl:Hid (gs≠l):=by
    intro e
    obtain⟨p,v,h1,_⟩:=hE.ex
    rw[← e,hg] at h1
    cases h1
   have hgz:gs<wr.heap.size+1:=by have:=lt_of_some hg;omega
   have HN:Hid _:=hn
   have hi2:(j:Int)<(st.length:Int):=by omega
   have f7:=hE.is.f 7
   clear hE hg hK hn bA
   obtain⟨hx0,hx1⟩:=hx
   have hj1:j+1<=st.length:=hlt
   have hj2:(j:Int)<=100000:=by have:=HL.out;omega
   have hP:Hid (R.ps++moved E (st.take (j+1))=(R.ps++moved E (st.take j))++[E+st[j]]):=(by rw[hm.out,List.append_assoc]:R.ps++moved E (st.take (j+1))=(R.ps++moved E (st.take j))++[E+st[j]])
   clear hm
   generalize st[j]=X at *
   obtain⟨P1,hP1⟩:∃ P1,P1=R.ps++moved E (st.take (j+1)):=⟨_,rfl⟩
   rw[← hP1] at hP
   have HP1:Hid _:=hP1
   clear hP1
   generalize R.ps++moved E (st.take j)=P at *
   have hw1:IntKind.i64.wrap (E+X)=E+X:=by rw[IntKind.wrap_i64];omega
   go_wp2_with (at_builtin;refine wpList_append_int2 (B:=B) rfl (.tmp 21) (.tmp 25) rfl rfl OA.out rfl cA EA.out.le hlen ?_;intro v' w2 ho2 hg2 hown2;obtain⟨d7,e7⟩:=EA.out.grown hg2;rw[← hP.out] at ho2;obtain⟨a2,c2,rfl⟩:=ho2.ex)
   go_roundw
   case rel =>
    obtain⟨q1,q2,q3⟩:=EA.out.put ho2 hg2 hown2
    refine⟨j+1,.slice a2 P1.length c2,hj1,by go_num,?_,q3 gs _ gA.out (fun e=>HN.out e.symm) hgl.out,fun e=>?_,KA.out.trans q2⟩
    ·rw[← HP1.out];exact q1
    ·rcases hown2 with e2 |e2
     ·exact HN.out (e2.symm.trans e)
     ·rw[e2] at e
      simp at e
      omega
   case measure=>simp[intOf];omega
  ·obtain rfl:j=st.length:=by omega
   have hi2:¬ (st.length:Int)<(st.length:Int):=by omega
   rw[List.take_length] at hE
   have hE':Hid _:=hE.is
   have HK:Hid _:=hK
   clear hE hg hn hK
   go_wp2_with (go_at_call 64;refine(CW.out _ _ hE'.out).mono ?_;rintro e w3 ⟨rfl,h3,k3⟩)
   go_end0
   exact⟨rfl,h3,HK.out.trans k3⟩
set_option maxHeartbeats 1000000 in
theorem gather_nil (h:LrIs B w l R) (s:ByteArray) (hs:R.T.size+s.size<=1000000) :
  Calls Tryz.prog 32 #[.pointer (some ⟨l,0,none⟩),.string s,.slice none 0 0] w fun e w'=>e=.returned (.tuple #[])/\LrIs B w' l {R with T:=R.T++s}/\Kp isL B w w':=by
 have CE:Hid (Calls Tryz.prog 33 #[.pointer (some ⟨l,0,none⟩)] w fun e w'=>e=.returned (.int .i64 ((R.T.size:Int)+1))/\w'=w):=End_any h (by omega)
 have CW:Hid (∀ wx,LrIs B wx l R->Calls Tryz.prog 64 #[.pointer (some ⟨l,5,none⟩),.string s] wx fun e w'=>e=.returned (.tuple #[.int .i64 s.size,.nilIface])/\LrIs B w' l {R with T:=R.T++s}/\Kp isL B wx w'):=fun wx h=>WriteString_log h s hs
 have H:Hid (LrIs B w l R):=h
 clear h hs
 generalize (R.T.size:Int)+1=E at *
 go_enter Tryz.func32,Tryz.ntmps32
 go_wp2_with (go_at_call 33;refine CE.out.mono ?_;rintro e w0 ⟨rfl,rfl⟩)
 go_loopw [13] (fun ix wr=>ix=.int .i64 0/\wr=w0) (fun _ _=>0)
 case atStart=>exact⟨rfl,rfl⟩
 case round =>
  obtain⟨rfl,rfl⟩:=hrel
  go_wp2_with (go_at_call 64;refine(CW.out _ H.out).mono ?_;rintro e w3 ⟨rfl,h3,k3⟩)
  go_end0
  exact⟨rfl,h3,k3⟩
theorem gather_any {w0:World} {v:Value} {st:List Int} (h:LrIs B w0 l R) (hb:Below w0.heap.size w0 w) (ho:OwnI w0.heap.size w v st) (s:ByteArray) (hs:R.T.size+s.size<=1000000) (hx:∀ x∈st,0<=x/\x<=1000000) (hlen:R.ps.length+st.length<=100000) :
  Calls Tryz.prog 32 #[.pointer (some ⟨l,0,none⟩),.string s,v] w fun e w'=>e=.returned (.tuple #[])/\LrIs B w' l {R with T:=R.T++s,ps:=R.ps++moved ((R.T.size:Int)+1) st}/\Kp isL B w w':=by
 obtain⟨pv,hE⟩:=h.e
 rcases ho.row.2 with⟨rfl,hn⟩ |⟨g,cap,cur,rfl,hbg,hgg,hnc,hcm,hcs,htake⟩
 ·have:st=[]:=List.eq_nil_of_length_eq_zero hn
  subst this
  refine(gather_nil (h.below hb) s hs).mono ?_
  rintro e w' ⟨he,h1,h2⟩
  refine⟨he,?_,h2⟩
  simpa[moved] using h1
 ·refine gather_some (hE.below hb) s hs g cap cur st hgg (fun i hi=>?_) (fun e=>?_) hx hlen
  ·have:(iv st)[i]?=some (.int .i64 st[i]):=by simp[iv,hi]
   rw[← htake,List.getElem?_take,if_pos (by omega)] at this
   simpa using this
  ·rcases hE.pl.row.2 with⟨rfl,_⟩ |⟨b,cap',cur',rfl,_,hgg',_⟩
   ·simp[Value.ownBlock] at e
   ·simp[Value.ownBlock] at e
    have:=lt_of_some hgg'
    omega
end
theorem cat_len {fs:List ByteArray} (h:∀ f∈fs,Frm f):fs.length*7<=(cat fs).size:=by
 induction fs with
 | nil=>exact Nat.le_refl _
 | cons f l ih =>
  have:=(h f (List.mem_cons_self ..)).pos
  have:=ih (fun g hg=>h g (List.mem_cons_of_mem _ hg))
  rw[cat,bsz,List.length_cons];omega
theorem plc0_snoc (l:List ByteArray) (f:ByteArray):plc 0 (l++[f])=plc 0 l++[((cat l).size:Int)]:=by
 rw[plc_snoc,Nat.zero_add]
set_option maxHeartbeats 2000000 in
theorem frames_any {w:World} (s:ByteArray) (hs:s.size<=500000):Calls Tryz.prog 31 #[.string s] w fun e w'=>∃ v fs,e=.returned (.tuple #[v,.int .i64 ((cat fs).size:Int)])/\OwnI w.heap.size w' v (plc 0 fs)/\Spl s fs/\Below w.heap.size w w':=by
 have hz:(s.size:Int)<=500000:=by omega
 go_enter Tryz.func31,Tryz.ntmps31
 go_wp2
 go_loopw [4,5] (fun sv at_ wr=>∃ fs:List ByteArray,(∀ f∈fs,Frm f)/\(∃ x,s=cat fs++x)/\at_=.int .i64 ((cat fs).size:Int)/\OwnI w.heap.size wr sv (plc 0 fs)/\Below w.heap.size w wr) (fun _ at_ _=>s.size-(intOf at_).toNat)
 case atStart=>exact⟨[],(fun f hf=>by cases hf),⟨s,(nil_app s).symm⟩,rfl,OwnI.nil _ _,Below.refl _ _⟩
 case round =>
  obtain⟨fs,hF,⟨x,hx⟩,rfl,hO,hb⟩:=hrel
  have hle:(cat fs).size<=s.size:=by rw[hx,bsz];omega
  have CO:Hid (∀ wx,Calls Tryz.prog 67 #[.string s,.int .i64 ((cat fs).size:Int)] wx fun e w'=>(∃ v,e=.returned (.tuple #[v,.int .i64 (openM s (cat fs).size).2.1,.int .i64 (openM s (cat fs).size).2.2])/\RecF w' v (openM s (cat fs).size).1 wx.heap.size)/\Below wx.heap.size wx w'):=fun wx=>Open_any s _ (by omega)
  have hcl:=cat_len hF
  have hpl:=plc_length 0 fs
  by_cases he:(openM s (cat fs).size).2.2=0
  ·obtain⟨f,hf,hk,hr,hfl,hfe⟩:=open_frm (s:=s) (a:=(cat fs).size) (r:=(openM s (cat fs).size).1) (k:=(openM s (cat fs).size).2.1) hle (by rw[← he])
   have HF:Hid (∀ g∈fs++[f],Frm g):=(fun g hg=>by
    rcases List.mem_append.1 hg with h |h
    ·exact hF g h
    ·rw[List.mem_singleton] at h;subst h;exact hf:∀ g∈fs++[f],Frm g)
   have hfx:f++s.extract ((cat fs).size+f.size) s.size=x:=by
    have e1:s.extract (cat fs).size s.size=x:=by rw[hx];exact ext_right _ _
    rw[← e1,← ext_join s (a:=(cat fs).size) (b:=(cat fs).size+f.size) (c:=s.size) (by omega) hfl,hfe]
   have HX:Hid (∃ y,s=cat (fs++[f])++y):=(⟨s.extract ((cat fs).size+f.size) s.size,by rw[cat_snoc,ByteArray.append_assoc,hfx];exact hx⟩:∃ y,s=cat (fs++[f])++y)
   have hfp:=hf.pos
   have hcs:Hid ((cat (fs++[f])).size=(cat fs).size+f.size):=(by rw[cat_snoc,bsz]:(cat (fs++[f])).size=(cat fs).size+f.size)
   rw[he,hk] at CO
   have HP:Hid (plc 0 (fs++[f])=plc 0 fs++[((cat fs).size:Int)]):=plc0_snoc fs f
   have hl2:(plc 0 fs).length<=100000:=by omega
   have HB:Hid (Below w.heap.size w wr):=hb
   have hc0:(0:Int)<=((cat fs).size:Int):=by omega
   have hc1:((cat fs).size:Int)+(f.size:Int)<=500000:=by omega
   have hf0:(0:Int)<=(f.size:Int):=by omega
   have HM:Hid (s.size-((cat fs).size+f.size)<s.size-(cat fs).size):=(by omega:s.size-((cat fs).size+f.size)<s.size-(cat fs).size)
   obtain⟨ao,co,rfl⟩:=hO.ex
   have HO:Hid _:=hO
   clear hF hx hle hk hr hfl hfe hfx hb hcl hpl hf he hO hfp
   generalize (openM s (cat fs).size).1=M at *
   obtain⟨s9,l9,g9⟩:=M
   generalize plc 0 fs=P at *
   generalize hC:((cat fs).size:Int)=C at *
   have HC:Hid _:=hC
   clear hC
   generalize hFf:(f.size:Int)=Z at *
   have HZ:Hid _:=hFf
   clear hFf
   have hw1:IntKind.i64.wrap (C+Z)=C+Z:=by rw[IntKind.wrap_i64];omega
   go_wp2_with (first
    | (go_at_call 67;refine(CO.out _).mono ?_;rintro e w1 ⟨⟨v,rfl,hv⟩,b1⟩;obtain⟨I,T,rfl,hI,hT⟩:=hv.ex;dsimp only at hI hT)
    | (refine wpList_new_rc _ rfl rfl ?_;intro w2 b6 N2)
    | (refine wpList_put_rc (s':=s9) (I':=I) (T':=T) _ rfl (.tmp 6) (.tmp 13) rfl rfl rfl N2.rc hI.slI.one hT.slT.one ?_;intro w3 P3;have b3:Below w1.heap.size w1 w3:=N2.below.trans (P3.below (by have:=N2.eq;omega) N2.below.size);have HO3:=(HO.out.below b1).below b3;have HB3:Hid (Below w.heap.size w w3):=(thn (thn HB.out b1) b3);clear N2 P3 b3 hI hT hv b1 HO;have bA:Below w3.heap.size w3 (w3.alloc (.cells #[.int .i64 C] 3)):=(Below.refl _ _).alloc (Nat.le_refl _) _;have HOA:Hid _:=HO3.below bA;have HBA:Hid _:=thn HB3.out bA;have cA:(w3.alloc (.cells #[.int .i64 C] 3)).cell? ⟨w3.heap.size,0,none⟩=some (.int .i64 C):=cell_new1 w3 _ 3;clear bA HO3)
    | (at_builtin;refine wpList_append_int (B:=w.heap.size) rfl (.tmp 20) (.tmp 22) rfl rfl HOA.out rfl cA HBA.out.size hl2 ?_;intro v' w4 hO4 hb4))
   go_roundw
   case rel =>
    refine⟨fs++[f],HF.out,HX.out,?_,?_,HBA.out.trans hb4⟩
    ·rw[hcs.out]
     have:=HC.out
     have:=HZ.out
     congr 1
     omega
    ·rw[HP.out];exact hO4
   case measure =>
    have:=HC.out
    have:=HZ.out
    have:=HM.out
    simp[intOf]
    omega
  ·have he':((openM s (cat fs).size).2.2 !=0)=true:=by simpa using he
   have HS:Hid (Spl s fs):=⟨hF,⟨x,hx⟩,he⟩
   obtain⟨ao,co,rfl⟩:=hO.ex
   have HO:Hid (OwnI w.heap.size wr (.slice ao (plc 0 fs).length co) (plc 0 fs)):=hO
   have HB:Hid (Below w.heap.size w wr):=hb
   clear hF hx hle hO hb hcl hpl he
   generalize (openM s (cat fs).size).1=M at *
   generalize (openM s (cat fs).size).2.1=K1 at *
   generalize (openM s (cat fs).size).2.2=K2 at *
   obtain⟨s9,l9,g9⟩:=M
   generalize hC:((cat fs).size:Int)=C at *
   have HC:Hid _:=hC
   clear hC
   generalize hP:(plc 0 fs).length=PL at *
   clear hP
   go_wp2_with (first
    | (go_at_call 67;refine(CO.out _).mono ?_;rintro e w1 ⟨⟨v,rfl,hv⟩,b1⟩;obtain⟨I,T,rfl,hI,hT⟩:=hv.ex;dsimp only at hI hT)
    | (refine wpList_new_rc _ rfl rfl ?_;intro w2 b6 N2)
    | (refine wpList_put_rc (s':=s9) (I':=I) (T':=T) _ rfl (.tmp 6) (.tmp 13) rfl rfl rfl N2.rc hI.slI.one hT.slT.one ?_;intro w3 P3;have b3:Below w1.heap.size w1 w3:=N2.below.trans (P3.below (by have:=N2.eq;omega) N2.below.size);have HO3:=(HO.out.below b1).below b3;have HB3:Hid (Below w.heap.size w w3):=(thn (thn HB.out b1) b3)))
   go_ret2
   refine⟨_,fs,?_,HO3,HS.out,HB3.out⟩
   rw[HC.out];rfl
end Go.Proofs.YtdchjncnjgelhaaGreat
