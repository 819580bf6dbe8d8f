import Derived.Test.YtdchjncnjgelhaaGreatMac
import Derived.RangeFuncWrites
import Derived.RangeFuncNested
import Derived.RangeFuncBound
import Derived.RangeFuncCalls
import Derived.RangeFuncLeaves
import Derived.Shelf.Abstract
import Derived.Shelf.RegionOpen
import Derived.OwnWalkIn
import Derived.TacticsInMore
import Derived.LoopNIn
import Derived.LoopIn
set_option linter.unusedVariables false
set_option linter.unusedSimpArgs false
set_option maxRecDepth 100000
namespace Go.Proofs.YtdchjncnjgelhaaGreat.Fd
open Go.RowKit Gm Go.Maps Go.Shelf
attribute [local go_sem] Oper.semAt_some
abbrev BwC:=Int × (Int × Hs)
def bwC (pre:List BwC):List (Int × Hs):=pre.map (·.2)
def encA (x:Int × Hs):Value:=.agg #[.int .i64 x.1,.string x.2.v,.bool x.2.is]
structure KpC (n:Nat) (W W':World):Prop where
 size:W.heap.size<=W'.heap.size
 blk:∀ k,k<n->W'.heap[k]?=W.heap[k]?
theorem KpC.refl (n:Nat) (W:World):KpC n W W:=⟨Nat.le_refl _,fun _ _=>rfl⟩
theorem KpC.trans {n:Nat} {A B C:World} (h:KpC n A B) (k:KpC n B C):KpC n A C:=⟨Nat.le_trans h.size k.size,fun i hi=>(k.blk i hi).trans (h.blk i hi)⟩
theorem KpC.put {n:Nat} (W:World) (l:Nat) (o:Obj) (hl:n<=l):KpC n W (W.putObj l o):=⟨by simp,fun k hk=>World.putObj_heap_other (by omega)⟩
theorem bwC_snoc (pre:List BwC) (x:BwC):bwC (pre++[x])=bwC pre++[x.2]:=by simp[bwC]
section
variable {ts:List (Int × Hs)}{n₀ Bs g c m:Nat}{a:Option Addr}
set_option maxHeartbeats 2000000 in
theorem bkc1_in (F:Fence) (n:Nat) (hF:F.fn 90) (hro:F.round=none) (hn:1<=n) (l:Nat) (hm:ts.length=m) (hm2:m<=100000) (hB:Bs<n₀) (J Jx:List BwC->World->Prop)
  (hY:∀ (pre:List BwC) (x:BwC) W,J pre W->pre.length<m->YieldAt F (n-1) Tryz.prog l #[.int .i64 x.1,encA x.2] W fun e W' =>
   (e=.returned (.bool true)/\J (pre++[x]) W'/\KpC n₀ W W')∨(e=.returned (.bool false)/\Jx (pre++[x]) W'))
  (W:World) (hBs:W.cell? ⟨Bs,0,none⟩=some (.slice a m c)) (hc:0<m->a=some ⟨g,0,none⟩/\g<n₀/\∀ j (hj:j<ts.length),W.cell? ⟨g,j*3,none⟩=some (.int .i64 ts[j].1)/\W.cell? ⟨g,j*3+1,none⟩=some (.string ts[j].2.v)/\W.cell? ⟨g,j*3+2,none⟩=some (.bool ts[j].2.is)) (h0:J [] W) :
  CallsIn F n Tryz.prog 90 #[.func (.yield l) #[] #[],.pointer (some ⟨Bs,0,none⟩)] W fun e W'=>(∃ v,e=.returned v) /\
   ((∃ ys,bwC ys=ts.reverse/\J ys W')∨(∃ pre,bwC pre <+:ts.reverse/\Jx pre W')):=by
 refine callsIn_of_wp Tryz.func90 rfl hF ?_ hro
 simp only[Tryz.ntmps90,List.size_toArray,List.length_cons,List.length_nil,Nat.reduceAdd,Nat.reduceSub,Array.replicate_succ,Array.replicate_zero,List.push_toArray,List.append_toArray,List.nil_append,List.cons_append]
 have hw1:IntKind.i64.wrap ((m:Int)-1)=(m:Int)-1:=by rw[IntKind.wrap_i64];omega
 gi_wp2
 gi_loopw [3] (fun i wr=>∃ (k:Nat) (pre:List BwC),k<=m/\i=.int .i64 ((m:Int)-1-k)/\pre.length=k/\bwC pre=(ts.drop (m-k)).reverse/\J pre wr/\KpC n₀ W wr)
  (fun i _=>(intOf i+1).toNat)
 case atStart=>exact⟨0,[],Nat.zero_le _,by simp,rfl,by simp[bwC,List.drop_of_length_le (Nat.le_of_eq hm)],h0,KpC.refl _ _⟩
 case round =>
  obtain⟨k,pre,hk,rfl,hl,hp,hJs,hnx⟩:=hrel
  have hbx:wr.cell? ⟨Bs,0,none⟩=some (.slice a m c):=(World.cell?_of_block (hnx.blk Bs hB)).trans hBs
  by_cases hlt:k<m
  ·have hit:m-1-k<ts.length:=by omega
   obtain⟨ea,hg1,hcc⟩:=hc (by omega)
   have hcx0:wr.cell? ⟨g,(m-1-k)*3,none⟩=some (.int .i64 ts[m-1-k].1):=(World.cell?_of_block (hnx.blk g hg1)).trans (hcc _ hit).1
   have hcx1:wr.cell? ⟨g,(m-1-k)*3+1,none⟩=some (.string ts[m-1-k].2.v):=(World.cell?_of_block (hnx.blk g hg1)).trans (hcc _ hit).2.1
   have hcx2:wr.cell? ⟨g,(m-1-k)*3+2,none⟩=some (.bool ts[m-1-k].2.is):=(World.cell?_of_block (hnx.blk g hg1)).trans (hcc _ hit).2.2
   clear hcc
   subst ea
   obtain⟨fn,tmps,assign,body,hy,hR⟩:=hY pre ((m:Int)-1-k,ts[m-1-k]) wr hJs (by omega)
   have hdrop:bwC (pre++[((m:Int)-1-k,ts[m-1-k])])=(ts.drop (m-(k+1))).reverse:=by
    rw[bwC_snoc,hp]
    have:ts.drop (m-(k+1))=ts[m-1-k] ::ts.drop (m-k):=by
     have e1:m-(k+1)=m-1-k:=by omega
     have e2:m-k=m-1-k+1:=by omega
     rw[e1,e2]
     exact List.drop_eq_getElem_cons hit
    rw[this,List.reverse_cons]
   have hi0:0<=(m:Int)-1-k:=by omega
   have hi1:(m:Int)-1-k<m:=by omega
   have hin:((m:Int)-1-k).toNat=m-1-k:=by omega
   have hw2:IntKind.i64.wrap ((m:Int)-1-k-1)=(m:Int)-1-k-1:=by rw[IntKind.wrap_i64];omega
   dsimp only[encA] at hy
   clear hp hc hY
   gi_wp2
   refine hR.mono ?_
   rintro e W3 (⟨rfl,hJ3,hk3⟩ |⟨rfl,hJx3⟩)
   ·gi_wp2
    go_roundw
    case rel=>exact⟨k+1,_,by omega,by congr 1;omega,by rw[List.length_append,hl];rfl,hdrop,hJ3,hnx.trans hk3⟩
    case measure=>simp[intOf];omega
   ·gi_wp2
    refine bodyPost_ret (results_none rfl _ _ _) rfl ?_
    refine⟨⟨_,rfl⟩,.inr ⟨_,?_,hJx3⟩⟩
    rw[hdrop]
    exact List.reverse_prefix.2 (List.drop_suffix _ _)
  ·have hk0:k=m:=by omega
   subst hk0
   have hi0:¬ 0<=(k:Int)-1-k:=by omega
   gi_wp2
   go_end0
   exact⟨⟨_,rfl⟩,.inl ⟨pre,by rw[hp];simp,hJs⟩⟩
set_option maxHeartbeats 1000000 in
theorem bkc_in (F:Fence) (n:Nat) (h:F.fn 59) (hro:F.round=none) (a:Option Addr) (m c:Nat) (w:World) :
  CallsIn F n Tryz.prog 59 #[.slice a m c] w fun e w'=>e=.returned (.func (.func 90) #[] #[.pointer (some ⟨w.heap.size,0,none⟩)])/\w'=w.alloc (.cells #[.slice a m c] 66):=by
 refine callsIn_of_wp Tryz.func59 rfl h ?_ hro
 simp only[Tryz.ntmps59,List.size_toArray,List.length_cons,List.length_nil,Nat.reduceAdd,Nat.reduceSub,Array.replicate_succ,Array.replicate_zero,List.push_toArray,List.append_toArray,List.nil_append,List.cons_append]
 gi_wp2
 go_ret
 exact⟨rfl,rfl⟩
theorem bkc_stops (F:Fence) (n:Nat) (hF:F.fn 90) (hro:F.round=none) (hn:1<=n) (hm:ts.length=m) (hm2:m<=100000) (hB:Bs<n₀) {w:World} (hw:n₀<=w.heap.size)
  (hBs:w.cell? ⟨Bs,0,none⟩=some (.slice a m c)) (hc:0<m->a=some ⟨g,0,none⟩/\g<n₀/\∀ j (hj:j<ts.length),w.cell? ⟨g,j*3,none⟩=some (.int .i64 ts[j].1)/\w.cell? ⟨g,j*3+1,none⟩=some (.string ts[j].2.v)/\w.cell? ⟨g,j*3+2,none⟩=some (.bool ts[j].2.is)) :
  SeqStopsK F n Tryz.prog 90 #[.pointer (some ⟨Bs,0,none⟩)] (fun x:BwC=>#[Value.int .i64 x.1,encA x.2]) (KpC n₀) (fun ys=>bwC ys=ts.reverse) (fun pre=>bwC pre <+:ts.reverse) m w:=fun l J Jx W hW _ _ hY h0 =>
 bkc1_in (g:=g) F n hF hro hn l hm hm2 hB J Jx hY W ((hW.cell (p:=⟨Bs,0,none⟩) (Nat.lt_of_lt_of_le hB hw)).trans hBs) (fun h=>by
  obtain⟨h1,h2,h4⟩:=hc h
  exact⟨h1,h2,fun j hj=>⟨(hW.cell (p:=⟨g,j*3,none⟩) (Nat.lt_of_lt_of_le h2 hw)).trans (h4 j hj).1,(hW.cell (p:=⟨g,j*3+1,none⟩) (Nat.lt_of_lt_of_le h2 hw)).trans (h4 j hj).2.1,(hW.cell (p:=⟨g,j*3+2,none⟩) (Nat.lt_of_lt_of_le h2 hw)).trans (h4 j hj).2.2⟩⟩) h0
end
end Go.Proofs.YtdchjncnjgelhaaGreat.Fd
