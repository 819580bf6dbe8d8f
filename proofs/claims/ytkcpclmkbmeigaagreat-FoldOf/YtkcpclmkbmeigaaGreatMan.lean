import Derived.Test.YtkcpclmkbmeigaaGreatMam
import Derived.Test.YtkcpclmkbmeigaaGreatMai
import Derived.Test.YtkcpclmkbmeigaaGreatMak
import Derived.Test.YtkcpclmkbmeigaaGreatMal
import Derived.Laws.BytesArg
import Derived.Test.YtkcpclmkbmeigaaGreatMaj
import Derived.Deep.RegionHeld3
set_option linter.unusedVariables false
set_option linter.unusedSimpArgs false
set_option maxRecDepth 100000
namespace Go.Proofs.YtkcpclmkbmeigaaGreat
open Go.RowKit
structure RdS (w:World) (b:Nat) (q:Lf):Prop where
 rd:Pk.isRd w b q.1 q.2
 sz:q.1.size<=140737488351232
section
variable {w w':World}{b c:Nat}{q:Lf}
theorem RdS.lt (h:RdS w b q):b<w.heap.size:=h.rd.lt
theorem RdS.below (h:RdS w b q) (hb:Below w.heap.size w w'):RdS w' b q:=⟨h.rd.below hb,h.sz⟩
theorem RdS.off (h:RdS w b q) (hb:Pk.Off c w w') (hn:b≠c):RdS w' b q:=⟨h.rd.off hb hn,h.sz⟩
theorem RdS.num (h:RdS w b q) (k:Int):Calls Tryz.prog 74 #[.pointer (some ⟨b,0,none⟩),.int .i64 k] w fun r w'=>r=.returned (.int .i64 (nN q k))/\RdS w' b (sN q k)/\Pk.Off b w w' :=
 (Pk.Num_any b q.1 q.2 k w h.sz h.rd).mono fun e w' ⟨he,h1,o1⟩=>⟨he,⟨h1,Nat.le_trans (sN_size q k) h.sz⟩,o1⟩
theorem RdS.text (h:RdS w b q) (m:Int):Calls Tryz.prog 193 #[.pointer (some ⟨b,0,none⟩),.int .i64 m] w fun r w'=>r=.returned (.string (tT q m))/\RdS w' b (sT q m)/\Pk.Off b w w' :=
 (Pk.RText_any b q.1 q.2 m w h.sz h.rd).mono fun e w' ⟨he,h1,o1⟩=>⟨he,⟨h1,Nat.le_trans (sT_size q m) h.sz⟩,o1⟩
end
structure Blk (w:World) (b:Nat) (C:Array Value) (t:TypeId):Prop where
 blk:w.heap[b]?=some (.cells C t)
structure PutB (w w':World) (b:Nat) (C:Array Value) (t:TypeId):Prop where
 bl:Blk w' b C t
 off:Pk.Off b w w'
section
variable {w w':World}{b c:Nat}{C:Array Value}{t:TypeId}
theorem Blk.lt (h:Blk w b C t):b<w.heap.size:=(Array.getElem?_eq_some_iff.1 h.blk).1
theorem Blk.below (h:Blk w b C t) (hb:Below w.heap.size w w'):Blk w' b C t:=⟨(hb.block b h.lt).trans h.blk⟩
theorem Blk.off (h:Blk w b C t) (hb:Pk.Off c w w') (hn:b≠c):Blk w' b C t:=⟨(hb.block b h.lt hn).trans h.blk⟩
theorem Blk.cell (h:Blk w b C t) (k:Nat):w.cell? ⟨b,k,none⟩=C[k]?:=Joins.cell_of_block h.blk k
theorem wpList_bput {k:Nat} {v:Value} {ops:Array Oper} {rest:List Oper} {o:Oper} {a:Act} {Q:Exit->Act->World->Prop} (w:World) (hg:o.guard=none) (ty:TypeId) (x y:Operand) (hop:o.op=Op.store ty x y)
  (hx:a.eval x=.pointer (some ⟨b,k,none⟩)) (hy:a.eval y=v) (hs:Blk w b C t) (hk:k<C.size) (h1:v.oneCell'=true) (hi:(Tryz.prog.info? ty).map (·.size)=some 1)
  (h:∀ w',PutB w w' b (C.setIfInBounds k v) t->wpList Tryz.prog ops Q rest (a.put o.dst undef) w'):wpList Tryz.prog ops Q (o ::rest) a w:=by
 have hc:∃ u,w.cell? ⟨b,k,none⟩=some u:=by
  rw[hs.cell k]
  exact⟨_,Array.getElem?_eq_getElem hk⟩
 obtain⟨u,hu⟩:=hc
 have hf:w.frozen? ⟨b,k,none⟩=false:=Joins.unfrozen_of_block hs.blk k
 refine wpList_plain hg fun K' hK'=>?_
 unfold Oper.wp
 have hrun:(Instr.storeAt ty (.pointer (some ⟨b,k,none⟩)) v).run Tryz.prog w=.ok () (w.setCell ⟨b,k,none⟩ v):=by
  have hcs:v.cells=#[v]:=by cases v <;> first |rfl |cases h1
  have g1:∀ j,j<[v].length->(w.cell? ⟨b,k+0+j,none⟩).isSome=true:=by
   intro j hj
   obtain rfl:j=0:=by simpa using hj
   simp[hu]
  have g2:∀ j,j<[v].length->w.frozen? ⟨b,k+0+j,none⟩=false:=by
   intro j hj
   obtain rfl:j=0:=by simpa using hj
   simpa using hf
  have:=run_storeCells_cells (P:=Tryz.prog) b k [v] 0 w g1 g2 (fun x hx=>by simp at hx;subst hx;exact h1)
  cases hq:Tryz.prog.info? ty with
  | none=>simp[hq] at hi
  | some i =>
   have hs:i.size=1:=by simpa[hq] using hi
   simp only[Nat.add_zero] at this
   simp[Instr.storeAt,Instr.sureAddr,storeVar,sizeOf,typeInfo,hq,hcs,hs,this,World.setCells]
 simp[execOp,hop,hx,hy,hrun,Result.andThen]
 exact hK' _ _ (h _ ⟨⟨Joins.block_setCell hs.blk _⟩,(Pk.Off.refl _ _).setCell _ _⟩)
end
structure Off2 (b c:Nat) (w w':World):Prop where
 os:w'.os=w.os
 tape:w'.tape=w.tape
 output:w'.output=w.output
 size:w.heap.size<=w'.heap.size
 block:∀ k,k<w.heap.size->k≠b->k≠c->w'.heap[k]?=w.heap[k]?
section
variable {w w1 w2:World}{b c:Nat}
theorem Off2.refl (b c:Nat) (w:World):Off2 b c w w:=⟨rfl,rfl,rfl,Nat.le_refl _,fun _ _ _ _=>rfl⟩
theorem Off2.left (h:Off2 b c w w1) (o:Pk.Off b w1 w2):Off2 b c w w2:=⟨o.os.trans h.os,o.tape.trans h.tape,o.output.trans h.output,Nat.le_trans h.size o.size,fun k hk hb hc=>(o.block k (Nat.lt_of_lt_of_le hk h.size) hb).trans (h.block k hk hb hc)⟩
theorem Off2.right (h:Off2 b c w w1) (o:Pk.Off c w1 w2):Off2 b c w w2:=⟨o.os.trans h.os,o.tape.trans h.tape,o.output.trans h.output,Nat.le_trans h.size o.size,fun k hk hb hc=>(o.block k (Nat.lt_of_lt_of_le hk h.size) hc).trans (h.block k hk hb hc)⟩
theorem Off2.below (h:Off2 b c w w1) (o:Below w1.heap.size w1 w2):Off2 b c w w2:=⟨o.os.trans h.os,o.tape.trans h.tape,o.output.trans h.output,Nat.le_trans h.size o.size,fun k hk hb hc=>(o.block k (Nat.lt_of_lt_of_le hk h.size)).trans (h.block k hk hb hc)⟩
theorem Off2.bel {B:Nat} (h:Off2 b c w w1) (hb:B<=b) (hc:B<=c) (hB:B<=w.heap.size):Below B w w1:=⟨h.os,h.tape,h.output,h.size,fun k hk=>h.block k (by omega) (by omega) (by omega)⟩
end
structure RpS (w wx:World) (b g b0:Nat) (G C:Array Value) (t:TypeId) (q:Lf):Prop where
 rd:RdS wx b q
 gp:Blk wx g G 239
 bl:Blk wx b0 C t
 off:Off2 b b0 w wx
 n1:b≠g
 n2:b≠b0
 n3:g≠b0
section
variable {w wx wq:World}{b g b0:Nat}{G C:Array Value}{t:TypeId}{q:Lf}
theorem RpS.num (h:RpS w wx b g b0 G C t q) (k:Int):Calls Tryz.prog 74 #[.pointer (some ⟨b,0,none⟩),.int .i64 k] wx fun r w'=>r=.returned (.int .i64 (nN q k))/\RpS w w' b g b0 G C t (sN q k) :=
 (h.rd.num k).mono fun e w' ⟨he,h1,o1⟩=>⟨he,⟨h1,h.gp.off o1 (fun e=>h.n1 e.symm),h.bl.off o1 (fun e=>h.n2 e.symm),h.off.left o1,h.n1,h.n2,h.n3⟩⟩
theorem RpS.put {C':Array Value} (h:RpS w wx b g b0 G C t q) (P:PutB wx wq b0 C' t):RpS w wq b g b0 G C' t q :=
 ⟨h.rd.off P.off h.n2,h.gp.off P.off h.n3,P.bl,h.off.right P.off,h.n1,h.n2,h.n3⟩
end
set_option maxHeartbeats 1000000 in
theorem readPlaces_2 {w:World} {b g b0 k0 k1:Nat} {C:Array Value} {t:TypeId} {q:Lf} (H:RpS w w b g b0 #[.pointer (some ⟨b0,k0,none⟩),.pointer (some ⟨b0,k1,none⟩)] C t q) (h0:k0<C.size) (h1:k1<C.size) :
  Calls Tryz.prog 161 #[.pointer (some ⟨b,0,none⟩),.slice (some ⟨g,0,none⟩) 2 2] w fun e w'=>e=.returned (.tuple #[])/\RdS w' b (sN (sN q 6) 6)/\Blk w' b0 ((C.setIfInBounds k0 (.int .i64 (nN q 6))).setIfInBounds k1 (.int .i64 (nN (sN q 6) 6))) t/\Off2 b b0 w w':=by
 have h1':∀ v,k1<(C.setIfInBounds k0 v).size:=fun v=>by simpa using h1
 have z0:=H.gp.cell 0
 have z1:=H.gp.cell 1
 simp only[List.getElem?_toArray,List.getElem?_cons_zero,List.getElem?_cons_succ] at z0 z1
 go_enter Tryz.func161,Tryz.ntmps161
 go_wp2
 refine wp_loop_rounds 3 ?_
 rw[rounds_succ]
 go_wp2_with (first
  | (go_at_call 74;refine(H.num _).mono ?_;clear H;rintro e w1 ⟨rfl,H⟩)
  | (refine wpList_bput _ rfl 3 (.tmp 15) (.tmp 14) rfl rfl rfl H.bl h0 rfl (by kernel_rfl) ?_;intro w2 P2;have H1:=H.put P2;clear H P2;have H:=H1;clear H1;have z1:=H.gp.cell 1;simp only[List.getElem?_toArray,List.getElem?_cons_zero,List.getElem?_cons_succ] at z1))
 rw[rounds_succ]
 go_wp2_with (first
  | (go_at_call 74;refine(H.num _).mono ?_;clear H;rintro e w1 ⟨rfl,H⟩)
  | (refine wpList_bput _ rfl 3 (.tmp 15) (.tmp 14) rfl rfl rfl H.bl (h1' _) rfl (by kernel_rfl) ?_;intro w2 P2;have H1:=H.put P2;clear H P2;have H:=H1;clear H1))
 rw[rounds_succ]
 go_wp2
 go_end0
 exact⟨rfl,H.rd,H.bl,H.off⟩
set_option maxHeartbeats 1000000 in
theorem readPlaces_3 {w:World} {b g b0 k0 k1 k2:Nat} {C:Array Value} {t:TypeId} {q:Lf} (H:RpS w w b g b0 #[.pointer (some ⟨b0,k0,none⟩),.pointer (some ⟨b0,k1,none⟩),.pointer (some ⟨b0,k2,none⟩)] C t q) (h0:k0<C.size) (h1:k1<C.size) (h2:k2<C.size) :
  Calls Tryz.prog 161 #[.pointer (some ⟨b,0,none⟩),.slice (some ⟨g,0,none⟩) 3 3] w fun e w'=>e=.returned (.tuple #[])/\RdS w' b (sN (sN (sN q 6) 6) 6)/\Blk w' b0 (((C.setIfInBounds k0 (.int .i64 (nN q 6))).setIfInBounds k1 (.int .i64 (nN (sN q 6) 6))).setIfInBounds k2 (.int .i64 (nN (sN (sN q 6) 6) 6))) t/\Off2 b b0 w w':=by
 have h1':∀ v,k1<(C.setIfInBounds k0 v).size:=fun v=>by simpa using h1
 have h2':∀ v u,k2<((C.setIfInBounds k0 v).setIfInBounds k1 u).size:=fun v u=>by simpa using h2
 have z0:=H.gp.cell 0
 simp only[List.getElem?_toArray,List.getElem?_cons_zero,List.getElem?_cons_succ] at z0
 go_enter Tryz.func161,Tryz.ntmps161
 go_wp2
 refine wp_loop_rounds 4 ?_
 rw[rounds_succ]
 go_wp2_with (first
  | (go_at_call 74;refine(H.num _).mono ?_;clear H;rintro e w1 ⟨rfl,H⟩)
  | (refine wpList_bput _ rfl 3 (.tmp 15) (.tmp 14) rfl rfl rfl H.bl h0 rfl (by kernel_rfl) ?_;intro w2 P2;have H1:=H.put P2;clear H P2;have H:=H1;clear H1;have z1:=H.gp.cell 1;simp only[List.getElem?_toArray,List.getElem?_cons_zero,List.getElem?_cons_succ] at z1))
 rw[rounds_succ]
 go_wp2_with (first
  | (go_at_call 74;refine(H.num _).mono ?_;clear H;rintro e w1 ⟨rfl,H⟩)
  | (refine wpList_bput _ rfl 3 (.tmp 15) (.tmp 14) rfl rfl rfl H.bl (h1' _) rfl (by kernel_rfl) ?_;intro w2 P2;have H1:=H.put P2;clear H P2;have H:=H1;clear H1;have z2:=H.gp.cell 2;simp only[List.getElem?_toArray,List.getElem?_cons_zero,List.getElem?_cons_succ] at z2))
 rw[rounds_succ]
 go_wp2_with (first
  | (go_at_call 74;refine(H.num _).mono ?_;clear H;rintro e w1 ⟨rfl,H⟩)
  | (refine wpList_bput _ rfl 3 (.tmp 15) (.tmp 14) rfl rfl rfl H.bl (h2' _ _) rfl (by kernel_rfl) ?_;intro w2 P2;have H1:=H.put P2;clear H P2;have H:=H1;clear H1))
 rw[rounds_succ]
 go_wp2
 go_end0
 exact⟨rfl,H.rd,H.bl,H.off⟩
structure RcS (w wx:World) (b b0:Nat) (s:Sc) (I T:Value) (q:Lf):Prop where
 rd:RdS wx b q
 rc:RcAt wx b0 s I T
 off:Off2 b b0 w wx
 ne:b≠b0
section
variable {w wx wq:World}{b b0:Nat}{s s':Sc}{I T I' T':Value}{q:Lf}
theorem RcS.num (h:RcS w wx b b0 s I T q) (k:Int):Calls Tryz.prog 74 #[.pointer (some ⟨b,0,none⟩),.int .i64 k] wx fun r w'=>r=.returned (.int .i64 (nN q k))/\RcS w w' b b0 s I T (sN q k) :=
 (h.rd.num k).mono fun e w' ⟨he,h1,o1⟩=>⟨he,⟨h1,h.rc.off o1 (fun e=>h.ne e.symm),h.off.left o1,h.ne⟩⟩
theorem RcS.text (h:RcS w wx b b0 s I T q) (m:Int):Calls Tryz.prog 193 #[.pointer (some ⟨b,0,none⟩),.int .i64 m] wx fun r w'=>r=.returned (.string (tT q m))/\RcS w w' b b0 s I T (sT q m) :=
 (h.rd.text m).mono fun e w' ⟨he,h1,o1⟩=>⟨he,⟨h1,h.rc.off o1 (fun e=>h.ne e.symm),h.off.left o1,h.ne⟩⟩
theorem RcS.put (h:RcS w wx b b0 s I T q) (P:PutR wx wq b0 s' I' T'):RcS w wq b b0 s' I' T' q:=⟨h.rd.off P.off h.ne,P.rc,h.off.right P.off,h.ne⟩
theorem RcS.below (h:RcS w wx b b0 s I T q) (hb:Below wx.heap.size wx wq):RcS w wq b b0 s I T q:=⟨h.rd.below hb,h.rc.below hb,h.off.below hb,h.ne⟩
structure RvS (w wx:World) (b b0 g:Nat) (s:Sc) (I T:Value) (q:Lf) (P:Array Value):Prop where
 r:RcS w wx b b0 s I T q
 pg:Blk wx g P 256
 n1:g≠b
 n2:g≠b0
theorem RvS.text {g:Nat} {P:Array Value} (h:RvS w wx b b0 g s I T q P) (m:Int):Calls Tryz.prog 193 #[.pointer (some ⟨b,0,none⟩),.int .i64 m] wx fun r w'=>r=.returned (.string (tT q m))/\RvS w w' b b0 g s I T (sT q m) P :=
 (h.r.rd.text m).mono fun e w' ⟨he,h1,o1⟩=>⟨he,⟨⟨h1,h.r.rc.off o1 (fun e=>h.r.ne e.symm),h.r.off.left o1,h.r.ne⟩,h.pg.off o1 h.n1,h.n1,h.n2⟩⟩
theorem RvS.put {g:Nat} {P:Array Value} (h:RvS w wx b b0 g s I T q P) (Q:PutR wx wq b0 s' I' T'):RvS w wq b b0 g s' I' T' q P:=⟨h.r.put Q,h.pg.off Q.off h.n2,h.n1,h.n2⟩
end
section
variable {w:World}{b b0:Nat}{s:Sc}{I T:Value}{q:Lf}
set_option maxHeartbeats 1000000 in
theorem readChange_3 (H:RcS w w b b0 s I T q) (ha:actOf s=3):Calls Tryz.prog 162 #[.pointer (some ⟨b,0,none⟩),.pointer (some ⟨b0,0,none⟩)] w fun e w'=>e=.returned (.tuple #[])/\RcS w w' b b0 (rcN s q) I T (sT (rq1 q) 32):=by
 have CV:Hid (∀ wr q',RcS w wr b b0 (rc1 s q) I T q'->Calls Tryz.prog 174 #[.pointer (some ⟨b0,0,none⟩)] wr fun e w'=>∃ g,e=.returned (.slice (some ⟨g,0,none⟩) 1 1)/\RvS w w' b b0 g (rc1 s q) I T q' #[.pointer (some ⟨b0,7,none⟩)]):=fun wr q' R=>by
  refine(values_3 R.rc ha).mono ?_
  rintro e w' ⟨he,hw'⟩
  refine⟨wr.heap.size,he,?_⟩
  subst hw'
  refine⟨R.below ((Below.refl _ _).alloc (Nat.le_refl _) _),⟨(MapKept.heap_alloc wr _).1⟩,by have:=R.rd.lt;omega,by have:=R.rc.lt;omega⟩
 go_enter Tryz.func162,Tryz.ntmps162
 go_wp2_with (first
  | (go_at_call 74;refine(H.num _).mono ?_;clear H;rintro e w1 ⟨rfl,H⟩)
  | (refine wpList_at (Op.store 3 (.tmp 10) (.tmp 8)) rfl ?_;refine wpList_fput (s':={s with pg:=nN q 2}) (I':=I) (T':=T) _ rfl 3 (.tmp 10) (.tmp 8) rfl rfl rfl H.rc (by omega) rfl (by kernel_rfl) rfl ?_;intro w2 P2;have H1:=H.put P2;clear H P2;have H:=H1;clear H1)
  | (go_at_call 193;refine(H.text _).mono ?_;clear H;rintro e w3 ⟨rfl,H⟩;rw[show sT (sN q 2) 16=rq1 q from rfl] at H)
  | (refine wpList_at (Op.store 9 (.tmp 15) (.tmp 13)) rfl ?_;refine wpList_fput (s':=(rc1 s q)) (I':=I) (T':=T) _ rfl 9 (.tmp 15) (.tmp 13) rfl rfl rfl H.rc (by omega) rfl (by kernel_rfl) ?_ ?_;exact rc1_set s q I T;intro w2 P2;have H1:=H.put P2;clear H P2;have H:=H1;clear H1)
  | (go_at_call 174;refine(CV.out _ _ H).mono ?_;clear H;rintro e w4 ⟨g,rfl,LV⟩;have g0:=LV.pg.cell 0;simp only[List.getElem?_toArray,List.getElem?_cons_zero,List.getElem?_cons_succ] at g0))
 refine wp_loop_rounds 2 ?_
 rw[rounds_succ]
 go_wp2_with (first
  | (go_at_call 193;refine(LV.text _).mono ?_;clear LV;rintro e w4 ⟨rfl,LV⟩)
  | (refine wpList_at (Op.store 9 (.tmp 26) (.tmp 25)) rfl ?_;refine wpList_fput (s':=(rcN s q)) (I':=I) (T':=T) _ rfl 9 (.tmp 26) (.tmp 25) rfl rfl rfl LV.r.rc (by omega) rfl (by kernel_rfl) ?_ ?_;exact rcN_set s q I T;intro w5 P5;have L1:=LV.put P5;clear LV P5;have LV:=L1;clear L1;have g0:=LV.pg.cell 0;simp only[List.getElem?_toArray,List.getElem?_cons_zero,List.getElem?_cons_succ] at g0))
 rw[rounds_succ]
 go_wp2
 go_end0
 exact⟨rfl,LV.r⟩
set_option maxHeartbeats 1000000 in
theorem readChange_4 (H:RcS w w b b0 s I T q) (ha:actOf s=4):Calls Tryz.prog 162 #[.pointer (some ⟨b,0,none⟩),.pointer (some ⟨b0,0,none⟩)] w fun e w'=>e=.returned (.tuple #[])/\RcS w w' b b0 (rcO s q) I T (sT (rq1 q) 32):=by
 have CV:Hid (∀ wr q',RcS w wr b b0 (rc1 s q) I T q'->Calls Tryz.prog 174 #[.pointer (some ⟨b0,0,none⟩)] wr fun e w'=>∃ g,e=.returned (.slice (some ⟨g,0,none⟩) 1 1)/\RvS w w' b b0 g (rc1 s q) I T q' #[.pointer (some ⟨b0,6,none⟩)]):=fun wr q' R=>by
  refine(values_4 R.rc ha).mono ?_
  rintro e w' ⟨he,hw'⟩
  refine⟨wr.heap.size,he,?_⟩
  subst hw'
  refine⟨R.below ((Below.refl _ _).alloc (Nat.le_refl _) _),⟨(MapKept.heap_alloc wr _).1⟩,by have:=R.rd.lt;omega,by have:=R.rc.lt;omega⟩
 go_enter Tryz.func162,Tryz.ntmps162
 go_wp2_with (first
  | (go_at_call 74;refine(H.num _).mono ?_;clear H;rintro e w1 ⟨rfl,H⟩)
  | (refine wpList_at (Op.store 3 (.tmp 10) (.tmp 8)) rfl ?_;refine wpList_fput (s':={s with pg:=nN q 2}) (I':=I) (T':=T) _ rfl 3 (.tmp 10) (.tmp 8) rfl rfl rfl H.rc (by omega) rfl (by kernel_rfl) rfl ?_;intro w2 P2;have H1:=H.put P2;clear H P2;have H:=H1;clear H1)
  | (go_at_call 193;refine(H.text _).mono ?_;clear H;rintro e w3 ⟨rfl,H⟩;rw[show sT (sN q 2) 16=rq1 q from rfl] at H)
  | (refine wpList_at (Op.store 9 (.tmp 15) (.tmp 13)) rfl ?_;refine wpList_fput (s':=(rc1 s q)) (I':=I) (T':=T) _ rfl 9 (.tmp 15) (.tmp 13) rfl rfl rfl H.rc (by omega) rfl (by kernel_rfl) ?_ ?_;exact rc1_set s q I T;intro w2 P2;have H1:=H.put P2;clear H P2;have H:=H1;clear H1)
  | (go_at_call 174;refine(CV.out _ _ H).mono ?_;clear H;rintro e w4 ⟨g,rfl,LV⟩;have g0:=LV.pg.cell 0;simp only[List.getElem?_toArray,List.getElem?_cons_zero,List.getElem?_cons_succ] at g0))
 refine wp_loop_rounds 2 ?_
 rw[rounds_succ]
 go_wp2_with (first
  | (go_at_call 193;refine(LV.text _).mono ?_;clear LV;rintro e w4 ⟨rfl,LV⟩)
  | (refine wpList_at (Op.store 9 (.tmp 26) (.tmp 25)) rfl ?_;refine wpList_fput (s':=(rcO s q)) (I':=I) (T':=T) _ rfl 9 (.tmp 26) (.tmp 25) rfl rfl rfl LV.r.rc (by omega) rfl (by kernel_rfl) ?_ ?_;exact rcO_set s q I T;intro w5 P5;have L1:=LV.put P5;clear LV P5;have LV:=L1;clear L1;have g0:=LV.pg.cell 0;simp only[List.getElem?_toArray,List.getElem?_cons_zero,List.getElem?_cons_succ] at g0))
 rw[rounds_succ]
 go_wp2
 go_end0
 exact⟨rfl,LV.r⟩
set_option maxHeartbeats 1000000 in
theorem readChange_o (H:RcS w w b b0 s I T q) (h3:actOf s≠3) (h4:actOf s≠4):Calls Tryz.prog 162 #[.pointer (some ⟨b,0,none⟩),.pointer (some ⟨b0,0,none⟩)] w fun e w'=>e=.returned (.tuple #[])/\RcS w w' b b0 (rcB s q) I T (sT (sT (rq1 q) 32) 32):=by
 have CV:Hid (∀ wr q',RcS w wr b b0 (rc1 s q) I T q'->Calls Tryz.prog 174 #[.pointer (some ⟨b0,0,none⟩)] wr fun e w'=>∃ g,e=.returned (.slice (some ⟨g,0,none⟩) 2 2)/\RvS w w' b b0 g (rc1 s q) I T q' #[.pointer (some ⟨b0,6,none⟩),.pointer (some ⟨b0,7,none⟩)]):=fun wr q' R=>by
  refine(values_o R.rc h3 h4).mono ?_
  rintro e w' ⟨he,hw'⟩
  refine⟨wr.heap.size,he,?_⟩
  subst hw'
  refine⟨R.below (((Below.refl _ _).drew).alloc (Nat.le_refl _) _),⟨(MapKept.heap_alloc wr.drew _).1⟩,by have:=R.rd.lt;omega,by have:=R.rc.lt;omega⟩
 go_enter Tryz.func162,Tryz.ntmps162
 go_wp2_with (first
  | (go_at_call 74;refine(H.num _).mono ?_;clear H;rintro e w1 ⟨rfl,H⟩)
  | (refine wpList_at (Op.store 3 (.tmp 10) (.tmp 8)) rfl ?_;refine wpList_fput (s':={s with pg:=nN q 2}) (I':=I) (T':=T) _ rfl 3 (.tmp 10) (.tmp 8) rfl rfl rfl H.rc (by omega) rfl (by kernel_rfl) rfl ?_;intro w2 P2;have H1:=H.put P2;clear H P2;have H:=H1;clear H1)
  | (go_at_call 193;refine(H.text _).mono ?_;clear H;rintro e w3 ⟨rfl,H⟩;rw[show sT (sN q 2) 16=rq1 q from rfl] at H)
  | (refine wpList_at (Op.store 9 (.tmp 15) (.tmp 13)) rfl ?_;refine wpList_fput (s':=(rc1 s q)) (I':=I) (T':=T) _ rfl 9 (.tmp 15) (.tmp 13) rfl rfl rfl H.rc (by omega) rfl (by kernel_rfl) ?_ ?_;exact rc1_set s q I T;intro w2 P2;have H1:=H.put P2;clear H P2;have H:=H1;clear H1)
  | (go_at_call 174;refine(CV.out _ _ H).mono ?_;clear H;rintro e w4 ⟨g,rfl,LV⟩;have g0:=LV.pg.cell 0;simp only[List.getElem?_toArray,List.getElem?_cons_zero,List.getElem?_cons_succ] at g0;have g1:=LV.pg.cell 1;simp only[List.getElem?_toArray,List.getElem?_cons_zero,List.getElem?_cons_succ] at g1))
 refine wp_loop_rounds 3 ?_
 rw[rounds_succ]
 go_wp2_with (first
  | (go_at_call 193;refine(LV.text _).mono ?_;clear LV;rintro e w4 ⟨rfl,LV⟩)
  | (refine wpList_at (Op.store 9 (.tmp 26) (.tmp 25)) rfl ?_;refine wpList_fput (s':=(rcO s q)) (I':=I) (T':=T) _ rfl 9 (.tmp 26) (.tmp 25) rfl rfl rfl LV.r.rc (by omega) rfl (by kernel_rfl) ?_ ?_;exact rcO_set s q I T;intro w5 P5;have L1:=LV.put P5;clear LV P5;have LV:=L1;clear L1;have g0:=LV.pg.cell 0;simp only[List.getElem?_toArray,List.getElem?_cons_zero,List.getElem?_cons_succ] at g0;have g1:=LV.pg.cell 1;simp only[List.getElem?_toArray,List.getElem?_cons_zero,List.getElem?_cons_succ] at g1))
 rw[rounds_succ]
 go_wp2_with (first
  | (go_at_call 193;refine(LV.text _).mono ?_;clear LV;rintro e w4 ⟨rfl,LV⟩)
  | (refine wpList_at (Op.store 9 (.tmp 26) (.tmp 25)) rfl ?_;refine wpList_fput (s':=(rcB s q)) (I':=I) (T':=T) _ rfl 9 (.tmp 26) (.tmp 25) rfl rfl rfl LV.r.rc (by omega) rfl (by kernel_rfl) ?_ ?_;exact rcB_set s q I T;intro w5 P5;have L1:=LV.put P5;clear LV P5;have LV:=L1;clear L1;have g0:=LV.pg.cell 0;simp only[List.getElem?_toArray,List.getElem?_cons_zero,List.getElem?_cons_succ] at g0;have g1:=LV.pg.cell 1;simp only[List.getElem?_toArray,List.getElem?_cons_zero,List.getElem?_cons_succ] at g1))
 rw[rounds_succ]
 go_wp2
 go_end0
 exact⟨rfl,LV.r⟩
theorem readChange_any (H:RcS w w b b0 s I T q) (act:Int) (ha:act=actOf s):Calls Tryz.prog 162 #[.pointer (some ⟨b,0,none⟩),.pointer (some ⟨b0,0,none⟩)] w fun e w'=>e=.returned (.tuple #[])/\RcS w w' b b0 (rdChg act s q).1 I T (rdChg act s q).2:=by
 unfold rdChg
 rw[ha]
 by_cases h3:actOf s=3
 ·rw[if_pos h3]
  exact readChange_3 H h3
 ·by_cases h4:actOf s=4
  ·rw[if_neg h3,if_pos h4]
   exact readChange_4 H h4
  ·rw[if_neg h3,if_neg h4]
   exact readChange_o H h3 h4
end
theorem Own.off {el:TypeId} {B b:Nat} {w w':World} {a:Option Addr} {cap:Nat} {xs:List P2} (h:Own el B w a cap xs) (o:Pk.Off b w w') (hb:b<B):Own el B w' a cap xs :=
 ⟨h.row.kept (fun k hk=>o.block k (h.row.lt k hk) (fun e=>by have:=h.fresh k hk;omega)),h.fresh⟩
theorem Pk.Off.bel {b:Nat} {w w1 w2:World} (h:Pk.Off b w w1) (hb:Below w.heap.size w1 w2):Pk.Off b w w2:=⟨hb.os.trans h.os,hb.tape.trans h.tape,hb.output.trans h.output,Nat.le_trans h.size hb.size,fun k hk hkb=>(hb.block k hk).trans (h.block k hk hkb)⟩
theorem RdS.bel {w w':World} {b B:Nat} {q:Lf} (h:RdS w b q) (hb:Below B w w') (hB:b<B):RdS w' b q:=⟨(hb.block b hB).trans h.rd,h.sz⟩
theorem cs_one (w:World) (p:P2) (t:TypeId):Cs (w.alloc (.cells #[p.1,p.2] t)) (some ⟨w.heap.size,0,none⟩) [p]:=⟨fun i hi=>by
 have h0:i=0:=by simpa using hi
 subst h0
 exact⟨w.heap.size,0,rfl,by simp,Joins.cell_of_block (MapKept.heap_alloc w _).1 0,Joins.cell_of_block (MapKept.heap_alloc w _).1 1⟩⟩
set_option maxHeartbeats 1000000 in
theorem readImages_any {w:World} {b:Nat} {q:Lf} (h:RdS w b q):Calls Tryz.prog 160 #[.pointer (some ⟨b,0,none⟩)] w fun e w'=>(∃ v,e=.returned v/\Fr w' v (encI (rdImL (sN q 1) (nN q 1).toNat)) w.heap.size)/\RdS w' b (rdImS (sN q 1) (nN q 1).toNat)/\Pk.Off b w w':=by
 obtain⟨n,hn⟩:∃ n:Nat,nN q 1=n:=⟨(nN q 1).toNat,by have:=nN_nonneg q 1;omega⟩
 have hn2:n<=255:=by have:=nN_one q;omega
 have hbl:=h.lt
 have C0:Hid (Calls Tryz.prog 74 #[.pointer (some ⟨b,0,none⟩),.int .i64 1] w fun r w'=>r=.returned (.int .i64 (n:Int))/\RdS w' b (sN q 1)/\Pk.Off b w w'):=by rw[← hn];exact h.num 1
 have HN:Hid ((nN q 1).toNat=n):=(by rw[hn];rfl:(nN q 1).toNat=n)
 rw[HN.out]
 generalize sN q 1=q1 at *
 clear hn h HN
 go_enter Tryz.func160,Tryz.ntmps160
 go_wp2_with (go_at_call 74;refine C0.out.mono ?_;clear C0;rintro e w1 ⟨rfl,h1,o1⟩)
 go_loopw [3,8] (fun pv ix wr=>∃ (j:Nat) (a:Option Addr) (c:Nat),j<=n/\ix=.int .i64 (j:Int)/\pv=.slice a j c/\Own 272 w.heap.size wr a c (encI (rdImL q1 j))/\RdS wr b (rdImS q1 j)/\Pk.Off b w wr) (fun _ ix _=>n-(intOf ix).toNat)
 case atStart=>exact⟨0,none,0,Nat.zero_le _,rfl,rfl,Own.nil _ _ _,h1,o1⟩
 case round =>
  clear h1 o1
  obtain⟨j,a,c,hj,rfl,rfl,hO,hR,ho⟩:=hrel
  by_cases hlt:j<n
  ·have hi2:(j:Int)<(n:Int):=by omega
   have hln:j=(encI (rdImL q1 j)).length:=by rw[encI_length,rdImL_length]
   have HS:Hid (encI (rdImL q1 (j+1))=encI (rdImL q1 j)++[(.int .i64 (rdImF q1 j).1,.string (rdImF q1 j).2)]):=(by rw[rdImL_succ,encI_append];rfl:encI (rdImL q1 (j+1))=encI (rdImL q1 j)++[(.int .i64 (rdImF q1 j).1,.string (rdImF q1 j).2)])
   have HQ:Hid (rdImS q1 (j+1)=sT (sN (rdImS q1 j) 2) 224):=(rfl:rdImS q1 (j+1)=sT (sN (rdImS q1 j) 2) 224)
   have HF:Hid (rdImF q1 j=(nN (rdImS q1 j) 2,tT (sN (rdImS q1 j) 2) 224)):=(rfl:rdImF q1 j=(nN (rdImS q1 j) 2,tT (sN (rdImS q1 j) 2) 224))
   have HL:Hid (j=(encI (rdImL q1 j)).length):=hln
   clear hln
   generalize encI (rdImL q1 j)=xs at *
   generalize rdImS q1 j=qj at *
   have hzz:=ho.size
   have hBz:w.heap.size<=wr.heap.size:=hzz
   go_wp2_with (first
    | (go_at_call 74;refine(hR.num _).mono ?_;clear hR;rintro e w2 ⟨rfl,hR2,o2⟩;have hO2:=hO.off o2 hbl;have ho2:=ho.trans o2;clear hO ho o2)
    | (go_at_call 193;refine(hR2.text _).mono ?_;clear hR2;rintro e w3 ⟨rfl,hR3,o3⟩;have hO3:=hO2.off o3 hbl;have ho3:=ho2.trans o3;clear hO2 ho2 o3;have BA:Below w3.heap.size w3 (w3.alloc (.cells #[.int .i64 (nN qj 2),.string (tT (sN qj 2) 224)] 272)):=(Below.refl _ _).alloc (Nat.le_refl _) _;have hO4:=hO3.below BA;have hz4:w.heap.size<=(w3.alloc (.cells #[.int .i64 (nN qj 2),.string (tT (sN qj 2) 224)] 272)).heap.size:=Nat.le_trans ho3.size BA.size)
    | (refine wpList_append_own' two_im (B:=w.heap.size) rfl (.tmp 14) (.tmp 18) rfl rfl HL.out hO4 hz4 rfl (m:=1) (news:=[(.int .i64 (nN qj 2),.string (tT (sN qj 2) 224))]) rfl (fun e=>by cases e) (cs_one w3 (.int .i64 (nN qj 2),.string (tT (sN qj 2) 224)) 272) (fun p hp=>by simp at hp;subst hp;exact⟨rfl,rfl⟩) (by omega) ?_;intro a5 c5 w5 hO5 B5))
   go_roundw
   case rel =>
    refine⟨j+1,a5,c5,by omega,by go_num,rfl,?_,?_,?_⟩
    ·rw[HS.out,HF.out];exact hO5
    ·rw[HQ.out];exact(hR3.below BA).bel B5 hbl
    ·exact(ho3.trans (Pk.Off.of_below BA)).bel B5
   case measure=>simp[intOf];omega
  ·have hjn:j=n:=by omega
   subst hjn
   have hi2:¬ (j:Int)<(j:Int):=by omega
   go_wp2
   go_ret
   refine⟨⟨_,rfl,?_⟩,hR,ho⟩
   have:=hO.fr
   rw[encI_length,rdImL_length] at this
   exact this
set_option maxHeartbeats 1000000 in
theorem readTable_any {w:World} {b:Nat} {q:Lf} (h:RdS w b q):Calls Tryz.prog 163 #[.pointer (some ⟨b,0,none⟩)] w fun e w'=>(∃ v,e=.returned v/\Fr w' v (encT (rdTbL (sN q 1) (nN q 1).toNat)) w.heap.size)/\RdS w' b (rdTbS (sN q 1) (nN q 1).toNat)/\Pk.Off b w w':=by
 obtain⟨n,hn⟩:∃ n:Nat,nN q 1=n:=⟨(nN q 1).toNat,by have:=nN_nonneg q 1;omega⟩
 have hn2:n<=255:=by have:=nN_one q;omega
 have hbl:=h.lt
 have C0:Hid (Calls Tryz.prog 74 #[.pointer (some ⟨b,0,none⟩),.int .i64 1] w fun r w'=>r=.returned (.int .i64 (n:Int))/\RdS w' b (sN q 1)/\Pk.Off b w w'):=by rw[← hn];exact h.num 1
 have HN:Hid ((nN q 1).toNat=n):=(by rw[hn];rfl:(nN q 1).toNat=n)
 rw[HN.out]
 generalize sN q 1=q1 at *
 clear hn h HN
 go_enter Tryz.func163,Tryz.ntmps163
 go_wp2_with (go_at_call 74;refine C0.out.mono ?_;clear C0;rintro e w1 ⟨rfl,h1,o1⟩)
 go_loopw [3,7] (fun pv ix wr=>∃ (j:Nat) (a:Option Addr) (c:Nat),j<=n/\ix=.int .i64 (j:Int)/\pv=.slice a j c/\Own 40 w.heap.size wr a c (encT (rdTbL q1 j))/\RdS wr b (rdTbS q1 j)/\Pk.Off b w wr) (fun _ ix _=>n-(intOf ix).toNat)
 case atStart=>exact⟨0,none,0,Nat.zero_le _,rfl,rfl,Own.nil _ _ _,h1,o1⟩
 case round =>
  clear h1 o1
  obtain⟨j,a,c,hj,rfl,rfl,hO,hR,ho⟩:=hrel
  by_cases hlt:j<n
  ·have hi2:(j:Int)<(n:Int):=by omega
   have hln:j=(encT (rdTbL q1 j)).length:=by rw[encT_length,rdTbL_length]
   have HS:Hid (encT (rdTbL q1 (j+1))=encT (rdTbL q1 j)++[(.int .i64 (rdTbF q1 j).1,.int .i64 (rdTbF q1 j).2)]):=(by rw[rdTbL_succ,encT_append];rfl:encT (rdTbL q1 (j+1))=encT (rdTbL q1 j)++[(.int .i64 (rdTbF q1 j).1,.int .i64 (rdTbF q1 j).2)])
   have HQ:Hid (rdTbS q1 (j+1)=sN (sN (rdTbS q1 j) 6) 6):=(rfl:rdTbS q1 (j+1)=sN (sN (rdTbS q1 j) 6) 6)
   have HF:Hid (rdTbF q1 j=(nN (rdTbS q1 j) 6,nN (sN (rdTbS q1 j) 6) 6)):=(rfl:rdTbF q1 j=(nN (rdTbS q1 j) 6,nN (sN (rdTbS q1 j) 6) 6))
   have HL:Hid (j=(encT (rdTbL q1 j)).length):=hln
   clear hln
   generalize encT (rdTbL q1 j)=xs at *
   generalize rdTbS q1 j=qj at *
   have hBz:=ho.size
   have hbr:=hR.lt
   have CP:Hid (∀ w2,w2=(wr.alloc (.cells #[.int .i64 0,.int .i64 0] 40)).alloc (.cells #[.pointer (some ⟨wr.heap.size,0,none⟩),.pointer (some ⟨wr.heap.size,1,none⟩)] 239)->Calls Tryz.prog 161 #[.pointer (some ⟨b,0,none⟩),.slice (some ⟨wr.heap.size+1,0,none⟩) 2 2] w2 fun e w'=>e=.returned (.tuple #[])/\RdS w' b (sN (sN qj 6) 6)/\Blk w' wr.heap.size #[.int .i64 (nN qj 6),.int .i64 (nN (sN qj 6) 6)] 40/\Pk.Off b wr w'):=fun w2 h2=>by
    have b1:Below wr.heap.size wr (wr.alloc (.cells #[.int .i64 0,.int .i64 0] 40)):=(Below.refl _ _).alloc (Nat.le_refl _) _
    have b2:Below (wr.alloc (.cells #[.int .i64 0,.int .i64 0] 40)).heap.size (wr.alloc (.cells #[.int .i64 0,.int .i64 0] 40)) w2:=by subst h2;exact(Below.refl _ _).alloc (Nat.le_refl _) _
    have hz:(wr.alloc (.cells #[.int .i64 0,.int .i64 0] 40)).heap.size=wr.heap.size+1:=by simp
    have bl:Blk w2 wr.heap.size #[.int .i64 0,.int .i64 0] 40:=(Blk.mk (MapKept.heap_alloc wr _).1).below b2
    have gp:Blk w2 (wr.heap.size+1) #[.pointer (some ⟨wr.heap.size,0,none⟩),.pointer (some ⟨wr.heap.size,1,none⟩)] 239:=by
     have:=(MapKept.heap_alloc (wr.alloc (.cells #[.int .i64 0,.int .i64 0] 40)) (.cells #[.pointer (some ⟨wr.heap.size,0,none⟩),.pointer (some ⟨wr.heap.size,1,none⟩)] 239)).1
     rw[hz] at this
     subst h2
     exact⟨this⟩
    refine(readPlaces_2 (k0:=0) (k1:=1) (C:=#[.int .i64 0,.int .i64 0]) ⟨(hR.below b1).below b2,gp,bl,Off2.refl _ _ _,by omega,by omega,by omega⟩ (by simp) (by simp)).mono ?_
    rintro e w3 ⟨he,h3,g3,o3⟩
    have bb:=thn b1 b2
    have z2:=bb.size
    refine⟨he,h3,g3,⟨o3.os.trans bb.os,o3.tape.trans bb.tape,o3.output.trans bb.output,Nat.le_trans z2 o3.size,fun k hk hkb=>(o3.block k (by omega) hkb (by omega)).trans (bb.block k hk)⟩⟩
   go_wp2_with (first
    | (go_at_call 161;refine(CP.out _ rfl).mono ?_;clear CP;rintro e w3 ⟨rfl,hR3,bl3,o3⟩;have hO3:=hO.off o3 hbl;have ho3:=ho.trans o3;clear hO;have BA:Below w3.heap.size w3 (w3.alloc (.cells #[.int .i64 (nN qj 6),.int .i64 (nN (sN qj 6) 6)] 40)):=(Below.refl _ _).alloc (Nat.le_refl _) _;have hO4:=hO3.below BA;have hz4:w.heap.size<=(w3.alloc (.cells #[.int .i64 (nN qj 6),.int .i64 (nN (sN qj 6) 6)] 40)).heap.size:=Nat.le_trans ho3.size BA.size;have m0:=bl3.cell 0;have m1:=bl3.cell 1;simp only[List.getElem?_toArray,List.getElem?_cons_zero,List.getElem?_cons_succ] at m0 m1)
    | (refine wpList_append_own' two_tb (B:=w.heap.size) rfl (.tmp 14) (.tmp 16) rfl rfl HL.out hO4 hz4 rfl (m:=1) (news:=[(.int .i64 (nN qj 6),.int .i64 (nN (sN qj 6) 6))]) rfl (fun e=>by cases e) (cs_one w3 (.int .i64 (nN qj 6),.int .i64 (nN (sN qj 6) 6)) 40) (fun p hp=>by simp at hp;subst hp;exact⟨rfl,rfl⟩) (by omega) ?_;intro a5 c5 w5 hO5 B5))
   go_roundw
   case rel =>
    refine⟨j+1,a5,c5,by omega,by go_num,rfl,?_,?_,?_⟩
    ·rw[HS.out,HF.out];exact hO5
    ·rw[HQ.out];exact(hR3.below BA).bel B5 hbl
    ·exact(ho3.trans (Pk.Off.of_below BA)).bel B5
   case measure=>simp[intOf];omega
  ·have hjn:j=n:=by omega
   subst hjn
   have hi2:¬ (j:Int)<(j:Int):=by omega
   go_wp2
   go_ret
   refine⟨⟨_,rfl,?_⟩,hR,ho⟩
   have:=hO.fr
   rw[encT_length,rdTbL_length] at this
   exact this
theorem stepW_err {A:ByteArray × Int} {n k:Int} (h:(stepW A n k).2=0):A.2=0:=by
 rcases Classical.em (A.2=0) with h0 |h0
 ·exact h0
 ·obtain⟨a,e⟩:=A
  rw[stepW_had h0] at h
  exact h
theorem stepT_err {A:ByteArray × Int} {t:ByteArray} (h:(stepT A t).2=0):A.2=0:=by
 rcases Classical.em (A.2=0) with h0 |h0
 ·exact h0
 ·obtain⟨a,e⟩:=A
  rw[stepT_had h0] at h
  exact h
def Row13 (w:World) (b:Nat) (s:Sc) (I T:Value):Prop :=
 w.cell? ⟨b,0,none⟩=some (.int .i64 s.kd)/\w.cell? ⟨b,1,none⟩=some (.int .i64 s.tx)/\w.cell? ⟨b,2,none⟩=some (.int .i64 s.pv)/\w.cell? ⟨b,3,none⟩=some (.int .i64 s.pg)/\w.cell? ⟨b,4,none⟩=some (.int .i64 s.ac)/\w.cell? ⟨b,5,none⟩=some (.string s.ky)/\w.cell? ⟨b,6,none⟩=some (.string s.ol)/\w.cell? ⟨b,7,none⟩=some (.string s.nw)/\w.cell? ⟨b,8,none⟩=some (.int .i64 s.nx)/\w.cell? ⟨b,9,none⟩=some I/\w.cell? ⟨b,10,none⟩=some T/\w.cell? ⟨b,11,none⟩=some (.int .i64 s.ep)/\w.cell? ⟨b,12,none⟩=some (.int .i64 s.nd)
theorem RcAt.row {w:World} {b:Nat} {s:Sc} {I T:Value} (h:RcAt w b s I T):Row13 w b s I T:=⟨h.c0,h.c1,h.c2,h.c3,h.c4,h.c5,h.c6,h.c7,h.c8,h.c9,h.c10,h.c11,h.c12⟩
end Go.Proofs.YtkcpclmkbmeigaaGreat
